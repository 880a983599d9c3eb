import Derived.Test.YtdhmommfmmiieaaRC
import Derived.Test.YtdhmommfmmiieaaRB
import Derived.Test.YtdhmommfmmiieaaShelf
import Derived.Laws.CopyOwn
import Derived.Deep.RegionLaw
import Derived.Laws.IdiomCopy
import Derived.Lib.LazyBuf
set_option linter.unusedVariables false
set_option linter.unusedSimpArgs false
namespace Go.Proofs.Ytdhmommfmmiieaa
open Go.RowKit Go.Maps
namespace W
/-- the next ones of a number -/
def nxI (rs : List R3) (k : Int) : List Int := if 0 ≤ k then ((rs[k.toNat]?).map (·.2.2)).getD [] else []
theorem nxI_at {rs : List R3} {i : Nat} {r : R3} (h : rs[i]? = some r) : nxI rs (i : Int) = r.2.2 := by
  unfold nxI; rw [if_pos (by omega), Int.toNat_natCast, h]; rfl
def nums (n : Nat) : List Int := (List.range n).map (fun (i : Nat) => (i : Int))
theorem mem_nums {n : Nat} {k : Int} : k ∈ nums n ↔ ∃ i, i < n ∧ k = (i : Int) := by
  unfold nums
  simp only [List.mem_map, List.mem_range]
  constructor
  · rintro ⟨i, h, rfl⟩; exact ⟨i, h, rfl⟩
  · rintro ⟨i, h, rfl⟩; exact ⟨i, h, rfl⟩
theorem nums_len (n : Nat) : (nums n).length = n := by simp [nums]
/-- what a row of a web has -/
theorem Adj.row {ps : List K2} {zs : List ByteArray} {rs : List R3} (h : Adj ps zs rs) {i : Nat} (hi : i < zs.length) : ∃ z r, zs[i]? = some z ∧ rs[i]? = some r ∧ r.2.2 = (N.nxt ps z).map (fun y => (ix zs y : Int)) ∧ nxI rs (i : Int) = r.2.2 := by
  obtain ⟨z, hz⟩ : ∃ z, zs[i]? = some z := ⟨_, List.getElem?_eq_getElem hi⟩
  obtain ⟨r, hr⟩ : ∃ r, rs[i]? = some r := ⟨_, List.getElem?_eq_getElem (by rw [h.2.1]; exact hi)⟩
  exact ⟨z, r, hz, hr, h.2.2.2 i z r hz hr, nxI_at hr⟩
theorem Adj.closed {ps : List K2} {zs : List ByteArray} {rs : List R3} (h : Adj ps zs rs) : ∀ k ∈ nums zs.length, ∀ j ∈ nxI rs k, j ∈ nums zs.length := by
  intro k hk j hj
  obtain ⟨i, hi, rfl⟩ := mem_nums.1 hk
  obtain ⟨z, r, hz, hr, e, e2⟩ := h.row hi
  rw [e2, e] at hj
  obtain ⟨y, hy, rfl⟩ := List.mem_map.1 hj
  obtain ⟨p, hp, _, rfl⟩ := N.nxt_mem hy
  exact mem_nums.2 ⟨_, ix_lt (h.2.2.1 p hp).2, rfl⟩
theorem Adj.len {ps : List K2} {zs : List ByteArray} {rs : List R3} (h : Adj ps zs rs) : ∀ k ∈ nums zs.length, (nxI rs k).length ≤ ps.length := by
  intro k hk
  obtain ⟨i, hi, rfl⟩ := mem_nums.1 hk
  obtain ⟨z, r, hz, hr, e, e2⟩ := h.row hi
  rw [e2, e, List.length_map]; exact N.nxt_len ps z
/-- a number's name -/
def nam (zs : List ByteArray) (k : Int) : ByteArray := (zs[k.toNat]?).getD ByteArray.empty
theorem nam_ix {zs : List ByteArray} {y : ByteArray} (h : y ∈ zs) : nam zs (ix zs y : Int) = y := by unfold nam; rw [Int.toNat_natCast, ix_at h]; rfl
theorem st_names {ps : List K2} {zs : List ByteArray} {rs : List R3} (h : Adj ps zs rs) {x : ByteArray} (hx : x ∈ zs) (n : Nat) : (Bf.st (nxI rs) [(ix zs x : Int)] n).map (nam zs) = Bf.st (N.nxt ps) [x] n := by
  have := Bf.st_map (f := nam zs) (u := nums zs.length) (fr := [(ix zs x : Int)]) (F := nxI rs) (G := N.nxt ps) (fun a ha b hb e => ?_) (fun k hk => by simp at hk; subst hk; exact mem_nums.2 ⟨_, ix_lt hx, rfl⟩) h.closed (fun k hk => ?_) n
  · rw [this]; simp only [List.map_cons, List.map_nil, nam_ix hx]
  · obtain ⟨i, hi, rfl⟩ := mem_nums.1 ha
    obtain ⟨j, hj, rfl⟩ := mem_nums.1 hb
    obtain ⟨z, r, hz, _⟩ := h.row hi
    obtain ⟨z', r', hz', _⟩ := h.row hj
    unfold nam at e
    rw [Int.toNat_natCast, Int.toNat_natCast, hz, hz'] at e
    have e' : z = z' := e
    subst e'
    rw [← ix_of h.1 hz, ← ix_of h.1 hz']
  · obtain ⟨i, hi, rfl⟩ := mem_nums.1 hk
    obtain ⟨z, r, hz, hr, e, e2⟩ := h.row hi
    have en : nam zs (i : Int) = z := by unfold nam; rw [Int.toNat_natCast, hz]; rfl
    rw [en, e2, e, List.map_map]
    conv => lhs; rw [← List.map_id (N.nxt ps z)]
    refine List.map_congr_left (fun y hy => ?_)
    obtain ⟨p, hp, _, rfl⟩ := N.nxt_mem hy
    exact (nam_ix (h.2.2.1 p hp).2).symm
/-- what up's closure needs -/
def Ou (bx B x bm : Nat) (no : Option Addr) (ncap : Nat) (xo : Option Addr) (xcap : Nat) (zs : List ByteArray) (rs : List R3) (C : Nat) (ag : Option Nat) (w : World) : Prop := ag = none ∧ w.heap[bx]? = some (.cells #[.pointer (some ⟨x, 0, none⟩)] 99 (0, 0)) ∧ bx < C ∧ Wb B x bm no ncap xo xcap zs rs w ∧ (∀ j, Own x bm no xo rs j → j < C) ∧ C ≤ w.heap.size
/-- what up tells -/
def UpNIs (rs : List R3) (i0 : Nat) (w : World) (e : Ending) (w' : World) : Prop := ∃ n ao cap, (Bf.st (nxI rs) [(i0 : Int)] n).length = n ∧ e = .returned (.slice ao n cap) ∧ I.RowI w.heap.size ao cap (Bf.st (nxI rs) [(i0 : Int)] n) w' ∧ Below w.heap.size w w'
end W
end Go.Proofs.Ytdhmommfmmiieaa
set_option linter.unusedVariables false
set_option linter.unusedSimpArgs false
namespace Go.Proofs.Ytdhmommfmmiieaa
namespace W
/-- the reasons, as a number's turn leaves them -/
def rput (k : Int) : List Int → List Int → List Int
  | l, [] => l
  | l, m :: ms => rput k (if l[m.toNat]? = some (-1) then l.set m.toNat k else l) ms
def rall (F : Int → List Int) (l pre : List Int) : List Int := pre.foldl (fun a k => rput k a (F k)) l
theorem rput_append (k : Int) (l xs ys : List Int) : rput k l (xs ++ ys) = rput k (rput k l xs) ys := by
  induction xs generalizing l with
  | nil => rfl
  | cons a r ih => exact ih _
theorem rput_len (k : Int) (l xs : List Int) : (rput k l xs).length = l.length := by
  induction xs generalizing l with
  | nil => rfl
  | cons a r ih => show (rput k _ r).length = _; rw [ih]; split <;> simp
theorem rall_snoc (F : Int → List Int) (l pre : List Int) (k : Int) : rall F l (pre ++ [k]) = rput k (rall F l pre) (F k) := by simp [rall]
theorem rall_len (F : Int → List Int) (l pre : List Int) : (rall F l pre).length = l.length := by
  induction pre generalizing l with
  | nil => rfl
  | cons a r ih => show (rall F (rput a l (F a)) r).length = _; rw [ih, rput_len]
/-- what the reasons say while breadth-first goes on: V has the reason of each of S -/
structure RInv (N : Nat) (S V l : List Int) : Prop where
  len : V.length = S.length
  ll : l.length = N
  out : ∀ i : Nat, i < N → (i : Int) ∉ S → l[i]? = some (-1)
  at' : ∀ (j i : Nat) (v : Int), S[j]? = some (i : Int) → V[j]? = some v → l[i]? = some v
  pos : ∀ v ∈ V, 0 ≤ v
  nd : S.Nodup
theorem RInv.put {N : Nat} {k : Int} (hk : 0 ≤ k) {xs : List Int} (hx : ∀ m ∈ xs, ∃ i, i < N ∧ m = ((i : Nat) : Int)) {S V l : List Int} (h : RInv N S V l) : RInv N (Bf.add S xs) (V ++ List.replicate ((Bf.add S xs).length - S.length) k) (rput k l xs) := by
  induction xs generalizing S V l with
  | nil => simpa [Bf.add, rput] using h
  | cons m r ih =>
    have hr : ∀ m ∈ r, ∃ i, i < N ∧ m = ((i : Nat) : Int) := fun m hm => hx m (by simp [hm])
    obtain ⟨i, hi, rfl⟩ := hx m (by simp)
    by_cases q : (i : Int) ∈ S
    · obtain ⟨j, hj⟩ := List.mem_iff_getElem?.1 q
      have hjl := (List.getElem?_eq_some_iff.1 hj).1
      obtain ⟨v, hv⟩ : ∃ v, V[j]? = some v := ⟨_, List.getElem?_eq_getElem (by rw [h.len]; exact hjl)⟩
      have hl := h.at' j i v hj hv
      have hp := h.pos v (List.mem_of_getElem? hv)
      have e : rput k l ((i : Int) :: r) = rput k l r := by
        show rput k (if l[(i : Int).toNat]? = some (-1) then l.set (i : Int).toNat k else l) r = _
        rw [if_neg]
        rw [Int.toNat_natCast, hl]
        intro e; cases e; omega
      rw [Bf.add_old q, e]
      exact ih hr h
    · have hl := h.out i hi q
      have e : rput k l ((i : Int) :: r) = rput k (l.set i k) r := by
        show rput k (if l[(i : Int).toNat]? = some (-1) then l.set (i : Int).toNat k else l) r = _
        rw [Int.toNat_natCast, if_pos hl]
      have h2 : RInv N (S ++ [(i : Int)]) (V ++ [k]) (l.set i k) := by
        refine ⟨by simp [h.len], by simp [h.ll], fun j hj hn => ?_, fun j i' v hj hv => ?_, fun v hv => ?_, ?_⟩
        · have hne : i ≠ j := fun e => hn (by rw [e]; simp)
          rw [List.getElem?_set_ne hne]
          exact h.out j hj (fun e => hn (by simp [e]))
        · by_cases c : j < S.length
          · rw [List.getElem?_append_left c] at hj
            rw [List.getElem?_append_left (by rw [h.len]; exact c)] at hv
            have hne : i ≠ i' := fun e => q (by rw [e]; exact List.mem_of_getElem? hj)
            rw [List.getElem?_set_ne hne]
            exact h.at' j i' v hj hv
          · rw [List.getElem?_append_right (by omega)] at hj
            rw [List.getElem?_append_right (by rw [h.len]; omega), h.len] at hv
            cases c2 : j - S.length with
            | zero =>
              rw [c2] at hj hv
              simp at hj hv
              have : i = i' := by omega
              subst this hv
              rw [List.getElem?_set_self (by rw [h.ll]; exact hi)]
            | succ c3 => rw [c2] at hj; simp at hj
        · rcases List.mem_append.1 hv with hv | hv
          · exact h.pos v hv
          · simp at hv; rw [hv]; exact hk
        · rw [List.nodup_append]
          exact ⟨h.nd, by simp, fun a ha b hb => by simp at hb; subst hb; exact fun e => q (e ▸ ha)⟩
      have hh := ih hr h2
      rw [Bf.add_new q, e]
      have hle := Bf.add_len (S ++ [(i : Int)]) r
      simp only [List.length_append, List.length_cons, List.length_nil] at hle hh
      rw [show (Bf.add (S ++ [(i : Int)]) r).length - S.length = ((Bf.add (S ++ [(i : Int)]) r).length - (S.length + (0 + 1))) + 1 by omega, List.replicate_succ]
      simpa using hh
/-- each one's reason, after t turns -/
def vals (F : Int → List Int) (i0 : Int) : Nat → List Int
  | 0 => [i0]
  | t + 1 => vals F i0 t ++ List.replicate ((Bf.st F [i0] (t + 1)).length - (Bf.st F [i0] t).length) (((Bf.st F [i0] t)[t]?).getD 0)
theorem vals_len (F : Int → List Int) (i0 : Int) (t : Nat) : (vals F i0 t).length = (Bf.st F [i0] t).length := by
  induction t with
  | zero => simp [vals, Bf.st, Bf.add]
  | succ n ih =>
    have := (Bf.st_prefix (F := F) (fr := [i0]) (Nat.le_add_right n 1)).length_le
    simp [vals, ih]; omega
theorem rinv {F : Int → List Int} {N i0 : Nat} (hi : i0 < N) (hF : ∀ k ∈ nums N, ∀ j ∈ F k, j ∈ nums N) (t : Nat) (ht : t ≤ (Bf.st F [(i0 : Int)] t).length) :
    RInv N (Bf.st F [(i0 : Int)] t) (vals F i0 t) (rall F ((List.replicate N (-1)).set i0 i0) ((Bf.st F [(i0 : Int)] t).take t)) := by
  have h1 : ∀ k ∈ [(i0 : Int)], k ∈ nums N := fun k hk => by simp at hk; subst hk; exact mem_nums.2 ⟨_, hi, rfl⟩
  induction t with
  | zero =>
    have e : Bf.st F [(i0 : Int)] 0 = [(i0 : Int)] := by simp [Bf.st, Bf.add]
    rw [e]
    refine ⟨rfl, by simp [rall], fun i hi' hn => ?_, fun j i v hj hv => ?_, fun v hv => ?_, by simp⟩
    · have hne : i0 ≠ i := fun e => hn (by simp [e])
      show ((List.replicate N (-1 : Int)).set i0 i0)[i]? = _
      rw [List.getElem?_set_ne hne, List.getElem?_replicate, if_pos hi']
    · cases j with
      | succ j => simp at hj
      | zero =>
        simp [vals] at hj hv
        have : i0 = i := by omega
        subst this hv
        show ((List.replicate N (-1 : Int)).set i0 i0)[i0]? = _
        rw [List.getElem?_set_self (by simpa using hi)]
    · simp [vals] at hv; omega
  | succ t ih =>
    have hlt : t < (Bf.st F [(i0 : Int)] t).length := by
      rcases Nat.lt_or_ge t (Bf.st F [(i0 : Int)] t).length with q | q
      · exact q
      · rw [Bf.st_none (List.getElem?_eq_none q)] at ht; omega
    obtain ⟨k, hk⟩ : ∃ k, (Bf.st F [(i0 : Int)] t)[t]? = some k := ⟨_, List.getElem?_eq_getElem hlt⟩
    have hku := Bf.st_sub h1 hF t k (List.mem_of_getElem? hk)
    obtain ⟨i, hi', rfl⟩ := mem_nums.1 hku
    have hst := Bf.st_some (F := F) (fr := [(i0 : Int)]) hk
    have e1 : (Bf.st F [(i0 : Int)] (t + 1)).take (t + 1) = (Bf.st F [(i0 : Int)] t).take t ++ [(i : Int)] := by
      have hpre := Bf.add_prefix (Bf.st F [(i0 : Int)] t) (F i)
      rw [hst, List.take_add_one, Bf.getElem?_prefix hpre hk]
      obtain ⟨r, hr⟩ := hpre
      rw [← hr, List.take_append_of_le_length (by omega)]
      rfl
    have hh := RInv.put (k := (i : Int)) (by omega) (fun m hm => mem_nums.1 (hF i hku m hm)) (ih (by omega))
    have e2 : vals F i0 (t + 1) = vals F i0 t ++ List.replicate ((Bf.add (Bf.st F [(i0 : Int)] t) (F i)).length - (Bf.st F [(i0 : Int)] t).length) (i : Int) := by
      show vals F i0 t ++ List.replicate ((Bf.st F [(i0 : Int)] (t + 1)).length - (Bf.st F [(i0 : Int)] t).length) (((Bf.st F [(i0 : Int)] t)[t]?).getD 0) = _
      rw [hst, hk]; rfl
    rw [e1, rall_snoc, e2, hst]
    exact hh
/-- a reason's place -/
theorem vals_rsn {F : Int → List Int} {i0 : Int} {G : ByteArray → List ByteArray} {fr : List ByteArray} (hl : ∀ t, (Bf.st G fr t).length = (Bf.st F [i0] t).length) (hr : ∀ t, (N.rsn G fr t).length = (Bf.st G fr t).length) (t : Nat) :
    ∀ (j : Nat) (r : Int), 1 ≤ j → (N.rsn G fr t)[j]? = some r → ∃ (p : Nat) (v : Int), r = (p : Int) ∧ p < j ∧ (vals F i0 t)[j]? = some v ∧ (Bf.st F [i0] t)[p]? = some v := by
  induction t with
  | zero => intro j r hj h; cases j with
    | zero => omega
    | succ j => simp [N.rsn] at h
  | succ t ih =>
    intro j r hj h
    have hp := Bf.st_prefix (F := F) (fr := [i0]) (Nat.le_add_right t 1)
    have hvl := vals_len F i0 t
    have e0 := hl t
    have e1 := hl (t + 1)
    have e2 := hr t
    have hd : N.rsn G fr (t + 1) = N.rsn G fr t ++ List.replicate ((Bf.st G fr (t + 1)).length - (Bf.st G fr t).length) (t : Int) := rfl
    have hd2 : vals F i0 (t + 1) = vals F i0 t ++ List.replicate ((Bf.st F [i0] (t + 1)).length - (Bf.st F [i0] t).length) (((Bf.st F [i0] t)[t]?).getD 0) := rfl
    rw [hd] at h
    by_cases c : j < (N.rsn G fr t).length
    · rw [List.getElem?_append_left c] at h
      obtain ⟨p, v, h1, h2, h3, h4⟩ := ih j r hj h
      refine ⟨p, v, h1, h2, ?_, Bf.getElem?_prefix hp h4⟩
      rw [hd2, List.getElem?_append_left (by omega)]; exact h3
    · rw [List.getElem?_append_right (by omega), List.getElem?_replicate] at h
      split at h
      · rename_i hlt
        cases h
        cases hk : (Bf.st F [i0] t)[t]? with
        | none => rw [Bf.st_none hk] at e1; omega
        | some k =>
          have hkl := (List.getElem?_eq_some_iff.1 hk).1
          refine ⟨t, k, rfl, by omega, ?_, Bf.getElem?_prefix hp hk⟩
          rw [hd2, List.getElem?_append_right (by omega), List.getElem?_replicate, if_pos (by omega), hk]; rfl
      · cases h
theorem lastIx_at {ns : List ByteArray} (hn : ns.Nodup) {z : ByteArray} {J : Nat} (hJ : ns[J]? = some z) (n : Nat) (h : J < n) : N.lastIx ns z n = (J : Int) := by
  induction n with
  | zero => omega
  | succ n ih =>
    show (if ns[n]? = some z then (n : Int) else N.lastIx ns z n) = _
    by_cases c : ns[n]? = some z
    · rw [if_pos c]
      have := ix_of hn c
      have := ix_of hn hJ
      omega
    · rw [if_neg c]
      refine ih ?_
      rcases Nat.lt_or_ge J n with q | q
      · exact q
      · exfalso; have : J = n := by omega
        exact c (this ▸ hJ)
theorem lastIx_out {ns : List ByteArray} {z : ByteArray} (h : z ∉ ns) (n : Nat) : N.lastIx ns z n = -1 := by
  induction n with
  | zero => rfl
  | succ n ih =>
    show (if ns[n]? = some z then (n : Int) else N.lastIx ns z n) = _
    rw [if_neg (fun e => h (List.mem_of_getElem? e))]; exact ih
end W
end Go.Proofs.Ytdhmommfmmiieaa
set_option linter.unusedVariables false
set_option linter.unusedSimpArgs false
namespace Go.Proofs.Ytdhmommfmmiieaa
open Go.RowKit Go.Maps
namespace W
set_option maxRecDepth 100000 in
set_option maxHeartbeats 1000000 in
theorem clone_any (s : ByteArray) (w : World) (hlim : s.size ≤ 281474976710656) :
    Calls Try.prog 80 #[.string s] w fun e w' => e = .returned (.string s) ∧ Below w.heap.size w w' := by
  go_enter Try.func80, Try.ntmps80
  go_wp2_with (go_at_call 88; refine (sh.stringslite_Clone _ _ hlim).mono ?_; rintro e w1 ⟨rfl, b1⟩)
  go_ret
  exact ⟨rfl, b1⟩
/-- what told tells -/
def ToldIs (l : List ByteArray) (w : World) (e : Ending) (w' : World) : Prop := ∃ ao cap, e = .returned (.slice ao l.length cap) ∧ S.RowI w.heap.size ao cap l w' ∧ Below w.heap.size w w'
set_option maxRecDepth 100000 in
set_option maxHeartbeats 4000000 in
theorem told_any (B x bm : Nat) (no : Option Addr) (ncap : Nat) (xo : Option Addr) (xcap : Nat) (zs : List ByteArray) (rs : List R3) (lo : Option Addr) (lcap n : Nat) (l : List Int) (w : World) (h : Wb B x bm no ncap xo xcap zs rs w) (hI : I.Ints lo l w) (hn : l.length = n) (hc : n ≤ lcap) (hl : ∀ k ∈ l, k ∈ nums zs.length) (hs : ∀ z ∈ zs, z.size ≤ 281474976710656) (hlen : Hid (zs.length ≤ 2097154 ∧ n ≤ 1073741824)) :
    Calls Try.prog 73 #[.pointer (some ⟨x, 0, none⟩), .slice lo n lcap] w fun e w' => ToldIs (l.map (nam zs)) w e w' := by
  subst hn
  have H := hide' h
  have HI := hide' hI
  have Hl := hide' hl
  have Hs := hide' hs
  have hl64 : (l.length : Int) ≤ 1073741824 := by have := hlen.out.2; omega
  have hz64 : (zs.length : Int) ≤ 2097154 := by have := hlen.out.1; omega
  clear h hI hl hs
  go_enter Try.func73, Try.ntmps73
  go_wp2_with fail
  go_loopw [5, 10] (fun o i wx => ∃ j : Nat, i = .int .i64 (j : Int) ∧ j ≤ l.length ∧ ∃ ao cap, o = .slice ao j cap ∧ S.RowI w.heap.size ao cap ((l.take j).map (nam zs)) wx ∧ Below w.heap.size w wx) (fun _ i _ => l.length - (intOf i).toNat)
  case atStart => exact ⟨0, rfl, by omega, none, 0, rfl, S.RowI.nil _ _, Below.refl _ _⟩
  case round =>
    obtain ⟨j, rfl, hjl, ao, cap, rfl, hR, hB⟩ := hrel
    by_cases hlt : j < l.length
    · have hlt' : (j : Int) < (l.length : Int) := by omega
      obtain ⟨k, hk⟩ : ∃ k, l[j]? = some k := ⟨_, List.getElem?_eq_getElem hlt⟩
      obtain ⟨i, hi, rfl⟩ := mem_nums.1 (Hl.out k (List.mem_of_getElem? hk))
      have hi' : (i : Int) < (zs.length : Int) := by omega
      obtain ⟨lb, off, rfl, _, lc⟩ := (HI.out.below hB).at hk
      have hWb := H.out.below hB
      have c0 := hWb.c0
      obtain ⟨z, hz⟩ : ∃ z, zs[i]? = some z := ⟨_, List.getElem?_eq_getElem hi⟩
      obtain ⟨ng, rfl, nc, hnc, _, hng⟩ := S.row_at hWb.names hz
      have enam : Hid (nam zs (i : Int) = z) := by show _ = _; unfold nam; rw [Int.toNat_natCast, hz]; rfl
      have hsz : Hid (z.size ≤ 281474976710656) := Hs.out z (List.mem_of_getElem? hz)
      have htk : Hid ((l.take (j + 1)).map (nam zs) = (l.take j).map (nam zs) ++ [z]) := by
        show _ = _
        rw [List.take_add_one, hk, List.map_append]
        show _ ++ [nam zs (i : Int)] = _
        rw [enam.out]
      have hln : Hid (((l.take j).map (nam zs)).length = j) := by show _ = _; simp; omega
      have HR := hide' (And.intro hR hB)
      have hwz := hB.size
      clear hk hR hB hWb hz
      go_wp2_with (first | (go_at_call 80; refine (clone_any _ _ hsz.out).mono ?_; rintro e w1 ⟨rfl, b1⟩; have B1 := hide' b1; have s1 := b1.size; clear b1) | (at_builtin; refine S.wpList_app1 _ rfl _ _ rfl w.heap.size ao cap ((l.take j).map (nam zs)) z _ _ (by rw [hln.out]; rfl) (HR.out.1.below B1.out) rfl (by show _ < _; rw [hln.out]; omega) (by omega) ?_; intro g cap2 w2 r2 t2 hg2 hl2; rw [hln.out]; have A2 := hide' (And.intro r2 t2); clear r2 t2 hg2 hl2))
      exact ⟨⟨j + 1, by go_num, by omega, some ⟨g, 0, none⟩, cap2, rfl, by rw [htk.out]; exact A2.out.1, HR.out.2.trans ((B1.out.mono hwz).trans (below3 A2.out.2 (fun i q => by obtain ⟨a, e, rfl⟩ := q; exact (HR.out.1.lt _ ⟨a, e, rfl⟩).1) (by omega)))⟩, by simp [intOf]; omega⟩
    · have hjn : l.length = j := by omega
      subst hjn
      have hlt' : ¬ (l.length : Int) < (l.length : Int) := by omega
      rw [List.take_length] at hR
      have K : Hid (ToldIs (l.map (nam zs)) w (.returned (.slice ao l.length cap)) wr) := ⟨ao, cap, by simp, hR, hB⟩
      clear hR hB
      go_wp2_with fail
      go_ret
      exact K.out
end W
end Go.Proofs.Ytdhmommfmmiieaa
set_option linter.unusedVariables false
set_option linter.unusedSimpArgs false
namespace Go.Proofs.Ytdhmommfmmiieaa
open Go.RowKit Go.Maps
namespace W
/-- no text is long -/
def Small (ps : List K2) (x : ByteArray) : Prop := (∀ p ∈ ps, p.1.size ≤ 1048576 ∧ p.2.size ≤ 1048576) ∧ x.size ≤ 1048576
theorem nm_mem {ps : List K2} {z : ByteArray} (h : z ∈ nm ps) : ∃ p ∈ ps, z = p.1 ∨ z = p.2 := by
  unfold nm at h
  rcases Bf.mem_add.1 h with q | q
  · cases q
  · obtain ⟨p, hp, q⟩ := List.mem_flatMap.1 q
    exact ⟨p, hp, by simpa using q⟩
theorem small_names {ps : List K2} {x : ByteArray} (h : Small ps x) : ∀ z ∈ Bf.add (nm ps) [x], z.size ≤ 1048576 := fun z hz => by
  rcases Bf.mem_add.1 hz with q | q
  · obtain ⟨p, hp, e | e⟩ := nm_mem q
    · rw [e]; exact (h.1 p hp).1
    · rw [e]; exact (h.1 p hp).2
  · simp at q; rw [q]; exact h.2
theorem okk_of {s : ByteArray} (h : s.size ≤ 1048576) : S.okk s := by show s.size ≤ maxLen; unfold maxLen; omega
end W
end Go.Proofs.Ytdhmommfmmiieaa
set_option linter.unusedVariables false
set_option linter.unusedSimpArgs false
namespace Go.Proofs.Ytdhmommfmmiieaa
open Go.RowKit Go.Maps
namespace L
theorem row_cur {B g n : Nat} {xs : List Value} {w : World} (h : w.ownsRow B 3 1 (.slice (some ⟨g, 0, none⟩) n n) n xs) : w.heap[g]? = some (.cells xs.toArray 3 (0, 0)) ∧ xs.length = n := by
  have hl : xs.length = n := by have := h.1; omega
  rcases h.2 with ⟨hv, h0⟩ | ⟨g', cap', cur, hv, hb, hg, h1, h2, h3, h4⟩
  · cases hv
  simp only [Value.slice.injEq, Option.some.injEq] at hv
  obtain ⟨he, _, rfl⟩ := hv
  cases he
  refine ⟨?_, hl⟩
  rw [hg]
  have e : cur = xs.toArray := by
    rw [← h4, List.take_of_length_le (by simp; omega)]
  rw [e]
theorem cur_row {B g n : Nat} {xs : List Int} {w : World} (h : w.heap[g]? = some (.cells (xs.map (Value.int .i64)).toArray 3 (0, 0))) (hl : xs.length = n) (hB : B ≤ g) (hn : n ≤ maxLen) : I.RowI B (some ⟨g, 0, none⟩) n xs w := by
  subst hl
  refine ⟨by rw [I.flat_len]; simp, .inr ⟨g, xs.length, _, rfl, hB, h, Nat.le_refl _, hn, by simp, ?_⟩⟩
  rw [I.flat_map, Nat.mul_one, List.take_of_length_le (by simp)]
def M1 : Value := .int .i64 (-1)
theorem src1 {xb : Nat} {w : World} (h : w.cell? ⟨xb, 0, none⟩ = some M1) : ∀ (j : Nat) (v : Value), [M1][j]? = some v → w.cell? ((⟨xb, 0, none⟩ : Addr).add j) = some v := by
  intro j v q
  cases j with
  | zero => simp at q; rw [S.addOff, Nat.add_zero, h, q]
  | succ j => simp at q
theorem srcN {g : Nat} {c : List Value} {w : World} {m k : Nat} (hg : w.heap[g]? = some (.cells c.toArray 3 (0, 0))) (hm : m ≤ k) (h : ∀ j, j < k → c[j]? = some M1) : ∀ (j : Nat) (v : Value), (List.replicate m M1)[j]? = some v → w.cell? ((⟨g, 0, none⟩ : Addr).add j) = some v := by
  intro j v q
  rw [List.getElem?_replicate] at q
  split at q
  · cases q
    rename_i hj
    rw [S.addOff, Nat.zero_add, Lib.cell_of_heap hg]
    simpa using h j (by omega)
  · cases q
theorem full_map {c : List Value} {n : Nat} (hl : c.length = n) (h : ∀ j, j < n → c[j]? = some M1) : c = (List.replicate n (-1 : Int)).map (Value.int .i64) := by
  apply List.ext_getElem?
  intro j
  by_cases hj : j < n
  · rw [h j hj, List.getElem?_map, List.getElem?_replicate, if_pos hj]; rfl
  · rw [List.getElem?_eq_none (by omega), List.getElem?_eq_none (by simp; omega)]
theorem splice_fill {c : List Value} {n k m : Nat} (hl : c.length = n) (hk : k + m ≤ n) (h : ∀ j, j < k → c[j]? = some M1) : ∀ j, j < k + m → (splice c k (List.replicate m M1))[j]? = some M1 := by
  intro j hj
  unfold splice
  by_cases h1 : j < k
  · rw [List.getElem?_append_left (by simp; omega), List.getElem?_take, if_pos h1]; exact h j h1
  · rw [List.getElem?_append_right (by simp; omega), List.getElem?_append_left (by simp; omega), List.getElem?_replicate, if_pos (by simp; omega)]
set_option maxRecDepth 100000 in
set_option maxHeartbeats 1000000 in
theorem mul_any (n : Nat) (hn : n ≤ 4194304) (w : World) : Calls Try.prog 94 #[.int .u64 1, .int .u64 (n : Int)] w fun e w' => e = .returned (.tuple #[.int .u64 0, .int .u64 (n : Int)]) ∧ w' = w := by
  have h := sh.bits_Mul64 1 n (by omega) (by omega) w
  have e1 : 1 * n / 18446744073709551616 = 0 := by omega
  have e2 : 1 * n % 18446744073709551616 = n := by omega
  rw [e1, e2] at h
  have H := hide' h
  clear h e1 e2
  go_enter Try.func94, Try.ntmps94
  go_wp2_with fail
  refine H.out.mono ?_
  rintro e w1 ⟨rfl, rfl⟩
  go_wp2_with fail
  go_ret2
  exact ⟨rfl, rfl⟩
set_option maxRecDepth 100000 in
set_option maxHeartbeats 600000 in
theorem repeat_any (xb n : Nat) (w : World) (hx : w.cell? ⟨xb, 0, none⟩ = some (.int .i64 (-1))) (hxl : xb < w.heap.size) (hn : 1 ≤ n) (hb : n ≤ 4194304) :
    Calls Try.prog 90 #[.slice (some ⟨xb, 0, none⟩) 1 1, .int .i64 (n : Int)] w fun e w' => ∃ g, e = .returned (.slice (some ⟨g, 0, none⟩) n n) ∧ I.RowI w.heap.size (some ⟨g, 0, none⟩) n (List.replicate n (-1)) w' ∧ Below w.heap.size w w' := by
  have HM := hide' (mul_any n hb)
  have hn0 : ¬ (n : Int) < 0 := by omega
  have hn64 : (n : Int) ≤ 4194304 := by omega
  go_enter Try.func90, Try.ntmps90
  go_wp2_with fail
  refine (HM.out w).mono ?_
  rintro e w1 ⟨rfl, rfl⟩
  obtain ⟨i0, hi, hz0, hz1, hz2⟩ := info_parts I.infoE
  have hsz1 : (Try.prog.info? 3).map (·.size) = some 1 := by rw [hi]; simp [hz1]
  have Hi := hide' (And.intro hi (And.intro hz0 (And.intro hz1 (And.intro hz2 hsz1))))
  clear hi hz0 hz1 hz2 hsz1
  rename World => w
  have hbl : Hid (∀ v : World, w.grownBy v none → Below w.heap.size w v) := fun v g => ⟨g.os, g.tape, g.output, g.size, fun k hk => g.block k hk (by simp)⟩
  go_wp2_with (first | (have G := hx2; (refine wpList_copy_splice rfl _ _ 76 76 rfl 3 Try.underlying76 Hi.out.2.2.2.2 _ _ _ _ _ _ rfl rfl w.heap.size 0 _ 3 E2.out.1.1 [M1] (Nat.min_eq_left hn).symm (fun _ => ⟨rfl, _, rfl, src1 hx2⟩) (by rw [E2.out.1.2]; exact hn) (by simp [M1, Value.oneCell']) w.heap.size w E2.out.2 (Nat.le_refl _) ?_; intro w3 hg3 hb3; have E3 := hide' (And.intro hg3.out hb3); clear hg3 hb3)) | (at_make; refine wpList_make_full _ rfl _ _ 76 rfl w.heap.size 3 i0 (.int .i64 0) 1 Try.underlying76 Hi.out.1 Hi.out.2.1 Hi.out.2.2.1 _ _ _ _ n rfl rfl rfl rfl (by rw [Hi.out.2.2.2.1]; omega) (by unfold maxLen; omega) (Nat.le_refl _) ?_; intro w2 r2 hg2; have E2 := hide' (And.intro (row_cur r2) (hbl.out _ hg2)); have hx2 := ((hbl.out _ hg2).cell (p := ⟨xb, 0, none⟩) hxl).trans hx; clear r2 hg2))
  have K3 : Hid (∃ c : List Value, w3.heap[w.heap.size]? = some (.cells c.toArray 3 (0, 0)) ∧ c.length = n ∧ (∀ j, j < 1 → c[j]? = some M1) ∧ Below w.heap.size w w3) := ⟨_, E3.out.1, by rw [length_splice _ _ _ (by rw [E2.out.1.2]; exact hn)]; exact E2.out.1.2, splice_fill (m := 1) E2.out.1.2 (by omega) (fun j hj => by omega), E3.out.2⟩
  clear E2 E3 hx2 hx hxl HM hbl
  go_loopw [8] (fun i wx => ∃ (k : Nat) (c : List Value), i = .int .i64 (k : Int) ∧ 1 ≤ k ∧ k ≤ n ∧ wx.heap[w.heap.size]? = some (.cells c.toArray 3 (0, 0)) ∧ c.length = n ∧ (∀ j, j < k → c[j]? = some M1) ∧ Below w.heap.size w wx) (fun i _ => n - (intOf i).toNat)
  case atStart => obtain ⟨c, h⟩ := K3.out; exact ⟨1, c, rfl, Nat.le_refl _, hn, h⟩
  case round =>
    obtain ⟨k, c, rfl, hk1, hkn, hG⟩ := hrel
    have HG := hide' hG
    clear hG K3
    by_cases hlt : k < n
    · have hlt' : (k : Int) < (n : Int) := by omega
      have hkk : (0 : Int) ≤ (k : Int) := by omega
      obtain ⟨m, hm⟩ : ∃ m, m = Nat.min k (n - k) := ⟨_, rfl⟩
      have hm1 : 1 ≤ m := by rw [hm]; exact Nat.le_min.2 ⟨hk1, by omega⟩
      have hm2 : m ≤ k := by rw [hm]; exact Nat.min_le_left _ _
      have hm4 : m ≤ n - k := by rw [hm]; exact Nat.min_le_right _ _
      have hm3 : k + m ≤ n := by omega
      have Hm := hide' hm
      clear hm
      have hne : ¬ n = k := by omega
      have HD : Hid (wr.drew.heap[w.heap.size]? = some (.cells c.toArray 3 (0, 0)) ∧ Below w.heap.size w wr.drew) := ⟨HG.out.1, ⟨HG.out.2.2.2.os, HG.out.2.2.2.tape, HG.out.2.2.2.output, HG.out.2.2.2.size, HG.out.2.2.2.block⟩⟩
      have hnx : Hid (∀ w', w'.heap[w.heap.size]? = some (.cells (splice c k (List.replicate m M1)).toArray 3 (0, 0)) → Below w.heap.size w w' → ∃ c' : List Value, w'.heap[w.heap.size]? = some (.cells c'.toArray 3 (0, 0)) ∧ c'.length = n ∧ (∀ j, j < k + m → c'[j]? = some M1) ∧ Below w.heap.size w w') := fun w' h1 h2 => ⟨_, h1, by rw [length_splice _ _ _ (by rw [List.length_replicate, HG.out.2.1]; exact hm3)]; exact HG.out.2.1, splice_fill HG.out.2.1 hm3 HG.out.2.2.1, h2⟩
      have hfit : Hid (k + (List.replicate m M1).length ≤ c.length) := by show _ ≤ _; rw [List.length_replicate, HG.out.2.1]; exact hm3
      have hcl : Hid ((List.replicate m M1).length = m) := List.length_replicate
      have hsr : Hid (∀ (j : Nat) (v : Value), (List.replicate m M1)[j]? = some v → wr.drew.cell? ((⟨w.heap.size, 0, none⟩ : Addr).add j) = some v) := srcN HD.out.1 hm2 HG.out.2.2.1
      have hon : Hid (∀ v ∈ List.replicate m M1, v.oneCell' = true) := by intro v hv; rw [List.eq_of_mem_replicate hv]; rfl
      generalize List.replicate m M1 = cs at *
      go_wp2_with fail
      go_region_law (refine step_copy_splice (by rfl) _ _ 76 76 (by rfl) 3 Try.underlying76 Hi.out.2.2.2.2 (some ⟨w.heap.size, k, none⟩) (some ⟨w.heap.size, 0, none⟩) (n - k) (n - k) k n (by go_simp) (by go_simp) w.heap.size k c 3 HD.out.1 cs (hcl.out.trans Hm.out) (fun _ => ⟨rfl, _, rfl, hsr.out⟩) hfit.out hon.out w.heap.size w HD.out.2 (Nat.le_refl _) ?_; intro w4 hg4 hb4)
      have hcs := hcl.out
      have K4 := hide' (hnx.out w4 hg4.out hb4)
      clear hg4 hb4 HD hnx hfit hcl hsr hon HG
      go_simp
      go_wp2_with fail
      obtain ⟨c', h'⟩ := K4.out
      have e8 : Value.int .i64 (IntKind.i64.wrap ((k : Int) + (m : Int))) = .int .i64 ((k + m : Nat) : Int) := by
        have hw : IntKind.i64.wrap ((k : Int) + (m : Int)) = (k : Int) + (m : Int) := by simp [IntKind.wrap, IntKind.bits, IntKind.signed]; omega
        rw [hw]; congr 1
      rw [e8]
      exact ⟨⟨k + m, c', rfl, by omega, hm3, h'⟩, by simp [intOf]; omega⟩
    · have hke : n = k := by omega
      subst hke
      have hlt' : ¬ (n : Int) < (n : Int) := by omega
      have hF : Hid (I.RowI w.heap.size (some ⟨w.heap.size, 0, none⟩) n (List.replicate n (-1)) wr ∧ Below w.heap.size w wr) := by
        obtain ⟨g1, g2, g3, g4⟩ := HG.out
        refine ⟨cur_row ?_ (by simp) (Nat.le_refl _) (by unfold maxLen; omega), g4⟩
        rw [← full_map g2 g3]; exact g1
      clear HG
      go_wp2_with fail
      go_ret
      exact ⟨_, rfl, hF.out⟩
end L
end Go.Proofs.Ytdhmommfmmiieaa
set_option linter.unusedVariables false
set_option linter.unusedSimpArgs false
namespace Go.Proofs.Ytdhmommfmmiieaa
open Go.RowKit Go.Maps
namespace W
/-- block g has just these numbers -/
def Row (g : Nat) (l : List Int) (w : World) : Prop := w.heap[g]? = some (.cells (l.map (Value.int .i64)).toArray 3 (0, 0))
theorem Row.put {g : Nat} {l : List Int} {w : World} (h : Row g l w) (m : Nat) (v : Int) : Row g (l.set m v) (w.setCell ⟨g, m, none⟩ (.int .i64 v)) := by
  unfold Row at h ⊢
  simp [World.setCell, Array.getElem?_modify, h, List.map_set]
theorem Row.at {g : Nat} {l : List Int} {w : World} (h : Row g l w) {m : Nat} {v : Int} (e : l[m]? = some v) : w.cell? ⟨g, m, none⟩ = some (.int .i64 v) := by
  rw [Lib.cell_of_heap h]; simp [e]
theorem Row.turn {g : Nat} {l : List Int} {w w' : World} {T : Nat → Prop} (h : Row g l w) (t : Turn T w w') (hT : ¬ T g) : Row g l w' := (t.block g (lt_of_heap h) hT).trans h
theorem rput_one {k : Int} {l : List Int} {ms : List Int} {j m : Nat} (h : ms[j]? = some (m : Int)) : rput k l (ms.take (j + 1)) = if (rput k l (ms.take j))[m]? = some (-1) then (rput k l (ms.take j)).set m k else rput k l (ms.take j) := by
  rw [List.take_add_one, h, rput_append]; rfl
set_option maxRecDepth 100000 in
set_option maxHeartbeats 4000000 in
theorem cl78 (bx bv g B x bm : Nat) (no : Option Addr) (ncap : Nat) (xo : Option Addr) (xcap : Nat) (zs : List ByteArray) (rs : List R3) (i : Nat) (r : R3) (l : List Int) (w : World) (hb : w.heap[bx]? = some (.cells #[.pointer (some ⟨x, 0, none⟩)] 99 (0, 0))) (hv : w.heap[bv]? = some (.cells #[.slice (some ⟨g, 0, none⟩) zs.length zs.length] 76 (0, 0))) (hg : Row g l w) (hll : l.length = zs.length) (h : Wb B x bm no ncap xo xcap zs rs w) (hr : rs[i]? = some r) (hin : ∀ m ∈ r.2.2, m ∈ nums zs.length) (hown : ∀ j, Own x bm no xo rs j → j ≠ g) (hl : Hid (zs.length ≤ 1073741824 ∧ r.2.2.length ≤ 1073741824)) :
    Calls Try.prog 92 #[.int .i64 (i : Int), .pointer (some ⟨bx, 0, none⟩), .pointer (some ⟨bv, 0, none⟩)] w fun e w' => e = .returned (.slice r.1 r.2.2.length r.2.1) ∧ Row g (rput i l r.2.2) w' ∧ Turn (fun j => j = g) w w' := by
  have cb : w.cell? ⟨bx, 0, none⟩ = some (.pointer (some ⟨x, 0, none⟩)) := by rw [Lib.cell_of_heap hb]; rfl
  have cv : w.cell? ⟨bv, 0, none⟩ = some (.slice (some ⟨g, 0, none⟩) zs.length zs.length) := by rw [Lib.cell_of_heap hv]; rfl
  have c2 := h.c2
  obtain ⟨xg, rfl, xcell, hxc, hxB, hxl, xfz⟩ := row43_at h.row (i := i) (v := val r) (by rw [List.getElem?_map, hr]; rfl) (by simp [h.len])
  unfold val at xcell
  have hil : i < zs.length := by rw [← h.len]; exact (List.getElem?_eq_some_iff.1 hr).1
  have hil' : (i : Int) < (zs.length : Int) := by omega
  have hz64 : (zs.length : Int) ≤ 1073741824 := by have := hl.out.1; omega
  have hr64 : (r.2.2.length : Int) ≤ 1073741824 := by have := hl.out.2; omega
  have nbx : Hid (bx ≠ g) := fun e => by rw [e] at hb; unfold Row at hg; rw [hb] at hg; simp at hg
  have nbv : Hid (bv ≠ g) := fun e => by rw [e] at hv; unfold Row at hg; rw [hv] at hg; simp at hg
  have nx : Hid (x ≠ g) := hown x (.inl rfl)
  have nxg : Hid (xg ≠ g) := hown xg (.inr (.inr (.inr (.inl ⟨_, rfl, rfl⟩))))
  have hI := hide' (h.each i r hr).ints
  have nr : Hid (∀ b off, r.1 = some ⟨b, off, none⟩ → b ≠ g) := fun b off e => hown b (.inr (.inr (.inr (.inr ⟨i, r, hr, ⟨_, e, rfl⟩⟩))))
  have lbx : Hid (bx < w.heap.size) := lt_of_heap hb
  have lbv : Hid (bv < w.heap.size) := lt_of_heap hv
  have lx : Hid (x < w.heap.size) := lt_of_heap h.hb
  have lxg : Hid (xg < w.heap.size) := hxl
  have Hg := hide' hg
  have Hin := hide' hin
  clear h hb hv hg hin hown hr
  obtain ⟨ro, rc, row⟩ := r
  go_enter Try.func92, Try.ntmps92
  go_wp2_with fail
  go_loopw [15] (fun iv wx => ∃ j : Nat, iv = .int .i64 (j : Int) ∧ j ≤ row.length ∧ Row g (rput (i : Int) l (row.take j)) wx ∧ Turn (fun q => q = g) w wx) (fun iv _ => row.length - (intOf iv).toNat)
  case atStart => exact ⟨0, rfl, by omega, Hg.out, Turn.refl _ _⟩
  case round =>
    obtain ⟨j, rfl, hjl, hR, hT⟩ := hrel
    by_cases hlt : j < row.length
    · have hlt' : (j : Int) < (row.length : Int) := by omega
      obtain ⟨m', hm'⟩ : ∃ k, row[j]? = some k := ⟨_, List.getElem?_eq_getElem hlt⟩
      obtain ⟨m, hm, rfl⟩ := mem_nums.1 (Hin.out m' (List.mem_of_getElem? hm'))
      have hmz : (m : Int) < (zs.length : Int) := by omega
      obtain ⟨rb, off, rfl, hrb, rcell⟩ := hI.out.at hm'
      have k1 := (hT.cell (p := ⟨rb, off + j, none⟩) hrb (nr.out _ _ rfl)).trans rcell
      have k2 := (hT.cell (p := ⟨bv, 0, none⟩) lbv.out nbv.out).trans cv
      obtain ⟨v, hv⟩ : ∃ v, (rput (i : Int) l (row.take j))[m]? = some v := ⟨_, List.getElem?_eq_getElem (by rw [rput_len, hll]; exact hm)⟩
      have k3 := hR.at hv
      have k4 := Lib.frozen_of_heap hR m
      have e1 := hide' (rput_one (k := (i : Int)) (l := l) hm')
      have HR := hide' (And.intro hR hT)
      clear hR hT hm'
      by_cases hv1 : v = -1
      · subst hv1
        have e2 : Hid (rput (i : Int) l (row.take (j + 1)) = (rput (i : Int) l (row.take j)).set m i) := by show _ = _; rw [e1.out, if_pos hv]
        clear hv
        go_wp2_with fail
        exact ⟨⟨j + 1, by go_num, by omega, by rw [e2.out]; exact HR.out.1.put m i, HR.out.2.setCell (p := ⟨g, m, none⟩) (fun _ => rfl) _⟩, by simp [intOf]; omega⟩
      · have e2 : Hid (rput (i : Int) l (row.take (j + 1)) = rput (i : Int) l (row.take j)) := by show _ = _; rw [e1.out, if_neg (by rw [hv]; intro e; cases e; exact hv1 rfl)]
        clear hv
        go_wp2_with fail
        exact ⟨⟨j + 1, by go_num, by omega, by rw [e2.out]; exact HR.out.1, HR.out.2⟩, by simp [intOf]; omega⟩
    · have hjn : row.length = j := by omega
      subst hjn
      have hlt' : ¬ (row.length : Int) < (row.length : Int) := by omega
      rw [List.take_length] at hR
      have k1 := (hT.cell (p := ⟨bx, 0, none⟩) lbx.out nbx.out).trans cb
      have k2 := (hT.cell (p := ⟨x, 2, none⟩) lx.out nx.out).trans c2
      have k3 := (hT.cell (p := ⟨xg, i, none⟩) lxg.out nxg.out).trans xcell
      have K := hide' (And.intro hR hT)
      clear hR hT
      go_wp2_with fail
      go_ret
      exact ⟨rfl, K.out⟩
end W
end Go.Proofs.Ytdhmommfmmiieaa
set_option linter.unusedVariables false
set_option linter.unusedSimpArgs false
namespace Go.Proofs.Ytdhmommfmmiieaa
open Go.RowKit Go.Maps
namespace W
/-- what reasons' closure needs -/
def Or (bx bv g B x bm : Nat) (no : Option Addr) (ncap : Nat) (xo : Option Addr) (xcap : Nat) (zs : List ByteArray) (rs : List R3) (C : Nat) (l0 pre : List Int) (ag : Option Nat) (w : World) : Prop :=
  ag = none ∧ w.heap[bx]? = some (.cells #[.pointer (some ⟨x, 0, none⟩)] 99 (0, 0)) ∧ w.heap[bv]? = some (.cells #[.slice (some ⟨g, 0, none⟩) zs.length zs.length] 76 (0, 0)) ∧ Row g (rall (nxI rs) l0 pre) w ∧ (bx < C ∧ bv < C ∧ g < C) ∧ Wb B x bm no ncap xo xcap zs rs w ∧ (∀ j, Own x bm no xo rs j → j < C ∧ j ≠ g) ∧ C ≤ w.heap.size
theorem row_ne {g b : Nat} {l : List Int} {w : World} {cs : Array Value} {t : TypeId} (hg : Row g l w) (hb : w.heap[b]? = some (.cells cs t (0, 0))) (ht : t ≠ 3) : b ≠ g := fun e => by
  rw [e] at hb; unfold Row at hg; rw [hb] at hg; simp at hg; exact ht hg.2
theorem nxtS (bx bv g B x bm : Nat) (no : Option Addr) (ncap : Nat) (xo : Option Addr) (xcap : Nat) (ps : List K2) (zs : List ByteArray) (rs : List R3) (C : Nat) (l0 : List Int) (hl0 : l0.length = zs.length) (ha : Adj ps zs rs) (hl : Hid (zs.length ≤ 1073741824 ∧ ps.length ≤ 1073741824)) (hgC : g < C) : I.Nxt 92 #[.pointer (some ⟨bx, 0, none⟩), .pointer (some ⟨bv, 0, none⟩)] (nxI rs) (nums zs.length) C (fun j => j = g) (fun pre ag w => Or bx bv g B x bm no ncap xo xcap zs rs C l0 pre ag w) where
  enters := Try.call92
  low := fun j q => q ▸ hgC
  lt := fun pre ag w h j e => by rw [h.1] at e; cases e
  keep := fun pre ag wx wy T h t hS => by
    obtain ⟨h1, h2, h3, h4, h5, h6, h7, h8⟩ := h
    refine ⟨h1, (t.block bx (lt_of_heap h2) (fun q => ?_)).trans h2, (t.block bv (lt_of_heap h3) (fun q => ?_)).trans h3, h4.turn t (fun q => ?_), h5, h6.turn t (fun j q s => ?_), h7, Nat.le_trans h8 t.size⟩
    · have := (hS bx (lt_of_heap h2) q).1; omega
    · have := (hS bv (lt_of_heap h3) q).1; omega
    · have := (hS g (lt_of_heap h4) q).1; omega
    · have := (hS j (h6.own j q).2 s).1; have := (h7 j q).1; omega
  call := fun pre ag k wx hk h hB hp => by
    obtain ⟨h1, h2, h3, h4, h5, h6, h7, h8⟩ := h
    obtain ⟨i, hi, rfl⟩ := mem_nums.1 hk
    obtain ⟨z, r, hz, hr, e, e2⟩ := ha.row hi
    have hcl := ha.closed _ hk
    have hlen := ha.len _ hk
    rw [e2] at hcl hlen
    refine (cl78 bx bv g B x bm no ncap xo xcap zs rs i r _ wx h2 h3 h4 (by rw [rall_len, hl0]) h6 hr hcl (fun j q => (h7 j q).2) ⟨hl.out.1, by have := hl.out.2; omega⟩).mono ?_
    rintro e w' ⟨rfl, hR, ht⟩
    have n1 := row_ne h4 h2 (by decide)
    have n2 := row_ne h4 h3 (by decide)
    have hW := h6.turn ht (fun j q => (h7 j q).2)
    unfold I.NextIs
    rw [e2]
    refine ⟨r.1, r.2.1, ag, rfl, (h6.each i r hr).cap, (hW.each i r hr).ints, ⟨h1, (ht.block bx (lt_of_heap h2) n1).trans h2, (ht.block bv (lt_of_heap h3) n2).trans h3, ?_, h5, hW, h7, Nat.le_trans h8 ht.size⟩, ht.mono (fun j _ q => .inl q), .inl rfl, fun _ b off e => .inl (h7 b (.inr (.inr (.inr (.inr ⟨i, r, hr, ⟨_, e, rfl⟩⟩))))).1⟩
    rw [rall_snoc, e2]; exact hR
/-- what reasons tells -/
def ReasIs (zs : List ByteArray) (rs : List R3) (i0 : Nat) (w : World) (e : Ending) (w' : World) : Prop := ∃ g n, e = .returned (.slice (some ⟨g, 0, none⟩) zs.length zs.length) ∧ (Bf.st (nxI rs) [(i0 : Int)] n).length = n ∧ Row g (rall (nxI rs) ((List.replicate zs.length (-1)).set i0 i0) (Bf.st (nxI rs) [(i0 : Int)] n)) w' ∧ w.heap.size ≤ g ∧ Below w.heap.size w w'
set_option maxRecDepth 100000 in
set_option maxHeartbeats 2000000 in
theorem reasons_any (B x bm : Nat) (no : Option Addr) (ncap : Nat) (xo : Option Addr) (xcap : Nat) (ps : List K2) (zs : List ByteArray) (rs : List R3) (i0 : Nat) (w : World) (h : Wb B x bm no ncap xo xcap zs rs w) (ha : Adj ps zs rs) (hi : i0 < zs.length) (hl : Hid (zs.length ≤ 2097154 ∧ ps.length ≤ 1048576)) :
    Calls Try.prog 86 #[.pointer (some ⟨x, 0, none⟩), .int .i64 (i0 : Int)] w fun e w' => ReasIs zs rs i0 w e w' := by
  have hmf : ∀ (fn : Fn) (first cap : Array Value) (w : World), (Instr.makeFunc fn first cap).run Try.prog w = .ok (.func fn first cap) w := fun _ _ _ _ => rfl
  have c0 := h.c0
  have lx := lt_of_heap h.hb
  have H := hide' h
  have hz64 : (zs.length : Int) ≤ 2097154 := by have := hl.out.1; omega
  have hi64 : (i0 : Int) < (zs.length : Int) := by omega
  have hncap := h.names.cap
  clear h
  go_enter Try.func86, Try.ntmps86
  go_wp2_with fail
  have HA := hide' (heap_alloc_new (w.alloc (.cells #[.pointer (some ⟨x, 0, none⟩)] 99)) (.cells #[.int .i64 (-1)] 3))
  have s2 : ((w.alloc (.cells #[.pointer (some ⟨x, 0, none⟩)] 99)).alloc (.cells #[.int .i64 (-1)] 3)).heap.size = w.heap.size + 2 := by simp
  refine (L.repeat_any (w.heap.size + 1) zs.length _ (by have e := HA.out; rw [show (w.alloc (.cells #[.pointer (some ⟨x, 0, none⟩)] 99)).heap.size = w.heap.size + 1 by simp] at e; rw [Lib.cell_of_heap e]; rfl) (by rw [s2]; omega) (by omega) (by have := hl.out.1; omega)).mono ?_
  rintro e w1 ⟨g, rfl, hR, hB⟩
  have hG : Hid (Row g (List.replicate zs.length (-1)) w1 ∧ w.heap.size + 2 ≤ g) := by
    have hR' := hR
    unfold I.RowI at hR'
    rw [List.length_replicate] at hR'
    have e := (L.row_cur hR')
    refine ⟨?_, ?_⟩
    · unfold Row; rw [e.1, I.flat_map]
    · have := (hR.lt g ⟨_, rfl, rfl⟩).1; rw [s2] at this; exact this
  have hbx : Hid (w1.heap[w.heap.size]? = some (.cells #[.pointer (some ⟨x, 0, none⟩)] 99 (0, 0))) := (hB.block w.heap.size (by rw [s2]; omega)).trans ((Below.heap_alloc _ _ _ (by simp)).trans (heap_alloc_new w _))
  have b1 : Hid (Below w.heap.size w w1) := ((((Below.refl _ _).alloc (Nat.le_refl _) _).alloc (by simp) _).trans (hB.mono (by rw [s2]; omega)))
  have hgl : g < w1.heap.size := lt_of_heap hG.out.1
  have k1 : w1.cell? ⟨g, i0, none⟩ = some (.int .i64 (-1)) := hG.out.1.at (by rw [List.getElem?_replicate, if_pos hi])
  have k2 : w1.frozen? ⟨g, i0, none⟩ = false := Lib.frozen_of_heap hG.out.1 i0
  have hgn : g ≠ w1.heap.size := by omega
  clear hR hB HA s2 c0 lx hncap
  go_wp2_with fail
  obtain ⟨V, hV⟩ : ∃ V, V = ((w1.setCell ⟨g, i0, none⟩ (.int .i64 (i0 : Int))).alloc (.cells #[.slice (some ⟨g, 0, none⟩) zs.length zs.length] 76)).alloc (.cells #[.int .i64 (i0 : Int)] 3) := ⟨_, rfl⟩
  rw [← hV]
  have F : Hid (V.heap.size = w1.heap.size + 2 ∧ Turn (fun j => j = g) w1 V ∧ V.heap[w1.heap.size]? = some (.cells #[.slice (some ⟨g, 0, none⟩) zs.length zs.length] 76 (0, 0)) ∧ V.heap[w1.heap.size + 1]? = some (.cells #[.int .i64 (i0 : Int)] 3 (0, 0)) ∧ Row g ((List.replicate zs.length (-1)).set i0 i0) V) := by
    have e0 : (w1.setCell ⟨g, i0, none⟩ (.int .i64 (i0 : Int))).heap.size = w1.heap.size := by simp
    have e1 := heap_alloc_new (w1.setCell ⟨g, i0, none⟩ (.int .i64 (i0 : Int))) (.cells #[.slice (some ⟨g, 0, none⟩) zs.length zs.length] 76)
    have e2 := heap_alloc_new ((w1.setCell ⟨g, i0, none⟩ (.int .i64 (i0 : Int))).alloc (.cells #[.slice (some ⟨g, 0, none⟩) zs.length zs.length] 76)) (.cells #[.int .i64 (i0 : Int)] 3)
    have e3 : ((w1.setCell ⟨g, i0, none⟩ (.int .i64 (i0 : Int))).alloc (.cells #[.slice (some ⟨g, 0, none⟩) zs.length zs.length] 76)).heap.size = w1.heap.size + 1 := by simp
    rw [e0] at e1
    rw [e3] at e2
    have tt : Turn (fun j => j = g) w1 V := by rw [hV]; exact (((Turn.refl (fun j => j = g) w1).setCell (p := ⟨g, i0, none⟩) (fun _ => rfl) _).alloc _).alloc _
    refine ⟨by rw [hV]; simp, tt, ?_, by rw [hV]; exact e2, ?_⟩
    · rw [hV]; exact (Below.heap_alloc _ _ _ (by omega)).trans e1
    · have := hG.out.1.put i0 (i0 : Int)
      rw [hV]
      exact (Below.heap_alloc _ _ _ (by omega)).trans ((Below.heap_alloc _ _ _ (by omega)).trans this)
  clear hV
  have HC : Hid (Calls Try.prog 91 #[.slice (some ⟨w1.heap.size + 1, 0, none⟩) 1 1, .func (.func 92) #[] #[.pointer (some ⟨w.heap.size, 0, none⟩), .pointer (some ⟨w1.heap.size, 0, none⟩)]] V fun e w' => ∃ v, e = .returned v ∧ w'.cell? ⟨w1.heap.size, 0, none⟩ = some (.slice (some ⟨g, 0, none⟩) zs.length zs.length) ∧ ReasIs zs rs i0 w (.returned (.slice (some ⟨g, 0, none⟩) zs.length zs.length)) w') := by
    obtain ⟨sV, tV, f1, f2, f3⟩ := F.out
    have hW1 := H.out.below ((⟨b1.out.os, b1.out.tape, b1.out.output, b1.out.size, b1.out.block⟩ : Below w.heap.size w w1))
    have hlo : ∀ j, Own x bm no xo rs j → j < w.heap.size := fun j q => (H.out.own j q).2
    have hgw := hG.out.2
    have hs1 := b1.out.size
    have hWV := hW1.turn tV (fun j q e => by have := hlo j q; omega)
    have hf : I.Ints (some ⟨w1.heap.size + 1, 0, none⟩) [(i0 : Int)] V := by
      refine .inr ⟨w1.heap.size + 1, 0, rfl, by omega, fun i k q => ?_⟩
      cases i with
      | succ i => simp at q
      | zero => simp at q; subst q; rw [Lib.cell_of_heap f2]; rfl
    have hok : ∀ k ∈ nums zs.length, I.okk k := fun k hk => by
      obtain ⟨i, hi', rfl⟩ := mem_nums.1 hk
      exact WalkArith.wf_i64 (by have := hl.out.1; omega)
    have hbx' : V.heap[w.heap.size]? = some (.cells #[.pointer (some ⟨x, 0, none⟩)] 99 (0, 0)) := (tV.block w.heap.size (lt_of_heap hbx.out) (by omega)).trans hbx.out
    have lbx := lt_of_heap hbx'
    refine (I.close_any 92 _ (nxI rs) [(i0 : Int)] (nums zs.length) _ _ none (some ⟨w1.heap.size + 1, 0, none⟩) 1 V (nxtS w.heap.size w1.heap.size g B x bm no ncap xo xcap ps zs rs V.heap.size ((List.replicate zs.length (-1)).set i0 i0) (by simp) ha (by have := hl.out; exact ⟨by omega, by omega⟩) (by omega)) ⟨rfl, hbx', f1, f3, ⟨lbx, by omega, by omega⟩, hWV, fun j q => by have := hlo j q; exact ⟨by omega, by omega⟩, Nat.le_refl _⟩ hf (by simp) (fun k hk => by simp at hk; subst hk; exact mem_nums.2 ⟨_, hi, rfl⟩) ha.closed hok ⟨by simp, fun k hk => by have := ha.len k hk; have := nums_len zs.length; have := hl.out; omega⟩).mono ?_
    rintro e w' ⟨n, ao, cap, ag', hn, rfl, hr, ho, ht, hag, hq⟩
    obtain ⟨o1, o2, o3, o4, o5, o6, o7, o8⟩ := ho
    refine ⟨_, rfl, by rw [Lib.cell_of_heap o3]; rfl, g, n, rfl, hn, o4, by omega, b1.out.trans ?_⟩
    refine ⟨ht.os.trans tV.os, ht.tape.trans tV.tape, ht.output.trans tV.output, Nat.le_trans tV.size ht.size, fun k hk => ?_⟩
    refine (ht.block k (by omega) (fun q => ?_)).trans (tV.block k (by omega) (by omega))
    rcases q with q | q
    · omega
    · cases q
  clear F H hG hbx b1 hgl k1 k2 hgn
  refine HC.out.mono ?_
  rintro e w' ⟨v, rfl, c1, hK⟩
  have K := hide' hK
  clear hK HC
  go_wp2_with fail
  go_ret
  exact K.out
end W
end Go.Proofs.Ytdhmommfmmiieaa
set_option linter.unusedVariables false
set_option linter.unusedSimpArgs false
namespace Go.Proofs.Ytdhmommfmmiieaa
open Go.RowKit Go.Maps
namespace W
section
variable {ps : List K2} {zs : List ByteArray} {rs : List R3} {x z : ByteArray} {n : Nat}
/-- the reasons in the end -/
def rfin (zs : List ByteArray) (rs : List R3) (i0 n : Nat) : List Int := rall (nxI rs) ((List.replicate zs.length (-1)).set i0 i0) (Bf.st (nxI rs) [(i0 : Int)] n)
theorem one_from (hx : x ∈ zs) : ∀ k ∈ [(ix zs x : Int)], k ∈ nums zs.length := fun k hk => by simp at hk; subst hk; exact mem_nums.2 ⟨_, ix_lt hx, rfl⟩
theorem st_nums (ha : Adj ps zs rs) (hx : x ∈ zs) : ∀ k ∈ Bf.st (nxI rs) [(ix zs x : Int)] n, k ∈ nums zs.length := Bf.st_sub (one_from hx) ha.closed n
theorem fin_inv (ha : Adj ps zs rs) (hx : x ∈ zs) (hn : (Bf.st (nxI rs) [(ix zs x : Int)] n).length = n) : RInv zs.length (Bf.st (nxI rs) [(ix zs x : Int)] n) (vals (nxI rs) (ix zs x : Int) n) (rfin zs rs (ix zs x) n) := by
  have h := rinv (ix_lt hx) ha.closed n (by omega)
  rw [List.take_of_length_le (by omega)] at h
  exact h
theorem fin_out (ha : Adj ps zs rs) (hx : x ∈ zs) (hz : z ∈ zs) (hn : (Bf.st (nxI rs) [(ix zs x : Int)] n).length = n) (ho : (ix zs z : Int) ∉ Bf.st (nxI rs) [(ix zs x : Int)] n) : (rfin zs rs (ix zs x) n)[ix zs z]? = some (-1) ∧ N.way (Bf.st (N.nxt ps) [x] n) (N.rsn (N.nxt ps) [x] n) n (N.lastIx (Bf.st (N.nxt ps) [x] n) z n) = [] := by
  refine ⟨(fin_inv ha hx hn).out _ (ix_lt hz) ho, ?_⟩
  rw [lastIx_out (fun q => ?_) n, N.way_neg _ _ _ (by omega)]
  rw [← st_names ha hx] at q
  obtain ⟨k, hk, e⟩ := List.mem_map.1 q
  obtain ⟨i, hi, rfl⟩ := mem_nums.1 (st_nums ha hx k hk)
  have e2 : zs[i]? = some z := by
    unfold nam at e
    rw [Int.toNat_natCast, List.getElem?_eq_getElem hi] at e
    rw [List.getElem?_eq_getElem hi]; exact congrArg some e
  rw [ix_of ha.1 e2] at ho
  exact ho hk
theorem fin_at (ha : Adj ps zs rs) (hx : x ∈ zs) (hz : z ∈ zs) (hn : (Bf.st (nxI rs) [(ix zs x : Int)] n).length = n) {J : Nat} (hJ : (Bf.st (nxI rs) [(ix zs x : Int)] n)[J]? = some (ix zs z : Int)) : (∃ v, (rfin zs rs (ix zs x) n)[ix zs z]? = some v ∧ v ≠ -1) ∧ N.lastIx (Bf.st (N.nxt ps) [x] n) z n = (J : Int) ∧ J < n := by
  have hJn := (List.getElem?_eq_some_iff.1 hJ).1
  have hv := fin_inv ha hx hn
  refine ⟨?_, ?_, by omega⟩
  · obtain ⟨v, e⟩ : ∃ v, (vals (nxI rs) (ix zs x : Int) n)[J]? = some v := ⟨_, List.getElem?_eq_getElem (by rw [hv.len]; exact hJn)⟩
    have := hv.pos v (List.mem_of_getElem? e)
    exact ⟨v, hv.at' J _ v hJ e, by omega⟩
  · refine lastIx_at (Bf.st_nodup n) ?_ n (by omega)
    rw [← st_names ha hx, List.getElem?_map, hJ]
    show some (nam zs (ix zs z : Int)) = _
    rw [nam_ix hz]
theorem len_names (ha : Adj ps zs rs) (hx : x ∈ zs) (t : Nat) : (Bf.st (N.nxt ps) [x] t).length = (Bf.st (nxI rs) [(ix zs x : Int)] t).length := by rw [← st_names ha hx, List.length_map]
theorem fin_step (ha : Adj ps zs rs) (hx : x ∈ zs) (hn : (Bf.st (nxI rs) [(ix zs x : Int)] n).length = n) {j a : Nat} (hj : (Bf.st (nxI rs) [(ix zs x : Int)] n)[j]? = some (a : Int)) (hne : a ≠ ix zs x) :
    ∃ p a' : Nat, p < j ∧ (Bf.st (nxI rs) [(ix zs x : Int)] n)[p]? = some (a' : Int) ∧ (rfin zs rs (ix zs x) n)[a]? = some (a' : Int) ∧ ∀ f, N.way (Bf.st (N.nxt ps) [x] n) (N.rsn (N.nxt ps) [x] n) (f + 1) (j : Int) = N.way (Bf.st (N.nxt ps) [x] n) (N.rsn (N.nxt ps) [x] n) f (p : Int) ++ [nam zs (a : Int)] := by
  have hjn := (List.getElem?_eq_some_iff.1 hj).1
  have h0 : (Bf.st (nxI rs) [(ix zs x : Int)] n)[0]? = some (ix zs x : Int) := Bf.getElem?_prefix (Bf.st_prefix (Nat.zero_le n)) (by simp [Bf.st, Bf.add])
  have hj1 : 1 ≤ j := by
    rcases Nat.eq_zero_or_pos j with q | q
    · subst q; rw [h0] at hj; simp at hj; omega
    · exact q
  have hl := len_names ha hx n
  obtain ⟨r, hr⟩ : ∃ r, (N.rsn (N.nxt ps) [x] n)[j]? = some r := ⟨_, List.getElem?_eq_getElem (by rw [N.rsn_len]; omega)⟩
  obtain ⟨p, v, rfl, hp, hv, hs⟩ := vals_rsn (F := nxI rs) (i0 := (ix zs x : Int)) (len_names ha hx) (N.rsn_len ps x) n j r hj1 hr
  obtain ⟨a', _, rfl⟩ := mem_nums.1 (st_nums ha hx v (List.mem_of_getElem? hs))
  refine ⟨p, a', hp, hs, (fin_inv ha hx hn).at' j a _ hj hv, fun f => N.way_step ?_ hr⟩
  rw [← st_names ha hx, List.getElem?_map, hj]; rfl
theorem fin_end (ha : Adj ps zs rs) (hx : x ∈ zs) (hn : (Bf.st (nxI rs) [(ix zs x : Int)] n).length = n) {j : Nat} (hj : (Bf.st (nxI rs) [(ix zs x : Int)] n)[j]? = some (ix zs x : Int)) (f : Nat) :
    N.way (Bf.st (N.nxt ps) [x] n) (N.rsn (N.nxt ps) [x] n) (f + 1) (j : Int) = [nam zs (ix zs x : Int)] := by
  have h0 : (Bf.st (nxI rs) [(ix zs x : Int)] n)[0]? = some (ix zs x : Int) := Bf.getElem?_prefix (Bf.st_prefix (Nat.zero_le n)) (by simp [Bf.st, Bf.add])
  have e : j = 0 := by rw [← ix_of (Bf.st_nodup n) hj, ix_of (Bf.st_nodup n) h0]
  subst e
  have hr : (N.rsn (N.nxt ps) [x] n)[0]? = some (-1) := by
    clear hn hj h0
    induction n with
    | zero => rfl
    | succ n ih =>
      show (N.rsn (N.nxt ps) [x] n ++ _)[0]? = _
      rw [List.getElem?_append_left (by rcases Nat.eq_zero_or_pos (N.rsn (N.nxt ps) [x] n).length with q | q
                                        · rw [List.getElem?_eq_none (by omega)] at ih; cases ih
                                        · exact q)]; exact ih
  rw [N.way_step (z := nam zs (ix zs x : Int)) (by rw [← st_names ha hx, List.getElem?_map, h0]; rfl) hr, N.way_neg _ _ _ (by omega), List.nil_append]
end
set_option maxRecDepth 100000 in
theorem reverse_any (B g cap : Nat) (P : List Int) (w : World) (h : I.RowI B (some ⟨g, 0, none⟩) cap P w) (hl : P.length ≤ 1073741824) :
    Calls Try.prog 87 #[.slice (some ⟨g, 0, none⟩) P.length cap] w fun e w' => e = .returned (.tuple #[]) ∧ I.Ints (some ⟨g, 0, none⟩) P.reverse w' ∧ Below B w w' := by
  have hc : ∀ j, j < P.length → w.cell? ⟨g, 0 + j, none⟩ = some (.int .i64 (P.getD j 0)) := fun j hj => by
    obtain ⟨b, off, e, _, hcell⟩ := h.ints.at (List.getElem?_eq_getElem hj)
    rcases h.form with ⟨e', _⟩ | ⟨g', e', _⟩
    · cases e'
    cases e
    have e2 : P.getD j 0 = P[j] := by simp [List.getD, List.getElem?_eq_getElem hj]
    rw [e2]
    exact hcell
  have hf : ∀ j, j < P.length → w.frozen? ⟨g, 0 + j, none⟩ = false := fun j hj => by
    rcases h.2 with ⟨hv, h0⟩ | ⟨g', cap', cur, hv, hb, hg, _⟩
    · cases hv
    simp only [Value.slice.injEq, Option.some.injEq] at hv
    cases hv.1
    exact Lib.frozen_of_heap hg _
  have hgB : B ≤ g ∧ g < w.heap.size := h.lt g ⟨_, rfl, rfl⟩
  refine (sh.slices_Reverse_int_cells g 0 P.length cap P w (Nat.le_refl _) (by omega) hc hf).mono ?_
  rintro e w' ⟨rfl, q, rfl⟩
  rw [List.take_length]
  refine ⟨rfl, ?_, below_setCells hgB.1 _ _ _ ⟨rfl, rfl, rfl, Nat.le_refl _, fun _ _ => rfl⟩⟩
  refine .inr ⟨g, 0, rfl, ?_, fun i k hk => ?_⟩
  · exact Nat.lt_of_lt_of_le hgB.2 (below_setCells (B := 0) (a := w.drewN q) (Nat.zero_le g) (P.reverse.map (Value.int .i64)) 0 (w.drewN q) (Below.refl _ _)).size
  · have hi := (List.getElem?_eq_some_iff.1 hk).1
    simp at hi
    have := World.cell?_setCells_in g (P.reverse.map (Value.int .i64)) 0 (w.drewN q) (fun j hj => by
      rw [World.cell?_drewN, hc j (by simpa using hj)]; rfl) i (by simpa using hi)
    rw [this]
    have e := (List.getElem?_eq_some_iff.1 hk).2
    simp only [List.getElem_map]
    rw [e]
end W
end Go.Proofs.Ytdhmommfmmiieaa
set_option linter.unusedVariables false
set_option linter.unusedSimpArgs false
namespace Go.Proofs.Ytdhmommfmmiieaa
open Go.RowKit Go.Maps
namespace W
/-- what path tells -/
def PathNIs (ps : List K2) (zs : List ByteArray) (x z : ByteArray) (w : World) (e : Ending) (w' : World) : Prop :=
  ∃ n lo lcap P, (Bf.st (N.nxt ps) [x] n).length = n ∧ e = .returned (.slice lo (List.length P) lcap) ∧ I.Ints lo P w' ∧ P.length ≤ lcap ∧ (∀ k ∈ P, k ∈ nums zs.length) ∧ P.map (nam zs) = N.way (Bf.st (N.nxt ps) [x] n) (N.rsn (N.nxt ps) [x] n) n (N.lastIx (Bf.st (N.nxt ps) [x] n) z n) ∧ P.length ≤ zs.length ∧ Below w.heap.size w w'
set_option maxRecDepth 100000 in
set_option maxHeartbeats 4000000 in
theorem pathN_any (B wx bm : Nat) (no : Option Addr) (ncap : Nat) (xo : Option Addr) (xcap : Nat) (ps : List K2) (zs : List ByteArray) (rs : List R3) (x z : ByteArray) (w : World) (h : Wb B wx bm no ncap xo xcap zs rs w) (ha : Adj ps zs rs) (hx : x ∈ zs) (hz : z ∈ zs) (hl : Hid (zs.length ≤ 2097154 ∧ ps.length ≤ 1048576)) :
    Calls Try.prog 74 #[.pointer (some ⟨wx, 0, none⟩), .int .i64 (ix zs x : Nat), .int .i64 (ix zs z : Nat)] w fun e w' => PathNIs ps zs x z w e w' := by
  have HR := hide' (reasons_any B wx bm no ncap xo xcap ps zs rs (ix zs x) w h ha (ix_lt hx) hl)
  have hzl := ix_lt hz
  have hxl := ix_lt hx
  have hz64 : (zs.length : Int) ≤ 2097154 := by have := hl.out.1; omega
  have hz' : (ix zs z : Int) < (zs.length : Int) := by omega
  clear h
  go_enter Try.func74, Try.ntmps74
  go_wp2_with fail
  refine HR.out.mono ?_
  rintro e w1 ⟨g, n, rfl, hn, hG, hg, b1⟩
  have hnn : Hid ((Bf.st (N.nxt ps) [x] n).length = n) := (len_names ha hx n).trans hn
  have hnz : n ≤ zs.length := by have := Bf.nodup_le (Bf.st_nodup (F := nxI rs) (fr := [(ix zs x : Int)]) n) (st_nums ha hx); rw [nums_len, hn] at this; exact this
  have hG' : Hid (Row g (rfin zs rs (ix zs x) n) w1) := hG
  have hgl : g < w1.heap.size := lt_of_heap hG
  have B1 := hide' b1
  have hs1 := b1.size
  have Hn := hide' hn
  clear hG b1 HR hn
  by_cases hin : (ix zs z : Int) ∈ Bf.st (nxI rs) [(ix zs x : Int)] n
  · obtain ⟨J, hJ⟩ := List.mem_iff_getElem?.1 hin
    obtain ⟨⟨v, hv, hv1⟩, hJl, hJn⟩ := fin_at ha hx hz Hn.out hJ
    have k1 := hG'.out.at hv
    have HJ := hide' (And.intro hJ hJl)
    clear hJ hJl hv hin
    go_wp2_with fail
    have hvb : (v == -1) = false := by simpa using hv1
    rw [hvb]
    clear hvb
    have hvc : ∃ v2 : Int, v2 = v := ⟨_, rfl⟩
    have hV : Hid (Below w1.heap.size w1 (w1.alloc (.cells #[.int .i64 (ix zs z : Int)] 3)) ∧ I.RowI w1.heap.size (some ⟨w1.heap.size, 0, none⟩) 1 [(ix zs z : Int)] (w1.alloc (.cells #[.int .i64 (ix zs z : Int)] 3))) :=
      ⟨(Below.refl _ _).alloc (Nat.le_refl _) _, L.cur_row (heap_alloc_new w1 _) rfl (Nat.le_refl _) (by unfold maxLen; decide)⟩
    generalize w1.alloc (.cells #[.int .i64 (ix zs z : Int)] 3) = V at *
    go_loopw [8, 9] (fun wv nv wx => ∃ (j f a : Nat) (wo : Option Addr) (wc : Nat) (P : List Int), nv = .int .i64 (a : Int) ∧ wv = .slice wo (P.length + 1) wc ∧ (Bf.st (nxI rs) [(ix zs x : Int)] n)[j]? = some (a : Int) ∧ j < f ∧ P.length + f = n ∧ I.RowI w1.heap.size wo wc (P ++ [(a : Int)]) wx ∧ Below w1.heap.size w1 wx ∧ N.way (Bf.st (N.nxt ps) [x] n) (N.rsn (N.nxt ps) [x] n) n (N.lastIx (Bf.st (N.nxt ps) [x] n) z n) = N.way (Bf.st (N.nxt ps) [x] n) (N.rsn (N.nxt ps) [x] n) f (j : Int) ++ P.reverse.map (nam zs) ∧ ∀ k ∈ P, k ∈ nums zs.length) (fun _ nv _ => ix (Bf.st (nxI rs) [(ix zs x : Int)] n) (intOf nv))
    case atStart => exact ⟨J, n, ix zs z, some ⟨_, 0, none⟩, 1, [], rfl, rfl, HJ.out.1, hJn, by simp, hV.out.2, hV.out.1, by rw [HJ.out.2]; simp, fun k hk => by cases hk⟩
    case round =>
      obtain ⟨j, f, a, wo, wc, P, rfl, rfl, hj, hjf, hPf, hRow, hB, hway, hP⟩ := hrel
      have hap := ha
      obtain ⟨ai, hai, hae⟩ := mem_nums.1 (st_nums ha hx _ (List.mem_of_getElem? hj))
      have haz : a < zs.length := by omega
      have haz' : (a : Int) < (zs.length : Int) := by omega
      clear hai hae
      obtain ⟨gw, rfl, hgw, hgl2, hcapw⟩ : ∃ gw, wo = some ⟨gw, 0, none⟩ ∧ w1.heap.size ≤ gw ∧ gw < wr.heap.size ∧ P.length + 1 ≤ wc := by
        rcases hRow.form with ⟨_, q, _⟩ | ⟨gw, e, q1, q2, q3⟩
        · simp at q
        · exact ⟨gw, e, q1, q2, by simpa using q3⟩
      have hPn : P.length < 1099511627776 := by have := hl.out.1; omega
      by_cases he : a = ix zs x
      · subst he
        have hf : ∃ f', f = f' + 1 := ⟨f - 1, by omega⟩
        obtain ⟨f', rfl⟩ := hf
        have hw2 : Hid (((P ++ [(ix zs x : Int)]).reverse).map (nam zs) = N.way (Bf.st (N.nxt ps) [x] n) (N.rsn (N.nxt ps) [x] n) n (N.lastIx (Bf.st (N.nxt ps) [x] n) z n)) := by
          show _ = _
          rw [hway, fin_end ha hx Hn.out hj f']
          simp
        have HRv := hide' (reverse_any w1.heap.size gw wc (P ++ [(ix zs x : Int)]) wr hRow (by simp; have := hl.out.1; omega))
        have HB := hide' (And.intro hB hP)
        clear hway hRow hB hP hj
        have hlen1 : Hid ((P ++ [(ix zs x : Int)]).length = P.length + 1) := by show _ = _; simp
        rw [hlen1.out] at HRv
        go_wp2_with fail
        refine HRv.out.mono ?_
        rintro e w2 ⟨rfl, hI2, b2⟩
        have K : Hid (PathNIs ps zs x z w (.returned (.slice (some ⟨gw, 0, none⟩) (P.length + 1) wc)) w2) :=
          ⟨n, _, wc, (P ++ [(ix zs x : Int)]).reverse, hnn.out, by rw [List.length_reverse, hlen1.out], hI2, by rw [List.length_reverse, hlen1.out]; exact hcapw, fun k hk => by
            rw [List.mem_reverse] at hk
            rcases List.mem_append.1 hk with q | q
            · exact HB.out.2 k q
            · simp at q; rw [q]; exact mem_nums.2 ⟨_, haz, rfl⟩, hw2.out, by rw [List.length_reverse, hlen1.out]; omega, B1.out.trans ((HB.out.1.trans b2).mono hs1)⟩
        clear hI2 b2 HRv HB hw2
        go_wp2_with fail
        go_ret
        exact K.out
      · have hne' : ¬ (a : Int) = (ix zs x : Int) := by omega
        obtain ⟨p, a', hp, hLp, hRa, hst⟩ := fin_step ha hx Hn.out hj he
        obtain ⟨f', rfl⟩ : ∃ f', f = f' + 1 := ⟨f - 1, by omega⟩
        have k2 := (hB.cell (p := ⟨g, a, none⟩) hgl).trans (hG'.out.at hRa)
        have hm1 := ix_of (Bf.st_nodup (F := nxI rs) (fr := [(ix zs x : Int)]) n) hj
        have hm2 := ix_of (Bf.st_nodup (F := nxI rs) (fr := [(ix zs x : Int)]) n) hLp
        have HH := hide' (And.intro hLp (And.intro (hst f') (And.intro hway (And.intro hB (And.intro hP (And.intro hm1 hm2))))))
        have HRow := hide' hRow
        have hlen1 : Hid ((P ++ [(a : Int)]).length = P.length + 1) := by show _ = _; simp
        have haN : Hid ((a : Int) ∈ nums zs.length) := mem_nums.2 ⟨a, haz, rfl⟩
        clear hLp hRa hst hway hB hP hm1 hm2 hRow hj
        go_wp2_with (at_builtin; refine I.wpList_app1 _ rfl _ _ rfl w1.heap.size (some ⟨gw, 0, none⟩) wc (P ++ [(a : Int)]) (a' : Int) _ _ (by rw [hlen1.out]; rfl) HRow.out rfl (by show _ < _; rw [hlen1.out]; omega) (by omega) ?_; intro g2 cap2 w2 r2 t2 hg2 hl2; rw [hlen1.out]; have A2 := hide' (And.intro r2 t2); clear r2 t2 hg2 hl2)
        refine ⟨⟨p, f', a', some ⟨g2, 0, none⟩, cap2, P ++ [(a : Int)], rfl, by rw [hlen1.out], HH.out.1, by omega, by rw [hlen1.out]; omega, A2.out.1, HH.out.2.2.2.1.trans (below3 A2.out.2 (fun i q => by obtain ⟨ad, e, rfl⟩ := q; cases e; exact hgw) HH.out.2.2.2.1.size), ?_, fun k hk => ?_⟩, ?_⟩
        · rw [HH.out.2.2.1, HH.out.2.1]; simp
        · rcases List.mem_append.1 hk with q | q
          · exact HH.out.2.2.2.2.1 k q
          · simp at q; rw [q]; exact haN.out
        · show ix _ (a' : Int) < ix _ (a : Int)
          rw [HH.out.2.2.2.2.2.1, HH.out.2.2.2.2.2.2]; exact hp
  · obtain ⟨q1, q2⟩ := fin_out ha hx hz Hn.out hin
    have k1 := hG'.out.at q1
    have K : Hid (PathNIs ps zs x z w (.returned (.slice none 0 0)) w1) := ⟨n, none, 0, [], hnn.out, rfl, .inl rfl, Nat.le_refl _, (fun k hk => by cases hk), by rw [q2]; rfl, Nat.zero_le _, B1.out⟩
    clear q1 q2
    go_wp2_with fail
    go_ret
    exact K.out
end W
end Go.Proofs.Ytdhmommfmmiieaa
set_option linter.unusedVariables false
set_option linter.unusedSimpArgs false
namespace Go.Proofs.Ytdhmommfmmiieaa
open Go.RowKit Go.Maps
namespace W
set_option maxRecDepth 100000 in
set_option maxHeartbeats 4000000 in
theorem path_any (po : Option Addr) (pcap : Nat) (ps : List K2) (x z : ByteArray) (w : World) (hx : Q.Ints po ps w) (hc : ps.length ≤ pcap) (hs : Small ps x) (hsz : z.size ≤ 1048576) (hlen : Hid (ps.length ≤ 1048576)) :
    Calls Try.prog 40 #[.slice po ps.length pcap, .string x, .string z] w fun e w' => N.PathIs ps x z w e w' := by
  have HN := hide' (newWeb_any po pcap ps w hx hc (fun p hp => ⟨okk_of (hs.1 p hp).1, okk_of (hs.1 p hp).2⟩) hlen)
  have Hs := hide' hs
  have Hsz := hide' hsz
  have hnl : Hid ((nm ps).length ≤ 2097152) := by have := nm_len ps; have := hlen.out; show _ ≤ _; omega
  have hzl1 : Hid ((Bf.add (nm ps) [x]).length ≤ 2097153) := by have := Bf.add_len_le (nm ps) [x]; have := hnl.out; show _ ≤ _; simp at *; omega
  have hzl : Hid ((Bf.add (Bf.add (nm ps) [x]) [z]).length ≤ 2097154) := by have := Bf.add_len_le (Bf.add (nm ps) [x]) [z]; have := hzl1.out; show _ ≤ _; simp at *; omega
  clear hx hc hs hsz
  go_enter Try.func40, Try.ntmps40
  go_wp2_with fail
  refine HN.out.mono ?_
  rintro e w1 ⟨wx, bm, no, ncap, xo, xcap, rs, rfl, hW, hA, b1⟩
  have H1 := hide' (And.intro hW (And.intro hA b1))
  clear hW hA b1 HN
  go_wp2_with fail
  refine (number_any ps w.heap.size wx bm no ncap xo xcap (nm ps) rs x w1 H1.out.1 H1.out.2.1 (okk_of Hs.out.2) (by have := hnl.out; show _ < _; omega)).mono ?_
  rintro e w2 ⟨rfl, no2, ncap2, xo2, xcap2, rs2, hW2, hA2, t2, _⟩
  have b2 : Hid (Below w.heap.size w w2) := H1.out.2.2.trans (below3 t2 (fun j q => (H1.out.1.own j q).1) H1.out.2.2.size)
  have hxz1 : Hid (x ∈ Bf.add (nm ps) [x]) := Bf.mem_add.2 (.inr (by simp))
  have e0 : ix (Bf.add (nm ps) [x]) x = ix (Bf.add (Bf.add (nm ps) [x]) [z]) x := (ix_add hxz1.out).symm
  rw [e0]
  have H2 := hide' (And.intro hW2 hA2)
  clear hW2 hA2 t2 e0
  go_wp2_with fail
  refine (number_any ps w.heap.size wx bm no2 ncap2 xo2 xcap2 (Bf.add (nm ps) [x]) rs2 z w2 H2.out.1 H2.out.2 (okk_of Hsz.out) (by have := hzl1.out; show _ < _; omega)).mono ?_
  rintro e w3 ⟨rfl, no3, ncap3, xo3, xcap3, rs3, hW3, hA3, t3, _⟩
  have b3 : Hid (Below w.heap.size w w3) := b2.out.trans (below3 t3 (fun j q => (H2.out.1.own j q).1) b2.out.size)
  have hxz : Hid (x ∈ Bf.add (Bf.add (nm ps) [x]) [z]) := Bf.mem_add.2 (.inl hxz1.out)
  have hzz : Hid (z ∈ Bf.add (Bf.add (nm ps) [x]) [z]) := Bf.mem_add.2 (.inr (by simp))
  have hsz : Hid (∀ y ∈ Bf.add (Bf.add (nm ps) [x]) [z], y.size ≤ 281474976710656) := fun y hy => by
    rcases Bf.mem_add.1 hy with q | q
    · have := small_names Hs.out y q; omega
    · simp at q; rw [q]; have := Hsz.out; omega
  have H3 := hide' (And.intro hW3 hA3)
  clear hW3 hA3 t3 H1 H2 b2 hxz1 hzl1
  generalize Bf.add (Bf.add (nm ps) [x]) [z] = zs at *
  go_wp2_with fail
  refine (pathN_any w.heap.size wx bm no3 ncap3 xo3 xcap3 ps zs rs3 x z w3 H3.out.1 H3.out.2 hxz.out hzz.out ⟨hzl.out, hlen.out⟩).mono ?_
  rintro e w4 ⟨n, lo, lcap, P, hn, rfl, hI, hcap, hP, hway, hPl, b4⟩
  have CT := hide' (told_any w.heap.size wx bm no3 ncap3 xo3 xcap3 zs rs3 lo lcap P.length P w4 (H3.out.1.below b4) hI rfl hcap hP hsz.out ⟨hzl.out, by have := hzl.out; omega⟩)
  have b4' : Hid (Below w.heap.size w w4) := b3.out.trans (b4.mono b3.out.size)
  have Hn := hide' (And.intro hn hway)
  clear hn hI hcap hP hway hPl b4
  go_wp2_with fail
  refine CT.out.mono ?_
  rintro e w5 ⟨ao5, cap5, rfl, r5, b5⟩
  have K : Hid (N.PathIs ps x z w (.returned (.slice ao5 P.length cap5)) w5) := by
    rw [show P.length = (P.map (nam zs)).length from (List.length_map _).symm]
    rw [Hn.out.2] at r5 ⊢
    exact ⟨n, ao5, cap5, Hn.out.1, rfl, r5.mono b4'.out.size, b4'.out.trans (b5.mono b4'.out.size)⟩
  clear r5 b5 CT
  go_wp2_with fail
  go_ret
  exact K.out
end W
end Go.Proofs.Ytdhmommfmmiieaa
