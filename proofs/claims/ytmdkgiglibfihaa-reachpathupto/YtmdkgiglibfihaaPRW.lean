import Derived.Test.YtmdkgiglibfihaaUpR
import Derived.Test.YtmdkgiglibfihaaApp
set_option linter.unusedVariables false
set_option linter.unusedSimpArgs false
namespace Go.Proofs.Ytmdkgiglibfihaa
open Go.RowKit Go.Maps
namespace S
theorem addOff (b off n : Nat) : (⟨b, off, none⟩ : Addr).add n = ⟨b, off + n, none⟩ := by unfold Addr.add; split <;> simp_all
/-- append of a list of texts onto one text in a row of its own -/
theorem wpList_appT (w0 : World) {ops : Array Oper} {rest : List Oper} {o : Oper} {a : Act} {Q : Exit → Act → World → Prop} (hw : Region.wanted o (yielded ops a.tmps) = true) (s x : Operand)
    (ho : o.op = .call { callee := .builtin .append, args := #[s, x], argTypes := #[23, 23] }) (z : ByteArray) (ro : Option Addr) (rc n : Nat) (row : List ByteArray) (hrl : Hid (row.length = n)) (hs : a.eval s = .slice (some ⟨w0.heap.size, 0, none⟩) 1 1) (hx : a.eval x = .slice ro n rc) (hI : Ints ro row w0) (hn : ro = none → n = 0 ∧ rc = 0) (hb : Hid (row.length < 4398046511104))
    (h : ∀ g c w', RowI w0.heap.size (some ⟨g, 0, none⟩) c (z :: row) w' → Below w0.heap.size w0 w' → wpList Try.prog ops Q rest (a.put o.dst (.slice (some ⟨g, 0, none⟩) (n + 1) c)) w') :
    wpList Try.prog ops Q (o :: rest) a (w0.alloc (.cells #[.string z] 9)) := by
  have hrl' := hrl.out
  subst hrl'
  obtain ⟨i0, hi, hz0, hz1, hz2⟩ := info_parts infoE
  have hrow : (w0.alloc (.cells #[.string z] 9)).ownsRow w0.heap.size 9 1 (.slice (some ⟨w0.heap.size, 0, none⟩) 1 1) 1 [.string z] := ⟨rfl, .inr ⟨w0.heap.size, 1, #[.string z], rfl, Nat.le_refl _, heap_alloc_new w0 _, Nat.le_refl _, by unfold maxLen; decide, rfl, rfl⟩⟩
  have hI' : Ints ro row (w0.alloc (.cells #[.string z] 9)) := hI.alloc _
  refine wpList_append_src hw s x 23 ho w0.heap.size 9 i0 (.string ByteArray.empty) 1 16 Try.underlying23 hi hz0 hz1 hz2 rfl (by decide) _ 1 [.string z] hs hrow ro row.length rc (row.flatMap cells) hx hn (by rw [flat_len, Nat.mul_one]) (fun ad q j u hj => ?_) (fun u hu => ?_) (by have := hb.out; unfold maxLen; omega) (by have := hb.out; omega) (by simp) ?_
  · rw [flat_at] at hj
    cases hk : row[j]? with
    | none => rw [hk] at hj; cases hj
    | some k =>
      rw [hk] at hj
      obtain ⟨b, off, e, _, hc⟩ := hI'.at hk
      rw [q] at e; cases e
      rw [addOff, hc]; exact hj
  · rw [flat_map] at hu
    obtain ⟨k, _, rfl⟩ := List.mem_map.1 hu
    rfl
  · intro v' w' hr hg hat
    have hbel : Below w0.heap.size w0 w' := ((Below.refl _ _).alloc (Nat.le_refl _) _).trans ⟨hg.os, hg.tape, hg.output, hg.size, fun k hk => hg.block k (by simp; omega) (by simp [Value.ownBlock]; omega)⟩
    obtain ⟨g, c, rfl, hg1, hg2⟩ := World.ownsRow.form hr (by omega)
    have e : row.length + 1 = 1 + row.length := Nat.add_comm _ _
    have hh := h g c w' (by unfold RowI; rw [List.length_cons, e]; exact hr) hbel
    rw [e] at hh
    exact hh
end S
namespace N
/-- the way to a place of a list by its reasons -/
def way (ns : List ByteArray) (rs : List Int) : Nat → Int → List ByteArray
  | 0, _ => []
  | f + 1, a => if 0 ≤ a then way ns rs f (rs[a.toNat]?.getD (-1)) ++ [ns[a.toNat]?.getD ByteArray.empty] else []
/-- where a text stands last -/
def lastIx (ns : List ByteArray) (z : ByteArray) : Nat → Int
  | 0 => -1
  | k + 1 => if ns[k]? = some z then (k : Int) else lastIx ns z k
theorem lastIx_lt (ns : List ByteArray) (z : ByteArray) (k : Nat) : -1 ≤ lastIx ns z k ∧ lastIx ns z k < k := by
  induction k with
  | zero => exact ⟨by simp [lastIx], by simp [lastIx]⟩
  | succ k ih => unfold lastIx; split <;> (constructor <;> omega)
theorem way_neg (ns : List ByteArray) (rs : List Int) (f : Nat) {a : Int} (h : ¬ 0 ≤ a) : way ns rs f a = [] := by
  cases f with
  | zero => rfl
  | succ f => unfold way; rw [if_neg h]
theorem way_step {ns : List ByteArray} {rs : List Int} {f k : Nat} {z : ByteArray} {r : Int} (h1 : ns[k]? = some z) (h2 : rs[k]? = some r) : way ns rs (f + 1) (k : Int) = way ns rs f r ++ [z] := by
  rw [show way ns rs (f + 1) (k : Int) = if 0 ≤ (k : Int) then way ns rs f (rs[(k : Int).toNat]?.getD (-1)) ++ [ns[(k : Int).toNat]?.getD ByteArray.empty] else [] from rfl, if_pos (by omega), Int.toNat_natCast, h1, h2]
  rfl
theorem way_len (ns : List ByteArray) (rs : List Int) (f : Nat) (a : Int) : (way ns rs f a).length ≤ f := by
  induction f generalizing a with
  | zero => simp [way]
  | succ f ih => unfold way; split <;> simp; exact ih _
theorem rsn_lt (F : ByteArray → List ByteArray) (fr : List ByteArray) (hl : ∀ n, (rsn F fr n).length = (Bf.st F fr n).length) (n : Nat) : ∀ (i : Nat) (r : Int), (rsn F fr n)[i]? = some r → -1 ≤ r ∧ r < i := by
  induction n with
  | zero =>
    intro i r h
    cases i with
    | zero => simp [rsn] at h; subst h; constructor <;> omega
    | succ i => simp [rsn] at h
  | succ n ih =>
    intro i r h
    unfold rsn at h
    by_cases hi : i < (rsn F fr n).length
    · rw [List.getElem?_append_left hi] at h; exact ih i r h
    · rw [List.getElem?_append_right (by omega), List.getElem?_replicate] at h
      split at h
      · rename_i hlt
        cases h
        cases hk : (Bf.st F fr n)[n]? with
        | none => rw [Bf.st_none hk] at hlt; omega
        | some k =>
          have := (List.getElem?_eq_some_iff.1 hk).1
          have := hl n
          constructor <;> omega
      · cases h
end N
end Go.Proofs.Ytmdkgiglibfihaa
set_option linter.unusedVariables false
set_option linter.unusedSimpArgs false
namespace Go.Proofs.Ytmdkgiglibfihaa
open Go.RowKit Go.Maps
namespace N
/-- the way that is told, in a row that is new -/
def PathIs (ps : List K2) (x z : ByteArray) (w : World) (e : Ending) (w' : World) : Prop := ∃ n no ncap, (Bf.st (nxt ps) [x] n).length = n ∧ e = .returned (.slice no (way (Bf.st (nxt ps) [x] n) (rsn (nxt ps) [x] n) n (lastIx (Bf.st (nxt ps) [x] n) z n)).length ncap) ∧ S.RowI w.heap.size no ncap (way (Bf.st (nxt ps) [x] n) (rsn (nxt ps) [x] n) n (lastIx (Bf.st (nxt ps) [x] n) z n)) w' ∧ Below w.heap.size w w'
set_option maxHeartbeats 4000000 in
set_option maxRecDepth 100000 in
theorem path_any (po : Option Addr) (pcap : Nat) (ps : List K2) (x z : ByteArray) (w : World) (hx : Q.Ints po ps w) (hc : ps.length ≤ pcap) (hlen : Hid (ps.length ≤ 1048576)) :
    Calls Try.prog 20 #[.slice po ps.length pcap, .string x, .string z] w fun e w' => PathIs ps x z w e w' := by
  have HB := hide' (breadth_any po pcap ps x w hx hc hlen)
  clear hx hc
  go_enter Try.func20, Try.ntmps20
  go_wp2_with fail
  refine HB.out.mono ?_
  rintro e w1 ⟨n, no, ro, ncap, rcap, hn, rfl, h1, h2, h3⟩
  have hnb : Hid (n ≤ 1048577) := by
    have := Bf.st_le (F := nxt ps) (fr := [x]) uni_from uni_next n
    have := uni_len ps x
    have := hlen.out
    show _ ≤ _
    omega
  have hn64 : (n : Int) ≤ 1048577 := by have := hnb.out; omega
  have hrl : Hid ((rsn (nxt ps) [x] n).length = n) := by show _ = _; rw [rsn_len, hn]
  have hrlt := hide' (rsn_lt (nxt ps) [x] (rsn_len ps x) n)
  have HK : Hid (∀ L : List ByteArray, L = way (Bf.st (nxt ps) [x] n) (rsn (nxt ps) [x] n) n (lastIx (Bf.st (nxt ps) [x] n) z n) → ∀ no' nc' w', S.RowI w.heap.size no' nc' L w' → Below w.heap.size w w' → PathIs ps x z w (.returned (.slice no' L.length nc')) w') := fun L hL no' nc' w' r b => ⟨n, no', nc', hn, by rw [hL], by rw [← hL]; exact r, b⟩
  generalize Bf.st (nxt ps) [x] n = ns at *
  generalize rsn (nxt ps) [x] n = rs at *
  have hc1 : n ≤ ncap := by have := h1.cap; omega
  have hc2 : n ≤ rcap := by have := h2.cap; have := hrl.out; omega
  have H := hide' (And.intro hn (And.intro h1 (And.intro h2 h3)))
  have hs1 := h3.size
  clear hn h1 h2 h3 HB
  go_wp2_with fail
  have hb1 : Below w1.heap.size w1 (w1.alloc (.cells #[.slice no n ncap, .slice ro n rcap] 68)) := (Below.refl _ _).alloc (Nat.le_refl _) _
  have m0 : (w1.alloc (.cells #[.slice no n ncap, .slice ro n rcap] 68)).cell? ⟨w1.heap.size, 0, none⟩ = some (.slice no n ncap) := by rw [Lib.cell_of_heap (heap_alloc_new w1 _)]; rfl
  have m1 : (w1.alloc (.cells #[.slice no n ncap, .slice ro n rcap] 68)).cell? ⟨w1.heap.size, 1, none⟩ = some (.slice ro n rcap) := by rw [Lib.cell_of_heap (heap_alloc_new w1 _)]; rfl
  have hml : w1.heap.size < (w1.alloc (.cells #[.slice no n ncap, .slice ro n rcap] 68)).heap.size := by simp
  have V1 := hide' (And.intro H.out.1 (And.intro (H.out.2.1.below hb1).ints (And.intro (H.out.2.2.1.below hb1).ints (H.out.2.2.2.trans (hb1.mono hs1)))))
  clear H hb1
  generalize w1.heap.size = mb at *
  generalize hVV : w1.alloc (.cells #[.slice no n ncap, .slice ro n rcap] 68) = V at *
  clear hVV
  go_loopw [8, 9] (fun a i wx => ∃ k : Nat, k ≤ n ∧ i = .int .i64 (k : Int) ∧ a = .int .i64 (lastIx ns z k) ∧ wx = V) (fun _ i _ => n - (intOf i).toNat)
  case atStart => exact ⟨0, by omega, rfl, rfl, rfl⟩
  case round =>
    obtain ⟨k, hk, rfl, rfl, rfl⟩ := hrel
    by_cases hlt : k < n
    · have hlt' : (k : Int) < (n : Int) := by omega
      obtain ⟨q, hq⟩ : ∃ q, ns[k]? = some q := ⟨_, List.getElem?_eq_getElem (by have := V1.out.1; omega)⟩
      obtain ⟨nb, off, rfl, _, d1⟩ := V1.out.2.1.at hq
      have Hq := hide' hq
      clear hq
      by_cases he : q = z
      · have te := text_eq z
        subst he
        have e1 : Hid (lastIx ns q (k + 1) = (k : Int)) := by show _ = _; unfold lastIx; rw [if_pos Hq.out]
        go_wp2_with fail
        exact ⟨⟨k + 1, by omega, by go_num, by rw [e1.out], trivial⟩, by simp [intOf]; omega⟩
      · have te := text_ne he
        have e1 : Hid (lastIx ns z (k + 1) = lastIx ns z k) := by
          show _ = _
          rw [show lastIx ns z (k + 1) = if ns[k]? = some z then (k : Int) else lastIx ns z k from rfl, if_neg (fun h => he (by rw [Hq.out] at h; cases h; rfl))]
        go_wp2_with fail
        exact ⟨⟨k + 1, by omega, by go_num, by rw [e1.out], trivial⟩, by simp [intOf]; omega⟩
    · have hkn : n = k := by omega
      subst hkn
      have hlt' : ¬ (n : Int) < (n : Int) := by omega
      have hix := lastIx_lt ns z n
      have hwl : Hid (∀ f a, (way ns rs f a).length ≤ f) := way_len ns rs
      obtain ⟨a0, ha0⟩ : ∃ a0, a0 = lastIx ns z n := ⟨_, rfl⟩
      rw [← ha0] at hix HK ⊢
      clear hlt hk ha0
      rename World => V
      go_wp2_with fail
      go_loopw [8, 10] (fun at' wv wx => ∃ (f : Nat) (a : Int) (wo : Option Addr) (wc : Nat) (L : List ByteArray), at' = .int .i64 a ∧ -1 ≤ a ∧ a < f ∧ f ≤ n ∧ wv = .slice wo L.length wc ∧ way ns rs n a0 = way ns rs f a ++ L ∧ S.RowI w.heap.size wo wc L wx ∧ Below V.heap.size V wx) (fun at' _ _ => (intOf at' + 1).toNat)
      case atStart => exact ⟨n, a0, none, 0, [], rfl, hix.1, hix.2, Nat.le_refl _, rfl, by simp, S.RowI.nil _ _, Below.refl _ _⟩
      case round =>
        obtain ⟨f, a, wo, wc, L, rfl, ha1, ha2, hf, rfl, hL, hR, hB⟩ := hrel
        have hll : Hid (L.length ≤ n) := by have := hwl.out n a0; rw [hL, List.length_append] at this; show _ ≤ _; omega
        by_cases h0 : 0 ≤ a
        · obtain ⟨k, rfl⟩ : ∃ k : Nat, a = (k : Int) := ⟨a.toNat, by omega⟩
          obtain ⟨f', rfl⟩ : ∃ f', f = f' + 1 := ⟨f - 1, by omega⟩
          have hkn : k < n := by omega
          have hkn' : (k : Int) < (n : Int) := by omega
          obtain ⟨q, hq⟩ : ∃ q, ns[k]? = some q := ⟨_, List.getElem?_eq_getElem (by have := V1.out.1; omega)⟩
          obtain ⟨r, hr⟩ : ∃ r, rs[k]? = some r := ⟨_, List.getElem?_eq_getElem (by have := hrl.out; omega)⟩
          obtain ⟨nb, off, rfl, _, d1⟩ := (V1.out.2.1.below hB).at hq
          obtain ⟨rb, off2, rfl, hrb, d2⟩ := V1.out.2.2.1.at hr
          have c0 := (hB.cell (p := ⟨mb, 0, none⟩) hml).trans m0
          have hst := way_step (f := f') hq hr
          have hrr := hrlt.out k r hr
          have HE := hide' (And.intro hL (And.intro hR (And.intro hB (And.intro hst hrr))))
          have hnone : Hid (wo = none → L.length = 0 ∧ wc = 0) := fun e => by
            rcases hR.form with ⟨_, e1, e2⟩ | ⟨g, e', _⟩
            · rw [e1]; exact ⟨rfl, e2⟩
            · rw [e] at e'; cases e'
          have hI := hide' hR.ints
          clear hL hR hst hrr
          go_wp2_with (at_builtin; refine S.wpList_appT _ (by rfl) _ _ rfl q wo wc L.length L rfl rfl rfl hI.out hnone.out (by have := hll.out; have := hnb.out; show _ < _; omega) ?_; intro g c w2 r2 b2; have E2 := hide' (And.intro r2 b2); have c1 := ((HE.out.2.2.1.trans (b2.mono HE.out.2.2.1.size)).cell (p := ⟨mb, 1, none⟩) hml).trans m1; have d3 := ((HE.out.2.2.1.trans (b2.mono HE.out.2.2.1.size)).cell (p := ⟨rb, off2 + k, none⟩) hrb).trans d2; clear r2 b2)
          refine ⟨⟨f', r, some ⟨g, 0, none⟩, c, q :: L, rfl, HE.out.2.2.2.2.1, by have := HE.out.2.2.2.2.2; omega, by omega, rfl, ?_, E2.out.1.mono (Nat.le_trans V1.out.2.2.2.size HE.out.2.2.1.size), HE.out.2.2.1.trans (E2.out.2.mono HE.out.2.2.1.size)⟩, by have := HE.out.2.2.2.2; simp [intOf]; omega⟩
          rw [HE.out.1, HE.out.2.2.2.1, List.append_assoc]; rfl
        · have h0' : ¬ 0 ≤ a := h0
          rw [way_neg _ _ _ h0, List.nil_append] at hL
          have hF := hide' (HK.out L hL.symm wo wc wr hR (V1.out.2.2.2.trans (hB.mono V1.out.2.2.2.size)))
          clear hL hR hB
          go_wp2_with fail
          go_ret
          exact hF.out
end N
end Go.Proofs.Ytmdkgiglibfihaa
