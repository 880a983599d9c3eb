import Derived.Test.YtmdkgiglibfihaaWbW
set_option linter.unusedVariables false
set_option linter.unusedSimpArgs false
namespace Go.Proofs.Ytmdkgiglibfihaa
open Go.RowKit Go.Maps
namespace W
/-- the next ones of a number -/
def nxI (rs : List R3) (k : Int) : List Int := if 0 ≤ k then ((rs[k.toNat]?).map (·.2.2)).getD [] else []
theorem nxI_at {rs : List R3} {i : Nat} {r : R3} (h : rs[i]? = some r) : nxI rs (i : Int) = r.2.2 := by
  unfold nxI; rw [if_pos (by omega), Int.toNat_natCast, h]; rfl
def nums (n : Nat) : List Int := (List.range n).map (fun (i : Nat) => (i : Int))
theorem mem_nums {n : Nat} {k : Int} : k ∈ nums n ↔ ∃ i, i < n ∧ k = (i : Int) := by
  unfold nums
  simp only [List.mem_map, List.mem_range]
  constructor
  · rintro ⟨i, h, rfl⟩; exact ⟨i, h, rfl⟩
  · rintro ⟨i, h, rfl⟩; exact ⟨i, h, rfl⟩
theorem nums_len (n : Nat) : (nums n).length = n := by simp [nums]
/-- what a row of a web has -/
theorem Adj.row {ps : List K2} {zs : List ByteArray} {rs : List R3} (h : Adj ps zs rs) {i : Nat} (hi : i < zs.length) : ∃ z r, zs[i]? = some z ∧ rs[i]? = some r ∧ r.2.2 = (N.nxt ps z).map (fun y => (ix zs y : Int)) ∧ nxI rs (i : Int) = r.2.2 := by
  obtain ⟨z, hz⟩ : ∃ z, zs[i]? = some z := ⟨_, List.getElem?_eq_getElem hi⟩
  obtain ⟨r, hr⟩ : ∃ r, rs[i]? = some r := ⟨_, List.getElem?_eq_getElem (by rw [h.2.1]; exact hi)⟩
  exact ⟨z, r, hz, hr, h.2.2.2 i z r hz hr, nxI_at hr⟩
theorem Adj.closed {ps : List K2} {zs : List ByteArray} {rs : List R3} (h : Adj ps zs rs) : ∀ k ∈ nums zs.length, ∀ j ∈ nxI rs k, j ∈ nums zs.length := by
  intro k hk j hj
  obtain ⟨i, hi, rfl⟩ := mem_nums.1 hk
  obtain ⟨z, r, hz, hr, e, e2⟩ := h.row hi
  rw [e2, e] at hj
  obtain ⟨y, hy, rfl⟩ := List.mem_map.1 hj
  obtain ⟨p, hp, _, rfl⟩ := N.nxt_mem hy
  exact mem_nums.2 ⟨_, ix_lt (h.2.2.1 p hp).2, rfl⟩
theorem Adj.len {ps : List K2} {zs : List ByteArray} {rs : List R3} (h : Adj ps zs rs) : ∀ k ∈ nums zs.length, (nxI rs k).length ≤ ps.length := by
  intro k hk
  obtain ⟨i, hi, rfl⟩ := mem_nums.1 hk
  obtain ⟨z, r, hz, hr, e, e2⟩ := h.row hi
  rw [e2, e, List.length_map]; exact N.nxt_len ps z
/-- a number's name -/
def nam (zs : List ByteArray) (k : Int) : ByteArray := (zs[k.toNat]?).getD ByteArray.empty
theorem nam_ix {zs : List ByteArray} {y : ByteArray} (h : y ∈ zs) : nam zs (ix zs y : Int) = y := by unfold nam; rw [Int.toNat_natCast, ix_at h]; rfl
theorem st_names {ps : List K2} {zs : List ByteArray} {rs : List R3} (h : Adj ps zs rs) {x : ByteArray} (hx : x ∈ zs) (n : Nat) : (Bf.st (nxI rs) [(ix zs x : Int)] n).map (nam zs) = Bf.st (N.nxt ps) [x] n := by
  have := Bf.st_map (f := nam zs) (u := nums zs.length) (fr := [(ix zs x : Int)]) (F := nxI rs) (G := N.nxt ps) (fun a ha b hb e => ?_) (fun k hk => by simp at hk; subst hk; exact mem_nums.2 ⟨_, ix_lt hx, rfl⟩) h.closed (fun k hk => ?_) n
  · rw [this]; simp only [List.map_cons, List.map_nil, nam_ix hx]
  · obtain ⟨i, hi, rfl⟩ := mem_nums.1 ha
    obtain ⟨j, hj, rfl⟩ := mem_nums.1 hb
    obtain ⟨z, r, hz, _⟩ := h.row hi
    obtain ⟨z', r', hz', _⟩ := h.row hj
    unfold nam at e
    rw [Int.toNat_natCast, Int.toNat_natCast, hz, hz'] at e
    have e' : z = z' := e
    subst e'
    rw [← ix_of h.1 hz, ← ix_of h.1 hz']
  · obtain ⟨i, hi, rfl⟩ := mem_nums.1 hk
    obtain ⟨z, r, hz, hr, e, e2⟩ := h.row hi
    have en : nam zs (i : Int) = z := by unfold nam; rw [Int.toNat_natCast, hz]; rfl
    rw [en, e2, e, List.map_map]
    conv => lhs; rw [← List.map_id (N.nxt ps z)]
    refine List.map_congr_left (fun y hy => ?_)
    obtain ⟨p, hp, _, rfl⟩ := N.nxt_mem hy
    exact (nam_ix (h.2.2.1 p hp).2).symm
/-- what up's closure needs -/
def Ou (bx B x bm : Nat) (no : Option Addr) (ncap : Nat) (xo : Option Addr) (xcap : Nat) (zs : List ByteArray) (rs : List R3) (C : Nat) (ag : Option Nat) (w : World) : Prop := ag = none ∧ w.heap[bx]? = some (.cells #[.pointer (some ⟨x, 0, none⟩)] 70 (0, 0)) ∧ bx < C ∧ Wb B x bm no ncap xo xcap zs rs w ∧ (∀ j, Own x bm no xo rs j → j < C) ∧ C ≤ w.heap.size
set_option maxRecDepth 100000 in
set_option maxHeartbeats 2000000 in
theorem cl61 (bx B x bm : Nat) (no : Option Addr) (ncap : Nat) (xo : Option Addr) (xcap : Nat) (zs : List ByteArray) (rs : List R3) (i : Nat) (r : R3) (w : World) (hb : w.heap[bx]? = some (.cells #[.pointer (some ⟨x, 0, none⟩)] 70 (0, 0))) (h : Wb B x bm no ncap xo xcap zs rs w) (hr : rs[i]? = some r) (hl : Hid (zs.length ≤ 1073741824)) :
    Calls Try.prog 61 #[.int .i64 (i : Int), .pointer (some ⟨bx, 0, none⟩)] w fun e w' => e = .returned (.slice r.1 r.2.2.length r.2.1) ∧ w' = w := by
  have cb : w.cell? ⟨bx, 0, none⟩ = some (.pointer (some ⟨x, 0, none⟩)) := by rw [Lib.cell_of_heap hb]; rfl
  have c2 := h.c2
  obtain ⟨xg, rfl, xcell, hxc, hxB, hxl, xfz⟩ := row43_at h.row (i := i) (v := val r) (by rw [List.getElem?_map, hr]; rfl) (by simp [h.len])
  unfold val at xcell
  have hil : i < zs.length := by rw [← h.len]; exact (List.getElem?_eq_some_iff.1 hr).1
  have hil' : (i : Int) < (zs.length : Int) := by omega
  have hz64 : (zs.length : Int) ≤ 1073741824 := by have := hl.out; omega
  clear h hb
  go_enter Try.func61, Try.ntmps61
  go_wp2
  go_ret
  exact ⟨rfl, rfl⟩
theorem nxtU (bx B x bm : Nat) (no : Option Addr) (ncap : Nat) (xo : Option Addr) (xcap : Nat) (ps : List K2) (zs : List ByteArray) (rs : List R3) (C : Nat) (ha : Adj ps zs rs) (hl : Hid (zs.length ≤ 1073741824)) : I.Nxt 61 #[.pointer (some ⟨bx, 0, none⟩)] (nxI rs) (nums zs.length) C (fun _ => False) (fun _ ag w => Ou bx B x bm no ncap xo xcap zs rs C ag w) where
  enters := Try.call61
  low := fun _ q => q.elim
  lt := fun pre ag w h j e => by rw [h.1] at e; cases e
  keep := fun pre ag wx wy T h t hS => by
    obtain ⟨h1, h2, h3, h4, h5, h6⟩ := h
    refine ⟨h1, (t.block bx (lt_of_heap h2) (fun q => ?_)).trans h2, h3, h4.turn t (fun j q s => ?_), h5, Nat.le_trans h6 t.size⟩
    · have := (hS bx (lt_of_heap h2) q).1; omega
    · have := (hS j (h4.own j q).2 s).1; have := h5 j q; omega
  call := fun pre ag k wx hk h hB hp => by
    obtain ⟨h1, h2, h3, h4, h5, h6⟩ := h
    obtain ⟨i, hi, rfl⟩ := mem_nums.1 hk
    obtain ⟨z, r, hz, hr, e, e2⟩ := ha.row hi
    refine (cl61 bx B x bm no ncap xo xcap zs rs i r wx h2 h4 hr hl).mono ?_
    rintro e w' ⟨rfl, rfl⟩
    unfold I.NextIs
    rw [e2]
    exact ⟨r.1, r.2.1, ag, rfl, (h4.each i r hr).cap, (h4.each i r hr).ints, ⟨h1, h2, h3, h4, h5, h6⟩, Turn.refl _ _, .inl rfl, fun _ b off e => .inl (h5 b (.inr (.inr (.inr (.inr ⟨i, r, hr, ⟨_, e, rfl⟩⟩)))))⟩
/-- what up tells -/
def UpNIs (rs : List R3) (i0 : Nat) (w : World) (e : Ending) (w' : World) : Prop := ∃ n ao cap, (Bf.st (nxI rs) [(i0 : Int)] n).length = n ∧ e = .returned (.slice ao n cap) ∧ I.RowI w.heap.size ao cap (Bf.st (nxI rs) [(i0 : Int)] n) w' ∧ Below w.heap.size w w'
set_option maxRecDepth 100000 in
set_option maxHeartbeats 2000000 in
theorem upN_any (B x bm : Nat) (no : Option Addr) (ncap : Nat) (xo : Option Addr) (xcap : Nat) (ps : List K2) (zs : List ByteArray) (rs : List R3) (i0 : Nat) (w : World) (h : Wb B x bm no ncap xo xcap zs rs w) (ha : Adj ps zs rs) (hi : i0 < zs.length) (hl : Hid (zs.length ≤ 2097154 ∧ ps.length ≤ 1048576)) :
    Calls Try.prog 47 #[.pointer (some ⟨x, 0, none⟩), .int .i64 (i0 : Int)] w fun e w' => UpNIs rs i0 w e w' := by
  have hmf : ∀ (fn : Fn) (first cap : Array Value) (w : World), (Instr.makeFunc fn first cap).run Try.prog w = .ok (.func fn first cap) w := fun _ _ _ _ => rfl
  have HC : Hid (Calls Try.prog 30 #[.slice (some ⟨w.heap.size + 1, 0, none⟩) 1 1, .func (.func 61) #[] #[.pointer (some ⟨w.heap.size, 0, none⟩)]] ((w.alloc (.cells #[.pointer (some ⟨x, 0, none⟩)] 70)).alloc (.cells #[.int .i64 (i0 : Int)] 3)) fun e w' => UpNIs rs i0 w e w') := by
    have s2 : ((w.alloc (.cells #[.pointer (some ⟨x, 0, none⟩)] 70)).alloc (.cells #[.int .i64 (i0 : Int)] 3)).heap.size = w.heap.size + 2 := by simp
    have b2 : Below w.heap.size w ((w.alloc (.cells #[.pointer (some ⟨x, 0, none⟩)] 70)).alloc (.cells #[.int .i64 (i0 : Int)] 3)) := ((Below.refl _ _).alloc (Nat.le_refl _) _).alloc (by simp) _
    have hbb : ((w.alloc (.cells #[.pointer (some ⟨x, 0, none⟩)] 70)).alloc (.cells #[.int .i64 (i0 : Int)] 3)).heap[w.heap.size]? = some (.cells #[.pointer (some ⟨x, 0, none⟩)] 70 (0, 0)) := (Below.heap_alloc _ _ _ (by simp)).trans (heap_alloc_new w _)
    have hf : I.Ints (some ⟨w.heap.size + 1, 0, none⟩) [(i0 : Int)] ((w.alloc (.cells #[.pointer (some ⟨x, 0, none⟩)] 70)).alloc (.cells #[.int .i64 (i0 : Int)] 3)) := by
      have e := heap_alloc_new (w.alloc (.cells #[.pointer (some ⟨x, 0, none⟩)] 70)) (.cells #[.int .i64 (i0 : Int)] 3)
      rw [show (w.alloc (.cells #[.pointer (some ⟨x, 0, none⟩)] 70)).heap.size = w.heap.size + 1 by simp] at e
      refine .inr ⟨w.heap.size + 1, 0, rfl, by omega, fun i k q => ?_⟩
      cases i with
      | succ i => simp at q
      | zero => simp at q; subst q; rw [Lib.cell_of_heap e]; rfl
    have hok : ∀ k ∈ nums zs.length, I.okk k := fun k hk => by
      obtain ⟨i, hi', rfl⟩ := mem_nums.1 hk
      exact WalkArith.wf_i64 (by have := hl.out.1; omega)
    refine (I.close_any 61 _ (nxI rs) [(i0 : Int)] (nums zs.length) _ _ none (some ⟨w.heap.size + 1, 0, none⟩) 1 _ (nxtU w.heap.size B x bm no ncap xo xcap ps zs rs _ ha (by have := hl.out.1; show _ ≤ _; omega)) ⟨rfl, hbb, by omega, h.below b2, fun j q => by have := (h.own j q).2; omega, Nat.le_refl _⟩ hf (by simp) (fun k hk => by simp at hk; subst hk; exact mem_nums.2 ⟨_, hi, rfl⟩) ha.closed hok ⟨by simp, fun k hk => by have := ha.len k hk; have := nums_len zs.length; have := hl.out; omega⟩).mono ?_
    rintro e w' ⟨n, ao, cap, ag', hn, rfl, hr, ho, ht, hag, hq⟩
    refine ⟨n, ao, cap, hn, rfl, ?_, b2.trans ?_⟩
    · have : I.RowI (((w.alloc (.cells #[.pointer (some ⟨x, 0, none⟩)] 70)).alloc (.cells #[.int .i64 (i0 : Int)] 3)).heap.size) ao cap (Bf.st (nxI rs) [(i0 : Int)] n) w' := by unfold I.RowI; rw [hn]; exact hr
      exact this.mono (by omega)
    · exact ⟨ht.os, ht.tape, ht.output, ht.size, fun k hk => ht.block k (by omega) (fun q => by rcases q with q | q; exact q; cases q)⟩
  clear h ha hi
  go_enter Try.func47, Try.ntmps47
  go_wp2_with fail
  refine HC.out.mono ?_
  rintro e w' ⟨n, ao, cap, hn, rfl, hr, hb⟩
  have K : Hid (UpNIs rs i0 w (.returned (.slice ao n cap)) w') := ⟨n, ao, cap, hn, rfl, hr, hb⟩
  clear hn hr hb
  go_wp2_with fail
  go_ret
  exact K.out
end W
end Go.Proofs.Ytmdkgiglibfihaa
