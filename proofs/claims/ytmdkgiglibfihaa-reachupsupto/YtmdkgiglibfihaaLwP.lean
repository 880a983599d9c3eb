import Derived.Test.YtmdkgiglibfihaaAsk
set_option linter.unusedVariables false
set_option linter.unusedSimpArgs false
namespace Go.Proofs.Ytmdkgiglibfihaa
open Go.RowKit Go.Maps
namespace I
/-- append of one number: and what was there stays -/
theorem wpList_app1k (w0 : World) {ops : Array Oper} {rest : List Oper} {o : Oper} {a : Act} {Q : Exit → Act → World → Prop} (hgd : o.guard = none) (s x : Operand)
    (ho : o.op = .call { callee := .builtin .append, args := #[s, x], argTypes := #[43, 43] }) (B : Nat) (ao : Option Addr) (cap n : Nat) (zs : List Int) (k : Int) (t : TypeId) (c : Nat) (hzn : Hid (zs.length = n)) (hs : a.eval s = .slice ao n cap) (hrow : RowI B ao cap zs w0)
    (hx : a.eval x = .slice (some ⟨w0.heap.size, 0, none⟩) 1 c) (hb : Hid (zs.length < 4398046511104)) (hB : B ≤ w0.heap.size)
    (h : ∀ g cap' w', RowI B (some ⟨g, 0, none⟩) cap' (zs ++ [k]) w' → Turn (At ao) w0 w' → (ao = some ⟨g, 0, none⟩ ∨ w0.heap.size ≤ g) → Ints ao zs w' → wpList Try.prog ops Q rest (a.put o.dst (.slice (some ⟨g, 0, none⟩) (n + 1) cap')) w') :
    wpList Try.prog ops Q (o :: rest) a (w0.alloc (.cells #[.int .i64 k] t)) := by
  obtain ⟨i0, hi, hz0, hz1, hz2⟩ := info_parts infoE
  have hzn' := hzn.out
  subst hzn'
  rcases Nat.lt_or_ge cap (zs.length + 1) with hcap | hcap
  · have hi0 := hrow.ints.alloc (.cells #[.int .i64 k] t)
    refine wpList_append_grows _ hgd s x 43 ho 3 i0 (.int .i64 0) 1 8 Try.underlying43 hi hz0 hz1 hz2 rfl (by decide) ao zs.length cap (zs.flatMap cells) hs (fun e => ?_) (by rw [flat_len, Nat.mul_one]) (fun ad q j u hj => ?_) ⟨w0.heap.size, 0, none⟩ 1 c [.int .i64 k] hx rfl (cell_one_new _ _ _) (by simp [Value.oneCell']) hcap (by have := hb.out; unfold maxLen; omega) (by have := hb.out; omega) ?_
    · rcases hrow.form with ⟨_, e1, e2⟩ | ⟨g, e', _⟩
      · rw [e1]; exact ⟨rfl, e2⟩
      · rw [e] at e'; cases e'
    · rw [flat_at] at hj
      cases hk : zs[j]? with
      | none => rw [hk] at hj; cases hj
      | some k' =>
        rw [hk] at hj
        obtain ⟨b, off, e, _, hc⟩ := hi0.at hk
        rw [q] at e; cases e
        rw [add_off, hc]; exact hj
    · intro v' w' r hg
      have r' : w'.ownsRow (w0.heap.size + 1) 3 1 v' (zs.length + 1) ((zs ++ [k]).flatMap cells) := by rw [List.flatMap_append]; simpa [cells] using r
      obtain ⟨g, cap', rfl, hg1, hg2⟩ := World.ownsRow.form r' (by omega)
      have t0 : Turn (fun _ => False) w0 w' := ((Turn.refl (fun _ => False) w0).alloc _).grown hg (fun j hj _ => by cases hj)
      refine h g cap' w' ?_ (t0.mono (fun _ _ q => q.elim)) (.inr (by omega)) (hrow.ints.turn t0 (fun _ _ _ _ q => q))
      have : RowI (w0.heap.size + 1) (some ⟨g, 0, none⟩) cap' (zs ++ [k]) w' := by unfold RowI; rw [List.length_append]; exact r'
      exact this.mono (by omega)
  · rcases hrow.form with ⟨_, e1, e2⟩ | ⟨g, rfl, hgB, hgl, _⟩
    · rw [e2] at hcap; omega
    · refine wpList_append_fits _ hgd s x 43 ho B 3 i0 1 Try.underlying43 hi hz1 g zs.length cap (zs.flatMap cells) hs (World.ownsRow.alloc hrow _) ⟨w0.heap.size, 0, none⟩ 1 c [.int .i64 k] hx rfl (cell_one_new _ _ _) (by simp [Value.oneCell']) hcap ?_
      intro w' r hg
      have r' : RowI B (some ⟨g, 0, none⟩) cap (zs ++ [k]) w' := by unfold RowI; rw [List.length_append, List.flatMap_append]; simpa [cells] using r
      exact h g cap w' r' (((Turn.refl _ w0).alloc _).grown hg (fun j hj _ => by cases hj; exact ⟨_, rfl, rfl⟩)) (.inl rfl) r'.ints.left
/-- the law's next, where others were asked before -/
theorem ask_nxt2 (L0 : List Int) (ab tb : Nat) (to : Option Addr) (tcap R C B : Nat) (tbl : List (List Int)) (u : List Int) (hab : ab < B) (htb : tb < B) (hne : ab ≠ tb) (hC : C ≤ B) (hRa : ¬ (R ≤ ab ∧ ab < C)) (hlen : Hid (L0.length + u.length < 4398046511104)) :
    Nxt 29 #[.pointer (some ⟨ab, 0, none⟩), .pointer (some ⟨tb, 0, none⟩)] (nx tbl) u B (fun j => j = ab) (fun pre => Asks ab tb to tcap R C tbl (L0 ++ pre)) where
  enters := Try.call29
  low := fun j q => by rw [q]; exact hab
  lt := fun pre ag w h => (ask_nxt ab tb to tcap R C B tbl u hab htb hne hC hRa (by have := hlen.out; show _ < _; omega)).lt (L0 ++ pre) ag w h
  keep := fun pre ag wx wy S h t hS => (ask_nxt ab tb to tcap R C B tbl u hab htb hne hC hRa (by have := hlen.out; show _ < _; omega)).keep (L0 ++ pre) ag wx wy S h t hS
  call := fun pre ag k wx hk h hB hp => (ask_any ab tb to tcap R C B tbl (L0 ++ pre) ag k wx h hab htb hne hC hRa hB (by have := hlen.out; show _ < _; simp; omega)).mono (fun e w' hh => by
    obtain ⟨to', tc, ag', h1, h2, h3, h4, h5⟩ := hh
    exact ⟨to', tc, ag', h1, h2, h3, by rw [List.append_assoc] at h4; exact h4, h5⟩)
theorem st_lone (fr : List Int) (n : Nat) : Bf.st (nx []) fr n = Bf.add [] fr := by
  have hnx : ∀ k, nx [] k = [] := fun k => by unfold nx; split <;> simp
  induction n with
  | zero => rfl
  | succ n ih =>
    cases h : (Bf.st (nx []) fr n)[n]? with
    | some k => rw [Bf.st_some h, hnx, Bf.add_nil, ih]
    | none => rw [Bf.st_none h, ih]
/-- all numbers that may come -/
def uni (fr : List Int) (tbl : List (List Int)) : List Int := fr ++ tbl.flatten
theorem uni_from {fr : List Int} {tbl : List (List Int)} : ∀ k ∈ fr, k ∈ uni fr tbl := fun k h => List.mem_append_left _ h
theorem nx_mem {tbl : List (List Int)} {k j : Int} (h : j ∈ nx tbl k) : ∃ row ∈ tbl, j ∈ row ∧ nx tbl k = row := by
  unfold nx at h ⊢
  split at h
  · rename_i hk
    cases q : tbl[k.toNat]? with
    | none => rw [q] at h; simp at h
    | some row => rw [q] at h; exact ⟨row, List.mem_of_getElem? q, by simpa using h, by rw [if_pos hk]; rfl⟩
  · simp at h
theorem uni_next {fr : List Int} {tbl : List (List Int)} : ∀ k ∈ uni fr tbl, ∀ j ∈ nx tbl k, j ∈ uni fr tbl := fun k _ j h => by
  obtain ⟨row, h1, h2, _⟩ := nx_mem h
  exact List.mem_append_right _ (List.mem_flatten.2 ⟨row, h1, h2⟩)
theorem nx_len (tbl : List (List Int)) (k : Int) (m : Nat) (h : ∀ row ∈ tbl, row.length ≤ m) : (nx tbl k).length ≤ m := by
  cases hq : nx tbl k with
  | nil => simp
  | cons j r =>
    obtain ⟨row, h1, h2, h3⟩ := nx_mem (show j ∈ nx tbl k by rw [hq]; simp)
    rw [← hq, h3]; exact h row h1
def Apart (a b : Option Addr) : Prop := ∀ j, At a j → ¬ At b j
theorem apart_of {a b : Option Addr} (h : ∀ x y, a = some x → b = some y → x.block ≠ y.block) : Apart a b := by
  rintro j ⟨x, e1, rfl⟩ ⟨y, e2, q⟩
  exact h x y e1 e2 q
end I
end Go.Proofs.Ytmdkgiglibfihaa
