import Derived.Test.YtfeehnfpfheojaaHyB
set_option linter.unusedVariables false
set_option linter.unusedSimpArgs false
namespace Go.Proofs.Ytfeehnfpfheojaa
open Go.RowKit Go.Sort
namespace Fr
def lw (x y : Bk) : Bool := decide (x.addr < y.addr)
theorem swo : SWO lw where
  irrefl x := by simp [lw]
  trans x y z h1 h2 := by simp [lw] at *; omega
  ntrans x y z h1 h2 := by simp [lw] at *; omega
set_option maxRecDepth 100000 in
theorem lower_any (x y : Bk) (w : World) : Calls Try.prog 73 #[.agg #[.int .i64 x.addr, .int .i64 x.size, .bool x.free], .agg #[.int .i64 y.addr, .int .i64 y.size, .bool y.free]] w fun e w' => e = .returned (.bool (lw x y)) ∧ Below w.heap.size w w' := by
  have hb : ∀ o1 o2, Below w.heap.size w ((w.alloc o1).alloc o2) := fun o1 o2 => ((Below.refl _ _).alloc (Nat.le_refl _) _).alloc (by simp) _
  unfold lw
  go_enter Try.func73, Try.ntmps73
  go_wp2
  go_ret
  exact ⟨rfl, hb _ _⟩
theorem less : HB.Less 73 #[] lw (fun _ => False) (fun _ => True) where
  enters := Try.call73
  call x y w _ := lower_any x y w
  stay _ _ _ _ _ _ := trivial
  old _ _ _ q := q.elim
def fv : Value := .func (.func 73) #[] #[]
/-- the free pieces, lowest first -/
def Fr (D : Nat → Prop) (B h : Nat) (F : List Bk) (cnt : Nat) (w : World) : Prop := ∃ zs, HB.Ho D B h fv zs cnt w ∧ (zs.map (·.1)).Perm F ∧ Hp.Heap (Hp.ahd lw) zs
def FTo (D : Nat → Prop) (B h : Nat) (F : List Bk) (cnt : Nat) (w w' : World) : Prop := ∃ D', Fr D' B h F cnt w' ∧ Turn D w w' ∧ ∀ j, D' j → D j ∨ w.heap.size ≤ j
def Srt (F : List Bk) : Prop := F.Pairwise (fun x y => x.addr < y.addr)
variable {D : Nat → Prop} {B h : Nat} {F : List Bk} {cnt : Nat} {w w' : World}
theorem Fr.lo (H : Fr D B h F cnt w) {j : Nat} (hj : D j) : B ≤ j ∧ j < w.heap.size := by
  obtain ⟨zs, h1, _⟩ := H
  exact h1.lo hj
theorem Fr.base (H : Fr D B h F cnt w) : B ≤ w.heap.size := by
  obtain ⟨zs, h1, _⟩ := H
  exact h1.base
theorem Fr.kept {S : Nat → Prop} (H : Fr D B h F cnt w) (t : Turn S w w') (hn : ∀ j, D j → ¬ S j) : Fr D B h F cnt w' := by
  obtain ⟨zs, h1, h2⟩ := H
  exact ⟨zs, h1.kept t hn, h2⟩
theorem Fr.below (H : Fr D B h F cnt w) (t : Below w.heap.size w w') : Fr D B h F cnt w' := H.kept (turn_below (S := fun _ => False) t) (fun _ _ q => q)
theorem Fr.kind (H : Fr D B h F cnt w) {j : Nat} (hj : D j) : ∃ c t, w.heap[j]? = some (.cells c t (0, 0)) ∧ (t = 158 ∨ t = 165) := by
  obtain ⟨zs, ⟨ao, cap, hm, hd⟩, _⟩ := H
  rcases (hd j).1 hj with rfl | ⟨a, rfl, rfl⟩
  · exact ⟨_, _, hm.hh, .inl rfl⟩
  · rcases hm.row.2 with ⟨hv, _⟩ | ⟨g', cap', cur, hv, hb, hg', _⟩
    · cases hv
    · simp only [Value.slice.injEq, Option.some.injEq] at hv
      obtain ⟨rfl, _, _⟩ := hv
      exact ⟨_, _, hg', .inr rfl⟩
theorem Fr.not (H : Fr D B h F cnt w) {b : Nat} {c : Array Value} {t : TypeId} {r : Nat × Nat} (hb : w.heap[b]? = some (.cells c t r)) (h1 : t ≠ 158) (h2 : t ≠ 165) : ¬ D b := by
  intro q
  obtain ⟨c', t', e, ht⟩ := H.kind q
  rw [hb] at e
  cases e
  rcases ht with rfl | rfl
  · exact h1 rfl
  · exact h2 rfl
theorem FTo.refl (H : Fr D B h F cnt w) : FTo D B h F cnt w w := ⟨D, H, Turn.refl _ _, fun _ q => .inl q⟩
theorem FTo.below (H : Fr D B h F cnt w) (t : Below w.heap.size w w') : FTo D B h F cnt w w' := ⟨D, H.below t, turn_below t, fun _ q => .inl q⟩
theorem FTo.trans {F1 F2 : List Bk} {c1 c2 : Nat} {w1 w2 : World} (h1 : FTo D B h F1 c1 w w1) (k : ∀ D1, Fr D1 B h F1 c1 w1 → FTo D1 B h F2 c2 w1 w2) : FTo D B h F2 c2 w w2 := by
  obtain ⟨D1, f1, t1, s1⟩ := h1
  obtain ⟨D2, f2, t2, s2⟩ := k D1 f1
  refine ⟨D2, f2, t1.then t2 (fun i hi q => by rcases s1 i q with q | q; exact q; omega), fun j hj => ?_⟩
  rcases s2 j hj with q | q
  · exact s1 j q
  · exact .inr (Nat.le_trans t1.size q)
/-- one more world in which other blocks than the heap's have turned -/
theorem FTo.more {F1 : List Bk} {c1 : Nat} {w1 w2 : World} {S : Nat → Prop} (h1 : FTo D B h F1 c1 w w1) (t : Turn S w1 w2) (hS : ∀ j, S j → w.heap.size ≤ j) (hn : ∀ D1 j, Fr D1 B h F1 c1 w1 → D1 j → ¬ S j) : FTo D B h F1 c1 w w2 := by
  obtain ⟨D1, f1, t1, s1⟩ := h1
  exact ⟨D1, f1.kept t (fun j hj => hn D1 j f1 hj), t1.then t (fun i hi q => by have := hS i q; omega), s1⟩
set_option maxRecDepth 100000 in
theorem push_any (x : Bk) {F' : List Bk} (H : Fr D B h F cnt w) (hp : F'.Perm (x :: F)) (hl : F.length < 1099511627776) (hc : cnt < 4611686018427387904) :
    Calls Try.prog 94 #[.pointer (some ⟨h, 0, none⟩), .agg #[.int .i64 x.addr, .int .i64 x.size, .bool x.free]] w fun e w' => e = .returned (.tuple #[]) ∧ FTo D B h F' (cnt + 1) w w' := by
  obtain ⟨zs, h1, h2, h3⟩ := H
  have hlen : zs.length = F.length := by have := h2.length_eq; simpa using this
  refine (HB.push_any less x h1 trivial (fun _ q => q.elim) (by omega) hc).mono ?_
  rintro e w' ⟨he, zs', p, hh, D', ho, t, hs⟩
  refine ⟨he, D', ⟨zs', ho, ?_, hh swo h3⟩, t, hs⟩
  have p1 := p.map (·.1)
  rw [List.map_append] at p1
  refine p1.trans (List.Perm.trans ?_ hp.symm)
  exact (List.perm_append_singleton x _).trans (h2.cons x)
theorem head {b : Bk} {F : List Bk} {zs : List (Bk × Nat)} (h2 : (zs.map (·.1)).Perm (b :: F)) (h3 : Hp.Heap (Hp.ahd lw) zs) (hs : Srt (b :: F)) : ∃ z, zs[0]? = some z ∧ z.1 = b := by
  have hlen : zs.length = F.length + 1 := by have := h2.length_eq; simpa using this
  refine ⟨zs[0]'(by omega), List.getElem?_eq_getElem (by omega), ?_⟩
  have hz0 : zs[0]? = some (zs[0]'(by omega)) := List.getElem?_eq_getElem (by omega)
  have hmem : (zs[0]'(by omega)).1 ∈ b :: F := h2.mem_iff.1 (List.mem_map_of_mem (List.getElem_mem _))
  rcases List.mem_cons.1 hmem with e | hm
  · exact e
  · have lt1 := (List.pairwise_cons.1 hs).1 _ hm
    have hb : b ∈ zs.map (·.1) := h2.mem_iff.2 (List.mem_cons_self)
    obtain ⟨y, hy, rfl⟩ := List.mem_map.1 hb
    obtain ⟨i, hi⟩ := List.mem_iff_getElem?.1 hy
    have := h3.root (Hp.swo_ahd swo) i y _ hi hz0
    have a : Hp.ahd lw y (zs[0]'(by omega)) = true := (Hp.ahd_iff swo _ _).2 (.inl (decide_eq_true lt1))
    rw [a] at this
    cases this
theorem pop_none (H : Fr D B h [] cnt w) : Calls Try.prog 98 #[.pointer (some ⟨h, 0, none⟩)] w fun e w' => e = .returned (.tuple #[.agg #[.int .i64 0, .int .i64 0, .bool false], .bool false]) ∧ Below w.heap.size w w' := by
  obtain ⟨zs, h1, h2, h3⟩ := H
  have : zs = [] := by have := h2.length_eq; simpa using this
  subst this
  exact HB.pop_none h1
theorem peek_none (H : Fr D B h [] cnt w) : Calls Try.prog 99 #[.pointer (some ⟨h, 0, none⟩)] w fun e w' => e = .returned (.tuple #[.agg #[.int .i64 0, .int .i64 0, .bool false], .bool false]) ∧ Below w.heap.size w w' := by
  obtain ⟨zs, h1, h2, h3⟩ := H
  have : zs = [] := by have := h2.length_eq; simpa using this
  subst this
  exact HB.peek_none h1
theorem peek_some {b : Bk} (H : Fr D B h (b :: F) cnt w) (hs : Srt (b :: F)) : Calls Try.prog 99 #[.pointer (some ⟨h, 0, none⟩)] w fun e w' => e = .returned (.tuple #[.agg #[.int .i64 b.addr, .int .i64 b.size, .bool b.free], .bool true]) ∧ Below w.heap.size w w' := by
  obtain ⟨zs, h1, h2, h3⟩ := H
  obtain ⟨z, hz, rfl⟩ := head h2 h3 hs
  exact HB.peek_some h1 hz
theorem pop_some {b : Bk} (H : Fr D B h (b :: F) cnt w) (hs : Srt (b :: F)) (hl : F.length < 1099511627776) : Calls Try.prog 98 #[.pointer (some ⟨h, 0, none⟩)] w fun e w' => e = .returned (.tuple #[.agg #[.int .i64 b.addr, .int .i64 b.size, .bool b.free], .bool true]) ∧ FTo D B h F cnt w w' := by
  obtain ⟨zs, h1, h2, h3⟩ := H
  obtain ⟨z, hz, rfl⟩ := head h2 h3 hs
  have hlen : zs.length = F.length + 1 := by have := h2.length_eq; simpa using this
  refine (HB.pop_some less h1 trivial (fun _ q => q.elim) hlen hz (by omega)).mono ?_
  rintro e w' ⟨he, zs', p, hh, D', ho, t, hss⟩
  refine ⟨he, D', ⟨zs', ho, ?_, hh swo h3⟩, t, hss⟩
  have p1 := p.map (·.1)
  exact List.Perm.cons_inv (p1.trans h2)
end Fr
end Go.Proofs.Ytfeehnfpfheojaa
