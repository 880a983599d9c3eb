import Derived.Test.YtmdkgiglibfihaaUsH
import Derived.Test.YtmdkgiglibfihaaUpB
set_option linter.unusedVariables false
set_option linter.unusedSimpArgs false
namespace Go.Proofs.Ytmdkgiglibfihaa
open Go.RowKit Go.Maps
namespace U
/-- a name's list in a map -/
def look (us : List (ByteArray × V3)) (k : ByteArray) : V3 := ((us.find? (fun u => decide (u.1 = k))).map (·.2)).getD (0, 0, 0)
theorem look_mem {us : List (ByteArray × V3)} {k : ByteArray} (h : k ∈ us.map (·.1)) : (k, look us k) ∈ us := by
  obtain ⟨u, hu, rfl⟩ := List.mem_map.1 h
  have hs : (us.find? (fun v => decide (v.1 = u.1))).isSome = true := by rw [List.find?_isSome]; exact ⟨u, hu, by simp⟩
  obtain ⟨v, hv⟩ := Option.isSome_iff_exists.1 hs
  have h1 := List.find?_some hv
  have h2 := List.mem_of_find?_eq_some hv
  have e : v.1 = u.1 := by simpa using h1
  unfold look
  rw [hv]
  show (u.1, v.2) ∈ us
  rw [← e]; exact h2
theorem Mp.ok {bm : Nat} {us : List (ByteArray × V3)} {w : World} (h : Mp bm us w) {k : ByteArray} (hk : k ∈ us.map (·.1)) : S.okk k := by
  obtain ⟨u, hu, rfl⟩ := List.mem_map.1 hk
  exact h.oks u hu
/-- 'v, ok := m[k]' where it is there -/
theorem wpList_look_mp (w : World) {ops : Array Oper} {rest : List Oper} {o : Oper} {a : Act} {Q : Exit → Act → World → Prop} (hg : o.guard = none) (m x : Operand) (hop : o.op = Op.lookup 37 m x true) (bm : Nat) (us : List (ByteArray × V3)) (hM : Mp bm us w) (k : ByteArray) (hk : k ∈ us.map (·.1)) (hm : a.eval m = .map (some bm)) (hx : a.eval x = .string k)
    (hK : wpList Try.prog ops Q rest (a.put o.dst (.tuple #[val (look us k), .bool true])) w) : wpList Try.prog ops Q (o :: rest) a w := by
  obtain ⟨D, h1, h2, h3⟩ := hM.map
  have hok := hM.ok hk
  refine wpList_lookup_own_ok w hg m x 37 hop 9 23 S.law Try.underlying37 sE (zeroS w) (.agg []) [] rfl bm us.length D hm h1 _ _ hx (S.hkey hok) ?_
  intro v ps hv
  rw [(h2 k hok).2 _ (look_mem hk)] at hv
  rw [sE_inv hv, (h2 k hok).1, isIn_yes hk]
  exact hK
/-- 'm[k]' -/
theorem Mp.run {bm : Nat} {us : List (ByteArray × V3)} {w : World} (hM : Mp bm us w) {k : ByteArray} (hk : k ∈ us.map (·.1)) : (Instr.lookup 37 (.map (some bm)) (.string k) false).run Try.prog w = .ok (val (look us k)) w := by
  obtain ⟨D, h1, h2, h3⟩ := hM.map
  have hok := hM.ok hk
  obtain ⟨v, ps, hrun, hv⟩ := h1.lookup S.law Try.underlying37 (zeroS w) (zd := .agg []) (zp := []) rfl (S.hkey hok)
  rw [(h2 k hok).2 _ (look_mem hk)] at hv
  rw [hrun, sE_inv hv]
/-- 'len(m)' -/
theorem Mp.len {bm : Nat} {us : List (ByteArray × V3)} {w : World} (hM : Mp bm us w) (ty : TypeId) : (Builtin.len_ #[37] ty #[.map (some bm)]).run Try.prog w = .ok (.int .i64 (us.length : Int)) w := by
  obtain ⟨D, h1, h2, h3⟩ := hM.map
  rw [h1.len Try.underlying37 ty, h3]
/-- a row of slices -/
def RowV (B : Nat) (ao : Option Addr) (cap : Nat) (vs : List Value) (w : World) : Prop := w.ownsRow B 23 1 (.slice ao vs.length cap) vs.length vs
theorem RowV.nil (B : Nat) (w : World) : RowV B none 0 [] w := World.ownsRow_nil _ _ _ _
theorem RowV.form {B : Nat} {ao : Option Addr} {cap : Nat} {vs : List Value} {w : World} (h : RowV B ao cap vs w) : (ao = none ∧ vs = [] ∧ cap = 0) ∨ ∃ g, ao = some ⟨g, 0, none⟩ ∧ B ≤ g ∧ g < w.heap.size ∧ vs.length ≤ cap := by
  rcases h.2 with ⟨hv, h0⟩ | ⟨g, cap', cur, hv, hb, hg, h1, h2, h3, h4⟩
  · simp only [Value.slice.injEq] at hv
    exact .inl ⟨hv.1, List.eq_nil_of_length_eq_zero hv.2.1, hv.2.2⟩
  · simp only [Value.slice.injEq] at hv
    obtain ⟨rfl, _, rfl⟩ := hv
    exact .inr ⟨g, rfl, hb, lt_of_heap hg, by omega⟩
theorem RowV.cap {B : Nat} {ao : Option Addr} {cap : Nat} {vs : List Value} {w : World} (h : RowV B ao cap vs w) : vs.length ≤ cap := by
  rcases h.form with ⟨_, rfl, rfl⟩ | ⟨g, _, _, _, h⟩
  · simp
  · exact h
theorem RowV.turn {T : Nat → Prop} {B : Nat} {ao : Option Addr} {cap : Nat} {vs : List Value} {w w' : World} (h : RowV B ao cap vs w) (t : Turn T w w') (hn : ∀ j, W.At ao j → ¬ T j) : RowV B ao cap vs w' :=
  t.row h (fun g hg => hn g (by cases ao with | none => cases hg | some a => exact ⟨a, rfl, by simpa [Value.ownBlock] using hg.symm⟩))
theorem RowV.lt {B : Nat} {ao : Option Addr} {cap : Nat} {vs : List Value} {w : World} (h : RowV B ao cap vs w) : ∀ j, W.At ao j → B ≤ j ∧ j < w.heap.size := by
  rintro j ⟨a, rfl, rfl⟩
  rcases h.form with ⟨e, _⟩ | ⟨g, e, h1, h2, _⟩
  · cases e
  · cases e; exact ⟨h1, h2⟩
theorem RowV.at {B : Nat} {ao : Option Addr} {cap : Nat} {vs : List Value} {w : World} (h : RowV B ao cap vs w) {j : Nat} {v : Value} (hj : vs[j]? = some v) : ∃ g, ao = some ⟨g, 0, none⟩ ∧ w.cell? ⟨g, j, none⟩ = some v := by
  rcases h.2 with ⟨hv, h0⟩ | ⟨g, cap', cur, hv, hb, hg, h1, h2, h3, h4⟩
  · exfalso
    have hl := (List.getElem?_eq_some_iff.1 hj).1
    omega
  · simp only [Value.slice.injEq] at hv
    obtain ⟨rfl, _, rfl⟩ := hv
    have hl := (List.getElem?_eq_some_iff.1 hj).1
    refine ⟨g, rfl, ?_⟩
    rw [Lib.cell_of_heap hg]
    have e1 := hj
    rw [← h4, List.getElem?_take_of_lt (by omega), Array.getElem?_toList] at e1
    exact e1
theorem infoV : (Try.prog.info? 23).map (fun i => (i.zero, i.size, i.bytes)) = some (some (.slice none 0 0), 1, 24) := by kernel_rfl
/-- append of some slices that have been laid into a new block -/
theorem wpList_appV (w0 : World) {ops : Array Oper} {rest : List Oper} {o : Oper} {a : Act} {Q : Exit → Act → World → Prop} (hgd : o.guard = none) (s x : Operand)
    (ho : o.op = .call { callee := .builtin .append, args := #[s, x], argTypes := #[26, 26] }) (B : Nat) (ao : Option Addr) (cap : Nat) (vs ns : List Value) (m : Nat) (hm : ns.length = m) (hm0 : 0 < m) (h1 : ∀ u ∈ ns, u.oneCell' = true) (t : TypeId) (c : Nat) (hs : a.eval s = .slice ao vs.length cap) (hrow : RowV B ao cap vs w0)
    (hx : a.eval x = .slice (some ⟨w0.heap.size, 0, none⟩) m c) (hb : Hid (vs.length + m < 1099511627776)) (hB : B ≤ w0.heap.size)
    (h : ∀ g cap' w', RowV B (some ⟨g, 0, none⟩) cap' (vs ++ ns) w' → Turn (W.At ao) w0 w' → (ao = some ⟨g, 0, none⟩ ∨ w0.heap.size ≤ g) → wpList Try.prog ops Q rest (a.put o.dst (.slice (some ⟨g, 0, none⟩) (vs.length + m) cap')) w') :
    wpList Try.prog ops Q (o :: rest) a (w0.alloc (.cells ns.toArray t)) := by
  obtain ⟨i0, hi, hz0, hz1, hz2⟩ := info_parts infoV
  refine wpList_append_lies _ hgd s x 26 ho B 23 i0 (.slice none 0 0) 1 24 Try.underlying26 hi hz0 hz1 hz2 rfl (by decide) _ _ _ hs (World.ownsRow.alloc hrow _) ⟨w0.heap.size, 0, none⟩ m c ns hx (by omega) (fun j u hj => ?_) h1 hm0 (by have := hb.out; unfold maxLen; omega) (by have := hb.out; omega) (by simp; omega) (w0.heap.size + 1) (by simp) ?_
  · exact World.news_of_block (heap_alloc_new w0 (.cells ns.toArray t)) j u (by simpa using hj)
  intro g cap' w1 hrow1 hgrow hat hlt
  refine h g cap' w1 (by unfold RowV; rw [List.length_append, hm]; exact hrow1) (((Turn.refl _ w0).alloc _).grown hgrow (fun j hj _ => by
    cases ao with
    | none => cases hj
    | some ad => exact ⟨ad, rfl, by simpa [Value.ownBlock] using hj.symm⟩)) ?_
  rcases hat with q | q
  · cases ao with
    | none => cases q
    | some ad =>
      left
      rcases hrow.form with ⟨e, _⟩ | ⟨g', e, _⟩
      · cases e
      · cases e; simp only [Value.ownBlock, Option.some.injEq] at q; rw [q]
  · right; omega
/-- lists of two each -/
def two {α : Type} (f g : α → Value) (X : List α) : List Value := X.flatMap (fun x => [f x, g x])
theorem two_len {α : Type} (f g : α → Value) (X : List α) : (two f g X).length = 2 * X.length := by
  induction X with
  | nil => rfl
  | cons a r ih => simp [two] at ih ⊢; omega
theorem two_at {α : Type} (f g : α → Value) : ∀ (X : List α) (j : Nat) {x : α}, X[j]? = some x → (two f g X)[2 * j]? = some (f x) ∧ (two f g X)[2 * j + 1]? = some (g x)
  | [], j, x, h => by simp at h
  | a :: r, 0, x, h => by simp at h; subst h; simp [two]
  | a :: r, j + 1, x, h => by
    obtain ⟨h1, h2⟩ := two_at f g r j (x := x) (by simpa using h)
    constructor
    · rw [show 2 * (j + 1) = 2 * j + 1 + 1 by omega]; simpa [two] using h1
    · rw [show 2 * (j + 1) + 1 = 2 * j + 1 + 1 + 1 by omega]; simpa [two] using h2
def Z0 {α : Type} (_ : α) : Value := .slice none 0 0
/-- the lists in turn: one's, two's -/
def XX (us us1 us2 : List (ByteArray × V3)) : List V3 := us.flatMap (fun u => [look us1 u.1, look us2 u.1])
def YY (us : List (ByteArray × V3)) : List V3 := us.flatMap (fun u => [u.2, u.2])
def ZZ (us : List (ByteArray × V3)) : List ByteArray := us.flatMap (fun u => [u.1, u.1])
theorem pair_at {α β : Type} (f g : α → β) : ∀ (X : List α) (h : Nat) {x : α}, X[h / 2]? = some x → (X.flatMap (fun x => [f x, g x]))[h]? = some (if h % 2 = 0 then f x else g x)
  | [], h, x, e => by simp at e
  | a :: r, h, x, e => by
    rcases Nat.lt_or_ge h 2 with q | q
    · have e0 : h / 2 = 0 := by omega
      rw [e0] at e; simp at e; subst e
      rcases (by omega : h = 0 ∨ h = 1) with rfl | rfl
      · simp
      · simp
    · obtain ⟨m, rfl⟩ : ∃ m, h = m + 2 := ⟨h - 2, by omega⟩
      have e1 : (m + 2) / 2 = m / 2 + 1 := by omega
      have e2 : (m + 2) % 2 = m % 2 := by omega
      rw [e1] at e
      have := pair_at f g r m (x := x) (by simpa using e)
      rw [e2]
      simpa using this
theorem pair_len {α β : Type} (f g : α → β) (X : List α) : (X.flatMap (fun x => [f x, g x])).length = 2 * X.length := by
  induction X with
  | nil => rfl
  | cons a r ih => simp at ih ⊢; omega
end U
end Go.Proofs.Ytmdkgiglibfihaa
set_option linter.unusedVariables false
set_option linter.unusedSimpArgs false
namespace Go.Proofs.Ytmdkgiglibfihaa
open Go.RowKit Go.Maps
namespace U
theorem RowV.kind {B : Nat} {ao : Option Addr} {cap : Nat} {vs : List Value} {w : World} (h : RowV B ao cap vs w) {j : Nat} (q : W.At ao j) : ∃ cur, w.heap[j]? = some (.cells cur 23 (0, 0)) := by
  obtain ⟨a, e, rfl⟩ := q
  rcases h.2 with ⟨hv, _⟩ | ⟨g, c, cur, hv, _, hg, _⟩
  · rw [e] at hv; cases hv
  · simp only [Value.slice.injEq] at hv; rw [hv.1] at e; cases e; exact ⟨cur, hg⟩
/-- what stands when the lists are held apart -/
structure Ap (ps : List K2) (us us1 us2 : List (ByteArray × V3)) (w : World) : Prop where
  l0 : Lsts ps 0 us w
  l1 : Lsts ps 0 us1 w
  l2 : Lsts ps 0 us2 w
  n1 : ∀ k ∈ us.map (·.1), k ∈ us1.map (·.1)
  n2 : ∀ k ∈ us.map (·.1), k ∈ us2.map (·.1)
  nd : (us.map (·.1)).Nodup
  d12 : ∀ j, Ls us1 j → ¬ Ls us2 j
  d01 : ∀ j, Ls us j → ¬ Ls us1 j
  d02 : ∀ j, Ls us j → ¬ Ls us2 j
theorem Ap.turn {ps : List K2} {us us1 us2 : List (ByteArray × V3)} {w w' : World} {T : Nat → Prop} (h : Ap ps us us1 us2 w) (t : Turn T w w') (h0 : ∀ j, Ls us j → ¬ T j) (h1 : ∀ j, Ls us1 j → ¬ T j) (h2 : ∀ j, Ls us2 j → ¬ T j) : Ap ps us us1 us2 w' :=
  ⟨h.l0.turn t h0, h.l1.turn t h1, h.l2.turn t h2, h.n1, h.n2, h.nd, h.d12, h.d01, h.d02⟩
/-- the entries of the row of lists -/
def AA (X : List V3) : List L.A2 := X.flatMap (fun x => [(some ⟨x.1, 0, none⟩, x.2.2), (none, 0)])
def CC (ps : List K2) (us : List (ByteArray × V3)) (i : Nat) : List ByteArray := if i % 2 = 0 then clo ps (((ZZ us)[i / 2]?).getD ByteArray.empty) else []
section
variable {ps : List K2} {us us1 us2 : List (ByteArray × V3)} {w : World}
theorem XX_len (us us1 us2 : List (ByteArray × V3)) : (XX us us1 us2).length = 2 * us.length := pair_len _ _ us
theorem YY_len (us : List (ByteArray × V3)) : (YY us).length = 2 * us.length := pair_len _ _ us
theorem AA_len (X : List V3) : (AA X).length = 2 * X.length := pair_len _ _ X
/-- the h-th list: its name, its entry -/
theorem Ap.hth (h : Ap ps us us1 us2 w) {h' : Nat} (hh : h' < 2 * us.length) : ∃ u : ByteArray × V3, us[h' / 2]? = some u ∧ (XX us us1 us2)[h']? = some (if h' % 2 = 0 then look us1 u.1 else look us2 u.1) ∧ (YY us)[h']? = some u.2 ∧ (ZZ us)[h']? = some u.1 ∧ (u.1, look us1 u.1) ∈ us1 ∧ (u.1, look us2 u.1) ∈ us2 := by
  obtain ⟨u, hu⟩ : ∃ u, us[h' / 2]? = some u := ⟨_, List.getElem?_eq_getElem (by omega)⟩
  have hm : u.1 ∈ us.map (·.1) := List.mem_map_of_mem (List.mem_of_getElem? hu)
  refine ⟨u, hu, pair_at _ _ us h' hu, ?_, ?_, look_mem (h.n1 _ hm), look_mem (h.n2 _ hm)⟩
  · have := pair_at (fun u : ByteArray × V3 => u.2) (fun u => u.2) us h' hu
    rw [ite_self] at this
    exact this
  · have := pair_at (fun u : ByteArray × V3 => u.1) (fun u => u.1) us h' hu
    rw [ite_self] at this
    exact this
theorem Lsts.of_mem {B : Nat} (h : Lsts ps B us w) {k : ByteArray} {v : V3} (hm : (k, v) ∈ us) : v.2.1 = (clo ps k).length ∧ S.RowI B (some ⟨v.1, 0, none⟩) v.2.2 (clo ps k) w := by
  obtain ⟨i, hi⟩ := List.mem_iff_getElem?.1 hm
  exact h.each i k v.1 v.2.1 v.2.2 hi
theorem Lsts.inj {B : Nat} (h : Lsts ps B us w) {k k' : ByteArray} {v v' : V3} (hm : (k, v) ∈ us) (hm' : (k', v') ∈ us) (hne : k ≠ k') : v.1 ≠ v'.1 := by
  obtain ⟨i, hi⟩ := List.mem_iff_getElem?.1 hm
  obtain ⟨j, hj⟩ := List.mem_iff_getElem?.1 hm'
  refine h.ap i j _ _ hi hj (fun e => hne ?_)
  subst e; rw [hi] at hj; cases hj; rfl
/-- an entry of the row of lists -/
theorem Ap.ent (h : Ap ps us us1 us2 w) {i : Nat} {a : L.A2} (ha : (AA (XX us us1 us2))[i]? = some a) : (∃ (u : ByteArray × V3) (x : V3), i % 2 = 0 ∧ us[i / 2 / 2]? = some u ∧ (XX us us1 us2)[i / 2]? = some x ∧ a = (some ⟨x.1, 0, none⟩, x.2.2) ∧ CC ps us i = clo ps u.1 ∧ (((i / 2) % 2 = 0 ∧ (u.1, x) ∈ us1) ∨ ((i / 2) % 2 = 1 ∧ (u.1, x) ∈ us2))) ∨ (i % 2 = 1 ∧ a = (none, 0) ∧ CC ps us i = []) := by
  have hl := (List.getElem?_eq_some_iff.1 ha).1
  rw [AA_len, XX_len] at hl
  obtain ⟨u, hu, hX, hY, hZ, m1, m2⟩ := h.hth (h' := i / 2) (by omega)
  have hA := pair_at (fun x : V3 => ((some ⟨x.1, 0, none⟩, x.2.2) : L.A2)) (fun _ => (none, 0)) (XX us us1 us2) i hX
  have hA' : (AA (XX us us1 us2))[i]? = _ := hA
  rw [hA'] at ha
  have ha' := Option.some.inj ha
  by_cases e : i % 2 = 0
  · left
    rw [if_pos e] at ha'
    refine ⟨u, _, e, hu, hX, ha'.symm, by unfold CC; rw [if_pos e, hZ]; rfl, ?_⟩
    by_cases c : (i / 2) % 2 = 0
    · left; rw [if_pos c]; exact ⟨c, m1⟩
    · right; rw [if_neg c]; exact ⟨by omega, m2⟩
  · right
    rw [if_neg e] at ha'
    exact ⟨by omega, ha'.symm, by unfold CC; rw [if_neg e]⟩
theorem Ap.ls (h : Ap ps us us1 us2 w) {j : Nat} (q : L.Ls (AA (XX us us1 us2)) j) : Ls us1 j ∨ Ls us2 j := by
  obtain ⟨i, a, ha, b, hb, rfl⟩ := q
  rcases h.ent ha with ⟨u, x, _, _, _, rfl, _, hx⟩ | ⟨_, rfl, _⟩
  · simp at hb
    rcases hx with ⟨_, m⟩ | ⟨_, m⟩
    · exact .inl ⟨_, m, by rw [← hb]⟩
    · exact .inr ⟨_, m, by rw [← hb]⟩
  · cases hb
theorem Ap.gt (h : Ap ps us us1 us2 w) {B gg lc : Nat} (hr : RowV B (some ⟨gg, 0, none⟩) lc (two val Z0 (XX us us1 us2)) w) : L.Gt gg (AA (XX us us1 us2)) (CC ps us) w := by
  have cell : ∀ (i : Nat) (v : Value), (two val Z0 (XX us us1 us2))[i]? = some v → w.cell? ⟨gg, i, none⟩ = some v := fun i v e => by
    obtain ⟨g, e1, hc⟩ := hr.at e
    cases e1; exact hc
  refine ⟨(hr.lt gg ⟨_, rfl, rfl⟩).2, fun i a ha => ?_, fun i a ha => ?_, fun i j a b ha hb hne k ka kb => ?_, fun i a ha q => ?_⟩
  · rcases h.ent ha with ⟨u, x, e, hu, hX, rfl, hC, hx⟩ | ⟨e, rfl, hC⟩
    · have := (two_at val Z0 (XX us us1 us2) (i / 2) hX).1
      rw [show 2 * (i / 2) = i by omega] at this
      rw [cell i _ this, hC]
      have e2 : x.2.1 = (clo ps u.1).length := by
        rcases hx with ⟨_, m⟩ | ⟨_, m⟩
        · exact (h.l1.of_mem m).1
        · exact (h.l2.of_mem m).1
      unfold val; rw [e2]
    · have hl := (List.getElem?_eq_some_iff.1 ha).1
      rw [AA_len] at hl
      obtain ⟨x, hX⟩ : ∃ x, (XX us us1 us2)[i / 2]? = some x := ⟨_, List.getElem?_eq_getElem (by omega)⟩
      have := (two_at val Z0 (XX us us1 us2) (i / 2) hX).2
      rw [show 2 * (i / 2) + 1 = i by omega] at this
      rw [cell i _ this, hC]; rfl
  · rcases h.ent ha with ⟨u, x, e, hu, hX, rfl, hC, hx⟩ | ⟨e, rfl, hC⟩
    · rw [hC]
      rcases hx with ⟨_, m⟩ | ⟨_, m⟩
      · exact (h.l1.of_mem m).2
      · exact (h.l2.of_mem m).2
    · rw [hC]; exact S.RowI.nil _ _
  · rcases h.ent ha with ⟨u, x, e, hu, hX, rfl, hC, hx⟩ | ⟨e, rfl, hC⟩
    · rcases h.ent hb with ⟨u', x', e', hu', hX', rfl, hC', hx'⟩ | ⟨e', rfl, hC'⟩
      · obtain ⟨_, q1, rfl⟩ := ka
        obtain ⟨_, q2, q3⟩ := kb
        cases q1; cases q2
        have q3' : x.1 = x'.1 := q3
        rcases hx with ⟨c, m⟩ | ⟨c, m⟩ <;> rcases hx' with ⟨c', m'⟩ | ⟨c', m'⟩
        · by_cases hk : u.1 = u'.1
          · have e1 := W.ix_of h.nd (i := i / 2 / 2) (k := u.1) (by rw [List.getElem?_map, hu]; rfl)
            have e2 := W.ix_of h.nd (i := j / 2 / 2) (k := u'.1) (by rw [List.getElem?_map, hu']; rfl)
            rw [hk] at e1; omega
          · exact h.l1.inj m m' hk q3'
        · exact h.d12 x.1 ⟨_, m, rfl⟩ ⟨_, m', q3'⟩
        · exact h.d12 x'.1 ⟨_, m', rfl⟩ ⟨_, m, q3'.symm⟩
        · by_cases hk : u.1 = u'.1
          · have e1 := W.ix_of h.nd (i := i / 2 / 2) (k := u.1) (by rw [List.getElem?_map, hu]; rfl)
            have e2 := W.ix_of h.nd (i := j / 2 / 2) (k := u'.1) (by rw [List.getElem?_map, hu']; rfl)
            rw [hk] at e1; omega
          · exact h.l2.inj m m' hk q3'
      · obtain ⟨_, q, _⟩ := kb; cases q
    · obtain ⟨_, q, _⟩ := ka; cases q
  · obtain ⟨cur, e1⟩ := hr.kind (j := gg) ⟨_, rfl, rfl⟩
    rcases h.ls ⟨i, a, ha, q⟩ with r | r
    · obtain ⟨c2, e2⟩ := h.l1.kind r; rw [e1] at e2; cases e2
    · obtain ⟨c2, e2⟩ := h.l2.kind r; rw [e1] at e2; cases e2
theorem Ap.wt (h : Ap ps us us1 us2 w) {B kc n : Nat} {ko : Option Addr} (hn : n = 2 * (XX us us1 us2).length) (hr : RowV B ko kc (two val Z0 (YY us)) w) : L.Wt ko ((List.range n).map (CC ps us)) (L.Ls (AA (XX us us1 us2))) w := by
  by_cases h0 : us = []
  · left; rw [hn, XX_len, h0]; rfl
  right
  have hpos : 0 < us.length := List.length_pos_iff.2 h0
  obtain ⟨kb, rfl, hkB, hkl, _⟩ : ∃ kb, ko = some ⟨kb, 0, none⟩ ∧ B ≤ kb ∧ kb < w.heap.size ∧ True := by
    rcases hr.form with ⟨_, q, _⟩ | ⟨kb, e, q1, q2, _⟩
    · have := two_len val Z0 (YY us); rw [q, YY_len] at this; simp at this; omega
    · exact ⟨kb, e, q1, q2, trivial⟩
  refine ⟨kb, 0, rfl, hkl, fun q => ?_, fun i l hl => ?_⟩
  · obtain ⟨cur, e1⟩ := hr.kind (j := kb) ⟨_, rfl, rfl⟩
    rcases h.ls q with r | r
    · obtain ⟨c2, e2⟩ := h.l1.kind r; rw [e1] at e2; cases e2
    · obtain ⟨c2, e2⟩ := h.l2.kind r; rw [e1] at e2; cases e2
  · have hin : i < n := by
      rcases Nat.lt_or_ge i n with q | q
      · exact q
      · rw [List.getElem?_eq_none (by simp; omega)] at hl; cases hl
    rw [List.getElem?_map, List.getElem?_range hin] at hl
    have hl' : CC ps us i = l := Option.some.inj hl
    rw [hn, XX_len] at hin
    obtain ⟨u, hu, hX, hY, hZ, m1, m2⟩ := h.hth (h' := i / 2) (by omega)
    have cell : ∀ (v : Value), (two val Z0 (YY us))[i]? = some v → w.cell? ⟨kb, 0 + i, none⟩ = some v := fun v e => by
      obtain ⟨g, e1, hc⟩ := hr.at e
      cases e1; rw [Nat.zero_add]; exact hc
    by_cases e : i % 2 = 0
    · have hC : CC ps us i = clo ps u.1 := by unfold CC; rw [if_pos e, hZ]; rfl
      have hm : (u.1, u.2) ∈ us := List.mem_of_getElem? hu
      have hq := h.l0.of_mem hm
      have := (two_at val Z0 (YY us) (i / 2) hY).1
      rw [show 2 * (i / 2) = i by omega] at this
      rw [← hl', hC]
      refine ⟨some ⟨u.2.1, 0, none⟩, u.2.2.2, ?_, hq.2.cap, hq.2.ints, fun _ b off e => ?_⟩
      · rw [cell _ this]; unfold val; rw [hq.1]
      · cases e
        refine ⟨fun q => ?_, (hq.2.lt _ ⟨_, rfl, rfl⟩).2⟩
        rcases h.ls q with r | r
        · exact h.d01 _ ⟨u, hm, rfl⟩ r
        · exact h.d02 _ ⟨u, hm, rfl⟩ r
    · have hC : CC ps us i = [] := by unfold CC; rw [if_neg e]
      have := (two_at val Z0 (YY us) (i / 2) hY).2
      rw [show 2 * (i / 2) + 1 = i by omega] at this
      rw [← hl', hC]
      exact ⟨none, 0, by rw [cell _ this]; rfl, Nat.le_refl _, .inl rfl, fun hn => absurd rfl hn⟩
theorem CC_len (ps : List K2) (us : List (ByteArray × V3)) (i : Nat) : (CC ps us i).length ≤ ps.length + 1 := by
  unfold CC
  split
  · exact clo_len _ _
  · simp
end
set_option maxRecDepth 100000 in
set_option maxHeartbeats 1000000 in
theorem apart_nil (wo : Option Addr) (wcap : Nat) (w : World) : Calls Try.prog 17 #[.slice none 0 0, .slice wo 0 wcap] w fun e w' => e = .returned (.bool true) ∧ w' = w := by
  go_enter Try.func17, Try.ntmps17
  go_wp2_with fail
  go_loopw [5] (fun i wx => i = .int .i64 0 ∧ wx = w) (fun _ _ => 0)
  case atStart => exact ⟨rfl, rfl⟩
  case round =>
    obtain ⟨rfl, rfl⟩ := hrel
    rename World => w
    go_wp2_with fail
    go_loopw [7] (fun i wx => i = .int .i64 0 ∧ wx = w) (fun _ _ => 0)
    case atStart => exact ⟨rfl, rfl⟩
    case round =>
      obtain ⟨rfl, rfl⟩ := hrel
      rename World => w
      go_wp2_with fail
      go_loopw [10] (fun i wx => i = .int .i64 0 ∧ wx = w) (fun _ _ => 0)
      case atStart => exact ⟨rfl, rfl⟩
      case round =>
        obtain ⟨rfl, rfl⟩ := hrel
        rename World => w
        go_wp2_with fail
        go_loopw [13] (fun i wx => i = .int .i64 0 ∧ wx = w) (fun _ _ => 0)
        case atStart => exact ⟨rfl, rfl⟩
        case round =>
          obtain ⟨rfl, rfl⟩ := hrel
          rename World => w
          go_wp2_with fail
          go_ret
          exact ⟨rfl, rfl⟩
end U
end Go.Proofs.Ytmdkgiglibfihaa
set_option linter.unusedVariables false
set_option linter.unusedSimpArgs false
namespace Go.Proofs.Ytmdkgiglibfihaa
open Go.RowKit Go.Maps
namespace U
/-- what stands throughout -/
structure St (w : World) (s0 : Nat) (po : Option Addr) (ps : List K2) (wo : Option Addr) (wc : Nat) (us : List (ByteArray × V3)) (g mc : Nat) (M : List K2) (v : World) : Prop where
  bel : Below w.heap.size w v
  ws : w.heap.size ≤ s0
  sW : s0 ≤ v.heap.size
  pl : ps ≠ [] → ∀ b off, po = some ⟨b, off, none⟩ → b < w.heap.size
  pq : Q.Ints po ps v
  rn : RowN w.heap.size wo wc us v
  ls : Lsts ps w.heap.size us v
  mn : Q.RowI w.heap.size (some ⟨g, 0, none⟩) mc M v
  ln : ∀ b, W.At wo b → b < s0
  ll : ∀ b, Ls us b → b < s0
  lg : g < s0
theorem St.turn {w : World} {s0 : Nat} {po : Option Addr} {ps : List K2} {wo : Option Addr} {wc : Nat} {us : List (ByteArray × V3)} {g mc : Nat} {M : List K2} {v v' : World} {T : Nat → Prop} (h : St w s0 po ps wo wc us g mc M v) (t : Turn T v v') (hT : ∀ j, T j → s0 ≤ j) : St w s0 po ps wo wc us g mc M v' :=
  ⟨h.bel.trans (_root_.Go.Proofs.Ytmdkgiglibfihaa.W.below3 t (fun j q => Nat.le_trans h.ws (hT j q)) h.bel.size), h.ws, Nat.le_trans h.sW t.size, h.pl, h.pq.turn t (fun hn b off e q => by have := h.pl hn b off e; have := hT b q; have := h.ws; omega), h.rn.turn t (fun j q r => by have := h.ln j q; have := hT j r; omega), h.ls.turn t (fun j q r => by have := h.ll j q; have := hT j r; omega), h.mn.turn t (fun j q r => by obtain ⟨a, e, rfl⟩ := q; cases e; have := h.lg; have := hT _ r; simp at this; omega), h.ln, h.ll, h.lg⟩
theorem St.below {w : World} {s0 : Nat} {po : Option Addr} {ps : List K2} {wo : Option Addr} {wc : Nat} {us : List (ByteArray × V3)} {g mc : Nat} {M : List K2} {v v' : World} (h : St w s0 po ps wo wc us g mc M v) (b : Below v.heap.size v v') : St w s0 po ps wo wc us g mc M v' := h.turn (turn_below (S := fun _ => False) b) (fun _ q => q.elim)
theorem names_len {ps : List K2} {us us1 : List (ByteArray × V3)} (h : us.map (·.1) = frm ps) (h1 : us1.map (·.1) = (W.nm ps).filter (far ps)) (hn : (W.nm ps).Nodup) (hall : ∀ p ∈ ps, p.1 ∈ W.nm ps) : us1.length = us.length ∧ ∀ k ∈ us.map (·.1), k ∈ us1.map (·.1) := by
  have m1 : ∀ k ∈ us.map (·.1), k ∈ us1.map (·.1) := fun k hk => by
    rw [h] at hk
    rw [h1, List.mem_filter]
    obtain ⟨p, hp, rfl⟩ := frm_mem.1 hk
    exact ⟨hall p hp, frm_far.1 hk⟩
  have m2 : ∀ k ∈ us1.map (·.1), k ∈ us.map (·.1) := fun k hk => by
    rw [h1, List.mem_filter] at hk
    rw [h]; exact frm_far.2 hk.2
  have n0 : (us.map (·.1)).Nodup := by rw [h]; exact frm_nodup ps
  have n1 : (us1.map (·.1)).Nodup := by rw [h1]; exact hn.filter _
  have l1 := Bf.nodup_le n0 m1
  have l2 := Bf.nodup_le n1 m2
  simp only [List.length_map] at l1 l2
  exact ⟨by omega, m1⟩
theorem nm_nodup (ps : List K2) : (W.nm ps).Nodup := by unfold W.nm; exact Bf.add_nodup (by simp) _
theorem nm_all (ps : List K2) : ∀ p ∈ ps, p.1 ∈ W.nm ps := fun p hp => by
  unfold W.nm; rw [Bf.mem_add]; right; rw [List.mem_flatMap]; exact ⟨p, hp, by simp⟩
theorem Mp.kind {bm : Nat} {us : List (ByteArray × V3)} {w : World} (h : Mp bm us w) : ∃ es c, w.heap[bm]? = some (.map es c) := by
  obtain ⟨D, h1, _⟩ := h.map
  obtain ⟨es, c, e, _⟩ := h1
  exact ⟨es, c, e⟩
/-- what stands while the rows are made -/
structure Bz (w : World) (s0 : Nat) (po : Option Addr) (ps : List K2) (wo : Option Addr) (wc : Nat) (us : List (ByteArray × V3)) (g mc : Nat) (M : List K2) (b1 b2 : Nat) (us1 us2 : List (ByteArray × V3)) (v : World) : Prop where
  st : St w s0 po ps wo wc us g mc M v
  ap : Ap ps us us1 us2 v
  m1 : Mp b1 us1 v
  m2 : Mp b2 us2 v
theorem Bz.turn {w : World} {s0 : Nat} {po : Option Addr} {ps : List K2} {wo : Option Addr} {wc : Nat} {us : List (ByteArray × V3)} {g mc : Nat} {M : List K2} {b1 b2 : Nat} {us1 us2 : List (ByteArray × V3)} {v v' : World} {T : Nat → Prop} (h : Bz w s0 po ps wo wc us g mc M b1 b2 us1 us2 v) (t : Turn T v v') (hT : ∀ j, T j → s0 ≤ j ∧ ∃ cur, v.heap[j]? = some (.cells cur 23 (0, 0))) : Bz w s0 po ps wo wc us g mc M b1 b2 us1 us2 v' := by
  have nl : ∀ {B : Nat} {vs : List (ByteArray × V3)}, Lsts ps B vs v → ∀ j, Ls vs j → ¬ T j := fun hl j q r => by
    obtain ⟨_, cur, e⟩ := hT j r
    obtain ⟨c2, e2⟩ := hl.kind q
    rw [e] at e2; cases e2
  have nm : ∀ {b : Nat} {vs : List (ByteArray × V3)}, Mp b vs v → ¬ T b := fun hm r => by
    obtain ⟨_, cur, e⟩ := hT _ r
    obtain ⟨es, c, e2⟩ := hm.kind
    rw [e] at e2; cases e2
  exact ⟨h.st.turn t (fun j q => (hT j q).1), h.ap.turn t (nl h.ap.l0) (nl h.ap.l1) (nl h.ap.l2), h.m1.turn t (nm h.m1), h.m2.turn t (nm h.m2)⟩
theorem Bz.free {w : World} {s0 : Nat} {po : Option Addr} {ps : List K2} {wo : Option Addr} {wc : Nat} {us : List (ByteArray × V3)} {g mc : Nat} {M : List K2} {b1 b2 : Nat} {us1 us2 : List (ByteArray × V3)} {v v' : World} (h : Bz w s0 po ps wo wc us g mc M b1 b2 us1 us2 v) (t : Turn (fun _ => False) v v') : Bz w s0 po ps wo wc us g mc M b1 b2 us1 us2 v' := h.turn t (fun _ q => q.elim)
/-- the two rows in the making -/
structure Rz (s0 : Nat) (go : Option Addr) (gc : Nat) (G : List Value) (ko : Option Addr) (kc : Nat) (K : List Value) (v : World) : Prop where
  rg : RowV s0 go gc G v
  rk : RowV s0 ko kc K v
  dj : ∀ j, W.At go j → ¬ W.At ko j
theorem Rz.nil (s0 : Nat) (v : World) : Rz s0 none 0 [] none 0 [] v := ⟨RowV.nil _ _, RowV.nil _ _, fun j q => by obtain ⟨a, e, _⟩ := q; cases e⟩
theorem RowV.hT {s0 : Nat} {ao : Option Addr} {cap : Nat} {vs : List Value} {v : World} (h : RowV s0 ao cap vs v) : ∀ j, W.At ao j → s0 ≤ j ∧ ∃ cur, v.heap[j]? = some (.cells cur 23 (0, 0)) := fun j q => ⟨(h.lt j q).1, h.kind q⟩
theorem Rz.left {s0 : Nat} {go ko : Option Addr} {gc kc : Nat} {G K : List Value} {v v' : World} (h : Rz s0 go gc G ko kc K v) {g' c' : Nat} {G' : List Value} (hr : RowV s0 (some ⟨g', 0, none⟩) c' G' v') (t : Turn (W.At go) v v') (hg : go = some ⟨g', 0, none⟩ ∨ v.heap.size ≤ g') : Rz s0 (some ⟨g', 0, none⟩) c' G' ko kc K v' := by
  refine ⟨hr, h.rk.turn t (fun j q r => h.dj j r q), fun j q r => ?_⟩
  obtain ⟨a, e, rfl⟩ := q
  cases e
  rcases hg with e | e
  · exact h.dj _ ⟨_, e, rfl⟩ r
  · have := (h.rk.lt _ r).2; simp at this; omega
theorem Rz.right {s0 : Nat} {go ko : Option Addr} {gc kc : Nat} {G K : List Value} {v v' : World} (h : Rz s0 go gc G ko kc K v) {g' c' : Nat} {K' : List Value} (hr : RowV s0 (some ⟨g', 0, none⟩) c' K' v') (t : Turn (W.At ko) v v') (hg : ko = some ⟨g', 0, none⟩ ∨ v.heap.size ≤ g') : Rz s0 go gc G (some ⟨g', 0, none⟩) c' K' v' := by
  refine ⟨h.rg.turn t (fun j q r => h.dj j q r), hr, fun j q r => ?_⟩
  obtain ⟨a, e, rfl⟩ := r
  cases e
  rcases hg with e | e
  · exact h.dj _ q ⟨_, e, rfl⟩
  · have := (h.rg.lt _ q).2; simp at this; omega
theorem Rz.free {s0 : Nat} {go ko : Option Addr} {gc kc : Nat} {G K : List Value} {v v' : World} {T : Nat → Prop} (h : Rz s0 go gc G ko kc K v) (t : Turn T v v') (h1 : ∀ j, W.At go j → ¬ T j) (h2 : ∀ j, W.At ko j → ¬ T j) : Rz s0 go gc G ko kc K v' := ⟨h.rg.turn t h1, h.rk.turn t h2, h.dj⟩
theorem take_snoc {α : Type} {l : List α} {i : Nat} {a : α} (h : l[i]? = some a) : l.take (i + 1) = l.take i ++ [a] := by rw [List.take_add_one, h]; rfl
theorem G_step {us us1 us2 : List (ByteArray × V3)} {i : Nat} {u : ByteArray × V3} (h : us[i]? = some u) : two val val (XX (us.take (i + 1)) us1 us2) = two val val (XX (us.take i) us1 us2) ++ [val (look us1 u.1), val (look us1 u.1), val (look us2 u.1), val (look us2 u.1)] := by
  rw [take_snoc h]; simp [two, XX]
theorem K_step {us : List (ByteArray × V3)} {i : Nat} {u : ByteArray × V3} (h : us[i]? = some u) : two val val (YY (us.take (i + 1))) = two val val (YY (us.take i)) ++ [val u.2, val u.2, val u.2, val u.2] := by
  rw [take_snoc h]; simp [two, YY]
theorem T_step {X : List V3} {i : Nat} {x : V3} (h : X[i]? = some x) : two val Z0 (X.take (i + 1)) = two val Z0 (X.take i) ++ [val x, .slice none 0 0] := by
  rw [take_snoc h]; simp [two, Z0]
theorem G_len (us us1 us2 : List (ByteArray × V3)) : (two val val (XX us us1 us2)).length = 4 * us.length := by rw [two_len, XX_len]; omega
theorem K_len (us : List (ByteArray × V3)) : (two val val (YY us)).length = 4 * us.length := by rw [two_len, YY_len]; omega
/-- an entry of a list of names and what a map has for it -/
theorem same_pair {ps : List K2} {us us1 : List (ByteArray × V3)} {w : World} {B B' : Nat} (h0 : Lsts ps B us w) (h1 : Lsts ps B' us1 w) (hn : ∀ k ∈ us.map (·.1), k ∈ us1.map (·.1)) {i : Nat} {u : ByteArray × V3} (hu : us[i]? = some u) : ∃ ub uc xb xc, u.2 = (ub, (clo ps u.1).length, uc) ∧ look us1 u.1 = (xb, (clo ps u.1).length, xc) ∧ S.RowI B (some ⟨ub, 0, none⟩) uc (clo ps u.1) w ∧ S.RowI B' (some ⟨xb, 0, none⟩) xc (clo ps u.1) w := by
  have hm : (u.1, u.2) ∈ us := List.mem_of_getElem? hu
  have hm1 := look_mem (hn u.1 (List.mem_map_of_mem hm))
  have q0 := h0.of_mem hm
  have q1 := h1.of_mem hm1
  exact ⟨u.2.1, u.2.2.2, (look us1 u.1).1, (look us1 u.1).2.2, by rw [← q0.1], by rw [← q1.1], q0.2, q1.2⟩
end U
end Go.Proofs.Ytmdkgiglibfihaa
