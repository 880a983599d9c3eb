import Derived.Test.YtmcdifmbblbhgaaTrd
import Derived.DeepKeys4
set_option linter.unusedVariables false
set_option linter.unusedSimpArgs false
namespace Go.Proofs.Ytmcdifmbblbhgaa
open Go.RowKit Go.Maps
namespace V
open U D
/-- the masks of a profile -/
def pr (g : Nat → Nat) : List Nat := (List.range 64).map g
/-- a profile's value -/
def pv (l : List Nat) : Value := .agg (tab 64 fun j => l.getD j 0)
theorem pv_pr (g : Nat → Nat) : pv (pr g) = .agg (tab 64 g) := by
  unfold pv pr
  rw [tab_congr (h := g) (fun i hi => by simp [List.getD, List.getElem?_map, List.getElem?_range hi])]
namespace P
def okk (l : List Nat) : Prop := l.length = 64 ∧ ∀ z ∈ l, z < 65536
theorem okk_pr {g : Nat → Nat} (h : ∀ j, j < 64 → g j < 65536) : okk (pr g) := by
  refine ⟨by simp [pr], fun z hz => ?_⟩
  simp only [pr, List.mem_map, List.mem_range] at hz
  obtain ⟨j, hj, rfl⟩ := hz
  exact h j hj
theorem laidOutQ : laidOutB Try.prog = true := by kernel_rfl
theorem row75 : 75 < Try.prog.types.size := of_decide_eq_true (by kernel_rfl)
theorem wide75 : (match Try.prog.underlying 75 with | some (.array _ _) | some (.struct _) => true | _ => false) = true := by rw [Try.underlying75]
theorem deep75 : Try.prog.keyTypeAt (Try.prog.types.size + 1) 75 = true := by kernel_rfl
theorem key75 : Try.prog.keyType 75 = true := by kernel_rfl
theorem cells75 : Try.prog.cellsOf 75 = 64 := by kernel_rfl
theorem cells24 : Try.prog.cellsOf 24 = 1 := by kernel_rfl
set_option maxRecDepth 100000 in
theorem law : Keyed Try.prog 75 := Keyed.of_law (deep_law_laid laidOutQ (m := 2) (by omega) row75 (by kernel_rfl) wide75)
theorem formed75 (g : Nat → Nat) : (Value.agg (tab 64 g)).formed Try.prog 75 = true := by simp [Value.formed, Try.underlying75, cells75, tab_size]
theorem mapM_all {α β : Type} {f : α → Option β} {h : α → β} : ∀ (l : List α), (∀ x ∈ l, f x = some (h x)) → l.mapM f = some (l.map h) := by
  intro l
  induction l with
  | nil => intro _; rfl
  | cons a l ih =>
    intro q
    rw [List.mapM_cons, q a (by simp), ih (fun x hx => q x (by simp [hx]))]
    rfl
theorem wf16 {x : Nat} (h : x < 65536) : (Lit.int .u16 (x : Int)).wf = true := by
  simp [Lit.wf, IntKind.min, IntKind.max, IntKind.signed, IntKind.bits]; omega
theorem hkey (l : List Nat) (h : okk l) : ∃ kl, keyOf Try.prog 75 (pv l) = some kl := by
  have hg : ∀ j, (fun j => l.getD j 0) j < 65536 := fun j => by
    show l.getD j 0 < 65536
    cases q : l[j]? with
    | none => simp [List.getD, q]
    | some z => simp [List.getD, q]; exact h.2 z (List.mem_of_getElem? q)
  unfold pv
  generalize (fun j => l.getD j 0) = g at hg ⊢
  obtain ⟨m, hm⟩ : ∃ m, Try.prog.types.size = m + 1 := ⟨Try.prog.types.size - 1, by have := row75; omega⟩
  have hk : Try.prog.keyLits (Try.prog.types.size + 1) 75 (tab 64 g).toList = some (((List.range 64).map fun i => [Lit.int .u16 (g i : Int)]).flatten) := by
    unfold Program.keyLits
    rw [Try.underlying75]
    have hl : (tab 64 g).toList.length = Try.prog.cellsOf 75 := by rw [cells75, Array.length_toList, tab_size]
    simp only [hl, if_true]
    rw [mapM_all (h := fun i => [Lit.int .u16 (g i : Int)])]
    · rfl
    · intro i hi
      rw [cells24, Nat.mul_one]
      have e : ((tab 64 g).toList.drop i).take 1 = [.int .u16 (g i : Int)] := by
        rw [List.take_one, List.head?_drop, Array.getElem?_toList, tab_at 64 g i (List.mem_range.1 hi)]
        rfl
      rw [e, hm]
      unfold Program.keyLits
      rw [Try.underlying24]
      simp [wf16 (hg i)]
  rw [← Option.isSome_iff_exists]
  unfold keyOf
  rw [Try.underlying75]
  simp only [key75, formed75, Bool.and_self, if_true]
  show ((Try.prog.keyLits (Try.prog.types.size + 1) 75 (tab 64 g).toList).map _).isSome = true
  rw [hk]
  rfl
theorem lit_ex : ∃ f : List Nat → Lit, ∀ l, okk l → keyOf Try.prog 75 (pv l) = some (f l) :=
  ⟨fun l => @dite _ (okk l) (Classical.propDecidable _) (fun h => Classical.choose (hkey l h)) (fun _ => .bool false), fun l h => by dsimp only; rw [dif_pos h]; exact Classical.choose_spec (hkey l h)⟩
noncomputable def lit : List Nat → Lit := Classical.choose lit_ex
theorem hlit (l : List Nat) (h : okk l) : keyOf Try.prog 75 (pv l) = some (lit l) := Classical.choose_spec lit_ex l h
theorem inj (j k : List Nat) (hj : okk j) (hk : okk k) (h : lit j = lit k) : j = k := by
  have a := hlit j hj
  rw [h] at a
  have e := law.inj a (hlit k hk)
  unfold pv at e
  simp only [Value.agg.injEq] at e
  apply List.ext_getElem?
  intro i
  by_cases hi : i < 64
  · have q : (tab 64 fun i => j.getD i 0)[i]? = (tab 64 fun i => k.getD i 0)[i]? := by rw [e]
    rw [tab_at 64 _ i hi, tab_at 64 _ i hi] at q
    simp only [Option.some.injEq, Value.int.injEq, true_and] at q
    have q2 : j.getD i 0 = k.getD i 0 := by exact_mod_cast q
    have l1 : i < j.length := by rw [hj.1]; exact hi
    have l2 : i < k.length := by rw [hk.1]; exact hi
    rw [List.getElem?_eq_getElem l1, List.getElem?_eq_getElem l2]
    simpa [List.getD, List.getElem?_eq_getElem l1, List.getElem?_eq_getElem l2] using q2
  · rw [List.getElem?_eq_none (by rw [hj.1]; omega), List.getElem?_eq_none (by rw [hk.1]; omega)]
theorem isKey {l : List Nat} (h : okk l) : WideAt.IsKeyLit (lit l) := by
  have e := hlit l h
  generalize lit l = x at *
  exact law.key e
theorem zeroE (w : World) : (zeroValue 3).run Try.prog w = .ok (.int .i64 0) w := by kernel_rfl
/-- BLOCK bm IS A MAP that has just these profiles -/
structure Pm (bm : Nat) (n : Nat) (ls : List (List Nat)) (w : World) : Prop where
  map : ∃ D : DataW Unit, w.ownsMap Try.prog 75 (plainElem Try.prog 3) bm n D ∧ ∀ l, okk l → Maps.has D (lit l) = isIn ls l
theorem Pm.made (w : World) : Pm w.heap.size 0 [] (w.alloc (.map #[] 0)) := ⟨⟨.map [], World.ownsMap_made w Try.prog 75 _, fun l _ => by simp [Maps.has, isIn]⟩⟩
theorem Pm.turn {T : Nat → Prop} {bm n : Nat} {ls : List (List Nat)} {w w' : World} (h : Pm bm n ls w) (t : Turn T w w') (hm : ¬ T bm) : Pm bm n ls w' := by
  obtain ⟨D, h1, h2⟩ := h.map
  exact ⟨D, t.map h1 hm, h2⟩
theorem Pm.run {bm n : Nat} {ls : List (List Nat)} {w : World} (h : Pm bm n ls w) {l : List Nat} (hk : okk l) : ∃ c : Int, (Instr.lookup 116 (.map (some bm)) (pv l) true).run Try.prog w = .ok (.tuple #[.int .i64 c, .bool (isIn ls l)]) w := by
  obtain ⟨D, hown, hh⟩ := h.map
  obtain ⟨v, ps, hrun, hv⟩ := hown.look_ok law Try.underlying116 (zeroE w) (plainElem_int Try.underlying3 (by decide)) (hlit l hk)
  obtain ⟨c, rfl, hc, _⟩ := plainElem_int_inv Try.underlying3 hv
  exact ⟨c, by rw [hrun, hh l hk]⟩
set_option maxRecDepth 100000 in
theorem Pm.put {bm n : Nat} {ls : List (List Nat)} {w : World} (h : Pm bm n ls w) {l : List Nat} (hk : okk l) (hn : n < maxLen) (c : Int) (hc : (Lit.int .i64 c).wf = true) : ∃ w', (Instr.mapUpdate 116 (.map (some bm)) (pv l) (.int .i64 c)).run Try.prog w = .ok () w' ∧ Pm bm (n + 1) (ls ++ [l]) w' ∧ Turn (fun j => j = bm) w w' := by
  obtain ⟨D, hown, hh⟩ := h.map
  obtain ⟨w2, hrun, hown2, ht2⟩ := hown.store law Try.underlying116 hn (hlit l hk) (plainElem_int Try.underlying3 hc)
  refine ⟨w2, hrun, ⟨_, hown2, fun k hk2 => ?_⟩, map_turn ht2⟩
  by_cases e : k = l
  · subst e; rw [has_put_same hown.isMap (isKey hk)]; simp [isIn]
  · rw [has_put_other (fun r => e (inj k l hk2 hk r)), hh k hk2]; simp [isIn, e]
end P
end V
end Go.Proofs.Ytmcdifmbblbhgaa
