import Derived.Test.YtihdagehenmolaaEnI
set_option linter.unusedVariables false
set_option linter.unusedSimpArgs false
namespace Go.Proofs.Ytihdagehenmolaa
open Go.RowKit
namespace J
open M K
def iarr (z : Int) : Array Value := #[.int .i64 z]
theorem ha_i (q : Int) : (iarr q).size = 1 := rfl
theorem one_i (x : Int) : ∀ u ∈ (iarr x).toList, u.oneCell' = true := by simp [iarr, Value.oneCell']
theorem info3 : (Try.prog.info? 3).map (fun i => (i.zero, i.size, i.bytes)) = some (some (.int .i64 0), 1, 8) := by kernel_rfl
/-- where the records of the first k entries end -/
def pre (F : List En) (k : Nat) : Nat := (recs (F.take k)).length
theorem pre_succ {F : List En} {k : Nat} {e : En} (h : F[k]? = some e) : recs (F.take (k + 1)) = recs (F.take k) ++ rcd e := by
  rw [List.take_add_one, h, recs_add]
  show _ ++ recs [e] = _
  rw [recs_one]
theorem pre_len {F : List En} {k : Nat} {e : En} (h : F[k]? = some e) : pre F (k + 1) = pre F k + (17 + e.t.length) := by
  unfold pre
  rw [pre_succ h, List.length_append, rec_len]
theorem pre_le {F : List En} (hF : ∀ e ∈ F, e.ok) (k : Nat) : pre F k ≤ k * 65553 := by
  induction k with
  | zero => simp [pre, recs]
  | succ k ih =>
    cases h : F[k]? with
    | none =>
      have hl := List.getElem?_eq_none_iff.1 h
      have : pre F (k + 1) = pre F k := by unfold pre; rw [List.take_of_length_le (by omega), List.take_of_length_le hl]
      omega
    | some e =>
      rw [pre_len h]
      have := (hF e (List.mem_of_getElem? h)).2.2
      omega
theorem chain_le : ∀ (es F : List En) (r : List UInt8), (∀ e ∈ es, e.ok) → (∀ e ∈ F, e.ok) → recs F = recs es ++ r → es.length ≤ F.length := by
  intro es
  induction es with
  | nil => intro F r _ _ _; simp
  | cons e t ih =>
    intro F r h1 h2 h
    cases F with
    | nil =>
      have := congrArg List.length h
      rw [recs_cons, List.length_append, List.length_append, rec_len] at this
      simp only [recs, List.flatMap_nil, List.length_nil] at this
      omega
    | cons f G =>
      rw [recs_cons, recs_cons, List.append_assoc] at h
      obtain ⟨_, h3⟩ := rec_free (h2 f (by simp)) (h1 e (by simp)) h
      have := ih G r (fun q hq => h1 q (by simp [hq])) (fun q hq => h2 q (by simp [hq])) h3
      simp only [List.length_cons]
      omega
theorem chain_cut {es F : List En} {r : List UInt8} {k : Nat} (h1 : ∀ e ∈ es, e.ok) (h2 : ∀ e ∈ F, e.ok) (h : (recs F).take k = recs es ++ r) : es.length ≤ F.length := by
  refine chain_le es F (r ++ (recs F).drop k) h1 h2 ?_
  rw [← List.append_assoc, ← h, List.take_append_drop]
theorem ft_all (ns : List En) : ∀ e ∈ ns.map ft, e.ok := fun e he => by
  obtain ⟨q, _, rfl⟩ := List.mem_map.1 he
  exact ft_ok q
/-- the ends -/
def enl (F : List En) (k : Nat) : List Int := (List.range k).map fun j => ((pre F (j + 1) : Nat) : Int)
theorem enl_len (F : List En) (k : Nat) : (enl F k).length = k := by simp [enl]
theorem enl_succ (F : List En) (k : Nat) : enl F (k + 1) = enl F k ++ [((pre F (k + 1) : Nat) : Int)] := by simp [enl, List.range_succ]
theorem enl_at (F : List En) {k n : Nat} (h : k < n) : (enl F n)[k]? = some ((pre F (k + 1) : Nat) : Int) := by simp [enl, List.getElem?_range h]
/-- rows of two kinds lie apart -/
theorem Own.apart {α β : Type} {m e : Nat} {arr : α → Array Value} {B n cap : Nat} {ao : Option Addr} {ss : List α} {m' e' : Nat} {arr' : β → Array Value} {B' n' cap' : Nat} {ao' : Option Addr} {ss' : List β} {w w' : World} (h : Own m e arr B (.slice ao n cap) ss w) (h' : Own m' e' arr' B' (.slice ao' n' cap') ss' w) (hne : e ≠ e') (t : Turn (At ao') w w') : Own m e arr B (.slice ao n cap) ss w' :=
  h.kept t (fun g hg q => by
    obtain ⟨_, c1, h1⟩ := own_kind h (own_at hg)
    obtain ⟨_, c2, h2⟩ := own_kind h' q
    exact cells_ne h1 h2 hne rfl)
/-- how far the search for whole records came -/
structure Wh (F : List En) (K k wh : Nat) : Prop where
  le : wh ≤ k
  at' : pre F wh ≤ K
  no : ∀ j, wh < j → j ≤ k → K < pre F j
theorem Wh.zero (F : List En) (K : Nat) : Wh F K 0 0 := ⟨Nat.le_refl _, by simp [pre, recs], fun j h1 h2 => by omega⟩
theorem Wh.yes {F : List En} {K k wh : Nat} (h : Wh F K k wh) (q : pre F (k + 1) ≤ K) : Wh F K (k + 1) (k + 1) := ⟨Nat.le_refl _, q, fun j h1 h2 => by omega⟩
theorem Wh.not {F : List En} {K k wh : Nat} (h : Wh F K k wh) (q : ¬ pre F (k + 1) ≤ K) : Wh F K (k + 1) wh := ⟨Nat.le_succ_of_le h.le, h.at', fun j h1 h2 => by
  by_cases e : j = k + 1
  · rw [e]; omega
  · exact h.no j h1 (by omega)⟩
theorem Wh.read {F : List En} {K wh : Nat} (hF : ∀ e ∈ F, e.ok) (h : Wh F K F.length wh) : Rds ((recs F).take K) (F.take wh) :=
  read_cut hF h.le h.at' (fun q => h.no (wh + 1) (by omega) q)
end J
end Go.Proofs.Ytihdagehenmolaa
