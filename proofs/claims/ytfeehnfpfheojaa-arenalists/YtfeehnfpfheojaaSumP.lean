import Derived.Test.YtfeehnfpfheojaaMade
import Derived.LoopTactic
set_option linter.unusedVariables false
set_option linter.unusedSimpArgs false
namespace Go.Proofs.Ytfeehnfpfheojaa
open Go.RowKit
namespace M
/-- a slice of numbers that came in -/
def Ints (w : World) (a : Option Addr) (ns : List Int) : Prop := ns = [] ∨ ∃ b off, a = some ⟨b, off, none⟩ ∧ b < w.heap.size ∧ ∀ j, j < ns.length → w.cell? ⟨b, off + j, none⟩ = some (.int .i64 (ns.getD j 0))
theorem Ints.below {w w' : World} {a : Option Addr} {ns : List Int} (h : Ints w a ns) (b : Below w.heap.size w w') : Ints w' a ns := by
  rcases h with h | ⟨g, off, h1, h2, h3⟩
  · exact .inl h
  · exact .inr ⟨g, off, h1, Nat.lt_of_lt_of_le h2 b.size, fun j hj => (b.cell (p := ⟨g, off + j, none⟩) h2).trans (h3 j hj)⟩
theorem wrap_k (k : Nat) (h : k < 1048576) : wrap64 ((k : Int) + 1) = (k : Int) + 1 := by unfold wrap64; omega
theorem ne_lit {v : Int} (h : v ≠ P) : (v == -4611686018427387904) = false := by unfold P at h; simpa using h
theorem vint_k (k : Nat) (h : k < 1048576) : Value.int .i64 (wrap64 ((k : Int) + 1)) = .int .i64 ((k + 1 : Nat) : Int) := by rw [wrap_k k h]; rfl
theorem msr {k n : Nat} (h : k < n) (e : wrap64 ((k : Int) + 1) = (k : Int) + 1) : n - (intOf (.int .i64 (wrap64 ((k : Int) + 1)))).toNat < n - (intOf (.int .i64 (k : Int))).toNat := by
  rw [e]
  show n - ((k : Int) + 1).toNat < n - (k : Int).toNat
  omega
/-- the sum, as the machine has it -/
def sum (ns : List Int) : Int := ns.foldl (fun s v => wrap64 (s + v)) 0
theorem sum_take (ns : List Int) (k : Nat) (h : k < ns.length) : sum (ns.take (k + 1)) = wrap64 (sum (ns.take k) + ns.getD k 0) := by
  unfold sum
  rw [List.take_succ_eq_append_getElem h, List.foldl_append]
  simp [List.getD, h]
theorem at_pure (r : List Int) (k : Nat) (v : Int) (hk : k < r.length) (hv : v ≠ P) : er (r.set k v) k = 0 ∧ std (r.set k v) k = v ∧ ∀ u, put (r.set k v) k u = r.set k u := by
  have g2 : (r.set k v).getD k 0 = v := by simp [List.getD, hk]
  obtain ⟨e1, e2⟩ := er_ok (ws := r.set k v) (k := k) (by simpa using hk) (by rw [g2]; exact hv)
  exact ⟨e1, by rw [e2, g2], fun u => by rw [put_ok e1, List.set_set]⟩
theorem rep_set (n k : Nat) : (List.replicate n (0 : Int)).set k 0 = List.replicate n 0 := by
  apply List.ext_getElem?
  intro i
  rw [List.getElem?_set]
  split <;> simp_all [List.getElem?_replicate]
end M
end Go.Proofs.Ytfeehnfpfheojaa
