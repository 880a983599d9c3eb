import Derived.Test.YtmdkgiglibfihaaHas
import Derived.Deep.RegionHeld3
set_option linter.unusedVariables false
set_option linter.unusedSimpArgs false
namespace Go.Proofs.Ytmdkgiglibfihaa
open Go.RowKit Go.Maps
namespace N
abbrev K2 := ByteArray × ByteArray
/-- the next ones of a name along pairs -/
def nxt (ps : List K2) (x : ByteArray) : List ByteArray := (ps.filter (fun p => decide (p.1 = x))).map (·.2)
theorem nxt_snoc_yes {ps : List K2} {p : K2} {x : ByteArray} (h : p.1 = x) : nxt (ps ++ [p]) x = nxt ps x ++ [p.2] := by simp [nxt, h]
theorem nxt_snoc_no {ps : List K2} {p : K2} {x : ByteArray} (h : p.1 ≠ x) : nxt (ps ++ [p]) x = nxt ps x := by simp [nxt, h]
theorem nxt_mem {ps : List K2} {x y : ByteArray} (h : y ∈ nxt ps x) : ∃ p ∈ ps, p.1 = x ∧ p.2 = y := by
  simp only [nxt, List.mem_map, List.mem_filter, decide_eq_true_eq] at h
  obtain ⟨p, ⟨h1, h2⟩, h3⟩ := h
  exact ⟨p, h1, h2, h3⟩
/-- all names that may come -/
def uni (ps : List K2) (x : ByteArray) : List ByteArray := x :: ps.map (·.2)
theorem uni_from {ps : List K2} {x : ByteArray} : ∀ k ∈ [x], k ∈ uni ps x := fun k h => by simp at h; subst h; simp [uni]
theorem uni_next {ps : List K2} {x : ByteArray} : ∀ k ∈ uni ps x, ∀ j ∈ nxt ps k, j ∈ uni ps x := fun k _ j h => by
  obtain ⟨p, h1, _, h3⟩ := nxt_mem h
  exact List.mem_cons_of_mem _ (List.mem_map.2 ⟨p, h1, h3⟩)
theorem uni_len (ps : List K2) (x : ByteArray) : (uni ps x).length = ps.length + 1 := by simp [uni]
theorem nxt_len (ps : List K2) (x : ByteArray) : (nxt ps x).length ≤ ps.length := by simp [nxt]; exact List.length_filter_le _ _
/-- the reasons after n turns -/
def rsn (F : ByteArray → List ByteArray) (fr : List ByteArray) : Nat → List Int
  | 0 => [-1]
  | n + 1 => rsn F fr n ++ List.replicate ((Bf.st F fr (n + 1)).length - (Bf.st F fr n).length) (n : Int)
/-- what Breadth has at a place of its inner loop -/
def cur (ps : List K2) (x : ByteArray) (n i : Nat) (k : ByteArray) : List ByteArray := Bf.add (Bf.st (nxt ps) [x] n) (nxt (ps.take i) k)
def rcur (ps : List K2) (x : ByteArray) (n i : Nat) (k : ByteArray) : List Int := rsn (nxt ps) [x] n ++ List.replicate ((cur ps x n i k).length - (Bf.st (nxt ps) [x] n).length) (n : Int)
theorem cur_zero (ps : List K2) (x : ByteArray) (n : Nat) (k : ByteArray) : cur ps x n 0 k = Bf.st (nxt ps) [x] n := by simp [cur, nxt, Bf.add]
theorem rcur_zero (ps : List K2) (x : ByteArray) (n : Nat) (k : ByteArray) : rcur ps x n 0 k = rsn (nxt ps) [x] n := by simp [rcur, cur_zero]
theorem cur_full {ps : List K2} {x : ByteArray} {n : Nat} {k : ByteArray} (h : (Bf.st (nxt ps) [x] n)[n]? = some k) : cur ps x n ps.length k = Bf.st (nxt ps) [x] (n + 1) := by rw [Bf.st_some h, cur, List.take_length]
theorem rcur_full {ps : List K2} {x : ByteArray} {n : Nat} {k : ByteArray} (h : (Bf.st (nxt ps) [x] n)[n]? = some k) : rcur ps x n ps.length k = rsn (nxt ps) [x] (n + 1) := by rw [rcur, cur_full h]; rfl
theorem cur_pre (ps : List K2) (x : ByteArray) (n i : Nat) (k : ByteArray) : Bf.st (nxt ps) [x] n <+: cur ps x n i k := Bf.add_prefix _ _
theorem cur_skip {ps : List K2} {x : ByteArray} {n i : Nat} {k : ByteArray} {p : K2} (hp : ps[i]? = some p) (h : p.1 ≠ k) : cur ps x n (i + 1) k = cur ps x n i k := by
  unfold cur; rw [List.take_add_one, hp]; show Bf.add _ (nxt (ps.take i ++ [p]) k) = _; rw [nxt_snoc_no h]
theorem cur_old {ps : List K2} {x : ByteArray} {n i : Nat} {k : ByteArray} {p : K2} (hp : ps[i]? = some p) (h : p.1 = k) (hin : p.2 ∈ cur ps x n i k) : cur ps x n (i + 1) k = cur ps x n i k := by
  unfold cur at hin ⊢; rw [List.take_add_one, hp]; show Bf.add _ (nxt (ps.take i ++ [p]) k) = _; rw [nxt_snoc_yes h]; exact Bf.add_snoc_old hin
theorem cur_new {ps : List K2} {x : ByteArray} {n i : Nat} {k : ByteArray} {p : K2} (hp : ps[i]? = some p) (h : p.1 = k) (hin : p.2 ∉ cur ps x n i k) : cur ps x n (i + 1) k = cur ps x n i k ++ [p.2] := by
  unfold cur at hin ⊢; rw [List.take_add_one, hp]; show Bf.add _ (nxt (ps.take i ++ [p]) k) = _; rw [nxt_snoc_yes h]; exact Bf.add_snoc_new hin
theorem rcur_same {ps : List K2} {x : ByteArray} {n i : Nat} {k : ByteArray} (h : cur ps x n (i + 1) k = cur ps x n i k) : rcur ps x n (i + 1) k = rcur ps x n i k := by unfold rcur; rw [h]
theorem rcur_new {ps : List K2} {x : ByteArray} {n i : Nat} {k : ByteArray} {y : ByteArray} (h : cur ps x n (i + 1) k = cur ps x n i k ++ [y]) : rcur ps x n (i + 1) k = rcur ps x n i k ++ [(n : Int)] := by
  unfold rcur
  have hl := (cur_pre ps x n i k).length_le
  rw [h, List.length_append, show (cur ps x n i k).length + [y].length - (Bf.st (nxt ps) [x] n).length = ((cur ps x n i k).length - (Bf.st (nxt ps) [x] n).length) + 1 by simp; omega, List.replicate_succ', List.append_assoc]
theorem cur_le (ps : List K2) (x : ByteArray) (n i : Nat) (k : ByteArray) : (cur ps x n i k).length ≤ (Bf.st (nxt ps) [x] n).length + ps.length := by
  have := Bf.add_len_le (Bf.st (nxt ps) [x] n) (nxt (ps.take i) k)
  have h2 := nxt_len (ps.take i) k
  simp at h2
  unfold cur
  omega
theorem rsn_len (ps : List K2) (x : ByteArray) (n : Nat) : (rsn (nxt ps) [x] n).length = (Bf.st (nxt ps) [x] n).length := by
  induction n with
  | zero => simp [rsn, Bf.st, Bf.add]
  | succ n ih =>
    have := (Bf.st_prefix (F := nxt ps) (fr := [x]) (Nat.le_add_right n 1)).length_le
    simp [rsn, ih]; omega
theorem rcur_len (ps : List K2) (x : ByteArray) (n i : Nat) (k : ByteArray) : (rcur ps x n i k).length = (cur ps x n i k).length := by
  have := (cur_pre ps x n i k).length_le
  simp [rcur, rsn_len]; omega
end N
end Go.Proofs.Ytmdkgiglibfihaa
