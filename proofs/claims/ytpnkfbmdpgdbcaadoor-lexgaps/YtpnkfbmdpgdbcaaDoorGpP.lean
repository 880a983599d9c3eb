import Derived.Test.YtpnkfbmdpgdbcaaDoorPik
import Derived.Lib.MapLaws
set_option linter.unusedVariables false
set_option linter.unusedSimpArgs false
namespace Go.Proofs.YtpnkfbmdpgdbcaaDoor
open Go.RowKit
namespace L
/-- a comment's letters: none ends the line -/
def ntL (l : List UInt8) : List UInt8 := l.filter fun c => c != 10
/-- what stands between two tokens -/
def gpL (k : Int) (nt : ByteArray) : List UInt8 := if k = 0 then [9] else if k = 1 then [10] else if k = 2 then 35 :: (ntL nt.data.toList ++ [10]) else if k = 3 then [32, 13, 10, 32, 32] else [32]
theorem byte_at (s : ByteArray) (k : Nat) (h : k < s.size) : (s[k]'h).toNat = bt s k := by
  unfold bt
  show _ = (s.data[k]!).toNat
  rw [getElem!_pos s.data k h]
  rfl
theorem ext_one (s : ByteArray) (i : Nat) (h : i < s.size) : s.extract i (i + 1) = ⟨#[s[i]'h]⟩ := by
  apply ByteArray.ext
  rw [ByteArray.data_extract]
  apply Array.ext
  · simp; have : s.data.size = s.size := rfl; omega
  · intro j h1 h2
    obtain rfl : j = 0 := by simp at h2; omega
    simp
    rfl
theorem take_one (s : ByteArray) (i : Nat) (h : i < s.size) : s.data.toList.take (i + 1) = s.data.toList.take i ++ [s[i]'h] := by
  rw [List.take_add_one]
  congr 1
  rw [List.getElem?_eq_getElem (by rw [Array.length_toList]; exact h)]
  rfl
theorem nt_step {s X : ByteArray} {i : Nat} (h : i < s.size) (hb : bt s i ≠ 10) (hX : X = ⟨(35 :: ntL (s.data.toList.take i)).toArray⟩) : X ++ s.extract i (i + 1) = ⟨(35 :: ntL (s.data.toList.take (i + 1))).toArray⟩ := by
  have hn : ((s[i]'h) != 10) = true := by
    rw [bne_iff_ne]
    intro q
    rw [← byte_at s i h, q] at hb
    exact hb rfl
  rw [hX, ext_one s i h, take_one s i h]
  apply ByteArray.ext
  rw [ByteArray.data_append]
  simp only [ntL, List.filter_append]
  simp only [List.filter, hn]
  simp
theorem nt_skip {s X : ByteArray} {i : Nat} (h : i < s.size) (hb : bt s i = 10) (hX : X = ⟨(35 :: ntL (s.data.toList.take i)).toArray⟩) : X = ⟨(35 :: ntL (s.data.toList.take (i + 1))).toArray⟩ := by
  have hn : ((s[i]'h) != 10) = false := by
    rw [bne_eq_false_iff_eq]
    have := byte_at s i h
    rw [hb] at this
    exact UInt8.toNat_inj.1 this
  rw [hX, take_one s i h]
  simp only [ntL, List.filter_append]
  simp only [List.filter, hn]
  simp
theorem nt_end {s X : ByteArray} {i : Nat} (h : ¬ i < s.size) (hX : X = ⟨(35 :: ntL (s.data.toList.take i)).toArray⟩) : X ++ ⟨#[10]⟩ = ⟨(35 :: (ntL s.data.toList ++ [10])).toArray⟩ := by
  rw [hX, List.take_of_length_le (by rw [Array.length_toList]; show s.size ≤ i; omega)]
  apply ByteArray.ext
  rw [ByteArray.data_append]
  simp
/-- letters of a quoted text -/
def qcL : List UInt8 → List UInt8
  | [] => []
  | c :: l => if c = 34 ∨ c = 92 then 92 :: c :: qcL l else c :: qcL l
theorem qcL_cons (c : UInt8) (l : List UInt8) : qcL (c :: l) = if c = 34 ∨ c = 92 then 92 :: c :: qcL l else c :: qcL l := rfl
theorem qcL_app (a b : List UInt8) : qcL (a ++ b) = qcL a ++ qcL b := by
  induction a with
  | nil => rfl
  | cons c l ih =>
    rw [List.cons_append, qcL_cons, qcL_cons, ih]
    split <;> simp
/-- a text in quotes -/
def qtL (s : ByteArray) : List UInt8 := 34 :: (qcL s.data.toList ++ [34])
theorem qc_step {s X : ByteArray} {i : Nat} (h : i < s.size) (hX : X = ⟨(34 :: qcL (s.data.toList.take i)).toArray⟩) :
    (bt s i = 34 ∨ bt s i = 92 → X ++ ⟨#[92]⟩ ++ s.extract i (i + 1) = ⟨(34 :: qcL (s.data.toList.take (i + 1))).toArray⟩) ∧
    (bt s i ≠ 34 → bt s i ≠ 92 → X ++ s.extract i (i + 1) = ⟨(34 :: qcL (s.data.toList.take (i + 1))).toArray⟩) := by
  have e34 : (s[i]'h) = 34 ↔ bt s i = 34 := ⟨fun q => by rw [← byte_at s i h, q]; rfl, fun q => UInt8.toNat_inj.1 ((byte_at s i h).trans q)⟩
  have e92 : (s[i]'h) = 92 ↔ bt s i = 92 := ⟨fun q => by rw [← byte_at s i h, q]; rfl, fun q => UInt8.toNat_inj.1 ((byte_at s i h).trans q)⟩
  rw [hX, ext_one s i h, take_one s i h, qcL_app]
  refine ⟨fun q => ?_, fun a b => ?_⟩
  · have : qcL [s[i]'h] = [92, s[i]'h] := by unfold qcL; rw [if_pos (by rw [e34, e92]; exact q)]; rfl
    rw [this]
    apply ByteArray.ext
    rw [ByteArray.data_append, ByteArray.data_append]
    simp
  · have : qcL [s[i]'h] = [s[i]'h] := by unfold qcL; rw [if_neg (by rw [e34, e92]; omega)]; rfl
    rw [this]
    apply ByteArray.ext
    rw [ByteArray.data_append]
    simp
theorem qc_end {s X : ByteArray} {i : Nat} (h : ¬ i < s.size) (hX : X = ⟨(34 :: qcL (s.data.toList.take i)).toArray⟩) : X ++ ⟨#[34]⟩ = ⟨(qtL s).toArray⟩ := by
  rw [hX, List.take_of_length_le (by rw [Array.length_toList]; show s.size ≤ i; omega)]
  apply ByteArray.ext
  rw [ByteArray.data_append]
  simp [qtL]
theorem qcL_len (l : List UInt8) : (qcL l).length ≤ 2 * l.length := by
  induction l with
  | nil => exact Nat.le_refl _
  | cons c l ih => unfold qcL; split <;> simp <;> omega
end L
end Go.Proofs.YtpnkfbmdpgdbcaaDoor
