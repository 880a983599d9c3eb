import Derived.Test.YtagdgbbomohooaaGreatDoorPik
import Derived.Test.YtagdgbbomohooaaGreatDoorHex
set_option linter.unusedVariables false
set_option linter.unusedSimpArgs false
namespace Go.Proofs.YtagdgbbomohooaaGreatDoor
open Go.RowKit
namespace L
theorem hexN_acc (l : List UInt8) : ∀ a, hexN a l = a * 16 ^ l.length + hexN 0 l := by
  induction l with
  | nil => intro a; simp [hexN]
  | cons c l ih =>
    intro a
    unfold hexN
    rw [ih (a * 16 + hv c.toNat), ih (0 * 16 + hv c.toNat), List.length_cons, Nat.pow_succ]
    rw [Nat.zero_mul, Nat.zero_add, Nat.add_mul]
    rw [Nat.mul_assoc, Nat.mul_comm 16 (16 ^ l.length)]
    omega
theorem hexN_cons (c : UInt8) (l : List UInt8) : hexN 0 (c :: l) = hv c.toNat * 16 ^ l.length + hexN 0 l := by
  show hexN (0 * 16 + hv c.toNat) l = _
  rw [Nat.zero_mul, Nat.zero_add]
  exact hexN_acc l _
/-- the digits, small ones and great ones -/
def dgs : ByteArray := ⟨#[48, 49, 50, 51, 52, 53, 54, 55, 56, 57, 97, 98, 99, 100, 101, 102, 65, 66, 67, 68, 69, 70]⟩
def dgt (d : Nat) : UInt8 := dgs.data.getD d 0
theorem dgt_all : ∀ d : Fin 22, dgs.extract d.val (d.val + 1) = ⟨#[dgt d.val]⟩ ∧ hexB (dgt d.val).toNat ∧ hv (dgt d.val).toNat = if d.val < 16 then d.val else d.val - 6 := by
  intro d
  have : ∀ d : Fin 22, (dgs.extract d.val (d.val + 1)).data = #[dgt d.val] ∧ ((48 ≤ (dgt d.val).toNat ∧ (dgt d.val).toNat ≤ 57) ∨ (65 ≤ (dgt d.val).toNat ∧ (dgt d.val).toNat ≤ 70) ∨ (97 ≤ (dgt d.val).toNat ∧ (dgt d.val).toNat ≤ 102)) ∧ hv (dgt d.val).toNat = if d.val < 16 then d.val else d.val - 6 := by decide +kernel
  obtain ⟨h1, h2, h3⟩ := this d
  exact ⟨ByteArray.ext h1, h2, h3⟩
theorem ba_cons (c : UInt8) (H : List UInt8) : (⟨#[c]⟩ : ByteArray) ++ ⟨H.toArray⟩ = ⟨(c :: H).toArray⟩ := by
  apply ByteArray.ext
  rw [ByteArray.data_append]
  simp
theorem ba_size (H : List UInt8) : (⟨H.toArray⟩ : ByteArray).size = H.length := by show H.toArray.size = _; simp
/-- a digit more, ahead -/
theorem dig_more {n j d e : Nat} {H : List UInt8} (hl : H.length = j) (hx : ∀ c ∈ H, hexB c.toNat) (hv' : hexN 0 H = n % 16 ^ j) (hd : d = n / 16 ^ j % 16) (he : e = d ∨ (9 < d ∧ e = d + 6)) :
    dgs.extract e (e + 1) ++ ⟨H.toArray⟩ = ⟨(dgt e :: H).toArray⟩ ∧ (dgt e :: H).length = j + 1 ∧ (∀ c ∈ dgt e :: H, hexB c.toNat) ∧ hexN 0 (dgt e :: H) = n % 16 ^ (j + 1) := by
  have hd16 : d < 16 := by rw [hd]; exact Nat.mod_lt _ (by omega)
  have he22 : e < 22 := by omega
  obtain ⟨h1, h2, h3⟩ := dgt_all ⟨e, he22⟩
  simp only at h1 h2 h3
  refine ⟨by rw [h1]; exact ba_cons _ _, by simp [hl], fun c hc => ?_, ?_⟩
  · rcases List.mem_cons.1 hc with rfl | hc
    · exact h2
    · exact hx c hc
  · rw [hexN_cons, hl, hv', h3]
    have e1 : (if e < 16 then e else e - 6) = d := by
      rcases he with rfl | ⟨h, rfl⟩
      · rw [if_pos hd16]
      · rw [if_neg (by omega)]; omega
    rw [e1, hd, Nat.pow_succ, Nat.mod_mul]
    rw [Nat.mul_comm (n / 16 ^ j % 16)]
    omega
theorem nought_more (H : List UInt8) : hexN 0 (48 :: H) = hexN 0 H := by
  rw [hexN_cons]
  show hv 48 * _ + _ = _
  have : hv 48 = 0 := rfl
  rw [this]; omega
end L
def sl (v : Value) : Nat := match v with
  | .string b => b.size
  | _ => 0
end Go.Proofs.YtagdgbbomohooaaGreatDoor
