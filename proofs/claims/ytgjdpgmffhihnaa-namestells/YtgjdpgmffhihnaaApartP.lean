import Derived.Test.YtgjdpgmffhihnaaWritten
set_option linter.unusedVariables false
set_option linter.unusedSimpArgs false
namespace Go.Proofs.Ytgjdpgmffhihnaa
namespace N
/-- reading back: what stands behind an opening quote -/
theorem escB_inj (c d : UInt8) (x y : List UInt8) (h : escB c ++ x = escB d ++ y) : c = d ∧ x = y := by
  unfold escB at h
  cases hc : sp c <;> cases hd : sp d <;> simp [hc, hd] at h
  · exact h
  · exfalso; simp [sp] at hc; exact hc.2 h.1
  · exfalso; simp [sp] at hd; exact hd.2 h.1.symm
  · exact h
theorem esc_inj (a b : List UInt8) (h : esc a = esc b) : a = b := by
  induction a generalizing b with
  | nil =>
    cases b with
    | nil => rfl
    | cons d r => simp only [esc, escB] at h; split at h <;> simp at h
  | cons c r ih =>
    cases b with
    | nil => simp only [esc, escB] at h; split at h <;> simp at h
    | cons d q =>
      have := escB_inj c d (esc r) (esc q) h
      rw [this.1, ih q this.2]
theorem quot_inj (a b : List UInt8) (h : quot a = quot b) : a = b := by
  unfold quot at h
  simp at h
  exact esc_inj a b h
theorem bare_head (s : ByteArray) (h : bare s = true) (l : List UInt8) : s.data.toList ≠ 34 :: l := by
  intro e
  simp only [bare, Bool.and_eq_true] at h
  have hz := valid_size h.1.1.1
  have hb := h.1.2
  have g := get_list s 0 (by omega)
  rw [e] at g
  simp at g
  unfold at0 at hb
  rw [← g] at hb
  exact absurd hb (by decide)
theorem wrt_inj (a b : ByteArray) (ha : valid a = true) (hb : valid b = true) (h : wrt a = wrt b) : a = b := by
  unfold wrt at h
  rw [if_pos ha, if_pos hb] at h
  have key : a.data.toList = b.data.toList → a = b := fun e => by rw [← back a, ← back b, e]
  cases xa : bare a <;> cases xb : bare b <;> simp only [xa, xb, if_true, if_false, Bool.false_eq_true] at h
  · exact key (quot_inj _ _ h)
  · exact absurd h.symm (bare_head b xb _)
  · exact absurd h (bare_head a xa _)
  · exact key h
theorem wrt_same (a b : ByteArray) (ha : valid a = true) (hb : valid b = true) :
    (wrt a == wrt b) = (a.toList == b.toList) := by
  rw [Bool.eq_iff_iff, beq_iff_eq, beq_iff_eq, Lib.toList_data, Lib.toList_data]
  constructor
  · intro h; rw [wrt_inj a b ha hb h]
  · intro h
    have : a = b := by rw [← back a, ← back b, h]
    rw [this]
end N
end Go.Proofs.Ytgjdpgmffhihnaa
