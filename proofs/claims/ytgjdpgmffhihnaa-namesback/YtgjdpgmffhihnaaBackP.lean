import Derived.Test.YtgjdpgmffhihnaaUnq
set_option linter.unusedVariables false
set_option linter.unusedSimpArgs false
namespace Go.Proofs.Ytgjdpgmffhihnaa
namespace N
theorem kws_valid : kws.all (fun k => valid ⟨k.toArray⟩) = true := by decide +kernel
theorem kw_valid (s : ByteArray) (h : kw s.toList = true) : valid s = true := by
  rw [kw_any, List.any_eq_true] at h
  obtain ⟨k, hk, he⟩ := h
  rw [beq_iff_eq, Lib.toList_data] at he
  have := List.all_eq_true.1 kws_valid k hk
  rw [← he, back] at this
  exact this
theorem bare_kw (s : ByteArray) (h : bare s = true) : kw s.toList = false := by
  simp only [bare, Bool.and_eq_true, Bool.not_eq_true'] at h
  exact h.1.1.2
theorem bare_valid (s : ByteArray) (h : valid s = false) : bare s = false := by
  simp [bare, h]
theorem size_list (s : ByteArray) : s.data.toList.length = s.size := Array.length_toList
theorem wrt_len (s : ByteArray) (h : valid s = true) : (wrt s).length ≤ 66 := by
  have hz := valid_size h
  have hl := size_list s
  unfold wrt
  rw [if_pos h]
  split
  · omega
  · have := (esc_len s.data.toList).2
    simp [quot]; omega
theorem quot_ne (l : List UInt8) : (quot l == l) = false := by
  rw [beq_eq_false_iff_ne]
  intro e
  have h1 := congrArg List.length e
  have h2 := (esc_len l).1
  simp [quot] at h1
  omega
end N
end Go.Proofs.Ytgjdpgmffhihnaa
