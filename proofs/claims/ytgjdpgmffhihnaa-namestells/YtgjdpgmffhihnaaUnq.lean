import Derived.Test.YtgjdpgmffhihnaaApartP
set_option linter.unusedVariables false
set_option linter.unusedSimpArgs false
namespace Go.Proofs.Ytgjdpgmffhihnaa
open Go.RowKit
namespace N
theorem at_list (s : ByteArray) (k : Nat) (h : k < s.size) (c : UInt8) (e : s.data.toList[k]? = some c) : ((s[k]'h).toNat : Int) = (c.toNat : Nat) := by
  rw [at0_eq s k h, at0]
  rw [get_list s k h] at e
  simp at e
  rw [e]
theorem quot_at (l p r : List UInt8) (c : UInt8) (h : l = p ++ c :: r) (j : Nat) (d : UInt8) (hd : (escB c)[j]? = some d) : (quot l)[(esc p).length + 1 + j]? = some d := by
  have hj : j < (escB c).length := by
    rcases Nat.lt_or_ge j (escB c).length with h | h
    · exact h
    · rw [List.getElem?_eq_none h] at hd; cases hd
  have e : quot l = (34 :: esc p) ++ (escB c ++ (esc r ++ [34])) := by
    rw [h, quot, esc_app]; simp [esc]
  rw [e, List.getElem?_append_right (by simp)]
  have e2 : (esc p).length + 1 + j - (34 :: esc p).length = j := by simp
  rw [e2, List.getElem?_append_left hj]
  exact hd
theorem esc_split (l p r : List UInt8) (c : UInt8) (h : l = p ++ c :: r) : (esc l).length = (esc p).length + (escB c).length + (esc r).length := by
  rw [h, esc_app]; simp [esc]; omega
theorem quot_first (l : List UInt8) : (quot l)[0]? = some 34 := by simp [quot]
theorem quot_last (l : List UInt8) : (quot l)[(esc l).length + 1]? = some 34 := by
  simp only [quot]
  rw [List.getElem?_append_right (by simp)]
  simp
theorem ext_one (s : ByteArray) (p : List UInt8) (j : Nat) (c : UInt8) (e : s.data.toList[j]? = some c) : ((⟨p.toArray⟩ : ByteArray) ++ s.extract j (j + 1)) = ⟨(p ++ [c]).toArray⟩ := by
  apply ByteArray.ext
  apply Array.ext'
  have hj : j < s.data.toList.length := by
    rcases Nat.lt_or_ge j s.data.toList.length with h | h
    · exact h
    · rw [List.getElem?_eq_none h] at e; cases e
  rw [ByteArray.data_append]
  simp only [Array.toList_append, List.toList_toArray]
  rw [Lib.extract_data, List.drop_eq_getElem_cons hj]
  rw [List.getElem?_eq_getElem hj] at e
  simp only [Option.some.injEq] at e
  rw [e]
  have : j + 1 - j = 1 := by omega
  rw [this]
  simp
end N
theorem ret_unq {a b : List UInt8} (h : a = b) : Ending.returned (.tuple #[.string ⟨a.toArray⟩, .bool true]) = .returned (.tuple #[.string ⟨b.toArray⟩, .bool true]) := by rw [h]

set_option maxRecDepth 100000 in
set_option maxHeartbeats 1000000 in
theorem unquoted_any (s : ByteArray) (l : List UInt8) (w : World) (hq : s.data.toList = N.quot l) (hs : s.size ≤ 66) :
    Calls Try.prog 18 #[.string s] w fun e w' => e = .returned (.tuple #[.string ⟨l.toArray⟩, .bool true]) ∧ w' = w := by
  have Hq : Hid (s.data.toList = N.quot l) := hq
  clear hq
  have hz : s.size = (N.esc l).length + 2 := by
    have : s.data.toList.length = s.size := Array.length_toList
    rw [← this, Hq.out]; simp [N.quot]
  have Hz : Hid (s.size = (N.esc l).length + 2) := hz
  have hz2 : 2 ≤ s.size := by omega
  have p0 : 0 < s.size := by omega
  have p1 : s.size - 1 < s.size := by omega
  have hz3 : s.size - 1 = (N.esc l).length + 1 := by omega
  have h0 : ((s[0]'p0).toNat : Int) = 34 := N.at_list s 0 p0 34 (by rw [Hq.out]; exact N.quot_first l)
  have h1 : ((s[s.size - 1]'p1).toNat : Int) = 34 := N.at_list s (s.size - 1) p1 34 (by rw [Hq.out, hz3]; exact N.quot_last l)
  clear hz hz3
  have g1 : decide ((s.size : Int) < 2) = false := by simp; omega
  go_enter Try.func18, Try.ntmps18
  go_wp2
  clear h0 h1
  go_loop [4, 5] (fun o i => ∃ p r, l = p ++ r ∧ o = .string ⟨p.toArray⟩ ∧ i = .int .i64 ((N.esc p).length + 1 : Nat)) (fun _ i => (N.esc l).length + 2 - (intOf i).toNat)
  case atStart => exact ⟨[], l, rfl, rfl, rfl⟩
  case round =>
    obtain ⟨p, r, hl, rfl, rfl⟩ := hrel
    have Hl : Hid (l = p ++ r) := hl
    clear hl
    cases r with
    | nil =>
      have hp : l = p := by rw [Hl.out]; simp
      have hk : ((N.esc p).length + 1 : Nat) = s.size - 1 := by rw [Hz.out, hp]; omega
      have Hp : Hid (l = p) := hp
      clear hp
      have hx : ¬ (((N.esc p).length + 1 : Nat) : Int) < (s.size : Int) - 1 := by omega
      generalize ((N.esc p).length + 1 : Nat) = k at *
      clear hk
      go_wp2
      go_ret2
      refine ⟨?_, rfl⟩
      rw [Hp.out]
      rfl
    | cons c r =>
      have hes := N.esc_split l p r c Hl.out
      cases hsp : N.sp c with
      | true =>
        have hE : N.escB c = [92, c] := by simp [N.escB, hsp]
        rw [hE] at hes
        have f1 : (N.esc p).length + 1 < s.size := by have := Hz.out; simp at hes; omega
        have f2 : (N.esc p).length + 1 + 1 + 1 < s.size := by have := Hz.out; simp at hes; omega
        have c1 : ((s[(N.esc p).length + 1]'f1).toNat : Int) = 92 := N.at_list s _ f1 92 (by rw [Hq.out]; exact N.quot_at l p r c Hl.out 0 92 (by rw [hE]; rfl))
        have c2 : s.data.toList[(N.esc p).length + 1 + 1]? = some c := by rw [Hq.out]; exact N.quot_at l p r c Hl.out 1 c (by rw [hE]; rfl)
        clear hes hE
        have hpl : p.length ≤ 66 := by have := (N.esc_len p).1; omega
        have hkk : Hid ((N.esc (p ++ [c])).length + 1 = (N.esc p).length + 1 + 1 + 1) := (show (N.esc (p ++ [c])).length + 1 = (N.esc p).length + 1 + 1 + 1 by rw [N.esc_snoc]; simp [N.escB, hsp])
        have hle : Hid ((N.esc p).length + 1 + 2 ≤ (N.esc l).length + 1) := (show (N.esc p).length + 1 + 2 ≤ (N.esc l).length + 1 by have := Hz.out; omega)
        generalize ((N.esc p).length + 1 : Nat) = k at *
        have C2 : Hid (s.data.toList[k + 1]? = some c) := c2
        clear c2
        have hov : ¬ 9223372036854775807 < p.length + (min (k + 1 + 1) s.size - (k + 1)) := by omega
        have hne : (((k : Int) + 1) == (s.size : Int) - 1) = false := by simp; omega
        go_wp2
        have hx := N.ext_one s p (k + 1) c C2.out
        rw [hx]
        refine ⟨⟨p ++ [c], r, by rw [Hl.out]; simp, rfl, by rw [hkk.out]; go_num⟩, by have := hle.out; simp [intOf]; omega⟩
      | false =>
        have hE : N.escB c = [c] := by simp [N.escB, hsp]
        rw [hE] at hes
        have f1 : (N.esc p).length + 1 < s.size := by have := Hz.out; simp at hes; omega
        have f2 : (N.esc p).length + 1 + 1 < s.size := by have := Hz.out; simp at hes; omega
        have c2 : s.data.toList[(N.esc p).length + 1]? = some c := by rw [Hq.out]; exact N.quot_at l p r c Hl.out 0 c (by rw [hE]; rfl)
        have c1 := N.at_list s _ f1 c c2
        have hpl : p.length ≤ 66 := by have := (N.esc_len p).1; omega
        have hkk : Hid ((N.esc (p ++ [c])).length + 1 = (N.esc p).length + 1 + 1) := (show (N.esc (p ++ [c])).length + 1 = (N.esc p).length + 1 + 1 by rw [N.esc_snoc]; simp [N.escB, hsp])
        have hle : Hid ((N.esc p).length + 1 + 1 ≤ (N.esc l).length + 1) := (show (N.esc p).length + 1 + 1 ≤ (N.esc l).length + 1 by have := Hz.out; omega)
        clear hes hE
        generalize ((N.esc p).length + 1 : Nat) = k at *
        have C2 : Hid (s.data.toList[k]? = some c) := c2
        clear c2
        have q1 : (((s[k]'f1).toNat : Int) == 34) = false := by
          rw [c1]; simp [N.sp] at hsp; simp
          intro h; exact hsp.1 (UInt8.toNat_inj.1 (by simp; omega))
        have q2 : (((s[k]'f1).toNat : Int) == 92) = false := by
          rw [c1]; simp [N.sp] at hsp; simp
          intro h; exact hsp.2 (UInt8.toNat_inj.1 (by simp; omega))
        clear c1
        have hov : ¬ 9223372036854775807 < p.length + (min (k + 1) s.size - k) := by omega
        go_wp2
        have hx := N.ext_one s p k c C2.out
        rw [hx]
        refine ⟨⟨p ++ [c], r, by rw [Hl.out]; simp, rfl, by rw [hkk.out]; go_num⟩, by have := hle.out; simp [intOf]; omega⟩
end Go.Proofs.Ytgjdpgmffhihnaa
