import Derived.Test.YtgjdpgmffhihnaaBare
set_option linter.unusedVariables false
set_option linter.unusedSimpArgs false
namespace Go.Proofs.Ytgjdpgmffhihnaa
open Go.RowKit

namespace N
def sp (c : UInt8) : Bool := c == 34 || c == 92
def escB (c : UInt8) : List UInt8 := if sp c then [92, c] else [c]
def esc : List UInt8 → List UInt8
  | [] => []
  | c :: r => escB c ++ esc r
def quot (l : List UInt8) : List UInt8 := 34 :: esc l ++ [34]
theorem esc_app (a b : List UInt8) : esc (a ++ b) = esc a ++ esc b := by
  induction a with
  | nil => rfl
  | cons c r ih => simp [esc, ih]
theorem esc_snoc (l : List UInt8) (c : UInt8) : esc (l ++ [c]) = esc l ++ escB c := by
  rw [esc_app]; simp [esc]
theorem esc_len (l : List UInt8) : l.length ≤ (esc l).length ∧ (esc l).length ≤ 2 * l.length := by
  induction l with
  | nil => simp [esc]
  | cons c r ih =>
    simp only [esc, List.length_append, List.length_cons, escB]
    split <;> simp <;> omega
theorem take_snoc (s : ByteArray) (k : Nat) (h : k < s.size) : s.data.toList.take (k + 1) = s.data.toList.take k ++ [s[k]] := by
  rw [List.take_succ_eq_append_getElem (by simpa using h)]; rfl
theorem sp_yes34 (c : UInt8) (h : ((c.toNat : Int) == 34) = true) : escB c = [92, c] := by
  have : c = 34 := UInt8.toNat_inj.1 (by simp at h ⊢; omega)
  simp [escB, sp, this]
theorem sp_yes92 (c : UInt8) (h : ((c.toNat : Int) == 92) = true) : escB c = [92, c] := by
  have : c = 92 := UInt8.toNat_inj.1 (by simp at h ⊢; omega)
  simp [escB, sp, this]
theorem sp_no (c : UInt8) (h1 : ((c.toNat : Int) == 34) = false) (h2 : ((c.toNat : Int) == 92) = false) : escB c = [c] := by
  have a : (c == 34) = false := by
    simp at h1 ⊢
    intro e; rw [e] at h1; simp at h1
  have b : (c == 92) = false := by
    simp at h2 ⊢
    intro e; rw [e] at h2; simp at h2
  simp [escB, sp, a, b]
end N

theorem cells_snoc (l : List UInt8) (c : UInt8) : Lib.byteCells (l ++ [c]) = Lib.byteCells l ++ [.int .u8 (c.toNat : Int)] := by
  simp [Lib.byteCells]

theorem ret_str {a b : List UInt8} (h : a = b) : Ending.returned (.string ⟨a.toArray⟩) = .returned (.string ⟨b.toArray⟩) := by rw [h]

set_option maxRecDepth 100000 in
set_option maxHeartbeats 2000000 in
theorem quoted_any (s : ByteArray) (w : World) (hs : s.size ≤ 32) :
    Calls Try.prog 39 #[.string s] w fun e w' => e = .returned (.string ⟨(N.quot s.data.toList).toArray⟩) ∧ Below w.heap.size w w' := by
  have hl : s.data.toList.length = s.size := Array.length_toList
  have Hl : Hid (s.data.toList.length = s.size) := hl
  clear hl
  go_enter Try.func39, Try.ntmps39
  go_wp2_with fail
  refine (sh.Builder_WriteByte w.heap.size w.heap.size [] 34 _ (Lib.fresh_isBuilder 84 5 w) (by simp) (by simp)).mono ?_
  rintro e w1 ⟨rfl, hB1, hb1⟩
  have hb2 : Below w.heap.size w w1 := ((Below.refl _ _).alloc (Nat.le_refl _) _).trans hb1
  clear hb1
  go_wp2_with fail
  go_loopw [4] (fun i w' => ∃ k : Nat, k ≤ s.size ∧ i = .int .i64 k ∧ Lib.IsBuilder 84 5 w.heap.size w.heap.size (Lib.byteCells (34 :: N.esc (s.data.toList.take k))) w' ∧ Below w.heap.size w w') (fun i _ => s.size - (intOf i).toNat)
  case atStart => exact ⟨0, Nat.zero_le _, rfl, Or.inr hB1, hb2⟩
  case round =>
    obtain ⟨k, hk, rfl, hB, hb⟩ := hrel
    have hsz := hb.size
    by_cases hlt : k < s.size
    · have hts : Hid (s.data.toList.take (k + 1) = s.data.toList.take k ++ [s[k]]) := N.take_snoc s k hlt
      have hln : (N.esc (s.data.toList.take k)).length ≤ 64 := by
        have := (N.esc_len (s.data.toList.take k)).2
        have := List.length_take_le k s.data.toList
        omega
      have fin : ∀ (w2 w3 : World) (E : List UInt8), N.escB s[k] = E → Lib.BuilderAt 84 5 w.heap.size w.heap.size (.pointer (some ⟨w.heap.size, 0, none⟩)) (Lib.byteCells (34 :: N.esc (s.data.toList.take k) ++ E)) w3 → Lib.IsBuilder 84 5 w.heap.size w.heap.size (Lib.byteCells (34 :: N.esc (s.data.toList.take (k + 1)))) w3 := by
        intro w2 w3 E hE h3
        rw [hts.out, N.esc_snoc, hE]
        exact Or.inr h3
      cases h34 : ((s[k].toNat : Int) == 34) with
      | true =>
        have hE := N.sp_yes34 s[k] h34
        have HE : Hid (N.escB s[k] = [92, s[k]]) := hE
        clear hE
        go_wp2_with fail
        refine (sh.Builder_WriteByte w.heap.size w.heap.size _ 92 _ hB (by rw [Lib.byteCells_length]; simp; omega) (by omega)).mono ?_
        rintro e w2 ⟨rfl, hB2, hb2'⟩
        have hsz2 := hb2'.size
        go_wp2_with fail
        refine (sh.Builder_WriteByte w.heap.size w.heap.size _ _ _ (Or.inr hB2) (by rw [List.length_append, Lib.byteCells_length]; simp; omega) (by omega)).mono ?_
        rintro e w3 ⟨rfl, hB3, hb3⟩
        have hB4 := fin w2 w3 _ HE.out (by simpa [Lib.byteCells] using hB3)
        have hb4 := (hb.trans hb2').trans hb3
        clear hB hB2 hB3 hb hb2' hb3 fin
        go_wp2_with fail
        go_roundw
        case rel => exact ⟨k + 1, by omega, by go_num, hB4, hb4⟩
        case measure => simp [intOf]; omega
      | false =>
        cases h92 : ((s[k].toNat : Int) == 92) with
        | true =>
          have hE := N.sp_yes92 s[k] h92
          have HE : Hid (N.escB s[k] = [92, s[k]]) := hE
          clear hE
          go_wp2_with fail
          refine (sh.Builder_WriteByte w.heap.size w.heap.size _ 92 _ hB (by rw [Lib.byteCells_length]; simp; omega) (by omega)).mono ?_
          rintro e w2 ⟨rfl, hB2, hb2'⟩
          have hsz2 := hb2'.size
          go_wp2_with fail
          refine (sh.Builder_WriteByte w.heap.size w.heap.size _ _ _ (Or.inr hB2) (by rw [List.length_append, Lib.byteCells_length]; simp; omega) (by omega)).mono ?_
          rintro e w3 ⟨rfl, hB3, hb3⟩
          have hB4 := fin w2 w3 _ HE.out (by simpa [Lib.byteCells] using hB3)
          have hb4 := (hb.trans hb2').trans hb3
          clear hB hB2 hB3 hb hb2' hb3 fin
          go_wp2_with fail
          go_roundw
          case rel => exact ⟨k + 1, by omega, by go_num, hB4, hb4⟩
          case measure => simp [intOf]; omega
        | false =>
          have hE := N.sp_no s[k] h34 h92
          have HE : Hid (N.escB s[k] = [s[k]]) := hE
          clear hE
          go_wp2_with fail
          refine (sh.Builder_WriteByte w.heap.size w.heap.size _ _ _ hB (by rw [Lib.byteCells_length]; simp; omega) (by omega)).mono ?_
          rintro e w3 ⟨rfl, hB3, hb3⟩
          have hB4 := fin w3 w3 _ HE.out (by simpa [Lib.byteCells] using hB3)
          have hb4 := hb.trans hb3
          clear hB hB3 hb hb3 fin
          go_wp2_with fail
          go_roundw
          case rel => exact ⟨k + 1, by omega, by go_num, hB4, hb4⟩
          case measure => simp [intOf]; omega
    · have hfull : s.data.toList.take k = s.data.toList := List.take_of_length_le (by rw [Hl.out]; omega)
      rw [hfull] at hB
      clear hfull
      have hln : (N.esc s.data.toList).length ≤ 64 := by
        have := (N.esc_len s.data.toList).2
        have := Hl.out
        omega
      go_wp2_with fail
      refine (sh.Builder_WriteByte w.heap.size w.heap.size _ 34 _ hB (by rw [Lib.byteCells_length]; simp; omega) (by omega)).mono ?_
      rintro e w2 ⟨rfl, hB2, hb2'⟩
      have hB5 : Lib.IsBuilder 84 5 w.heap.size w.heap.size (Lib.byteCells (N.quot s.data.toList)) w2 := Or.inr (by simpa [N.quot, Lib.byteCells] using hB2)
      have hb5 := hb.trans hb2'
      clear hB hB2 hb hb2'
      go_wp2_with fail
      refine (sh.Builder_String w.heap.size w.heap.size _ _ hB5 (by simp [N.quot])).mono ?_
      rintro e w3 ⟨rfl, hb3⟩
      go_wp2_with fail
      go_ret
      exact ⟨rfl, hb5.trans hb3⟩
end Go.Proofs.Ytgjdpgmffhihnaa
