import Derived.Test.YtppcofopnelgjaaGreatDoorLeaf
import Derived.Test.YtppcofopnelgjaaGreatDoorShelf
import Derived.Lib.ConvBytes
import Derived.Lib.Hide
import Derived.Lib.Walk
import Derived.Laws.Strings3
import Derived.Laws.Closers25
import Derived.Laws.Closers25b
import Derived.BigCall
import Derived.BigGuard
set_option linter.unusedVariables false
set_option linter.unusedSimpArgs false
namespace Go.Proofs.YtppcofopnelgjaaGreatDoor
open Go.RowKit
namespace L
/-- a digit's value to the base 16 -/
def hv (b : Nat) : Nat := if b ≤ 57 then b - 48 else if b ≤ 70 then b - 55 else b - 87
def hexB (b : Nat) : Prop := (48 ≤ b ∧ b ≤ 57) ∨ (65 ≤ b ∧ b ≤ 70) ∨ (97 ≤ b ∧ b ≤ 102)
def hexN (acc : Nat) : List UInt8 → Nat
  | [] => acc
  | c :: cs => hexN (acc * 16 + hv c.toNat) cs
theorem hv_lt (b : Nat) (h : hexB b) : hv b < 16 := by
  unfold hexB at h; unfold hv
  split
  · omega
  · split <;> omega
theorem hexN_lt (l : List UInt8) : ∀ acc k, acc < 16 ^ k → (∀ c ∈ l, hexB c.toNat) → hexN acc l < 16 ^ (k + l.length) := by
  induction l with
  | nil => intro acc k h _; exact h
  | cons c cs ih =>
    intro acc k h hc
    have h1 := hv_lt c.toNat (hc c (List.mem_cons_self ..))
    have := ih (acc * 16 + hv c.toNat) (k + 1) (by rw [Nat.pow_succ]; omega) (fun x hx => hc x (List.mem_cons_of_mem _ hx))
    rw [show k + (c :: cs).length = k + 1 + cs.length by simp; omega]
    exact this
end L
theorem or_low (c : Nat) (h : 97 ≤ c ∧ c ≤ 102) : bits .or .u8 (c : Int) 32 = (c : Int) := by
  obtain ⟨h1, h2⟩ := h
  obtain rfl | rfl | rfl | rfl | rfl | rfl : c = 97 ∨ c = 98 ∨ c = 99 ∨ c = 100 ∨ c = 101 ∨ c = 102 := by omega
  all_goals rfl
theorem or_up (c : Nat) (h : 65 ≤ c ∧ c ≤ 70) : bits .or .u8 (c : Int) 32 = (c : Int) + 32 := by
  obtain ⟨h1, h2⟩ := h
  obtain rfl | rfl | rfl | rfl | rfl | rfl : c = 65 ∨ c = 66 ∨ c = 67 ∨ c = 68 ∨ c = 69 ∨ c = 70 := by omega
  all_goals rfl

set_option maxHeartbeats 8000000 in
set_option maxRecDepth 100000 in
theorem parseUint_hex (t : ByteArray) (hne : t.size ≠ 0) (hmax : t.size ≤ 6) (hx : ∀ c ∈ t.data.toList, L.hexB c.toNat) (w : World) :
    Calls Tryz.prog 167 #[.string t, .int .i64 16, .int .i64 32] w fun e w' => e = .returned (.tuple #[.int .u64 (L.hexN 0 t.data.toList : Int), .nilIface]) ∧ Below w.heap.size w w' := by
  have hemp : t.toList.isEmpty = false := by
    rw [← decide_eq_emptyBytes]
    exact decide_eq_false (fun h => hne (by rw [h]; rfl))
  have hcv := Lib.run_convert_string_bytes (P := Tryz.prog) w 9 195 5 t (u := .string) Tryz.underlying9 Tryz.underlying195 Tryz.underlying5
  have hB : ∀ j, j < t.size → (Lib.bytesWorld w 5 t).cell? ⟨w.heap.size, j, none⟩ = some (.int .u8 (t.data.toList.getD j 0).toNat) := fun j hj => Lib.bytesWorld_cell w 5 t j hj
  have hbel : Hid (Below w.heap.size w (Lib.bytesWorld w 5 t)) := by
    show Below _ _ _
    exact ⟨rfl, rfl, rfl, by rw [Lib.bytesWorld_size]; omega, fun k hk => Lib.bytesWorld_at_old w 5 t k hk⟩
  obtain ⟨W1, hW1⟩ : ∃ W1, W1 = Lib.bytesWorld w 5 t := ⟨_, rfl⟩
  rw [← hW1] at hcv hB hbel
  clear hW1
  obtain ⟨bs, hL⟩ : ∃ bs, bs = t.data.toList := ⟨_, rfl⟩
  have hLn : bs.length = t.size := by rw [hL, Lib.size_eq]
  rw [← hL] at hB hx ⊢
  clear hL
  have hmv : IntKind.u64.wrap (IntKind.u64.wrap 4294967296 - 1) = 4294967295 := by
    rw [IntKind.wrap_u64, IntKind.wrap_u64]
    decide
  have Hx := hide' hx
  clear hx
  go_enter Tryz.func167, Tryz.ntmps167
  go_wp2
  go_loop [12, 13, 101] (fun vu vn vi => ∃ (k acc : Nat) (a : Int), vu = .bool false ∧ vn = .int .u64 a ∧ vi = .int .i64 k ∧ k ≤ t.size ∧ Hid (a = (acc : Int) ∧ acc < 16 ^ k ∧ L.hexN 0 bs = L.hexN acc (bs.drop k)))
    (fun _ _ vi => t.size - (intOf vi).toNat)
  case atStart => exact ⟨0, 0, 0, rfl, rfl, rfl, by omega, rfl, by simp, rfl⟩
  case round =>
    obtain ⟨k, acc, a, rfl, rfl, rfl, hk, hh⟩ := hrel
    obtain ⟨ha, hacc, hdec⟩ := hh.out
    clear hh
    by_cases hkn : k < t.size
    · have hc := hB k hkn
      have hdrop : bs.drop k = bs[k]'(by omega) :: bs.drop (k + 1) := List.drop_eq_getElem_cons (by omega)
      have hget : bs.getD k 0 = bs[k]'(by omega) := by simp [List.getD, List.getElem?_eq_getElem (show k < bs.length by omega)]
      have hbx := Hx.out (bs[k]'(by omega)) (List.getElem_mem _)
      rw [hdrop] at hdec
      rw [hget] at hc
      generalize bs[k]'(by omega) = c at hc hdec hbx
      have hc256 : c.toNat < 256 := c.toNat_lt
      have hp : 16 ^ k ≤ 16 ^ 5 := Nat.pow_le_pow_right (by omega) (by omega)
      have hp5 : 16 ^ 5 = 1048576 := by decide
      have hac : acc < 1048576 := by omega
      have hh := L.hv_lt c.toNat hbx
      have hF : Hid (L.hexN 0 bs = L.hexN (acc * 16 + L.hv c.toNat) (bs.drop (k + 1)) ∧ acc * 16 + L.hv c.toNat < 16 ^ (k + 1)) := ⟨hdec, by rw [Nat.pow_succ]; omega⟩
      have a0 : 0 ≤ a := by omega
      have a1 : a < 1048576 := by omega
      clear hB hdrop hget hp hp5 hdec
      obtain ⟨n, hn⟩ : ∃ n, c.toNat = n := ⟨_, rfl⟩
      rw [hn] at hc hbx hh hF hc256
      clear hn
      have HA := hide' (And.intro ha (And.intro hacc hac))
      clear ha hacc hac
      rcases hbx with hd | hd | hd
      · obtain ⟨d0, d1⟩ := hd
        have hvd : Hid (a * 16 + ((n : Int) - 48) = ((acc * 16 + L.hv n : Nat) : Int)) := (by show _ = _; unfold L.hv; rw [if_pos d1]; have := HA.out.1; omega)
        go_wp2
        refine ⟨⟨k + 1, acc * 16 + L.hv n, a * 16 + ((n : Int) - 48), rfl, (by first | rfl | (congr 1; omega)), (by first | rfl | (congr 1; omega)), by omega, ⟨hvd.out, hF.out.2, hF.out.1⟩⟩, by simp [intOf]; omega⟩
      · obtain ⟨d0, d1⟩ := hd
        have hor := or_up n ⟨d0, d1⟩
        have hvd : Hid (a * 16 + ((n : Int) - 55) = ((acc * 16 + L.hv n : Nat) : Int)) := (by show _ = _; unfold L.hv; rw [if_neg (by omega), if_pos d1]; have := HA.out.1; omega)
        go_wp2_with ((go_at_call 182; refine (sh.internal_strconv_lower _ _).mono ?_; rintro e w1 ⟨rfl, hw1⟩; replace hw1 := hw1.symm; subst hw1; rw [hor]))
        refine ⟨⟨k + 1, acc * 16 + L.hv n, a * 16 + ((n : Int) - 55), rfl, (by first | rfl | (congr 1; omega)), (by first | rfl | (congr 1; omega)), by omega, ⟨hvd.out, hF.out.2, hF.out.1⟩⟩, by simp [intOf]; omega⟩
      · obtain ⟨d0, d1⟩ := hd
        have hor := or_low n ⟨d0, d1⟩
        have hvd : Hid (a * 16 + ((n : Int) - 87) = ((acc * 16 + L.hv n : Nat) : Int)) := (by show _ = _; unfold L.hv; rw [if_neg (by omega), if_neg (by omega)]; have := HA.out.1; omega)
        go_wp2_with ((go_at_call 182; refine (sh.internal_strconv_lower _ _).mono ?_; rintro e w1 ⟨rfl, hw1⟩; replace hw1 := hw1.symm; subst hw1; rw [hor]))
        refine ⟨⟨k + 1, acc * 16 + L.hv n, a * 16 + ((n : Int) - 87), rfl, (by first | rfl | (congr 1; omega)), (by first | rfl | (congr 1; omega)), by omega, ⟨hvd.out, hF.out.2, hF.out.1⟩⟩, by simp [intOf]; omega⟩
    · have hke : k = t.size := by omega
      have hr : Hid (L.hexN 0 bs = acc) := by
        show _ = _
        rw [hdec, List.drop_of_length_le (by omega)]; rfl
      have hr2 : Hid (((L.hexN 0 bs : Nat) : Int) = a) := (by show _ = _; rw [hr.out, ha])
      clear hke ha hdec hacc hr
      go_wp2
      go_ret2
      exact ⟨by rw [hr2.out]; rfl, hbel.out⟩

set_option maxHeartbeats 8000000 in
set_option maxRecDepth 100000 in
theorem parseInt_hex (t : ByteArray) (hne : t.size ≠ 0) (hmax : t.size ≤ 6) (hx : ∀ c ∈ t.data.toList, L.hexB c.toNat) (w : World) :
    Calls Tryz.prog 155 #[.string t, .int .i64 16, .int .i64 32] w fun e w' => e = .returned (.tuple #[.int .i64 (L.hexN 0 t.data.toList : Int), .nilIface]) ∧ Below w.heap.size w w' := by
  have hlt : (L.hexN 0 t.data.toList : Int) < 16777216 := by
    have h1 := L.hexN_lt t.data.toList 0 0 (by simp) hx
    have h2 : t.data.toList.length = t.size := by rw [Array.length_toList]; rfl
    have h3 : 16 ^ (0 + t.data.toList.length) ≤ 16 ^ 6 := Nat.pow_le_pow_right (by omega) (by omega)
    have h4 : 16 ^ 6 = 16777216 := by decide
    omega
  have h0 : (0 : Int) ≤ (L.hexN 0 t.data.toList : Int) := by omega
  have HP := hide' fun w => parseUint_hex t hne hmax hx w
  have hemp : t.toList.isEmpty = false := by
    rw [← decide_eq_emptyBytes]
    exact decide_eq_false (fun h => hne (by rw [h]; rfl))
  have hsz : 0 < t.size := by omega
  have hb : Hid (L.hexB (t[0]'hsz).toNat) := (hx (t[0]'hsz) (by
    have : t[0]'hsz = t.data.toList[0]'(by rw [Array.length_toList]; exact hsz) := by simp [ByteArray.getElem_eq_getElem_data]
    rw [this]; exact List.getElem_mem _))
  obtain ⟨n, hn⟩ : ∃ n, (t[0]'hsz).toNat = n := ⟨_, rfl⟩
  rw [hn] at hb
  have b1 : ((n : Int) == 43) = false := by have := hb.out; unfold L.hexB at this; simp; omega
  have b2 : ((n : Int) == 45) = false := by have := hb.out; unfold L.hexB at this; simp; omega
  have inner : Calls Tryz.prog 162 #[.string t, .int .i64 16, .int .i64 32] w fun e w' => e = .returned (.tuple #[.int .i64 (L.hexN 0 t.data.toList : Int), .nilIface]) ∧ Below w.heap.size w w' := by
    obtain ⟨V, hV⟩ : ∃ V : Int, (L.hexN 0 t.data.toList : Int) = V := ⟨_, rfl⟩
    rw [hV] at HP hlt h0 ⊢
    clear hx hb hV
    go_enter Tryz.func162, Tryz.ntmps162
    go_wp2_with (go_at_call 167; refine (HP.out _).mono ?_; rintro e w1 ⟨rfl, bl⟩)
    go_ret2
    exact ⟨rfl, bl⟩
  have HI := hide' inner
  clear inner HP hx hb hn
  obtain ⟨V, hV⟩ : ∃ V : Int, (L.hexN 0 t.data.toList : Int) = V := ⟨_, rfl⟩
  rw [hV] at HI hlt h0 ⊢
  clear hV
  go_enter Tryz.func155, Tryz.ntmps155
  go_wp2_with (go_at_call 162; refine HI.out.mono ?_; rintro e w1 ⟨rfl, bl⟩)
  go_ret2
  exact ⟨rfl, bl⟩
end Go.Proofs.YtppcofopnelgjaaGreatDoor
