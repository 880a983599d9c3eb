import Derived.Test.YtagdgbbomohooaaGreatDoorHxV
import Derived.Test.YtagdgbbomohooaaGreatDoorEsP
import Derived.Test.YtagdgbbomohooaaGreatDoorFirstW
import Derived.Test.YtagdgbbomohooaaGreatDoorPik
import Derived.Deep.CutBlock
import Derived.Deep.DeepCutAuto
set_option linter.unusedVariables false
set_option linter.unusedSimpArgs false
namespace Go.Proofs.YtagdgbbomohooaaGreatDoor
open Go.RowKit
theorem esc_text (H : List UInt8) : ((⟨#[34, 92, 117, 123]⟩ : ByteArray) ++ ⟨H.toArray⟩) ++ ⟨#[125, 34]⟩ = ⟨(escD H).toArray⟩ := by
  apply ByteArray.ext
  rw [ByteArray.data_append, ByteArray.data_append]
  simp [escD]
theorem escD_size (H : List UInt8) : (⟨(escD H).toArray⟩ : ByteArray).size = 6 + H.length := by
  show (escD H).toArray.size = _
  rw [List.size_toArray, escD_len]
theorem enc_small (r : Int) : (Utf8.encode r).size ≤ 4 := by
  unfold Utf8.encode
  simp only
  repeat' split
  all_goals first | (show 1 ≤ 4; omega) | (show 2 ≤ 4; omega) | (show 3 ≤ 4; omega) | (show 4 ≤ 4; omega)
theorem wrap32 (n : Nat) (h : n < 16777216) : IntKind.wrap .i32 (n : Int) = (n : Int) := by
  unfold IntKind.wrap
  simp only [IntKind.bits, IntKind.signed]
  simp
  omega
set_option maxHeartbeats 4000000 in
set_option maxRecDepth 100000 in
theorem esc_a1 (v k : Int) (n : Nat) (w : World) (hv : -9223372036854775808 ≤ v ∧ v ≤ 9223372036854775807) (hk : -9223372036854775808 ≤ k ∧ k ≤ 9223372036854775807) (hn : pik v 16777216 = (n : Int)) (hn2 : n < 16777216) (hg : w.cell? ⟨0, 0, none⟩ = some (ty 29)) (hA : 1114111 < n) :
    Calls Tryz.prog 7 #[.int .i64 v, .int .i64 k] w fun e w' => e = .returned (.bool true) ∧ Below w.heap.size w w' := by
  have HA := hide' (alive_any w)
  have HP := hide' (fun W => pick_any v 16777216 W hv (by omega))
  rw [hn] at HP
  have HX := hide' (fun W => hexed_any n hn2 k hk W)
  have HT := hide' fun fb k l c word w a b => told_flt fb k l c word w a b
  have HG := hide' hg
  have hA' : (1114111 : Int) < (n : Int) := by omega
  have HV := hide' (show Lib.validRune ((n : Nat) : Int) = false by unfold Lib.validRune; simp; omega)
  clear hv hk hn hn2 hg hA
  go_enter Tryz.func7, Tryz.ntmps7
  go_wp2_with fail
  refine HA.out.mono ?_
  rintro e w1 ⟨rfl, b1⟩
  have B1 := hide' b1
  clear b1 HA
  go_wp2_with fail
  refine (HP.out _).mono ?_
  rintro e wq ⟨rfl, hwq⟩
  obtain rfl := hwq
  clear HP
  go_wp2_with fail
  refine (HX.out _).mono ?_
  rintro e wq2 ⟨H, rfl, hwq, ⟨h1, h6⟩, hx, hv⟩
  obtain rfl := hwq
  have hs := scan_fun ⟨(escD H).toArray⟩ wq2 (by rw [escD_size]; omega)
  rw [scn_esc H h1 h6 hx] at hs
  unfold escR ScanIs at hs
  rw [hv, HV.out] at hs
  simp only [Bool.false_eq_true, if_false] at hs
  have HS := hide' hs
  have hz : (⟨H.toArray⟩ : ByteArray).size ≤ 6 := by rw [L.ba_size]; exact h6
  obtain ⟨X, hX⟩ : ∃ X : ByteArray, X = ⟨H.toArray⟩ := ⟨_, rfl⟩
  have HXX := hide' hX
  rw [← hX] at hz ⊢
  have o1 : ¬ 9223372036854775807 < 4 + X.size := by omega
  have o2 : ¬ 9223372036854775807 < 4 + X.size + 2 := by omega
  clear hs hX HX h1 h6 hx hv hz
  go_wp2_with fail
  rw [HXX.out, esc_text]
  generalize (⟨(escD H).toArray⟩ : ByteArray) = S0 at *
  generalize ((⟨#[34, 92, 117, 123]⟩ : ByteArray) ++ ⟨H.toArray⟩) = S1 at *
  refine HS.out.mono ?_
  rintro e w2 ⟨⟨fb, rfl, hfb, hflt⟩, b2⟩
  have G2 := hide' (below_keeps b2 (below_keeps B1.out HG.out))
  have F2 := hide' hflt
  have B2 := hide' (B1.out.trans (b2.mono B1.out.size))
  clear hflt hfb b2 HS HXX o1 o2
  go_wp2_with fail
  refine (HT.out _ _ _ _ _ _ F2.out G2.out).mono ?_
  rintro e w3 ⟨rfl, b3⟩
  have B3 := hide' (B2.out.trans (b3.mono B2.out.size))
  clear b3 HT F2 G2
  go_wp2
  go_ret
  exact ⟨rfl, B3.out.alloc (by have := B3.out.size; omega) _⟩
set_option maxHeartbeats 4000000 in
set_option maxRecDepth 100000 in
theorem esc_a2 (v k : Int) (n : Nat) (w : World) (hv : -9223372036854775808 ≤ v ∧ v ≤ 9223372036854775807) (hk : -9223372036854775808 ≤ k ∧ k ≤ 9223372036854775807) (hn : pik v 16777216 = (n : Int)) (hn2 : n < 16777216) (hg : w.cell? ⟨0, 0, none⟩ = some (ty 29)) (hA : 55296 ≤ n ∧ n ≤ 57343) :
    Calls Tryz.prog 7 #[.int .i64 v, .int .i64 k] w fun e w' => e = .returned (.bool true) ∧ Below w.heap.size w w' := by
  have HA := hide' (alive_any w)
  have HP := hide' (fun W => pick_any v 16777216 W hv (by omega))
  rw [hn] at HP
  have HX := hide' (fun W => hexed_any n hn2 k hk W)
  have HT := hide' fun fb k l c word w a b => told_flt fb k l c word w a b
  have HG := hide' hg
  have hA' : ¬ (1114111 : Int) < (n : Int) := by omega
  have hA2 : (55296 : Int) ≤ (n : Int) := by omega
  have hA3 : (n : Int) ≤ 57343 := by omega
  have HV := hide' (show Lib.validRune ((n : Nat) : Int) = false by unfold Lib.validRune; simp; omega)
  clear hv hk hn hn2 hg hA
  go_enter Tryz.func7, Tryz.ntmps7
  go_wp2_with fail
  refine HA.out.mono ?_
  rintro e w1 ⟨rfl, b1⟩
  have B1 := hide' b1
  clear b1 HA
  go_wp2_with fail
  refine (HP.out _).mono ?_
  rintro e wq ⟨rfl, hwq⟩
  obtain rfl := hwq
  clear HP
  go_wp2_with fail
  refine (HX.out _).mono ?_
  rintro e wq2 ⟨H, rfl, hwq, ⟨h1, h6⟩, hx, hv⟩
  obtain rfl := hwq
  have hs := scan_fun ⟨(escD H).toArray⟩ wq2 (by rw [escD_size]; omega)
  rw [scn_esc H h1 h6 hx] at hs
  unfold escR ScanIs at hs
  rw [hv, HV.out] at hs
  simp only [Bool.false_eq_true, if_false] at hs
  have HS := hide' hs
  have hz : (⟨H.toArray⟩ : ByteArray).size ≤ 6 := by rw [L.ba_size]; exact h6
  obtain ⟨X, hX⟩ : ∃ X : ByteArray, X = ⟨H.toArray⟩ := ⟨_, rfl⟩
  have HXX := hide' hX
  rw [← hX] at hz ⊢
  have o1 : ¬ 9223372036854775807 < 4 + X.size := by omega
  have o2 : ¬ 9223372036854775807 < 4 + X.size + 2 := by omega
  clear hs hX HX h1 h6 hx hv hz
  go_wp2_with fail
  rw [HXX.out, esc_text]
  generalize (⟨(escD H).toArray⟩ : ByteArray) = S0 at *
  generalize ((⟨#[34, 92, 117, 123]⟩ : ByteArray) ++ ⟨H.toArray⟩) = S1 at *
  refine HS.out.mono ?_
  rintro e w2 ⟨⟨fb, rfl, hfb, hflt⟩, b2⟩
  have G2 := hide' (below_keeps b2 (below_keeps B1.out HG.out))
  have F2 := hide' hflt
  have B2 := hide' (B1.out.trans (b2.mono B1.out.size))
  clear hflt hfb b2 HS HXX o1 o2
  go_wp2_with fail
  refine (HT.out _ _ _ _ _ _ F2.out G2.out).mono ?_
  rintro e w3 ⟨rfl, b3⟩
  have B3 := hide' (B2.out.trans (b3.mono B2.out.size))
  clear b3 HT F2 G2
  go_wp2
  go_ret
  exact ⟨rfl, B3.out.alloc (by have := B3.out.size; omega) _⟩
set_option maxHeartbeats 4000000 in
set_option maxRecDepth 100000 in
theorem esc_c1 (v k : Int) (n : Nat) (w : World) (hv : -9223372036854775808 ≤ v ∧ v ≤ 9223372036854775807) (hk : -9223372036854775808 ≤ k ∧ k ≤ 9223372036854775807) (hn : pik v 16777216 = (n : Int)) (hn2 : n < 16777216) (hg : w.cell? ⟨0, 0, none⟩ = some (ty 29)) (hA : n < 55296) (hN : N.valid (Utf8.encode (n : Int)) = false) :
    Calls Tryz.prog 7 #[.int .i64 v, .int .i64 k] w fun e w' => e = .returned (.bool true) ∧ Below w.heap.size w w' := by
  have HA := hide' (alive_any w)
  have HP := hide' (fun W => pick_any v 16777216 W hv (by omega))
  rw [hn] at HP
  have HX := hide' (fun W => hexed_any n hn2 k hk W)
  have HT := hide' fun fb k l c word w a b => told_flt fb k l c word w a b
  have HG := hide' hg
  have hA' : ¬ (1114111 : Int) < (n : Int) := by omega
  have hA2 : ¬ (55296 : Int) ≤ (n : Int) := by omega
  have HN := hide' hN
  have HVd := hide' (fun W => valid_any (Utf8.encode (n : Int)) W (by have := enc_small (n : Int); unfold maxLen; omega))
  rw [hN] at HVd
  have HV := hide' (show Lib.validRune ((n : Nat) : Int) = true by unfold Lib.validRune; simp; omega)
  have h32 := wrap32 n hn2
  clear hv hk hn hn2 hg hA hN
  go_enter Tryz.func7, Tryz.ntmps7
  go_wp2_with fail
  refine HA.out.mono ?_
  rintro e w1 ⟨rfl, b1⟩
  have B1 := hide' b1
  clear b1 HA
  go_wp2_with fail
  refine (HP.out _).mono ?_
  rintro e wq ⟨rfl, hwq⟩
  obtain rfl := hwq
  clear HP
  go_wp2_with fail
  refine (HX.out _).mono ?_
  rintro e wq2 ⟨H, rfl, hwq, ⟨h1, h6⟩, hx, hv⟩
  obtain rfl := hwq
  have hs := scan_fun ⟨(escD H).toArray⟩ wq2 (by rw [escD_size]; omega)
  rw [scn_esc H h1 h6 hx] at hs
  have hev : escV H = Utf8.encode (n : Int) := by unfold escV; rw [hv]
  unfold escR ScanIs at hs
  rw [hv, HV.out, hev, HN.out] at hs
  simp only [Bool.false_eq_true, if_true, if_false] at hs
  have HS := hide' hs
  have hz : (⟨H.toArray⟩ : ByteArray).size ≤ 6 := by rw [L.ba_size]; exact h6
  obtain ⟨X, hX⟩ : ∃ X : ByteArray, X = ⟨H.toArray⟩ := ⟨_, rfl⟩
  have HXX := hide' hX
  rw [← hX] at hz ⊢
  have o1 : ¬ 9223372036854775807 < 4 + X.size := by omega
  have o2 : ¬ 9223372036854775807 < 4 + X.size + 2 := by omega
  clear hs hX HX hx hv hz hev h1 h6
  go_wp2_with fail
  rw [HXX.out, esc_text]
  generalize (⟨(escD H).toArray⟩ : ByteArray) = S0 at *
  generalize ((n : Nat) : Int) = M at *
  generalize ((⟨#[34, 92, 117, 123]⟩ : ByteArray) ++ ⟨H.toArray⟩) = S1 at *
  refine HS.out.mono ?_
  rintro e w2 ⟨⟨fb, rfl, hfb, hflt⟩, b2⟩
  have G2 := hide' (below_keeps b2 (below_keeps B1.out HG.out))
  have F2 := hide' hflt
  have B2 := hide' (B1.out.trans (b2.mono B1.out.size))
  clear hflt hfb b2 HS HXX o1 o2
  go_wp2_with fail
  refine (HT.out _ _ _ _ _ _ F2.out G2.out).mono ?_
  rintro e w3 ⟨rfl, b3⟩
  have B3 := hide' (B2.out.trans (b3.mono B2.out.size))
  clear b3 HT F2 G2
  go_wp2_with fail
  have T4 := hide' (And.intro (Tk.of_cells (heap_alloc_new w3 (.cells #[.int .i64 10, .int .i64 1, .int .i64 1, .string (Utf8.encode M)] 25))) (B3.out.alloc (o := .cells #[.int .i64 10, .int .i64 1, .int .i64 1, .string (Utf8.encode M)] 25) (by have := B3.out.size; omega)))
  refine (HVd.out _).mono ?_
  rintro e w5 ⟨rfl, b5⟩
  have t5 := T4.out.1.below b5
  have c0 := t5.c0
  have c1 := t5.c1
  have c2 := t5.c2
  have c3 := t5.c3
  have B5 := hide' (T4.out.2.trans (b5.mono T4.out.2.size))
  clear b5 t5 HVd T4 B3
  go_wp2
  go_ret
  exact ⟨rfl, B5.out⟩

set_option maxHeartbeats 4000000 in
set_option maxRecDepth 100000 in
theorem esc_c2 (v k : Int) (n : Nat) (w : World) (hv : -9223372036854775808 ≤ v ∧ v ≤ 9223372036854775807) (hk : -9223372036854775808 ≤ k ∧ k ≤ 9223372036854775807) (hn : pik v 16777216 = (n : Int)) (hn2 : n < 16777216) (hg : w.cell? ⟨0, 0, none⟩ = some (ty 29)) (hA : 57343 < n ∧ n ≤ 1114111) (hN : N.valid (Utf8.encode (n : Int)) = false) :
    Calls Tryz.prog 7 #[.int .i64 v, .int .i64 k] w fun e w' => e = .returned (.bool true) ∧ Below w.heap.size w w' := by
  have HA := hide' (alive_any w)
  have HP := hide' (fun W => pick_any v 16777216 W hv (by omega))
  rw [hn] at HP
  have HX := hide' (fun W => hexed_any n hn2 k hk W)
  have HT := hide' fun fb k l c word w a b => told_flt fb k l c word w a b
  have HG := hide' hg
  have hA' : ¬ (1114111 : Int) < (n : Int) := by omega
  have hA2 : (55296 : Int) ≤ (n : Int) := by omega
  have hA3 : ¬ (n : Int) ≤ 57343 := by omega
  have HN := hide' hN
  have HVd := hide' (fun W => valid_any (Utf8.encode (n : Int)) W (by have := enc_small (n : Int); unfold maxLen; omega))
  rw [hN] at HVd
  have HV := hide' (show Lib.validRune ((n : Nat) : Int) = true by unfold Lib.validRune; simp; omega)
  have h32 := wrap32 n hn2
  clear hv hk hn hn2 hg hA hN
  go_enter Tryz.func7, Tryz.ntmps7
  go_wp2_with fail
  refine HA.out.mono ?_
  rintro e w1 ⟨rfl, b1⟩
  have B1 := hide' b1
  clear b1 HA
  go_wp2_with fail
  refine (HP.out _).mono ?_
  rintro e wq ⟨rfl, hwq⟩
  obtain rfl := hwq
  clear HP
  go_wp2_with fail
  refine (HX.out _).mono ?_
  rintro e wq2 ⟨H, rfl, hwq, ⟨h1, h6⟩, hx, hv⟩
  obtain rfl := hwq
  have hs := scan_fun ⟨(escD H).toArray⟩ wq2 (by rw [escD_size]; omega)
  rw [scn_esc H h1 h6 hx] at hs
  have hev : escV H = Utf8.encode (n : Int) := by unfold escV; rw [hv]
  unfold escR ScanIs at hs
  rw [hv, HV.out, hev, HN.out] at hs
  simp only [Bool.false_eq_true, if_true, if_false] at hs
  have HS := hide' hs
  have hz : (⟨H.toArray⟩ : ByteArray).size ≤ 6 := by rw [L.ba_size]; exact h6
  obtain ⟨X, hX⟩ : ∃ X : ByteArray, X = ⟨H.toArray⟩ := ⟨_, rfl⟩
  have HXX := hide' hX
  rw [← hX] at hz ⊢
  have o1 : ¬ 9223372036854775807 < 4 + X.size := by omega
  have o2 : ¬ 9223372036854775807 < 4 + X.size + 2 := by omega
  clear hs hX HX hx hv hz hev h1 h6
  go_wp2_with fail
  rw [HXX.out, esc_text]
  generalize (⟨(escD H).toArray⟩ : ByteArray) = S0 at *
  generalize ((n : Nat) : Int) = M at *
  generalize ((⟨#[34, 92, 117, 123]⟩ : ByteArray) ++ ⟨H.toArray⟩) = S1 at *
  refine HS.out.mono ?_
  rintro e w2 ⟨⟨fb, rfl, hfb, hflt⟩, b2⟩
  have G2 := hide' (below_keeps b2 (below_keeps B1.out HG.out))
  have F2 := hide' hflt
  have B2 := hide' (B1.out.trans (b2.mono B1.out.size))
  clear hflt hfb b2 HS HXX o1 o2
  go_wp2_with fail
  refine (HT.out _ _ _ _ _ _ F2.out G2.out).mono ?_
  rintro e w3 ⟨rfl, b3⟩
  have B3 := hide' (B2.out.trans (b3.mono B2.out.size))
  clear b3 HT F2 G2
  go_wp2_with fail
  have T4 := hide' (And.intro (Tk.of_cells (heap_alloc_new w3 (.cells #[.int .i64 10, .int .i64 1, .int .i64 1, .string (Utf8.encode M)] 25))) (B3.out.alloc (o := .cells #[.int .i64 10, .int .i64 1, .int .i64 1, .string (Utf8.encode M)] 25) (by have := B3.out.size; omega)))
  refine (HVd.out _).mono ?_
  rintro e w5 ⟨rfl, b5⟩
  have t5 := T4.out.1.below b5
  have c0 := t5.c0
  have c1 := t5.c1
  have c2 := t5.c2
  have c3 := t5.c3
  have B5 := hide' (T4.out.2.trans (b5.mono T4.out.2.size))
  clear b5 t5 HVd T4 B3
  go_wp2
  go_ret
  exact ⟨rfl, B5.out⟩

end Go.Proofs.YtagdgbbomohooaaGreatDoor
