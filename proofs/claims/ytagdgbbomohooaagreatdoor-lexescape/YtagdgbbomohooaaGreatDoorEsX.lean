import Derived.Test.YtagdgbbomohooaaGreatDoorEsW
set_option linter.unusedVariables false
set_option linter.unusedSimpArgs false
namespace Go.Proofs.YtagdgbbomohooaaGreatDoor
open Go.RowKit
set_option maxHeartbeats 4000000 in
set_option maxRecDepth 100000 in
theorem esc_b1 (v k : Int) (n : Nat) (w : World) (hv : -9223372036854775808 ≤ v ∧ v ≤ 9223372036854775807) (hk : -9223372036854775808 ≤ k ∧ k ≤ 9223372036854775807) (hn : pik v 16777216 = (n : Int)) (hn2 : n < 16777216) (hg : w.cell? ⟨0, 0, none⟩ = some (ty 29)) (hA : n < 55296) (hN : N.valid (Utf8.encode (n : Int)) = true) :
    Calls Tryz.prog 7 #[.int .i64 v, .int .i64 k] w fun e w' => e = .returned (.bool true) ∧ Below w.heap.size w w' := by
  have HA := hide' (alive_any w)
  have HP := hide' (fun W => pick_any v 16777216 W hv (by omega))
  rw [hn] at HP
  have HX := hide' (fun W => hexed_any n hn2 k hk W)
  have HT := hide' fun w => told_nil w
  have HG := hide' hg
  have hA' : ¬ (1114111 : Int) < (n : Int) := by omega
  have hA2 : ¬ (55296 : Int) ≤ (n : Int) := by omega
  have HN := hide' hN
  have HVd := hide' (fun W => valid_any (Utf8.encode (n : Int)) W (by have := enc_small (n : Int); unfold maxLen; omega))
  rw [hN] at HVd
  have HV := hide' (show Lib.validRune ((n : Nat) : Int) = true by unfold Lib.validRune; simp; omega)
  have h32 := wrap32 n hn2
  clear hv hk hn hn2 hg hA hN
  go_enter Tryz.func7, Tryz.ntmps7
  go_wp2_with fail
  refine HA.out.mono ?_
  rintro e w1 ⟨rfl, b1⟩
  have B1 := hide' b1
  clear b1 HA
  go_wp2_with fail
  refine (HP.out _).mono ?_
  rintro e wq ⟨rfl, hwq⟩
  obtain rfl := hwq
  clear HP
  go_wp2_with fail
  refine (HX.out _).mono ?_
  rintro e wq2 ⟨H, rfl, hwq, ⟨h1, h6⟩, hx, hv⟩
  obtain rfl := hwq
  have hs := scan_fun ⟨(escD H).toArray⟩ wq2 (by rw [escD_size]; omega)
  rw [scn_esc H h1 h6 hx] at hs
  have hev : escV H = Utf8.encode (n : Int) := by unfold escV; rw [hv]
  unfold escR ScanIs at hs
  rw [hv, HV.out, hev, HN.out] at hs
  simp only [Bool.false_eq_true, if_true, if_false] at hs
  have HS := hide' hs
  have hz : (⟨H.toArray⟩ : ByteArray).size ≤ 6 := by rw [L.ba_size]; exact h6
  obtain ⟨X, hX⟩ : ∃ X : ByteArray, X = ⟨H.toArray⟩ := ⟨_, rfl⟩
  have HXX := hide' hX
  rw [← hX] at hz ⊢
  have o1 : ¬ 9223372036854775807 < 4 + X.size := by omega
  have o2 : ¬ 9223372036854775807 < 4 + X.size + 2 := by omega
  clear hs hX HX hx hv hz hev h1 h6
  go_wp2_with fail
  rw [HXX.out, esc_text]
  generalize (⟨(escD H).toArray⟩ : ByteArray) = S0 at *
  generalize ((n : Nat) : Int) = M at *
  generalize ((⟨#[34, 92, 117, 123]⟩ : ByteArray) ++ ⟨H.toArray⟩) = S1 at *
  refine HS.out.mono ?_
  rintro e w2 ⟨⟨sv, rfl, hrow⟩, b2⟩
  obtain ⟨g, cap, rfl, hc, hB, hl, hr⟩ := rows_at hrow (by simp)
  obtain ⟨p0, p1, p2, p3⟩ := hr 0 _ rfl
  simp only [Nat.zero_mul, Nat.zero_add, List.length_cons, List.length_nil, Nat.reduceAdd] at p0 p1 p2 p3 hc ⊢
  have R2 := hide' (And.intro hl (And.intro p0 (And.intro p1 (And.intro p2 p3))))
  have B2 := hide' (B1.out.trans (b2.mono B1.out.size))
  clear hrow hr p0 p1 p2 p3 hB hl b2 HS HXX o1 o2
  unfold zfault at HT
  go_wp2_with fail
  refine (HT.out _).mono ?_
  rintro e w3 ⟨rfl, b3⟩
  have B3 := hide' (B2.out.trans (b3.mono B2.out.size))
  have b34 : Below w2.heap.size w2 (w3.alloc (.cells #[.int .i64 0, .int .i64 0, .int .i64 0, .string ⟨#[]⟩] 25)) := b3.alloc (by have := b3.size; omega) _
  have B34 := hide' b34
  have T4 := hide' (And.intro (Tk.of_cells (heap_alloc_new w3 (.cells #[.int .i64 0, .int .i64 0, .int .i64 0, .string ⟨#[]⟩] 25))) (B3.out.alloc (o := .cells #[.int .i64 0, .int .i64 0, .int .i64 0, .string ⟨#[]⟩] 25) (by have := B3.out.size; omega)))
  clear b3 b34 HT
  go_wp2_with fail
  refine (HVd.out _).mono ?_
  rintro e w5 ⟨rfl, b5⟩
  have t5 := T4.out.1.below b5
  have c0 := t5.c0
  have b25 := B34.out.trans (b5.mono B34.out.size)
  have p0 := (b25.cell (p := ⟨g, 0, none⟩) R2.out.1).trans R2.out.2.1
  have p1 := (b25.cell (p := ⟨g, 1, none⟩) R2.out.1).trans R2.out.2.2.1
  have p2 := (b25.cell (p := ⟨g, 2, none⟩) R2.out.1).trans R2.out.2.2.2.1
  have p3 := (b25.cell (p := ⟨g, 3, none⟩) R2.out.1).trans R2.out.2.2.2.2
  have B5 := hide' (T4.out.2.trans (b5.mono T4.out.2.size))
  clear b5 t5 HVd T4 B3 b25 R2 B34
  go_wp2
  go_ret
  exact ⟨rfl, B5.out⟩

set_option maxHeartbeats 4000000 in
set_option maxRecDepth 100000 in
theorem esc_b2 (v k : Int) (n : Nat) (w : World) (hv : -9223372036854775808 ≤ v ∧ v ≤ 9223372036854775807) (hk : -9223372036854775808 ≤ k ∧ k ≤ 9223372036854775807) (hn : pik v 16777216 = (n : Int)) (hn2 : n < 16777216) (hg : w.cell? ⟨0, 0, none⟩ = some (ty 29)) (hA : 57343 < n ∧ n ≤ 1114111) (hN : N.valid (Utf8.encode (n : Int)) = true) :
    Calls Tryz.prog 7 #[.int .i64 v, .int .i64 k] w fun e w' => e = .returned (.bool true) ∧ Below w.heap.size w w' := by
  have HA := hide' (alive_any w)
  have HP := hide' (fun W => pick_any v 16777216 W hv (by omega))
  rw [hn] at HP
  have HX := hide' (fun W => hexed_any n hn2 k hk W)
  have HT := hide' fun w => told_nil w
  have HG := hide' hg
  have hA' : ¬ (1114111 : Int) < (n : Int) := by omega
  have hA2 : (55296 : Int) ≤ (n : Int) := by omega
  have hA3 : ¬ (n : Int) ≤ 57343 := by omega
  have HN := hide' hN
  have HVd := hide' (fun W => valid_any (Utf8.encode (n : Int)) W (by have := enc_small (n : Int); unfold maxLen; omega))
  rw [hN] at HVd
  have HV := hide' (show Lib.validRune ((n : Nat) : Int) = true by unfold Lib.validRune; simp; omega)
  have h32 := wrap32 n hn2
  clear hv hk hn hn2 hg hA hN
  go_enter Tryz.func7, Tryz.ntmps7
  go_wp2_with fail
  refine HA.out.mono ?_
  rintro e w1 ⟨rfl, b1⟩
  have B1 := hide' b1
  clear b1 HA
  go_wp2_with fail
  refine (HP.out _).mono ?_
  rintro e wq ⟨rfl, hwq⟩
  obtain rfl := hwq
  clear HP
  go_wp2_with fail
  refine (HX.out _).mono ?_
  rintro e wq2 ⟨H, rfl, hwq, ⟨h1, h6⟩, hx, hv⟩
  obtain rfl := hwq
  have hs := scan_fun ⟨(escD H).toArray⟩ wq2 (by rw [escD_size]; omega)
  rw [scn_esc H h1 h6 hx] at hs
  have hev : escV H = Utf8.encode (n : Int) := by unfold escV; rw [hv]
  unfold escR ScanIs at hs
  rw [hv, HV.out, hev, HN.out] at hs
  simp only [Bool.false_eq_true, if_true, if_false] at hs
  have HS := hide' hs
  have hz : (⟨H.toArray⟩ : ByteArray).size ≤ 6 := by rw [L.ba_size]; exact h6
  obtain ⟨X, hX⟩ : ∃ X : ByteArray, X = ⟨H.toArray⟩ := ⟨_, rfl⟩
  have HXX := hide' hX
  rw [← hX] at hz ⊢
  have o1 : ¬ 9223372036854775807 < 4 + X.size := by omega
  have o2 : ¬ 9223372036854775807 < 4 + X.size + 2 := by omega
  clear hs hX HX hx hv hz hev h1 h6
  go_wp2_with fail
  rw [HXX.out, esc_text]
  generalize (⟨(escD H).toArray⟩ : ByteArray) = S0 at *
  generalize ((n : Nat) : Int) = M at *
  generalize ((⟨#[34, 92, 117, 123]⟩ : ByteArray) ++ ⟨H.toArray⟩) = S1 at *
  refine HS.out.mono ?_
  rintro e w2 ⟨⟨sv, rfl, hrow⟩, b2⟩
  obtain ⟨g, cap, rfl, hc, hB, hl, hr⟩ := rows_at hrow (by simp)
  obtain ⟨p0, p1, p2, p3⟩ := hr 0 _ rfl
  simp only [Nat.zero_mul, Nat.zero_add, List.length_cons, List.length_nil, Nat.reduceAdd] at p0 p1 p2 p3 hc ⊢
  have R2 := hide' (And.intro hl (And.intro p0 (And.intro p1 (And.intro p2 p3))))
  have B2 := hide' (B1.out.trans (b2.mono B1.out.size))
  clear hrow hr p0 p1 p2 p3 hB hl b2 HS HXX o1 o2
  unfold zfault at HT
  go_wp2_with fail
  refine (HT.out _).mono ?_
  rintro e w3 ⟨rfl, b3⟩
  have B3 := hide' (B2.out.trans (b3.mono B2.out.size))
  have b34 : Below w2.heap.size w2 (w3.alloc (.cells #[.int .i64 0, .int .i64 0, .int .i64 0, .string ⟨#[]⟩] 25)) := b3.alloc (by have := b3.size; omega) _
  have B34 := hide' b34
  have T4 := hide' (And.intro (Tk.of_cells (heap_alloc_new w3 (.cells #[.int .i64 0, .int .i64 0, .int .i64 0, .string ⟨#[]⟩] 25))) (B3.out.alloc (o := .cells #[.int .i64 0, .int .i64 0, .int .i64 0, .string ⟨#[]⟩] 25) (by have := B3.out.size; omega)))
  clear b3 b34 HT
  go_wp2_with fail
  refine (HVd.out _).mono ?_
  rintro e w5 ⟨rfl, b5⟩
  have t5 := T4.out.1.below b5
  have c0 := t5.c0
  have b25 := B34.out.trans (b5.mono B34.out.size)
  have p0 := (b25.cell (p := ⟨g, 0, none⟩) R2.out.1).trans R2.out.2.1
  have p1 := (b25.cell (p := ⟨g, 1, none⟩) R2.out.1).trans R2.out.2.2.1
  have p2 := (b25.cell (p := ⟨g, 2, none⟩) R2.out.1).trans R2.out.2.2.2.1
  have p3 := (b25.cell (p := ⟨g, 3, none⟩) R2.out.1).trans R2.out.2.2.2.2
  have B5 := hide' (T4.out.2.trans (b5.mono T4.out.2.size))
  clear b5 t5 HVd T4 B3 b25 R2 B34
  go_wp2
  go_ret
  exact ⟨rfl, B5.out⟩

/-- whatever the number -/
theorem escape_walk (v k : Int) (w : World) (hv : -9223372036854775808 ≤ v ∧ v ≤ 9223372036854775807) (hk : -9223372036854775808 ≤ k ∧ k ≤ 9223372036854775807) (hg : w.cell? ⟨0, 0, none⟩ = some (ty 29)) :
    Calls Tryz.prog 7 #[.int .i64 v, .int .i64 k] w fun e w' => e = .returned (.bool true) ∧ Below w.heap.size w w' := by
  have hp := pik_bd v 16777216 (by omega)
  obtain ⟨n, hn⟩ : ∃ n : Nat, pik v 16777216 = (n : Int) := ⟨(pik v 16777216).toNat, by omega⟩
  have hn2 : n < 16777216 := by omega
  by_cases a1 : 1114111 < n
  · exact esc_a1 v k n w hv hk hn hn2 hg a1
  by_cases a2 : 55296 ≤ n ∧ n ≤ 57343
  · exact esc_a2 v k n w hv hk hn hn2 hg a2
  cases hN : N.valid (Utf8.encode (n : Int)) with
  | true =>
    by_cases a3 : n < 55296
    · exact esc_b1 v k n w hv hk hn hn2 hg a3 hN
    · exact esc_b2 v k n w hv hk hn hn2 hg (by omega) hN
  | false =>
    by_cases a3 : n < 55296
    · exact esc_c1 v k n w hv hk hn hn2 hg a3 hN
    · exact esc_c2 v k n w hv hk hn hn2 hg (by omega) hN
end Go.Proofs.YtagdgbbomohooaaGreatDoor
