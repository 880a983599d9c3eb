import Derived.Test.YtagdgbbomohooaaGreatDoorHxW
set_option linter.unusedVariables false
set_option linter.unusedSimpArgs false
namespace Go.Proofs.YtagdgbbomohooaaGreatDoor
open Go.RowKit
theorem msrS {a b : Nat} (h : a < b) : a < b := h
theorem hex_round {n j m d e : Nat} {H : List UInt8} {X : ByteArray} {V w : World} (hV : V = w) (HN : n < 16777216) (HH : H.length = j ∧ j ≤ 6 ∧ (∀ c ∈ H, L.hexB c.toNat) ∧ L.hexN 0 H = n % 16 ^ j) (hm : m = n / 16 ^ j) (hX : X = ⟨H.toArray⟩) (hd : d = m % 16) (he : e = d ∨ (9 < d ∧ e = d + 6)) (hj : 0 < m ∨ j = 0) :
    (∃ (j' : Nat) (H' : List UInt8) (V' : World), V' = V ∧ Value.int .i64 (wrap64 ((m : Int) / 16)) = .int .i64 ((n / 16 ^ j' : Nat) : Int) ∧ Value.string (L.dgs.extract e (e + 1) ++ X) = .string ⟨H'.toArray⟩ ∧ H'.length = j' ∧ j' ≤ 6 ∧ (∀ c ∈ H', L.hexB c.toNat) ∧ L.hexN 0 H' = n % 16 ^ j' ∧ V' = w) ∧ 7 - sl (.string (L.dgs.extract e (e + 1) ++ X)) < 7 - sl (.string X) := by
  obtain ⟨hl, hj6, hx, hv⟩ := HH
  have hj5 : j < 6 := by
    rcases hj with h | h
    · rcases Nat.lt_or_ge j 6 with q | q
      · exact q
      · obtain rfl : j = 6 := by omega
        rw [hm, Nat.div_eq_of_lt (by omega)] at h
        omega
    · omega
  obtain ⟨d1, d2, d3, d4⟩ := L.dig_more hl hx hv (by rw [hd, hm]) he
  rw [hX, d1]
  refine ⟨⟨j + 1, L.dgt e :: H, V, rfl, ?_, rfl, d2, by omega, d3, d4, hV⟩, ?_⟩
  · have e1 : n / 16 ^ (j + 1) = m / 16 := by rw [hm, Nat.pow_succ, Nat.div_div_eq_div_mul]
    rw [e1]
    have : m ≤ n := by rw [hm]; exact Nat.div_le_self _ _
    have e2 : wrap64 ((m : Int) / 16) = ((m / 16 : Nat) : Int) := by unfold wrap64; omega
    rw [e2]
  · show 7 - (⟨(L.dgt e :: H).toArray⟩ : ByteArray).size < 7 - (⟨H.toArray⟩ : ByteArray).size
    rw [L.ba_size, L.ba_size, d2, hl]
    omega
theorem nought_round {n i : Nat} {H : List UInt8} {X : ByteArray} {V w : World} (hV : V = w) (hX : X = ⟨H.toArray⟩) (h1 : 1 ≤ H.length) (h6 : H.length < 6) (hx : ∀ c ∈ H, L.hexB c.toNat) (hv : L.hexN 0 H = n) (hi : i ≤ 6) :
    (∃ (H' : List UInt8), Value.string ((⟨#[48]⟩ : ByteArray) ++ X) = .string ⟨H'.toArray⟩ ∧ (1 ≤ H'.length ∧ H'.length ≤ 6) ∧ (∀ c ∈ H', L.hexB c.toNat) ∧ L.hexN 0 H' = n) ∧ 7 - sl (.string ((⟨#[48]⟩ : ByteArray) ++ X)) < 7 - sl (.string X) := by
  rw [hX, L.ba_cons]
  refine ⟨⟨48 :: H, rfl, by simp; omega, fun c hc => ?_, by rw [L.nought_more]; exact hv⟩, ?_⟩
  · rcases List.mem_cons.1 hc with rfl | hc
    · left; decide
    · exact hx c hc
  · show 7 - (⟨(48 :: H).toArray⟩ : ByteArray).size < 7 - (⟨H.toArray⟩ : ByteArray).size
    rw [L.ba_size, L.ba_size, List.length_cons]
    omega
theorem nonempty_beq (s : ByteArray) (h : s.size ≠ 0) : (s.toList == []) = false := by
  rw [ByteArray.toList_eq]
  have : s.data.toList ≠ [] := fun e => h (by show s.data.size = 0; rw [← Array.length_toList, e]; rfl)
  simpa using this
theorem empty_beq (s : ByteArray) (h : s.size = 0) : (s.toList == []) = true := by
  rw [ByteArray.toList_eq]
  have : s.data.toList = [] := List.eq_nil_of_length_eq_zero (by rw [Array.length_toList]; exact h)
  simpa using this
theorem ba_empty {H : List UInt8} {X : ByteArray} (hX : X = ⟨H.toArray⟩) (h : H.length = 0) : (X.toList == []) = true := empty_beq X (by rw [hX, L.ba_size]; exact h)
theorem ba_full {H : List UInt8} {X : ByteArray} (hX : X = ⟨H.toArray⟩) (h : 1 ≤ H.length) : (X.toList == []) = false := nonempty_beq X (by rw [hX, L.ba_size]; omega)
set_option maxHeartbeats 4000000 in
set_option maxRecDepth 100000 in
/-- a number to the base 16 -/
theorem hexed_any (n : Nat) (hn : n < 16777216) (k : Int) (hk : -9223372036854775808 ≤ k ∧ k ≤ 9223372036854775807) (w : World) :
    Calls Tryz.prog 18 #[.int .i64 (n : Int), .int .i64 k] w fun e w' => ∃ H : List UInt8, e = .returned (.string ⟨H.toArray⟩) ∧ w' = w ∧ (1 ≤ H.length ∧ H.length ≤ 6) ∧ (∀ c ∈ H, L.hexB c.toNat) ∧ L.hexN 0 H = n := by
  have HP2 := hide' (fun W => pick_any k 2 W hk (by omega))
  have HP6 := hide' (fun W => pick_any k 6 W hk (by omega))
  have HN := hide' hn
  clear hn hk
  obtain ⟨p2, hp2⟩ : ∃ p2, pik k 2 = p2 := ⟨_, rfl⟩
  obtain ⟨p6, hp6⟩ : ∃ p6, pik k 6 = p6 := ⟨_, rfl⟩
  have HB6 := hide' (pik_bd k 6 (by omega))
  rw [hp2] at HP2
  rw [hp6] at HP6 HB6
  clear hp2 hp6
  go_enter Tryz.func18, Tryz.ntmps18
  go_wp2_with fail
  go_loopw [0, 6] (fun nv sv wx => ∃ (j : Nat) (H : List UInt8) (V : World), V = wx ∧ nv = .int .i64 ((n / 16 ^ j : Nat) : Int) ∧ sv = .string ⟨H.toArray⟩ ∧ H.length = j ∧ j ≤ 6 ∧ (∀ c ∈ H, L.hexB c.toNat) ∧ L.hexN 0 H = n % 16 ^ j ∧ V = w) (fun _ sv _ => 7 - sl sv)
  case atStart => exact ⟨0, [], _, rfl, by simp, rfl, rfl, by omega, by simp, by simp [L.hexN, Nat.mod_one], rfl⟩
  case round =>
    obtain ⟨j, H, V, rfl, rfl, rfl, hl, hj, hx, hv, rfl⟩ := hrel
    have HH := hide' (And.intro hl (And.intro hj (And.intro hx hv)))
    obtain ⟨m, hm⟩ : ∃ m, m = n / 16 ^ j := ⟨_, rfl⟩
    have Hm := hide' hm
    rw [← hm]
    have hsz : Hid (sl (.string ⟨H.toArray⟩) = j) := hide' (by show (⟨H.toArray⟩ : ByteArray).size = _; rw [L.ba_size, hl])
    obtain ⟨X, hX⟩ : ∃ X : ByteArray, X = ⟨H.toArray⟩ := ⟨_, rfl⟩
    have HX := hide' hX
    rw [← hX]
    rw [← hX] at hsz
    have hXs : X.size ≤ 6 := by rw [hX, L.ba_size]; omega
    obtain ⟨d, hd⟩ : ∃ d, d = m % 16 := ⟨_, rfl⟩
    have Hd := hide' hd
    have hmod2 : (m : Int) % 16 = (d : Int) := by rw [hd]; omega
    have hd16 : d < 16 := by omega
    have HJ0 := hide' hl
    clear hd hm hX hl hj hx hv
    by_cases hm0 : 0 < m
    · have hlt : (0 : Int) < (m : Int) := by omega
      have HJ := hide' hm0
      by_cases h9 : d ≤ 9
      · have h9' : ¬ (9 : Int) < (d : Int) := by omega
        have ho : ¬ 9223372036854775807 < min (d + 1) 22 - d + X.size := by omega
        clear h9 hXs hm0
        go_wp2_with fail
        exact hex_round rfl HN.out HH.out Hm.out HX.out Hd.out (.inl rfl) (.inl HJ.out)
      · have h9' : (9 : Int) < (d : Int) := by omega
        by_cases hp : p2 = 1
        · have hp' : (p2 == 1) = true := by simpa using hp
          obtain ⟨e, he⟩ : ∃ e, e = d + 6 := ⟨_, rfl⟩
          have He := hide' (show 9 < d ∧ e = d + 6 from ⟨by omega, he⟩)
          have he6 : (d : Int) + 6 = (e : Int) := by omega
          have he22 : e < 22 := by omega
          have ho : ¬ 9223372036854775807 < min (e + 1) 22 - e + X.size := by omega
          clear h9 hXs he hp hm0
          go_wp2_with (go_at_call 17; refine (HP2.out _).mono ?_; rintro e w5 ⟨rfl, rfl⟩)
          exact hex_round rfl HN.out HH.out Hm.out HX.out Hd.out (.inr He.out) (.inl HJ.out)
        · have hp' : (p2 == 1) = false := by simpa using hp
          have ho : ¬ 9223372036854775807 < min (d + 1) 22 - d + X.size := by omega
          clear h9 hXs hp hm0
          go_wp2_with (go_at_call 17; refine (HP2.out _).mono ?_; rintro e w5 ⟨rfl, rfl⟩)
          exact hex_round rfl HN.out HH.out Hm.out HX.out Hd.out (.inl rfl) (.inl HJ.out)
    · have hlt : ¬ (0 : Int) < (m : Int) := by omega
      by_cases hj0 : j = 0
      · obtain rfl : m = 0 := by omega
        obtain rfl : d = 0 := by have := Hd.out; omega
        have ho : ¬ 9223372036854775807 < 1 + X.size := by omega
        have hb := ba_empty HX.out (by rw [HJ0.out]; exact hj0)
        have HR := hide' (hex_round (V := V) (w := V) rfl HN.out HH.out Hm.out HX.out Hd.out (.inl rfl) (.inr hj0))
        rw [show wrap64 (((0 : Nat) : Int) / 16) = 0 from by simp [wrap64]] at HR
        clear hj0 hm0 hXs
        go_wp2_with fail
        exact HR.out
      · have hb := ba_full HX.out (by rw [HJ0.out]; omega)
        have HS : Hid ((1 ≤ H.length ∧ H.length ≤ 6) ∧ (∀ c ∈ H, L.hexB c.toNat) ∧ L.hexN 0 H = n) := hide' (by
          obtain ⟨a1, a2, a3, a4⟩ := HH.out
          refine ⟨by omega, a3, ?_⟩
          rw [a4]
          refine Nat.mod_eq_of_lt ?_
          have := Hm.out
          rcases Nat.lt_or_ge n (16 ^ j) with q | q
          · exact q
          · have := Nat.div_pos q (Nat.pow_pos (by omega)); omega)
        clear hj0 hm0 hXs HH Hm Hd HJ0 hmod2 hd16 hsz
        go_wp2_with fail
        clear hb hlt
        go_loopw [8, 6] (fun iv sv wx => ∃ (i : Nat) (H : List UInt8) (V' : World), V' = wx ∧ iv = .int .i64 (i : Int) ∧ sv = .string ⟨H.toArray⟩ ∧ i ≤ 6 ∧ ((1 ≤ H.length ∧ H.length ≤ 6) ∧ (∀ c ∈ H, L.hexB c.toNat) ∧ L.hexN 0 H = n) ∧ V' = V) (fun _ sv _ => 7 - sl sv)
        case atStart => exact ⟨0, H, _, rfl, rfl, congrArg Value.string HX.out, by omega, HS.out, rfl⟩
        case round =>
          obtain ⟨i, H2, V2, rfl, rfl, rfl, hi, hH2, rfl⟩ := hrel
          clear HS HX
          have HH := hide' hH2
          obtain ⟨Y, hY⟩ : ∃ Y : ByteArray, Y = ⟨H2.toArray⟩ := ⟨_, rfl⟩
          have HY := hide' hY
          have hYs : Y.size = H2.length := by rw [hY, L.ba_size]
          rw [← hY]
          clear hY hH2
          by_cases hip : (i : Int) < p6
          · by_cases hl6 : H2.length < 6
            · have hl6' : ((Y.size : Nat) : Int) < 6 := by omega
              have ho : ¬ 9223372036854775807 < 1 + Y.size := by omega
              have HR := hide' (nought_round (V := V2) (w := V2) rfl HY.out HH.out.1.1 hl6 HH.out.2.1 HH.out.2.2 hi)
              have ei : wrap64 ((i : Int) + 1) = ((i + 1 : Nat) : Int) := by unfold wrap64; omega
              have Hi := hide' (show i + 1 ≤ 6 by have := HB6.out; omega)
              clear hYs hl6 hi
              go_wp2_with (go_at_call 17; refine (HP6.out _).mono ?_; rintro e w5 ⟨rfl, rfl⟩)
              obtain ⟨⟨H3, z1, z2⟩, z3⟩ := HR.out
              exact ⟨⟨i + 1, H3, _, rfl, by first | rfl | rw [ei], z1, Hi.out, z2, rfl⟩, z3⟩
            · have hl6' : ¬ ((Y.size : Nat) : Int) < 6 := by omega
              clear hYs hl6 hi
              go_wp2_with (go_at_call 17; refine (HP6.out _).mono ?_; rintro e w5 ⟨rfl, rfl⟩)
              go_ret
              exact ⟨H2, (by rw [← HY.out]; rfl), rfl, HH.out⟩
          · clear hYs hi
            go_wp2_with (go_at_call 17; refine (HP6.out _).mono ?_; rintro e w5 ⟨rfl, rfl⟩)
            go_ret
            exact ⟨H2, (by rw [← HY.out]; rfl), rfl, HH.out⟩
end Go.Proofs.YtagdgbbomohooaaGreatDoor
