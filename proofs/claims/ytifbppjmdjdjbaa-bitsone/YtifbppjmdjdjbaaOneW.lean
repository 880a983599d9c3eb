import Derived.Test.YtifbppjmdjdjbaaMade
set_option linter.unusedVariables false
set_option linter.unusedSimpArgs false
namespace Go.Proofs.Ytifbppjmdjdjbaa
open Go.RowKit
theorem roomOf_le (n : Int) : roomOf n ≤ 65536 := by unfold roomOf; omega
set_option maxHeartbeats 4000000 in
set_option maxRecDepth 100000 in
theorem one_d_in_t (room : Int) (a : Option Addr) (len cap : Nat) (ns : List Int) (n : Int) (w : World) (hI : IsInts w a len cap ns) (hn : 0 ≤ n ∧ n < (roomOf room : Int)) (hT : hasB (inL (roomOf room) ns) n = true) (hout : ∀ k, roomOf room ≤ k → inL (roomOf room) ns k = false) :
    Calls Try.prog 5 #[.int .i64 room, .slice a len cap, .int .i64 n, .bool true] w fun e w' => e = .returned (.bool true) ∧ Below w.heap.size w w' := by
  have Hf := hide' (fun w => fixed_any w)
  have Hm := hide' (fun w h => made_any room a len cap ns w h)
  have hR := roomOf_le room
  have hro : (room < 0 ∧ roomOf room = 0) ∨ (65536 < room ∧ roomOf room = 65536) ∨ (0 ≤ room ∧ room ≤ 65536 ∧ (roomOf room : Int) = room) := by unfold roomOf; omega
  generalize roomOf room = R at *
  have Hr := hide' (fun x g w h => room_any x g R (inL R ns) w h)
  have Ht := hide' (fun x g w h => told_any x g R (inL R ns) w h)
  have Hh := hide' (fun x g w h => has_any x g R (inL R ns) n w h)
  rw [hT] at Hh
  have Hd := hide' (fun x g w h => drop_gen x g R (inL R ns) n w h)
  have hfb : fitB R n = true := by simp only [fitB]; simp; omega
  rw [hT] at Hd
  have Hsame : Hid (∀ i, ¬ i = n → hasB (dropP (inL R ns) n) i = hasB (inL R ns) i) := fun i hi => by rw [hasB_drop]; simp [hi]
  have hh2 : hasB (dropP (inL R ns) n) n = false := by rw [hasB_drop]; simp
  have hout2 : (dropP (inL R ns) n) R = false := by simp [dropP, hout R (Nat.le_refl _)]
  have Hr2 := hide' (fun x g w h => room_any x g R (dropP (inL R ns) n) w h)
  have Hh2 := hide' (fun x g w h => has_any x g R (dropP (inL R ns) n) n w h)
  rw [hh2] at Hh2
  have Ht2 := hide' (fun x g w h => told_any x g R (dropP (inL R ns) n) w h)
  have Hc := hide' (fun x g w h => count_any x g R (dropP (inL R ns) n) w h)
  have Hu := hide' (fun t rc w h => trues_any t rc (R + 2) (fun j => hasB (dropP (inL R ns) n) ((j : Int) - 1)) w h (by omega))
  rw [cnt_told _ _ hout2] at Hu
  generalize B.cnt (dropP (inL R ns) n) R 0 = C at *
  generalize dropP (inL R ns) n = P2 at *
  have k1 : decide ((R : Int) < 0) = false := by simp
  have k2 : decide (65536 < (R : Int)) = false := by simp; omega
  have k3 : decide (0 ≤ n) = true := by simp; omega
  have k4 : decide (n < (R : Int)) = true := by simp; omega
  clear hout hT hfb hn hh2 hout2
  rcases hro with ⟨r1, r2⟩ | ⟨r1, r2⟩ | ⟨r1, r2, r3⟩
  · have k5 : decide (0 ≤ room) = false := by simp; omega
    clear r1 r2
    go_enter Try.func5, Try.ntmps5
    go_wp2_with fail
    refine (Hf.out _).mono ?_
    rintro e w1 ⟨rfl, b1⟩
    go_wp2_with fail
    refine (Hm.out _ (hI.below (Nat.le_refl _) b1)).mono ?_
    rintro e w2 ⟨x, rfl, g, hB2, b2', hx, hg⟩
    have b2 := b1.trans (b2'.mono b1.size)
    have hx' : w.heap.size ≤ x := Nat.le_trans b1.size hx
    have hg' : w.heap.size ≤ g := Nat.le_trans b1.size hg
    clear hx hg b1 b2' hI
    go_wp2_with (go_at_call 24; refine (Hr.out x g _ hB2).mono ?_; rintro e w3 ⟨rfl, hw3⟩; replace hw3 := hw3.symm; subst hw3)
    refine (Ht.out x g _ hB2).mono ?_
    rintro e w3 ⟨t1, rc1, rfl, hT1, ht1, b3'⟩
    have hB3 := hB2.below b3'
    have b3 := b2.trans (b3'.mono b2.size)
    go_wp2_with fail
    refine (Hh.out x g _ hB3).mono ?_
    rintro e w4 ⟨rfl, n4, hw4⟩
    have hB4 := hB3.drewN n4
    have b4 := below_drewN b3 n4
    have hT4 : Tolds t1 rc1 (R + 2) (fun j => hasB (inL R ns) ((j : Int) - 1)) w4 := by rw [hw4]; exact ⟨hT1.lt, hT1.at'⟩
    have hne : t1 ≠ g := by have := hB2.ltg; omega
    rw [← hw4] at hB4 b4
    clear hw4 hB3 b3 hT1 hB2 b2 b3'
    go_wp2_with fail
    refine (Hd.out x g _ hB4).mono ?_
    rintro e w5 ⟨rfl, hB5, t5⟩
    have b5 : Below w.heap.size w w5 := b4.trans (t5.below (fun j hj => by rw [hj]; exact hg') b4.size)
    have hT5 : Tolds t1 rc1 (R + 2) (fun j => hasB (inL R ns) ((j : Int) - 1)) w5 := ⟨Nat.lt_of_lt_of_le hT4.lt t5.size, fun j hj => (t5.cell (p := ⟨t1, j, none⟩) hT4.lt hne).trans (hT4.at' j hj)⟩
    clear hT4 hB4 b4 t5 ht1
    go_wp2_with (first | (go_at_call 24; refine (Hr2.out x g _ hB5).mono ?_; rintro e w6 ⟨rfl, hw6⟩; replace hw6 := hw6.symm; subst hw6))
    refine (Hh2.out x g _ hB5).mono ?_
    rintro e w6 ⟨rfl, n6, hw6⟩
    have hB6 := hB5.drewN n6
    have b6 := below_drewN b5 n6
    have hT6 : Tolds t1 rc1 (R + 2) (fun j => hasB (inL R ns) ((j : Int) - 1)) w6 := by rw [hw6]; exact ⟨hT5.lt, hT5.at'⟩
    rw [← hw6] at hB6 b6
    clear hw6 hB5 b5 hT5
    go_wp2_with fail
    refine (Ht2.out x g _ hB6).mono ?_
    rintro e w7 ⟨t2, rc2, rfl, hT72, ht2, b7'⟩
    have hT71 := hT6.below b7'
    have hB7 := hB6.below b7'
    have b7 := b6.trans (b7'.mono b6.size)
    clear hB6 b6 hT6 b7' ht2
    go_wp2_with fail
    go_loopw [16] (fun i wx => ∃ (k nn : Nat), k ≤ R + 2 ∧ i = .int .i64 (k : Int) ∧ wx = w7.drewN nn) (fun i _ => R + 2 - (intOf i).toNat)
    case atStart => exact ⟨0, 0, by omega, rfl, rfl⟩
    case round =>
      obtain ⟨k, nn, hk, rfl, rfl⟩ := hrel
      by_cases hlt : k < R + 2
      · have c1 := hT71.at' k hlt
        have c2 := hT72.at' k hlt
        have hlt' : (k : Int) < (R : Int) + 2 := by omega
        try simp only at c1 c2
        by_cases hkn : (k : Int) - 1 = n
        · have e9 : ((k : Int) - 1 != n) = false := by simpa using hkn
          have HK := hide' hkn
          clear hkn
          go_wp2_with fail
          go_quiet (fail)
          go_wp2
          exact ⟨⟨k + 1, nn + nq, by omega, by go_num, rfl⟩, by simp [intOf]; omega⟩
        · have e9 : ((k : Int) - 1 != n) = true := by simpa using hkn
          have hsm := Hsame.out ((k : Int) - 1) hkn
          rw [hsm] at c2
          generalize hasB (inL R ns) ((k : Int) - 1) = bb at *
          have e10 : (bb != bb) = false := by simp
          clear hkn
          go_wp2_with fail
          go_quiet (fail)
          go_wp2
          exact ⟨⟨k + 1, nn + nq, by omega, by go_num, rfl⟩, by simp [intOf]; omega⟩
      · have hkr : k = R + 2 := by omega
        subst hkr
        have hlt' : ¬ ((R + 2 : Nat) : Int) < (R : Int) + 2 := by omega
        have hB8 := hB7.drewN nn
        have b8 := below_drewN b7 nn
        have hT8 : Tolds t2 rc2 (R + 2) _ (w7.drewN nn) := ⟨hT72.lt, hT72.at'⟩
        generalize w7.drewN nn = w8 at *
        clear hlt
        go_wp2_with fail
        refine (Hc.out x g _ hB8).mono ?_
        rintro e w9 ⟨rfl, hw9⟩
        subst hw9
        go_wp2_with fail
        refine (Hu.out _ _ _ hT8).mono ?_
        rintro e w9 ⟨rfl, hw9⟩
        subst hw9
        go_wp2
        go_ret
        exact ⟨rfl, b8⟩
  · have k5 : decide (0 ≤ room) = true := by simp; omega
    have k6 : decide (room ≤ 65536) = false := by simp; omega
    clear r1 r2
    go_enter Try.func5, Try.ntmps5
    go_wp2_with fail
    refine (Hf.out _).mono ?_
    rintro e w1 ⟨rfl, b1⟩
    go_wp2_with fail
    refine (Hm.out _ (hI.below (Nat.le_refl _) b1)).mono ?_
    rintro e w2 ⟨x, rfl, g, hB2, b2', hx, hg⟩
    have b2 := b1.trans (b2'.mono b1.size)
    have hx' : w.heap.size ≤ x := Nat.le_trans b1.size hx
    have hg' : w.heap.size ≤ g := Nat.le_trans b1.size hg
    clear hx hg b1 b2' hI
    go_wp2_with (go_at_call 24; refine (Hr.out x g _ hB2).mono ?_; rintro e w3 ⟨rfl, hw3⟩; replace hw3 := hw3.symm; subst hw3)
    refine (Ht.out x g _ hB2).mono ?_
    rintro e w3 ⟨t1, rc1, rfl, hT1, ht1, b3'⟩
    have hB3 := hB2.below b3'
    have b3 := b2.trans (b3'.mono b2.size)
    go_wp2_with fail
    refine (Hh.out x g _ hB3).mono ?_
    rintro e w4 ⟨rfl, n4, hw4⟩
    have hB4 := hB3.drewN n4
    have b4 := below_drewN b3 n4
    have hT4 : Tolds t1 rc1 (R + 2) (fun j => hasB (inL R ns) ((j : Int) - 1)) w4 := by rw [hw4]; exact ⟨hT1.lt, hT1.at'⟩
    have hne : t1 ≠ g := by have := hB2.ltg; omega
    rw [← hw4] at hB4 b4
    clear hw4 hB3 b3 hT1 hB2 b2 b3'
    go_wp2_with fail
    refine (Hd.out x g _ hB4).mono ?_
    rintro e w5 ⟨rfl, hB5, t5⟩
    have b5 : Below w.heap.size w w5 := b4.trans (t5.below (fun j hj => by rw [hj]; exact hg') b4.size)
    have hT5 : Tolds t1 rc1 (R + 2) (fun j => hasB (inL R ns) ((j : Int) - 1)) w5 := ⟨Nat.lt_of_lt_of_le hT4.lt t5.size, fun j hj => (t5.cell (p := ⟨t1, j, none⟩) hT4.lt hne).trans (hT4.at' j hj)⟩
    clear hT4 hB4 b4 t5 ht1
    go_wp2_with (first | (go_at_call 24; refine (Hr2.out x g _ hB5).mono ?_; rintro e w6 ⟨rfl, hw6⟩; replace hw6 := hw6.symm; subst hw6))
    refine (Hh2.out x g _ hB5).mono ?_
    rintro e w6 ⟨rfl, n6, hw6⟩
    have hB6 := hB5.drewN n6
    have b6 := below_drewN b5 n6
    have hT6 : Tolds t1 rc1 (R + 2) (fun j => hasB (inL R ns) ((j : Int) - 1)) w6 := by rw [hw6]; exact ⟨hT5.lt, hT5.at'⟩
    rw [← hw6] at hB6 b6
    clear hw6 hB5 b5 hT5
    go_wp2_with fail
    refine (Ht2.out x g _ hB6).mono ?_
    rintro e w7 ⟨t2, rc2, rfl, hT72, ht2, b7'⟩
    have hT71 := hT6.below b7'
    have hB7 := hB6.below b7'
    have b7 := b6.trans (b7'.mono b6.size)
    clear hB6 b6 hT6 b7' ht2
    go_wp2_with fail
    go_loopw [16] (fun i wx => ∃ (k nn : Nat), k ≤ R + 2 ∧ i = .int .i64 (k : Int) ∧ wx = w7.drewN nn) (fun i _ => R + 2 - (intOf i).toNat)
    case atStart => exact ⟨0, 0, by omega, rfl, rfl⟩
    case round =>
      obtain ⟨k, nn, hk, rfl, rfl⟩ := hrel
      by_cases hlt : k < R + 2
      · have c1 := hT71.at' k hlt
        have c2 := hT72.at' k hlt
        have hlt' : (k : Int) < (R : Int) + 2 := by omega
        try simp only at c1 c2
        by_cases hkn : (k : Int) - 1 = n
        · have e9 : ((k : Int) - 1 != n) = false := by simpa using hkn
          have HK := hide' hkn
          clear hkn
          go_wp2_with fail
          go_quiet (fail)
          go_wp2
          exact ⟨⟨k + 1, nn + nq, by omega, by go_num, rfl⟩, by simp [intOf]; omega⟩
        · have e9 : ((k : Int) - 1 != n) = true := by simpa using hkn
          have hsm := Hsame.out ((k : Int) - 1) hkn
          rw [hsm] at c2
          generalize hasB (inL R ns) ((k : Int) - 1) = bb at *
          have e10 : (bb != bb) = false := by simp
          clear hkn
          go_wp2_with fail
          go_quiet (fail)
          go_wp2
          exact ⟨⟨k + 1, nn + nq, by omega, by go_num, rfl⟩, by simp [intOf]; omega⟩
      · have hkr : k = R + 2 := by omega
        subst hkr
        have hlt' : ¬ ((R + 2 : Nat) : Int) < (R : Int) + 2 := by omega
        have hB8 := hB7.drewN nn
        have b8 := below_drewN b7 nn
        have hT8 : Tolds t2 rc2 (R + 2) _ (w7.drewN nn) := ⟨hT72.lt, hT72.at'⟩
        generalize w7.drewN nn = w8 at *
        clear hlt
        go_wp2_with fail
        refine (Hc.out x g _ hB8).mono ?_
        rintro e w9 ⟨rfl, hw9⟩
        subst hw9
        go_wp2_with fail
        refine (Hu.out _ _ _ hT8).mono ?_
        rintro e w9 ⟨rfl, hw9⟩
        subst hw9
        go_wp2
        go_ret
        exact ⟨rfl, b8⟩
  · have k5 : decide (0 ≤ room) = true := by simp; omega
    have k6 : decide (room ≤ 65536) = true := by simp; omega
    have k7 : ((R : Int) != room) = false := by simp; omega
    clear r1 r2 r3
    go_enter Try.func5, Try.ntmps5
    go_wp2_with fail
    refine (Hf.out _).mono ?_
    rintro e w1 ⟨rfl, b1⟩
    go_wp2_with fail
    refine (Hm.out _ (hI.below (Nat.le_refl _) b1)).mono ?_
    rintro e w2 ⟨x, rfl, g, hB2, b2', hx, hg⟩
    have b2 := b1.trans (b2'.mono b1.size)
    have hx' : w.heap.size ≤ x := Nat.le_trans b1.size hx
    have hg' : w.heap.size ≤ g := Nat.le_trans b1.size hg
    clear hx hg b1 b2' hI
    go_wp2_with (go_at_call 24; refine (Hr.out x g _ hB2).mono ?_; rintro e w3 ⟨rfl, hw3⟩; replace hw3 := hw3.symm; subst hw3)
    refine (Ht.out x g _ hB2).mono ?_
    rintro e w3 ⟨t1, rc1, rfl, hT1, ht1, b3'⟩
    have hB3 := hB2.below b3'
    have b3 := b2.trans (b3'.mono b2.size)
    go_wp2_with fail
    refine (Hh.out x g _ hB3).mono ?_
    rintro e w4 ⟨rfl, n4, hw4⟩
    have hB4 := hB3.drewN n4
    have b4 := below_drewN b3 n4
    have hT4 : Tolds t1 rc1 (R + 2) (fun j => hasB (inL R ns) ((j : Int) - 1)) w4 := by rw [hw4]; exact ⟨hT1.lt, hT1.at'⟩
    have hne : t1 ≠ g := by have := hB2.ltg; omega
    rw [← hw4] at hB4 b4
    clear hw4 hB3 b3 hT1 hB2 b2 b3'
    go_wp2_with fail
    refine (Hd.out x g _ hB4).mono ?_
    rintro e w5 ⟨rfl, hB5, t5⟩
    have b5 : Below w.heap.size w w5 := b4.trans (t5.below (fun j hj => by rw [hj]; exact hg') b4.size)
    have hT5 : Tolds t1 rc1 (R + 2) (fun j => hasB (inL R ns) ((j : Int) - 1)) w5 := ⟨Nat.lt_of_lt_of_le hT4.lt t5.size, fun j hj => (t5.cell (p := ⟨t1, j, none⟩) hT4.lt hne).trans (hT4.at' j hj)⟩
    clear hT4 hB4 b4 t5 ht1
    go_wp2_with (first | (go_at_call 24; refine (Hr2.out x g _ hB5).mono ?_; rintro e w6 ⟨rfl, hw6⟩; replace hw6 := hw6.symm; subst hw6))
    refine (Hh2.out x g _ hB5).mono ?_
    rintro e w6 ⟨rfl, n6, hw6⟩
    have hB6 := hB5.drewN n6
    have b6 := below_drewN b5 n6
    have hT6 : Tolds t1 rc1 (R + 2) (fun j => hasB (inL R ns) ((j : Int) - 1)) w6 := by rw [hw6]; exact ⟨hT5.lt, hT5.at'⟩
    rw [← hw6] at hB6 b6
    clear hw6 hB5 b5 hT5
    go_wp2_with fail
    refine (Ht2.out x g _ hB6).mono ?_
    rintro e w7 ⟨t2, rc2, rfl, hT72, ht2, b7'⟩
    have hT71 := hT6.below b7'
    have hB7 := hB6.below b7'
    have b7 := b6.trans (b7'.mono b6.size)
    clear hB6 b6 hT6 b7' ht2
    go_wp2_with fail
    go_loopw [16] (fun i wx => ∃ (k nn : Nat), k ≤ R + 2 ∧ i = .int .i64 (k : Int) ∧ wx = w7.drewN nn) (fun i _ => R + 2 - (intOf i).toNat)
    case atStart => exact ⟨0, 0, by omega, rfl, rfl⟩
    case round =>
      obtain ⟨k, nn, hk, rfl, rfl⟩ := hrel
      by_cases hlt : k < R + 2
      · have c1 := hT71.at' k hlt
        have c2 := hT72.at' k hlt
        have hlt' : (k : Int) < (R : Int) + 2 := by omega
        try simp only at c1 c2
        by_cases hkn : (k : Int) - 1 = n
        · have e9 : ((k : Int) - 1 != n) = false := by simpa using hkn
          have HK := hide' hkn
          clear hkn
          go_wp2_with fail
          go_quiet (fail)
          go_wp2
          exact ⟨⟨k + 1, nn + nq, by omega, by go_num, rfl⟩, by simp [intOf]; omega⟩
        · have e9 : ((k : Int) - 1 != n) = true := by simpa using hkn
          have hsm := Hsame.out ((k : Int) - 1) hkn
          rw [hsm] at c2
          generalize hasB (inL R ns) ((k : Int) - 1) = bb at *
          have e10 : (bb != bb) = false := by simp
          clear hkn
          go_wp2_with fail
          go_quiet (fail)
          go_wp2
          exact ⟨⟨k + 1, nn + nq, by omega, by go_num, rfl⟩, by simp [intOf]; omega⟩
      · have hkr : k = R + 2 := by omega
        subst hkr
        have hlt' : ¬ ((R + 2 : Nat) : Int) < (R : Int) + 2 := by omega
        have hB8 := hB7.drewN nn
        have b8 := below_drewN b7 nn
        have hT8 : Tolds t2 rc2 (R + 2) _ (w7.drewN nn) := ⟨hT72.lt, hT72.at'⟩
        generalize w7.drewN nn = w8 at *
        clear hlt
        go_wp2_with fail
        refine (Hc.out x g _ hB8).mono ?_
        rintro e w9 ⟨rfl, hw9⟩
        subst hw9
        go_wp2_with fail
        refine (Hu.out _ _ _ hT8).mono ?_
        rintro e w9 ⟨rfl, hw9⟩
        subst hw9
        go_wp2
        go_ret
        exact ⟨rfl, b8⟩
set_option maxHeartbeats 4000000 in
set_option maxRecDepth 100000 in
theorem one_d_in_f (room : Int) (a : Option Addr) (len cap : Nat) (ns : List Int) (n : Int) (w : World) (hI : IsInts w a len cap ns) (hn : 0 ≤ n ∧ n < (roomOf room : Int)) (hT : hasB (inL (roomOf room) ns) n = false) (hout : ∀ k, roomOf room ≤ k → inL (roomOf room) ns k = false) :
    Calls Try.prog 5 #[.int .i64 room, .slice a len cap, .int .i64 n, .bool true] w fun e w' => e = .returned (.bool true) ∧ Below w.heap.size w w' := by
  have Hf := hide' (fun w => fixed_any w)
  have Hm := hide' (fun w h => made_any room a len cap ns w h)
  have hR := roomOf_le room
  have hro : (room < 0 ∧ roomOf room = 0) ∨ (65536 < room ∧ roomOf room = 65536) ∨ (0 ≤ room ∧ room ≤ 65536 ∧ (roomOf room : Int) = room) := by unfold roomOf; omega
  generalize roomOf room = R at *
  have Hr := hide' (fun x g w h => room_any x g R (inL R ns) w h)
  have Ht := hide' (fun x g w h => told_any x g R (inL R ns) w h)
  have Hh := hide' (fun x g w h => has_any x g R (inL R ns) n w h)
  rw [hT] at Hh
  have Hd := hide' (fun x g w h => drop_gen x g R (inL R ns) n w h)
  have hfb : fitB R n = true := by simp only [fitB]; simp; omega
  rw [hT] at Hd
  have Hsame : Hid (∀ i, ¬ i = n → hasB (dropP (inL R ns) n) i = hasB (inL R ns) i) := fun i hi => by rw [hasB_drop]; simp [hi]
  have hh2 : hasB (dropP (inL R ns) n) n = false := by rw [hasB_drop]; simp
  have hout2 : (dropP (inL R ns) n) R = false := by simp [dropP, hout R (Nat.le_refl _)]
  have Hr2 := hide' (fun x g w h => room_any x g R (dropP (inL R ns) n) w h)
  have Hh2 := hide' (fun x g w h => has_any x g R (dropP (inL R ns) n) n w h)
  rw [hh2] at Hh2
  have Ht2 := hide' (fun x g w h => told_any x g R (dropP (inL R ns) n) w h)
  have Hc := hide' (fun x g w h => count_any x g R (dropP (inL R ns) n) w h)
  have Hu := hide' (fun t rc w h => trues_any t rc (R + 2) (fun j => hasB (dropP (inL R ns) n) ((j : Int) - 1)) w h (by omega))
  rw [cnt_told _ _ hout2] at Hu
  generalize B.cnt (dropP (inL R ns) n) R 0 = C at *
  generalize dropP (inL R ns) n = P2 at *
  have k1 : decide ((R : Int) < 0) = false := by simp
  have k2 : decide (65536 < (R : Int)) = false := by simp; omega
  have k3 : decide (0 ≤ n) = true := by simp; omega
  have k4 : decide (n < (R : Int)) = true := by simp; omega
  clear hout hT hfb hn hh2 hout2
  rcases hro with ⟨r1, r2⟩ | ⟨r1, r2⟩ | ⟨r1, r2, r3⟩
  · have k5 : decide (0 ≤ room) = false := by simp; omega
    clear r1 r2
    go_enter Try.func5, Try.ntmps5
    go_wp2_with fail
    refine (Hf.out _).mono ?_
    rintro e w1 ⟨rfl, b1⟩
    go_wp2_with fail
    refine (Hm.out _ (hI.below (Nat.le_refl _) b1)).mono ?_
    rintro e w2 ⟨x, rfl, g, hB2, b2', hx, hg⟩
    have b2 := b1.trans (b2'.mono b1.size)
    have hx' : w.heap.size ≤ x := Nat.le_trans b1.size hx
    have hg' : w.heap.size ≤ g := Nat.le_trans b1.size hg
    clear hx hg b1 b2' hI
    go_wp2_with (go_at_call 24; refine (Hr.out x g _ hB2).mono ?_; rintro e w3 ⟨rfl, hw3⟩; replace hw3 := hw3.symm; subst hw3)
    refine (Ht.out x g _ hB2).mono ?_
    rintro e w3 ⟨t1, rc1, rfl, hT1, ht1, b3'⟩
    have hB3 := hB2.below b3'
    have b3 := b2.trans (b3'.mono b2.size)
    go_wp2_with fail
    refine (Hh.out x g _ hB3).mono ?_
    rintro e w4 ⟨rfl, n4, hw4⟩
    have hB4 := hB3.drewN n4
    have b4 := below_drewN b3 n4
    have hT4 : Tolds t1 rc1 (R + 2) (fun j => hasB (inL R ns) ((j : Int) - 1)) w4 := by rw [hw4]; exact ⟨hT1.lt, hT1.at'⟩
    have hne : t1 ≠ g := by have := hB2.ltg; omega
    rw [← hw4] at hB4 b4
    clear hw4 hB3 b3 hT1 hB2 b2 b3'
    go_wp2_with fail
    refine (Hd.out x g _ hB4).mono ?_
    rintro e w5 ⟨rfl, hB5, t5⟩
    have b5 : Below w.heap.size w w5 := b4.trans (t5.below (fun j hj => by rw [hj]; exact hg') b4.size)
    have hT5 : Tolds t1 rc1 (R + 2) (fun j => hasB (inL R ns) ((j : Int) - 1)) w5 := ⟨Nat.lt_of_lt_of_le hT4.lt t5.size, fun j hj => (t5.cell (p := ⟨t1, j, none⟩) hT4.lt hne).trans (hT4.at' j hj)⟩
    clear hT4 hB4 b4 t5 ht1
    go_wp2_with (first | (go_at_call 24; refine (Hr2.out x g _ hB5).mono ?_; rintro e w6 ⟨rfl, hw6⟩; replace hw6 := hw6.symm; subst hw6))
    refine (Hh2.out x g _ hB5).mono ?_
    rintro e w6 ⟨rfl, n6, hw6⟩
    have hB6 := hB5.drewN n6
    have b6 := below_drewN b5 n6
    have hT6 : Tolds t1 rc1 (R + 2) (fun j => hasB (inL R ns) ((j : Int) - 1)) w6 := by rw [hw6]; exact ⟨hT5.lt, hT5.at'⟩
    rw [← hw6] at hB6 b6
    clear hw6 hB5 b5 hT5
    go_wp2_with fail
    refine (Ht2.out x g _ hB6).mono ?_
    rintro e w7 ⟨t2, rc2, rfl, hT72, ht2, b7'⟩
    have hT71 := hT6.below b7'
    have hB7 := hB6.below b7'
    have b7 := b6.trans (b7'.mono b6.size)
    clear hB6 b6 hT6 b7' ht2
    go_wp2_with fail
    go_loopw [16] (fun i wx => ∃ (k nn : Nat), k ≤ R + 2 ∧ i = .int .i64 (k : Int) ∧ wx = w7.drewN nn) (fun i _ => R + 2 - (intOf i).toNat)
    case atStart => exact ⟨0, 0, by omega, rfl, rfl⟩
    case round =>
      obtain ⟨k, nn, hk, rfl, rfl⟩ := hrel
      by_cases hlt : k < R + 2
      · have c1 := hT71.at' k hlt
        have c2 := hT72.at' k hlt
        have hlt' : (k : Int) < (R : Int) + 2 := by omega
        try simp only at c1 c2
        by_cases hkn : (k : Int) - 1 = n
        · have e9 : ((k : Int) - 1 != n) = false := by simpa using hkn
          have HK := hide' hkn
          clear hkn
          go_wp2_with fail
          go_quiet (fail)
          go_wp2
          exact ⟨⟨k + 1, nn + nq, by omega, by go_num, rfl⟩, by simp [intOf]; omega⟩
        · have e9 : ((k : Int) - 1 != n) = true := by simpa using hkn
          have hsm := Hsame.out ((k : Int) - 1) hkn
          rw [hsm] at c2
          generalize hasB (inL R ns) ((k : Int) - 1) = bb at *
          have e10 : (bb != bb) = false := by simp
          clear hkn
          go_wp2_with fail
          go_quiet (fail)
          go_wp2
          exact ⟨⟨k + 1, nn + nq, by omega, by go_num, rfl⟩, by simp [intOf]; omega⟩
      · have hkr : k = R + 2 := by omega
        subst hkr
        have hlt' : ¬ ((R + 2 : Nat) : Int) < (R : Int) + 2 := by omega
        have hB8 := hB7.drewN nn
        have b8 := below_drewN b7 nn
        have hT8 : Tolds t2 rc2 (R + 2) _ (w7.drewN nn) := ⟨hT72.lt, hT72.at'⟩
        generalize w7.drewN nn = w8 at *
        clear hlt
        go_wp2_with fail
        refine (Hc.out x g _ hB8).mono ?_
        rintro e w9 ⟨rfl, hw9⟩
        subst hw9
        go_wp2_with fail
        refine (Hu.out _ _ _ hT8).mono ?_
        rintro e w9 ⟨rfl, hw9⟩
        subst hw9
        go_wp2
        go_ret
        exact ⟨rfl, b8⟩
  · have k5 : decide (0 ≤ room) = true := by simp; omega
    have k6 : decide (room ≤ 65536) = false := by simp; omega
    clear r1 r2
    go_enter Try.func5, Try.ntmps5
    go_wp2_with fail
    refine (Hf.out _).mono ?_
    rintro e w1 ⟨rfl, b1⟩
    go_wp2_with fail
    refine (Hm.out _ (hI.below (Nat.le_refl _) b1)).mono ?_
    rintro e w2 ⟨x, rfl, g, hB2, b2', hx, hg⟩
    have b2 := b1.trans (b2'.mono b1.size)
    have hx' : w.heap.size ≤ x := Nat.le_trans b1.size hx
    have hg' : w.heap.size ≤ g := Nat.le_trans b1.size hg
    clear hx hg b1 b2' hI
    go_wp2_with (go_at_call 24; refine (Hr.out x g _ hB2).mono ?_; rintro e w3 ⟨rfl, hw3⟩; replace hw3 := hw3.symm; subst hw3)
    refine (Ht.out x g _ hB2).mono ?_
    rintro e w3 ⟨t1, rc1, rfl, hT1, ht1, b3'⟩
    have hB3 := hB2.below b3'
    have b3 := b2.trans (b3'.mono b2.size)
    go_wp2_with fail
    refine (Hh.out x g _ hB3).mono ?_
    rintro e w4 ⟨rfl, n4, hw4⟩
    have hB4 := hB3.drewN n4
    have b4 := below_drewN b3 n4
    have hT4 : Tolds t1 rc1 (R + 2) (fun j => hasB (inL R ns) ((j : Int) - 1)) w4 := by rw [hw4]; exact ⟨hT1.lt, hT1.at'⟩
    have hne : t1 ≠ g := by have := hB2.ltg; omega
    rw [← hw4] at hB4 b4
    clear hw4 hB3 b3 hT1 hB2 b2 b3'
    go_wp2_with fail
    refine (Hd.out x g _ hB4).mono ?_
    rintro e w5 ⟨rfl, hB5, t5⟩
    have b5 : Below w.heap.size w w5 := b4.trans (t5.below (fun j hj => by rw [hj]; exact hg') b4.size)
    have hT5 : Tolds t1 rc1 (R + 2) (fun j => hasB (inL R ns) ((j : Int) - 1)) w5 := ⟨Nat.lt_of_lt_of_le hT4.lt t5.size, fun j hj => (t5.cell (p := ⟨t1, j, none⟩) hT4.lt hne).trans (hT4.at' j hj)⟩
    clear hT4 hB4 b4 t5 ht1
    go_wp2_with (first | (go_at_call 24; refine (Hr2.out x g _ hB5).mono ?_; rintro e w6 ⟨rfl, hw6⟩; replace hw6 := hw6.symm; subst hw6))
    refine (Hh2.out x g _ hB5).mono ?_
    rintro e w6 ⟨rfl, n6, hw6⟩
    have hB6 := hB5.drewN n6
    have b6 := below_drewN b5 n6
    have hT6 : Tolds t1 rc1 (R + 2) (fun j => hasB (inL R ns) ((j : Int) - 1)) w6 := by rw [hw6]; exact ⟨hT5.lt, hT5.at'⟩
    rw [← hw6] at hB6 b6
    clear hw6 hB5 b5 hT5
    go_wp2_with fail
    refine (Ht2.out x g _ hB6).mono ?_
    rintro e w7 ⟨t2, rc2, rfl, hT72, ht2, b7'⟩
    have hT71 := hT6.below b7'
    have hB7 := hB6.below b7'
    have b7 := b6.trans (b7'.mono b6.size)
    clear hB6 b6 hT6 b7' ht2
    go_wp2_with fail
    go_loopw [16] (fun i wx => ∃ (k nn : Nat), k ≤ R + 2 ∧ i = .int .i64 (k : Int) ∧ wx = w7.drewN nn) (fun i _ => R + 2 - (intOf i).toNat)
    case atStart => exact ⟨0, 0, by omega, rfl, rfl⟩
    case round =>
      obtain ⟨k, nn, hk, rfl, rfl⟩ := hrel
      by_cases hlt : k < R + 2
      · have c1 := hT71.at' k hlt
        have c2 := hT72.at' k hlt
        have hlt' : (k : Int) < (R : Int) + 2 := by omega
        try simp only at c1 c2
        by_cases hkn : (k : Int) - 1 = n
        · have e9 : ((k : Int) - 1 != n) = false := by simpa using hkn
          have HK := hide' hkn
          clear hkn
          go_wp2_with fail
          go_quiet (fail)
          go_wp2
          exact ⟨⟨k + 1, nn + nq, by omega, by go_num, rfl⟩, by simp [intOf]; omega⟩
        · have e9 : ((k : Int) - 1 != n) = true := by simpa using hkn
          have hsm := Hsame.out ((k : Int) - 1) hkn
          rw [hsm] at c2
          generalize hasB (inL R ns) ((k : Int) - 1) = bb at *
          have e10 : (bb != bb) = false := by simp
          clear hkn
          go_wp2_with fail
          go_quiet (fail)
          go_wp2
          exact ⟨⟨k + 1, nn + nq, by omega, by go_num, rfl⟩, by simp [intOf]; omega⟩
      · have hkr : k = R + 2 := by omega
        subst hkr
        have hlt' : ¬ ((R + 2 : Nat) : Int) < (R : Int) + 2 := by omega
        have hB8 := hB7.drewN nn
        have b8 := below_drewN b7 nn
        have hT8 : Tolds t2 rc2 (R + 2) _ (w7.drewN nn) := ⟨hT72.lt, hT72.at'⟩
        generalize w7.drewN nn = w8 at *
        clear hlt
        go_wp2_with fail
        refine (Hc.out x g _ hB8).mono ?_
        rintro e w9 ⟨rfl, hw9⟩
        subst hw9
        go_wp2_with fail
        refine (Hu.out _ _ _ hT8).mono ?_
        rintro e w9 ⟨rfl, hw9⟩
        subst hw9
        go_wp2
        go_ret
        exact ⟨rfl, b8⟩
  · have k5 : decide (0 ≤ room) = true := by simp; omega
    have k6 : decide (room ≤ 65536) = true := by simp; omega
    have k7 : ((R : Int) != room) = false := by simp; omega
    clear r1 r2 r3
    go_enter Try.func5, Try.ntmps5
    go_wp2_with fail
    refine (Hf.out _).mono ?_
    rintro e w1 ⟨rfl, b1⟩
    go_wp2_with fail
    refine (Hm.out _ (hI.below (Nat.le_refl _) b1)).mono ?_
    rintro e w2 ⟨x, rfl, g, hB2, b2', hx, hg⟩
    have b2 := b1.trans (b2'.mono b1.size)
    have hx' : w.heap.size ≤ x := Nat.le_trans b1.size hx
    have hg' : w.heap.size ≤ g := Nat.le_trans b1.size hg
    clear hx hg b1 b2' hI
    go_wp2_with (go_at_call 24; refine (Hr.out x g _ hB2).mono ?_; rintro e w3 ⟨rfl, hw3⟩; replace hw3 := hw3.symm; subst hw3)
    refine (Ht.out x g _ hB2).mono ?_
    rintro e w3 ⟨t1, rc1, rfl, hT1, ht1, b3'⟩
    have hB3 := hB2.below b3'
    have b3 := b2.trans (b3'.mono b2.size)
    go_wp2_with fail
    refine (Hh.out x g _ hB3).mono ?_
    rintro e w4 ⟨rfl, n4, hw4⟩
    have hB4 := hB3.drewN n4
    have b4 := below_drewN b3 n4
    have hT4 : Tolds t1 rc1 (R + 2) (fun j => hasB (inL R ns) ((j : Int) - 1)) w4 := by rw [hw4]; exact ⟨hT1.lt, hT1.at'⟩
    have hne : t1 ≠ g := by have := hB2.ltg; omega
    rw [← hw4] at hB4 b4
    clear hw4 hB3 b3 hT1 hB2 b2 b3'
    go_wp2_with fail
    refine (Hd.out x g _ hB4).mono ?_
    rintro e w5 ⟨rfl, hB5, t5⟩
    have b5 : Below w.heap.size w w5 := b4.trans (t5.below (fun j hj => by rw [hj]; exact hg') b4.size)
    have hT5 : Tolds t1 rc1 (R + 2) (fun j => hasB (inL R ns) ((j : Int) - 1)) w5 := ⟨Nat.lt_of_lt_of_le hT4.lt t5.size, fun j hj => (t5.cell (p := ⟨t1, j, none⟩) hT4.lt hne).trans (hT4.at' j hj)⟩
    clear hT4 hB4 b4 t5 ht1
    go_wp2_with (first | (go_at_call 24; refine (Hr2.out x g _ hB5).mono ?_; rintro e w6 ⟨rfl, hw6⟩; replace hw6 := hw6.symm; subst hw6))
    refine (Hh2.out x g _ hB5).mono ?_
    rintro e w6 ⟨rfl, n6, hw6⟩
    have hB6 := hB5.drewN n6
    have b6 := below_drewN b5 n6
    have hT6 : Tolds t1 rc1 (R + 2) (fun j => hasB (inL R ns) ((j : Int) - 1)) w6 := by rw [hw6]; exact ⟨hT5.lt, hT5.at'⟩
    rw [← hw6] at hB6 b6
    clear hw6 hB5 b5 hT5
    go_wp2_with fail
    refine (Ht2.out x g _ hB6).mono ?_
    rintro e w7 ⟨t2, rc2, rfl, hT72, ht2, b7'⟩
    have hT71 := hT6.below b7'
    have hB7 := hB6.below b7'
    have b7 := b6.trans (b7'.mono b6.size)
    clear hB6 b6 hT6 b7' ht2
    go_wp2_with fail
    go_loopw [16] (fun i wx => ∃ (k nn : Nat), k ≤ R + 2 ∧ i = .int .i64 (k : Int) ∧ wx = w7.drewN nn) (fun i _ => R + 2 - (intOf i).toNat)
    case atStart => exact ⟨0, 0, by omega, rfl, rfl⟩
    case round =>
      obtain ⟨k, nn, hk, rfl, rfl⟩ := hrel
      by_cases hlt : k < R + 2
      · have c1 := hT71.at' k hlt
        have c2 := hT72.at' k hlt
        have hlt' : (k : Int) < (R : Int) + 2 := by omega
        try simp only at c1 c2
        by_cases hkn : (k : Int) - 1 = n
        · have e9 : ((k : Int) - 1 != n) = false := by simpa using hkn
          have HK := hide' hkn
          clear hkn
          go_wp2_with fail
          go_quiet (fail)
          go_wp2
          exact ⟨⟨k + 1, nn + nq, by omega, by go_num, rfl⟩, by simp [intOf]; omega⟩
        · have e9 : ((k : Int) - 1 != n) = true := by simpa using hkn
          have hsm := Hsame.out ((k : Int) - 1) hkn
          rw [hsm] at c2
          generalize hasB (inL R ns) ((k : Int) - 1) = bb at *
          have e10 : (bb != bb) = false := by simp
          clear hkn
          go_wp2_with fail
          go_quiet (fail)
          go_wp2
          exact ⟨⟨k + 1, nn + nq, by omega, by go_num, rfl⟩, by simp [intOf]; omega⟩
      · have hkr : k = R + 2 := by omega
        subst hkr
        have hlt' : ¬ ((R + 2 : Nat) : Int) < (R : Int) + 2 := by omega
        have hB8 := hB7.drewN nn
        have b8 := below_drewN b7 nn
        have hT8 : Tolds t2 rc2 (R + 2) _ (w7.drewN nn) := ⟨hT72.lt, hT72.at'⟩
        generalize w7.drewN nn = w8 at *
        clear hlt
        go_wp2_with fail
        refine (Hc.out x g _ hB8).mono ?_
        rintro e w9 ⟨rfl, hw9⟩
        subst hw9
        go_wp2_with fail
        refine (Hu.out _ _ _ hT8).mono ?_
        rintro e w9 ⟨rfl, hw9⟩
        subst hw9
        go_wp2
        go_ret
        exact ⟨rfl, b8⟩
set_option maxHeartbeats 4000000 in
set_option maxRecDepth 100000 in
theorem one_d_neg_f (room : Int) (a : Option Addr) (len cap : Nat) (ns : List Int) (n : Int) (w : World) (hI : IsInts w a len cap ns) (hn : n < 0) (hT : hasB (inL (roomOf room) ns) n = false) (hout : ∀ k, roomOf room ≤ k → inL (roomOf room) ns k = false) :
    Calls Try.prog 5 #[.int .i64 room, .slice a len cap, .int .i64 n, .bool true] w fun e w' => e = .returned (.bool true) ∧ Below w.heap.size w w' := by
  have Hf := hide' (fun w => fixed_any w)
  have Hm := hide' (fun w h => made_any room a len cap ns w h)
  have hR := roomOf_le room
  have hro : (room < 0 ∧ roomOf room = 0) ∨ (65536 < room ∧ roomOf room = 65536) ∨ (0 ≤ room ∧ room ≤ 65536 ∧ (roomOf room : Int) = room) := by unfold roomOf; omega
  generalize roomOf room = R at *
  have Hr := hide' (fun x g w h => room_any x g R (inL R ns) w h)
  have Ht := hide' (fun x g w h => told_any x g R (inL R ns) w h)
  have Hh := hide' (fun x g w h => has_any x g R (inL R ns) n w h)
  rw [hT] at Hh
  have Hd := hide' (fun x g w h => drop_gen x g R (inL R ns) n w h)
  have hfb : fitB R n = false := by simp only [fitB]; simp; omega
  rw [hT] at Hd
  have Hsame : Hid (∀ i, ¬ i = n → hasB (dropP (inL R ns) n) i = hasB (inL R ns) i) := fun i hi => by rw [hasB_drop]; simp [hi]
  have hh2 : hasB (dropP (inL R ns) n) n = false := by rw [hasB_drop]; simp
  have hout2 : (dropP (inL R ns) n) R = false := by simp [dropP, hout R (Nat.le_refl _)]
  have Hr2 := hide' (fun x g w h => room_any x g R (dropP (inL R ns) n) w h)
  have Hh2 := hide' (fun x g w h => has_any x g R (dropP (inL R ns) n) n w h)
  rw [hh2] at Hh2
  have Ht2 := hide' (fun x g w h => told_any x g R (dropP (inL R ns) n) w h)
  have Hc := hide' (fun x g w h => count_any x g R (dropP (inL R ns) n) w h)
  have Hu := hide' (fun t rc w h => trues_any t rc (R + 2) (fun j => hasB (dropP (inL R ns) n) ((j : Int) - 1)) w h (by omega))
  rw [cnt_told _ _ hout2] at Hu
  generalize B.cnt (dropP (inL R ns) n) R 0 = C at *
  generalize dropP (inL R ns) n = P2 at *
  have k1 : decide ((R : Int) < 0) = false := by simp
  have k2 : decide (65536 < (R : Int)) = false := by simp; omega
  have k3 : decide (0 ≤ n) = false := by simp; omega
  clear hout hT hfb hn hh2 hout2
  rcases hro with ⟨r1, r2⟩ | ⟨r1, r2⟩ | ⟨r1, r2, r3⟩
  · have k5 : decide (0 ≤ room) = false := by simp; omega
    clear r1 r2
    go_enter Try.func5, Try.ntmps5
    go_wp2_with fail
    refine (Hf.out _).mono ?_
    rintro e w1 ⟨rfl, b1⟩
    go_wp2_with fail
    refine (Hm.out _ (hI.below (Nat.le_refl _) b1)).mono ?_
    rintro e w2 ⟨x, rfl, g, hB2, b2', hx, hg⟩
    have b2 := b1.trans (b2'.mono b1.size)
    have hx' : w.heap.size ≤ x := Nat.le_trans b1.size hx
    have hg' : w.heap.size ≤ g := Nat.le_trans b1.size hg
    clear hx hg b1 b2' hI
    go_wp2_with (go_at_call 24; refine (Hr.out x g _ hB2).mono ?_; rintro e w3 ⟨rfl, hw3⟩; replace hw3 := hw3.symm; subst hw3)
    refine (Ht.out x g _ hB2).mono ?_
    rintro e w3 ⟨t1, rc1, rfl, hT1, ht1, b3'⟩
    have hB3 := hB2.below b3'
    have b3 := b2.trans (b3'.mono b2.size)
    go_wp2_with fail
    refine (Hh.out x g _ hB3).mono ?_
    rintro e w4 ⟨rfl, n4, hw4⟩
    have hB4 := hB3.drewN n4
    have b4 := below_drewN b3 n4
    have hT4 : Tolds t1 rc1 (R + 2) (fun j => hasB (inL R ns) ((j : Int) - 1)) w4 := by rw [hw4]; exact ⟨hT1.lt, hT1.at'⟩
    have hne : t1 ≠ g := by have := hB2.ltg; omega
    rw [← hw4] at hB4 b4
    clear hw4 hB3 b3 hT1 hB2 b2 b3'
    go_wp2_with fail
    refine (Hd.out x g _ hB4).mono ?_
    rintro e w5 ⟨rfl, hB5, t5⟩
    have b5 : Below w.heap.size w w5 := b4.trans (t5.below (fun j hj => by rw [hj]; exact hg') b4.size)
    have hT5 : Tolds t1 rc1 (R + 2) (fun j => hasB (inL R ns) ((j : Int) - 1)) w5 := ⟨Nat.lt_of_lt_of_le hT4.lt t5.size, fun j hj => (t5.cell (p := ⟨t1, j, none⟩) hT4.lt hne).trans (hT4.at' j hj)⟩
    clear hT4 hB4 b4 t5 ht1
    go_wp2_with (first | (go_at_call 24; refine (Hr2.out x g _ hB5).mono ?_; rintro e w6 ⟨rfl, hw6⟩; replace hw6 := hw6.symm; subst hw6))
    refine (Hh2.out x g _ hB5).mono ?_
    rintro e w6 ⟨rfl, n6, hw6⟩
    have hB6 := hB5.drewN n6
    have b6 := below_drewN b5 n6
    have hT6 : Tolds t1 rc1 (R + 2) (fun j => hasB (inL R ns) ((j : Int) - 1)) w6 := by rw [hw6]; exact ⟨hT5.lt, hT5.at'⟩
    rw [← hw6] at hB6 b6
    clear hw6 hB5 b5 hT5
    go_wp2_with fail
    refine (Ht2.out x g _ hB6).mono ?_
    rintro e w7 ⟨t2, rc2, rfl, hT72, ht2, b7'⟩
    have hT71 := hT6.below b7'
    have hB7 := hB6.below b7'
    have b7 := b6.trans (b7'.mono b6.size)
    clear hB6 b6 hT6 b7' ht2
    go_wp2_with fail
    go_loopw [16] (fun i wx => ∃ (k nn : Nat), k ≤ R + 2 ∧ i = .int .i64 (k : Int) ∧ wx = w7.drewN nn) (fun i _ => R + 2 - (intOf i).toNat)
    case atStart => exact ⟨0, 0, by omega, rfl, rfl⟩
    case round =>
      obtain ⟨k, nn, hk, rfl, rfl⟩ := hrel
      by_cases hlt : k < R + 2
      · have c1 := hT71.at' k hlt
        have c2 := hT72.at' k hlt
        have hlt' : (k : Int) < (R : Int) + 2 := by omega
        try simp only at c1 c2
        by_cases hkn : (k : Int) - 1 = n
        · have e9 : ((k : Int) - 1 != n) = false := by simpa using hkn
          have HK := hide' hkn
          clear hkn
          go_wp2_with fail
          go_quiet (fail)
          go_wp2
          exact ⟨⟨k + 1, nn + nq, by omega, by go_num, rfl⟩, by simp [intOf]; omega⟩
        · have e9 : ((k : Int) - 1 != n) = true := by simpa using hkn
          have hsm := Hsame.out ((k : Int) - 1) hkn
          rw [hsm] at c2
          generalize hasB (inL R ns) ((k : Int) - 1) = bb at *
          have e10 : (bb != bb) = false := by simp
          clear hkn
          go_wp2_with fail
          go_quiet (fail)
          go_wp2
          exact ⟨⟨k + 1, nn + nq, by omega, by go_num, rfl⟩, by simp [intOf]; omega⟩
      · have hkr : k = R + 2 := by omega
        subst hkr
        have hlt' : ¬ ((R + 2 : Nat) : Int) < (R : Int) + 2 := by omega
        have hB8 := hB7.drewN nn
        have b8 := below_drewN b7 nn
        have hT8 : Tolds t2 rc2 (R + 2) _ (w7.drewN nn) := ⟨hT72.lt, hT72.at'⟩
        generalize w7.drewN nn = w8 at *
        clear hlt
        go_wp2_with fail
        refine (Hc.out x g _ hB8).mono ?_
        rintro e w9 ⟨rfl, hw9⟩
        subst hw9
        go_wp2_with fail
        refine (Hu.out _ _ _ hT8).mono ?_
        rintro e w9 ⟨rfl, hw9⟩
        subst hw9
        go_wp2
        go_ret
        exact ⟨rfl, b8⟩
  · have k5 : decide (0 ≤ room) = true := by simp; omega
    have k6 : decide (room ≤ 65536) = false := by simp; omega
    clear r1 r2
    go_enter Try.func5, Try.ntmps5
    go_wp2_with fail
    refine (Hf.out _).mono ?_
    rintro e w1 ⟨rfl, b1⟩
    go_wp2_with fail
    refine (Hm.out _ (hI.below (Nat.le_refl _) b1)).mono ?_
    rintro e w2 ⟨x, rfl, g, hB2, b2', hx, hg⟩
    have b2 := b1.trans (b2'.mono b1.size)
    have hx' : w.heap.size ≤ x := Nat.le_trans b1.size hx
    have hg' : w.heap.size ≤ g := Nat.le_trans b1.size hg
    clear hx hg b1 b2' hI
    go_wp2_with (go_at_call 24; refine (Hr.out x g _ hB2).mono ?_; rintro e w3 ⟨rfl, hw3⟩; replace hw3 := hw3.symm; subst hw3)
    refine (Ht.out x g _ hB2).mono ?_
    rintro e w3 ⟨t1, rc1, rfl, hT1, ht1, b3'⟩
    have hB3 := hB2.below b3'
    have b3 := b2.trans (b3'.mono b2.size)
    go_wp2_with fail
    refine (Hh.out x g _ hB3).mono ?_
    rintro e w4 ⟨rfl, n4, hw4⟩
    have hB4 := hB3.drewN n4
    have b4 := below_drewN b3 n4
    have hT4 : Tolds t1 rc1 (R + 2) (fun j => hasB (inL R ns) ((j : Int) - 1)) w4 := by rw [hw4]; exact ⟨hT1.lt, hT1.at'⟩
    have hne : t1 ≠ g := by have := hB2.ltg; omega
    rw [← hw4] at hB4 b4
    clear hw4 hB3 b3 hT1 hB2 b2 b3'
    go_wp2_with fail
    refine (Hd.out x g _ hB4).mono ?_
    rintro e w5 ⟨rfl, hB5, t5⟩
    have b5 : Below w.heap.size w w5 := b4.trans (t5.below (fun j hj => by rw [hj]; exact hg') b4.size)
    have hT5 : Tolds t1 rc1 (R + 2) (fun j => hasB (inL R ns) ((j : Int) - 1)) w5 := ⟨Nat.lt_of_lt_of_le hT4.lt t5.size, fun j hj => (t5.cell (p := ⟨t1, j, none⟩) hT4.lt hne).trans (hT4.at' j hj)⟩
    clear hT4 hB4 b4 t5 ht1
    go_wp2_with (first | (go_at_call 24; refine (Hr2.out x g _ hB5).mono ?_; rintro e w6 ⟨rfl, hw6⟩; replace hw6 := hw6.symm; subst hw6))
    refine (Hh2.out x g _ hB5).mono ?_
    rintro e w6 ⟨rfl, n6, hw6⟩
    have hB6 := hB5.drewN n6
    have b6 := below_drewN b5 n6
    have hT6 : Tolds t1 rc1 (R + 2) (fun j => hasB (inL R ns) ((j : Int) - 1)) w6 := by rw [hw6]; exact ⟨hT5.lt, hT5.at'⟩
    rw [← hw6] at hB6 b6
    clear hw6 hB5 b5 hT5
    go_wp2_with fail
    refine (Ht2.out x g _ hB6).mono ?_
    rintro e w7 ⟨t2, rc2, rfl, hT72, ht2, b7'⟩
    have hT71 := hT6.below b7'
    have hB7 := hB6.below b7'
    have b7 := b6.trans (b7'.mono b6.size)
    clear hB6 b6 hT6 b7' ht2
    go_wp2_with fail
    go_loopw [16] (fun i wx => ∃ (k nn : Nat), k ≤ R + 2 ∧ i = .int .i64 (k : Int) ∧ wx = w7.drewN nn) (fun i _ => R + 2 - (intOf i).toNat)
    case atStart => exact ⟨0, 0, by omega, rfl, rfl⟩
    case round =>
      obtain ⟨k, nn, hk, rfl, rfl⟩ := hrel
      by_cases hlt : k < R + 2
      · have c1 := hT71.at' k hlt
        have c2 := hT72.at' k hlt
        have hlt' : (k : Int) < (R : Int) + 2 := by omega
        try simp only at c1 c2
        by_cases hkn : (k : Int) - 1 = n
        · have e9 : ((k : Int) - 1 != n) = false := by simpa using hkn
          have HK := hide' hkn
          clear hkn
          go_wp2_with fail
          go_quiet (fail)
          go_wp2
          exact ⟨⟨k + 1, nn + nq, by omega, by go_num, rfl⟩, by simp [intOf]; omega⟩
        · have e9 : ((k : Int) - 1 != n) = true := by simpa using hkn
          have hsm := Hsame.out ((k : Int) - 1) hkn
          rw [hsm] at c2
          generalize hasB (inL R ns) ((k : Int) - 1) = bb at *
          have e10 : (bb != bb) = false := by simp
          clear hkn
          go_wp2_with fail
          go_quiet (fail)
          go_wp2
          exact ⟨⟨k + 1, nn + nq, by omega, by go_num, rfl⟩, by simp [intOf]; omega⟩
      · have hkr : k = R + 2 := by omega
        subst hkr
        have hlt' : ¬ ((R + 2 : Nat) : Int) < (R : Int) + 2 := by omega
        have hB8 := hB7.drewN nn
        have b8 := below_drewN b7 nn
        have hT8 : Tolds t2 rc2 (R + 2) _ (w7.drewN nn) := ⟨hT72.lt, hT72.at'⟩
        generalize w7.drewN nn = w8 at *
        clear hlt
        go_wp2_with fail
        refine (Hc.out x g _ hB8).mono ?_
        rintro e w9 ⟨rfl, hw9⟩
        subst hw9
        go_wp2_with fail
        refine (Hu.out _ _ _ hT8).mono ?_
        rintro e w9 ⟨rfl, hw9⟩
        subst hw9
        go_wp2
        go_ret
        exact ⟨rfl, b8⟩
  · have k5 : decide (0 ≤ room) = true := by simp; omega
    have k6 : decide (room ≤ 65536) = true := by simp; omega
    have k7 : ((R : Int) != room) = false := by simp; omega
    clear r1 r2 r3
    go_enter Try.func5, Try.ntmps5
    go_wp2_with fail
    refine (Hf.out _).mono ?_
    rintro e w1 ⟨rfl, b1⟩
    go_wp2_with fail
    refine (Hm.out _ (hI.below (Nat.le_refl _) b1)).mono ?_
    rintro e w2 ⟨x, rfl, g, hB2, b2', hx, hg⟩
    have b2 := b1.trans (b2'.mono b1.size)
    have hx' : w.heap.size ≤ x := Nat.le_trans b1.size hx
    have hg' : w.heap.size ≤ g := Nat.le_trans b1.size hg
    clear hx hg b1 b2' hI
    go_wp2_with (go_at_call 24; refine (Hr.out x g _ hB2).mono ?_; rintro e w3 ⟨rfl, hw3⟩; replace hw3 := hw3.symm; subst hw3)
    refine (Ht.out x g _ hB2).mono ?_
    rintro e w3 ⟨t1, rc1, rfl, hT1, ht1, b3'⟩
    have hB3 := hB2.below b3'
    have b3 := b2.trans (b3'.mono b2.size)
    go_wp2_with fail
    refine (Hh.out x g _ hB3).mono ?_
    rintro e w4 ⟨rfl, n4, hw4⟩
    have hB4 := hB3.drewN n4
    have b4 := below_drewN b3 n4
    have hT4 : Tolds t1 rc1 (R + 2) (fun j => hasB (inL R ns) ((j : Int) - 1)) w4 := by rw [hw4]; exact ⟨hT1.lt, hT1.at'⟩
    have hne : t1 ≠ g := by have := hB2.ltg; omega
    rw [← hw4] at hB4 b4
    clear hw4 hB3 b3 hT1 hB2 b2 b3'
    go_wp2_with fail
    refine (Hd.out x g _ hB4).mono ?_
    rintro e w5 ⟨rfl, hB5, t5⟩
    have b5 : Below w.heap.size w w5 := b4.trans (t5.below (fun j hj => by rw [hj]; exact hg') b4.size)
    have hT5 : Tolds t1 rc1 (R + 2) (fun j => hasB (inL R ns) ((j : Int) - 1)) w5 := ⟨Nat.lt_of_lt_of_le hT4.lt t5.size, fun j hj => (t5.cell (p := ⟨t1, j, none⟩) hT4.lt hne).trans (hT4.at' j hj)⟩
    clear hT4 hB4 b4 t5 ht1
    go_wp2_with (first | (go_at_call 24; refine (Hr2.out x g _ hB5).mono ?_; rintro e w6 ⟨rfl, hw6⟩; replace hw6 := hw6.symm; subst hw6))
    refine (Hh2.out x g _ hB5).mono ?_
    rintro e w6 ⟨rfl, n6, hw6⟩
    have hB6 := hB5.drewN n6
    have b6 := below_drewN b5 n6
    have hT6 : Tolds t1 rc1 (R + 2) (fun j => hasB (inL R ns) ((j : Int) - 1)) w6 := by rw [hw6]; exact ⟨hT5.lt, hT5.at'⟩
    rw [← hw6] at hB6 b6
    clear hw6 hB5 b5 hT5
    go_wp2_with fail
    refine (Ht2.out x g _ hB6).mono ?_
    rintro e w7 ⟨t2, rc2, rfl, hT72, ht2, b7'⟩
    have hT71 := hT6.below b7'
    have hB7 := hB6.below b7'
    have b7 := b6.trans (b7'.mono b6.size)
    clear hB6 b6 hT6 b7' ht2
    go_wp2_with fail
    go_loopw [16] (fun i wx => ∃ (k nn : Nat), k ≤ R + 2 ∧ i = .int .i64 (k : Int) ∧ wx = w7.drewN nn) (fun i _ => R + 2 - (intOf i).toNat)
    case atStart => exact ⟨0, 0, by omega, rfl, rfl⟩
    case round =>
      obtain ⟨k, nn, hk, rfl, rfl⟩ := hrel
      by_cases hlt : k < R + 2
      · have c1 := hT71.at' k hlt
        have c2 := hT72.at' k hlt
        have hlt' : (k : Int) < (R : Int) + 2 := by omega
        try simp only at c1 c2
        by_cases hkn : (k : Int) - 1 = n
        · have e9 : ((k : Int) - 1 != n) = false := by simpa using hkn
          have HK := hide' hkn
          clear hkn
          go_wp2_with fail
          go_quiet (fail)
          go_wp2
          exact ⟨⟨k + 1, nn + nq, by omega, by go_num, rfl⟩, by simp [intOf]; omega⟩
        · have e9 : ((k : Int) - 1 != n) = true := by simpa using hkn
          have hsm := Hsame.out ((k : Int) - 1) hkn
          rw [hsm] at c2
          generalize hasB (inL R ns) ((k : Int) - 1) = bb at *
          have e10 : (bb != bb) = false := by simp
          clear hkn
          go_wp2_with fail
          go_quiet (fail)
          go_wp2
          exact ⟨⟨k + 1, nn + nq, by omega, by go_num, rfl⟩, by simp [intOf]; omega⟩
      · have hkr : k = R + 2 := by omega
        subst hkr
        have hlt' : ¬ ((R + 2 : Nat) : Int) < (R : Int) + 2 := by omega
        have hB8 := hB7.drewN nn
        have b8 := below_drewN b7 nn
        have hT8 : Tolds t2 rc2 (R + 2) _ (w7.drewN nn) := ⟨hT72.lt, hT72.at'⟩
        generalize w7.drewN nn = w8 at *
        clear hlt
        go_wp2_with fail
        refine (Hc.out x g _ hB8).mono ?_
        rintro e w9 ⟨rfl, hw9⟩
        subst hw9
        go_wp2_with fail
        refine (Hu.out _ _ _ hT8).mono ?_
        rintro e w9 ⟨rfl, hw9⟩
        subst hw9
        go_wp2
        go_ret
        exact ⟨rfl, b8⟩
set_option maxHeartbeats 4000000 in
set_option maxRecDepth 100000 in
theorem one_d_over_f (room : Int) (a : Option Addr) (len cap : Nat) (ns : List Int) (n : Int) (w : World) (hI : IsInts w a len cap ns) (hn : 0 ≤ n ∧ (roomOf room : Int) ≤ n) (hT : hasB (inL (roomOf room) ns) n = false) (hout : ∀ k, roomOf room ≤ k → inL (roomOf room) ns k = false) :
    Calls Try.prog 5 #[.int .i64 room, .slice a len cap, .int .i64 n, .bool true] w fun e w' => e = .returned (.bool true) ∧ Below w.heap.size w w' := by
  have Hf := hide' (fun w => fixed_any w)
  have Hm := hide' (fun w h => made_any room a len cap ns w h)
  have hR := roomOf_le room
  have hro : (room < 0 ∧ roomOf room = 0) ∨ (65536 < room ∧ roomOf room = 65536) ∨ (0 ≤ room ∧ room ≤ 65536 ∧ (roomOf room : Int) = room) := by unfold roomOf; omega
  generalize roomOf room = R at *
  have Hr := hide' (fun x g w h => room_any x g R (inL R ns) w h)
  have Ht := hide' (fun x g w h => told_any x g R (inL R ns) w h)
  have Hh := hide' (fun x g w h => has_any x g R (inL R ns) n w h)
  rw [hT] at Hh
  have Hd := hide' (fun x g w h => drop_gen x g R (inL R ns) n w h)
  have hfb : fitB R n = false := by simp only [fitB]; simp; omega
  rw [hT] at Hd
  have Hsame : Hid (∀ i, ¬ i = n → hasB (dropP (inL R ns) n) i = hasB (inL R ns) i) := fun i hi => by rw [hasB_drop]; simp [hi]
  have hh2 : hasB (dropP (inL R ns) n) n = false := by rw [hasB_drop]; simp
  have hout2 : (dropP (inL R ns) n) R = false := by simp [dropP, hout R (Nat.le_refl _)]
  have Hr2 := hide' (fun x g w h => room_any x g R (dropP (inL R ns) n) w h)
  have Hh2 := hide' (fun x g w h => has_any x g R (dropP (inL R ns) n) n w h)
  rw [hh2] at Hh2
  have Ht2 := hide' (fun x g w h => told_any x g R (dropP (inL R ns) n) w h)
  have Hc := hide' (fun x g w h => count_any x g R (dropP (inL R ns) n) w h)
  have Hu := hide' (fun t rc w h => trues_any t rc (R + 2) (fun j => hasB (dropP (inL R ns) n) ((j : Int) - 1)) w h (by omega))
  rw [cnt_told _ _ hout2] at Hu
  generalize B.cnt (dropP (inL R ns) n) R 0 = C at *
  generalize dropP (inL R ns) n = P2 at *
  have k1 : decide ((R : Int) < 0) = false := by simp
  have k2 : decide (65536 < (R : Int)) = false := by simp; omega
  have k3 : decide (0 ≤ n) = true := by simp; omega
  have k4 : decide (n < (R : Int)) = false := by simp; omega
  clear hout hT hfb hn hh2 hout2
  rcases hro with ⟨r1, r2⟩ | ⟨r1, r2⟩ | ⟨r1, r2, r3⟩
  · have k5 : decide (0 ≤ room) = false := by simp; omega
    clear r1 r2
    go_enter Try.func5, Try.ntmps5
    go_wp2_with fail
    refine (Hf.out _).mono ?_
    rintro e w1 ⟨rfl, b1⟩
    go_wp2_with fail
    refine (Hm.out _ (hI.below (Nat.le_refl _) b1)).mono ?_
    rintro e w2 ⟨x, rfl, g, hB2, b2', hx, hg⟩
    have b2 := b1.trans (b2'.mono b1.size)
    have hx' : w.heap.size ≤ x := Nat.le_trans b1.size hx
    have hg' : w.heap.size ≤ g := Nat.le_trans b1.size hg
    clear hx hg b1 b2' hI
    go_wp2_with (go_at_call 24; refine (Hr.out x g _ hB2).mono ?_; rintro e w3 ⟨rfl, hw3⟩; replace hw3 := hw3.symm; subst hw3)
    refine (Ht.out x g _ hB2).mono ?_
    rintro e w3 ⟨t1, rc1, rfl, hT1, ht1, b3'⟩
    have hB3 := hB2.below b3'
    have b3 := b2.trans (b3'.mono b2.size)
    go_wp2_with fail
    refine (Hh.out x g _ hB3).mono ?_
    rintro e w4 ⟨rfl, n4, hw4⟩
    have hB4 := hB3.drewN n4
    have b4 := below_drewN b3 n4
    have hT4 : Tolds t1 rc1 (R + 2) (fun j => hasB (inL R ns) ((j : Int) - 1)) w4 := by rw [hw4]; exact ⟨hT1.lt, hT1.at'⟩
    have hne : t1 ≠ g := by have := hB2.ltg; omega
    rw [← hw4] at hB4 b4
    clear hw4 hB3 b3 hT1 hB2 b2 b3'
    go_wp2_with fail
    refine (Hd.out x g _ hB4).mono ?_
    rintro e w5 ⟨rfl, hB5, t5⟩
    have b5 : Below w.heap.size w w5 := b4.trans (t5.below (fun j hj => by rw [hj]; exact hg') b4.size)
    have hT5 : Tolds t1 rc1 (R + 2) (fun j => hasB (inL R ns) ((j : Int) - 1)) w5 := ⟨Nat.lt_of_lt_of_le hT4.lt t5.size, fun j hj => (t5.cell (p := ⟨t1, j, none⟩) hT4.lt hne).trans (hT4.at' j hj)⟩
    clear hT4 hB4 b4 t5 ht1
    go_wp2_with (first | (go_at_call 24; refine (Hr2.out x g _ hB5).mono ?_; rintro e w6 ⟨rfl, hw6⟩; replace hw6 := hw6.symm; subst hw6))
    refine (Hh2.out x g _ hB5).mono ?_
    rintro e w6 ⟨rfl, n6, hw6⟩
    have hB6 := hB5.drewN n6
    have b6 := below_drewN b5 n6
    have hT6 : Tolds t1 rc1 (R + 2) (fun j => hasB (inL R ns) ((j : Int) - 1)) w6 := by rw [hw6]; exact ⟨hT5.lt, hT5.at'⟩
    rw [← hw6] at hB6 b6
    clear hw6 hB5 b5 hT5
    go_wp2_with fail
    refine (Ht2.out x g _ hB6).mono ?_
    rintro e w7 ⟨t2, rc2, rfl, hT72, ht2, b7'⟩
    have hT71 := hT6.below b7'
    have hB7 := hB6.below b7'
    have b7 := b6.trans (b7'.mono b6.size)
    clear hB6 b6 hT6 b7' ht2
    go_wp2_with fail
    go_loopw [16] (fun i wx => ∃ (k nn : Nat), k ≤ R + 2 ∧ i = .int .i64 (k : Int) ∧ wx = w7.drewN nn) (fun i _ => R + 2 - (intOf i).toNat)
    case atStart => exact ⟨0, 0, by omega, rfl, rfl⟩
    case round =>
      obtain ⟨k, nn, hk, rfl, rfl⟩ := hrel
      by_cases hlt : k < R + 2
      · have c1 := hT71.at' k hlt
        have c2 := hT72.at' k hlt
        have hlt' : (k : Int) < (R : Int) + 2 := by omega
        try simp only at c1 c2
        by_cases hkn : (k : Int) - 1 = n
        · have e9 : ((k : Int) - 1 != n) = false := by simpa using hkn
          have HK := hide' hkn
          clear hkn
          go_wp2_with fail
          go_quiet (fail)
          go_wp2
          exact ⟨⟨k + 1, nn + nq, by omega, by go_num, rfl⟩, by simp [intOf]; omega⟩
        · have e9 : ((k : Int) - 1 != n) = true := by simpa using hkn
          have hsm := Hsame.out ((k : Int) - 1) hkn
          rw [hsm] at c2
          generalize hasB (inL R ns) ((k : Int) - 1) = bb at *
          have e10 : (bb != bb) = false := by simp
          clear hkn
          go_wp2_with fail
          go_quiet (fail)
          go_wp2
          exact ⟨⟨k + 1, nn + nq, by omega, by go_num, rfl⟩, by simp [intOf]; omega⟩
      · have hkr : k = R + 2 := by omega
        subst hkr
        have hlt' : ¬ ((R + 2 : Nat) : Int) < (R : Int) + 2 := by omega
        have hB8 := hB7.drewN nn
        have b8 := below_drewN b7 nn
        have hT8 : Tolds t2 rc2 (R + 2) _ (w7.drewN nn) := ⟨hT72.lt, hT72.at'⟩
        generalize w7.drewN nn = w8 at *
        clear hlt
        go_wp2_with fail
        refine (Hc.out x g _ hB8).mono ?_
        rintro e w9 ⟨rfl, hw9⟩
        subst hw9
        go_wp2_with fail
        refine (Hu.out _ _ _ hT8).mono ?_
        rintro e w9 ⟨rfl, hw9⟩
        subst hw9
        go_wp2
        go_ret
        exact ⟨rfl, b8⟩
  · have k5 : decide (0 ≤ room) = true := by simp; omega
    have k6 : decide (room ≤ 65536) = false := by simp; omega
    clear r1 r2
    go_enter Try.func5, Try.ntmps5
    go_wp2_with fail
    refine (Hf.out _).mono ?_
    rintro e w1 ⟨rfl, b1⟩
    go_wp2_with fail
    refine (Hm.out _ (hI.below (Nat.le_refl _) b1)).mono ?_
    rintro e w2 ⟨x, rfl, g, hB2, b2', hx, hg⟩
    have b2 := b1.trans (b2'.mono b1.size)
    have hx' : w.heap.size ≤ x := Nat.le_trans b1.size hx
    have hg' : w.heap.size ≤ g := Nat.le_trans b1.size hg
    clear hx hg b1 b2' hI
    go_wp2_with (go_at_call 24; refine (Hr.out x g _ hB2).mono ?_; rintro e w3 ⟨rfl, hw3⟩; replace hw3 := hw3.symm; subst hw3)
    refine (Ht.out x g _ hB2).mono ?_
    rintro e w3 ⟨t1, rc1, rfl, hT1, ht1, b3'⟩
    have hB3 := hB2.below b3'
    have b3 := b2.trans (b3'.mono b2.size)
    go_wp2_with fail
    refine (Hh.out x g _ hB3).mono ?_
    rintro e w4 ⟨rfl, n4, hw4⟩
    have hB4 := hB3.drewN n4
    have b4 := below_drewN b3 n4
    have hT4 : Tolds t1 rc1 (R + 2) (fun j => hasB (inL R ns) ((j : Int) - 1)) w4 := by rw [hw4]; exact ⟨hT1.lt, hT1.at'⟩
    have hne : t1 ≠ g := by have := hB2.ltg; omega
    rw [← hw4] at hB4 b4
    clear hw4 hB3 b3 hT1 hB2 b2 b3'
    go_wp2_with fail
    refine (Hd.out x g _ hB4).mono ?_
    rintro e w5 ⟨rfl, hB5, t5⟩
    have b5 : Below w.heap.size w w5 := b4.trans (t5.below (fun j hj => by rw [hj]; exact hg') b4.size)
    have hT5 : Tolds t1 rc1 (R + 2) (fun j => hasB (inL R ns) ((j : Int) - 1)) w5 := ⟨Nat.lt_of_lt_of_le hT4.lt t5.size, fun j hj => (t5.cell (p := ⟨t1, j, none⟩) hT4.lt hne).trans (hT4.at' j hj)⟩
    clear hT4 hB4 b4 t5 ht1
    go_wp2_with (first | (go_at_call 24; refine (Hr2.out x g _ hB5).mono ?_; rintro e w6 ⟨rfl, hw6⟩; replace hw6 := hw6.symm; subst hw6))
    refine (Hh2.out x g _ hB5).mono ?_
    rintro e w6 ⟨rfl, n6, hw6⟩
    have hB6 := hB5.drewN n6
    have b6 := below_drewN b5 n6
    have hT6 : Tolds t1 rc1 (R + 2) (fun j => hasB (inL R ns) ((j : Int) - 1)) w6 := by rw [hw6]; exact ⟨hT5.lt, hT5.at'⟩
    rw [← hw6] at hB6 b6
    clear hw6 hB5 b5 hT5
    go_wp2_with fail
    refine (Ht2.out x g _ hB6).mono ?_
    rintro e w7 ⟨t2, rc2, rfl, hT72, ht2, b7'⟩
    have hT71 := hT6.below b7'
    have hB7 := hB6.below b7'
    have b7 := b6.trans (b7'.mono b6.size)
    clear hB6 b6 hT6 b7' ht2
    go_wp2_with fail
    go_loopw [16] (fun i wx => ∃ (k nn : Nat), k ≤ R + 2 ∧ i = .int .i64 (k : Int) ∧ wx = w7.drewN nn) (fun i _ => R + 2 - (intOf i).toNat)
    case atStart => exact ⟨0, 0, by omega, rfl, rfl⟩
    case round =>
      obtain ⟨k, nn, hk, rfl, rfl⟩ := hrel
      by_cases hlt : k < R + 2
      · have c1 := hT71.at' k hlt
        have c2 := hT72.at' k hlt
        have hlt' : (k : Int) < (R : Int) + 2 := by omega
        try simp only at c1 c2
        by_cases hkn : (k : Int) - 1 = n
        · have e9 : ((k : Int) - 1 != n) = false := by simpa using hkn
          have HK := hide' hkn
          clear hkn
          go_wp2_with fail
          go_quiet (fail)
          go_wp2
          exact ⟨⟨k + 1, nn + nq, by omega, by go_num, rfl⟩, by simp [intOf]; omega⟩
        · have e9 : ((k : Int) - 1 != n) = true := by simpa using hkn
          have hsm := Hsame.out ((k : Int) - 1) hkn
          rw [hsm] at c2
          generalize hasB (inL R ns) ((k : Int) - 1) = bb at *
          have e10 : (bb != bb) = false := by simp
          clear hkn
          go_wp2_with fail
          go_quiet (fail)
          go_wp2
          exact ⟨⟨k + 1, nn + nq, by omega, by go_num, rfl⟩, by simp [intOf]; omega⟩
      · have hkr : k = R + 2 := by omega
        subst hkr
        have hlt' : ¬ ((R + 2 : Nat) : Int) < (R : Int) + 2 := by omega
        have hB8 := hB7.drewN nn
        have b8 := below_drewN b7 nn
        have hT8 : Tolds t2 rc2 (R + 2) _ (w7.drewN nn) := ⟨hT72.lt, hT72.at'⟩
        generalize w7.drewN nn = w8 at *
        clear hlt
        go_wp2_with fail
        refine (Hc.out x g _ hB8).mono ?_
        rintro e w9 ⟨rfl, hw9⟩
        subst hw9
        go_wp2_with fail
        refine (Hu.out _ _ _ hT8).mono ?_
        rintro e w9 ⟨rfl, hw9⟩
        subst hw9
        go_wp2
        go_ret
        exact ⟨rfl, b8⟩
  · have k5 : decide (0 ≤ room) = true := by simp; omega
    have k6 : decide (room ≤ 65536) = true := by simp; omega
    have k7 : ((R : Int) != room) = false := by simp; omega
    clear r1 r2 r3
    go_enter Try.func5, Try.ntmps5
    go_wp2_with fail
    refine (Hf.out _).mono ?_
    rintro e w1 ⟨rfl, b1⟩
    go_wp2_with fail
    refine (Hm.out _ (hI.below (Nat.le_refl _) b1)).mono ?_
    rintro e w2 ⟨x, rfl, g, hB2, b2', hx, hg⟩
    have b2 := b1.trans (b2'.mono b1.size)
    have hx' : w.heap.size ≤ x := Nat.le_trans b1.size hx
    have hg' : w.heap.size ≤ g := Nat.le_trans b1.size hg
    clear hx hg b1 b2' hI
    go_wp2_with (go_at_call 24; refine (Hr.out x g _ hB2).mono ?_; rintro e w3 ⟨rfl, hw3⟩; replace hw3 := hw3.symm; subst hw3)
    refine (Ht.out x g _ hB2).mono ?_
    rintro e w3 ⟨t1, rc1, rfl, hT1, ht1, b3'⟩
    have hB3 := hB2.below b3'
    have b3 := b2.trans (b3'.mono b2.size)
    go_wp2_with fail
    refine (Hh.out x g _ hB3).mono ?_
    rintro e w4 ⟨rfl, n4, hw4⟩
    have hB4 := hB3.drewN n4
    have b4 := below_drewN b3 n4
    have hT4 : Tolds t1 rc1 (R + 2) (fun j => hasB (inL R ns) ((j : Int) - 1)) w4 := by rw [hw4]; exact ⟨hT1.lt, hT1.at'⟩
    have hne : t1 ≠ g := by have := hB2.ltg; omega
    rw [← hw4] at hB4 b4
    clear hw4 hB3 b3 hT1 hB2 b2 b3'
    go_wp2_with fail
    refine (Hd.out x g _ hB4).mono ?_
    rintro e w5 ⟨rfl, hB5, t5⟩
    have b5 : Below w.heap.size w w5 := b4.trans (t5.below (fun j hj => by rw [hj]; exact hg') b4.size)
    have hT5 : Tolds t1 rc1 (R + 2) (fun j => hasB (inL R ns) ((j : Int) - 1)) w5 := ⟨Nat.lt_of_lt_of_le hT4.lt t5.size, fun j hj => (t5.cell (p := ⟨t1, j, none⟩) hT4.lt hne).trans (hT4.at' j hj)⟩
    clear hT4 hB4 b4 t5 ht1
    go_wp2_with (first | (go_at_call 24; refine (Hr2.out x g _ hB5).mono ?_; rintro e w6 ⟨rfl, hw6⟩; replace hw6 := hw6.symm; subst hw6))
    refine (Hh2.out x g _ hB5).mono ?_
    rintro e w6 ⟨rfl, n6, hw6⟩
    have hB6 := hB5.drewN n6
    have b6 := below_drewN b5 n6
    have hT6 : Tolds t1 rc1 (R + 2) (fun j => hasB (inL R ns) ((j : Int) - 1)) w6 := by rw [hw6]; exact ⟨hT5.lt, hT5.at'⟩
    rw [← hw6] at hB6 b6
    clear hw6 hB5 b5 hT5
    go_wp2_with fail
    refine (Ht2.out x g _ hB6).mono ?_
    rintro e w7 ⟨t2, rc2, rfl, hT72, ht2, b7'⟩
    have hT71 := hT6.below b7'
    have hB7 := hB6.below b7'
    have b7 := b6.trans (b7'.mono b6.size)
    clear hB6 b6 hT6 b7' ht2
    go_wp2_with fail
    go_loopw [16] (fun i wx => ∃ (k nn : Nat), k ≤ R + 2 ∧ i = .int .i64 (k : Int) ∧ wx = w7.drewN nn) (fun i _ => R + 2 - (intOf i).toNat)
    case atStart => exact ⟨0, 0, by omega, rfl, rfl⟩
    case round =>
      obtain ⟨k, nn, hk, rfl, rfl⟩ := hrel
      by_cases hlt : k < R + 2
      · have c1 := hT71.at' k hlt
        have c2 := hT72.at' k hlt
        have hlt' : (k : Int) < (R : Int) + 2 := by omega
        try simp only at c1 c2
        by_cases hkn : (k : Int) - 1 = n
        · have e9 : ((k : Int) - 1 != n) = false := by simpa using hkn
          have HK := hide' hkn
          clear hkn
          go_wp2_with fail
          go_quiet (fail)
          go_wp2
          exact ⟨⟨k + 1, nn + nq, by omega, by go_num, rfl⟩, by simp [intOf]; omega⟩
        · have e9 : ((k : Int) - 1 != n) = true := by simpa using hkn
          have hsm := Hsame.out ((k : Int) - 1) hkn
          rw [hsm] at c2
          generalize hasB (inL R ns) ((k : Int) - 1) = bb at *
          have e10 : (bb != bb) = false := by simp
          clear hkn
          go_wp2_with fail
          go_quiet (fail)
          go_wp2
          exact ⟨⟨k + 1, nn + nq, by omega, by go_num, rfl⟩, by simp [intOf]; omega⟩
      · have hkr : k = R + 2 := by omega
        subst hkr
        have hlt' : ¬ ((R + 2 : Nat) : Int) < (R : Int) + 2 := by omega
        have hB8 := hB7.drewN nn
        have b8 := below_drewN b7 nn
        have hT8 : Tolds t2 rc2 (R + 2) _ (w7.drewN nn) := ⟨hT72.lt, hT72.at'⟩
        generalize w7.drewN nn = w8 at *
        clear hlt
        go_wp2_with fail
        refine (Hc.out x g _ hB8).mono ?_
        rintro e w9 ⟨rfl, hw9⟩
        subst hw9
        go_wp2_with fail
        refine (Hu.out _ _ _ hT8).mono ?_
        rintro e w9 ⟨rfl, hw9⟩
        subst hw9
        go_wp2
        go_ret
        exact ⟨rfl, b8⟩
set_option maxHeartbeats 4000000 in
set_option maxRecDepth 100000 in
theorem one_a_in_t (room : Int) (a : Option Addr) (len cap : Nat) (ns : List Int) (n : Int) (w : World) (hI : IsInts w a len cap ns) (hn : 0 ≤ n ∧ n < (roomOf room : Int)) (hT : hasB (inL (roomOf room) ns) n = true) (hout : ∀ k, roomOf room ≤ k → inL (roomOf room) ns k = false) :
    Calls Try.prog 5 #[.int .i64 room, .slice a len cap, .int .i64 n, .bool false] w fun e w' => e = .returned (.bool true) ∧ Below w.heap.size w w' := by
  have Hf := hide' (fun w => fixed_any w)
  have Hm := hide' (fun w h => made_any room a len cap ns w h)
  have hR := roomOf_le room
  have hro : (room < 0 ∧ roomOf room = 0) ∨ (65536 < room ∧ roomOf room = 65536) ∨ (0 ≤ room ∧ room ≤ 65536 ∧ (roomOf room : Int) = room) := by unfold roomOf; omega
  generalize roomOf room = R at *
  have Hr := hide' (fun x g w h => room_any x g R (inL R ns) w h)
  have Ht := hide' (fun x g w h => told_any x g R (inL R ns) w h)
  have Hh := hide' (fun x g w h => has_any x g R (inL R ns) n w h)
  rw [hT] at Hh
  have Hd := hide' (fun x g w h => add_gen x g R (inL R ns) n w h)
  have hfb : fitB R n = true := by simp only [fitB]; simp; omega
  rw [hT, hfb] at Hd
  simp only [Bool.not_true, Bool.not_false, Bool.and_true, Bool.and_false, Bool.false_and, Bool.true_and] at Hd
  have Hsame : Hid (∀ i, ¬ i = n → hasB (addP R (inL R ns) n) i = hasB (inL R ns) i) := fun i hi => by rw [hasB_add]; simp [hi]
  have hh2 : hasB (addP R (inL R ns) n) n = true := by rw [hasB_add, hfb, hT]; simp
  have hout2 : (addP R (inL R ns) n) R = false := by simp [addP, hout R (Nat.le_refl _)]
  have Hr2 := hide' (fun x g w h => room_any x g R (addP R (inL R ns) n) w h)
  have Hh2 := hide' (fun x g w h => has_any x g R (addP R (inL R ns) n) n w h)
  rw [hh2] at Hh2
  have Ht2 := hide' (fun x g w h => told_any x g R (addP R (inL R ns) n) w h)
  have Hc := hide' (fun x g w h => count_any x g R (addP R (inL R ns) n) w h)
  have Hu := hide' (fun t rc w h => trues_any t rc (R + 2) (fun j => hasB (addP R (inL R ns) n) ((j : Int) - 1)) w h (by omega))
  rw [cnt_told _ _ hout2] at Hu
  generalize B.cnt (addP R (inL R ns) n) R 0 = C at *
  generalize addP R (inL R ns) n = P2 at *
  have k1 : decide ((R : Int) < 0) = false := by simp
  have k2 : decide (65536 < (R : Int)) = false := by simp; omega
  have k3 : decide (0 ≤ n) = true := by simp; omega
  have k4 : decide (n < (R : Int)) = true := by simp; omega
  clear hout hT hfb hn hh2 hout2
  rcases hro with ⟨r1, r2⟩ | ⟨r1, r2⟩ | ⟨r1, r2, r3⟩
  · have k5 : decide (0 ≤ room) = false := by simp; omega
    clear r1 r2
    go_enter Try.func5, Try.ntmps5
    go_wp2_with fail
    refine (Hf.out _).mono ?_
    rintro e w1 ⟨rfl, b1⟩
    go_wp2_with fail
    refine (Hm.out _ (hI.below (Nat.le_refl _) b1)).mono ?_
    rintro e w2 ⟨x, rfl, g, hB2, b2', hx, hg⟩
    have b2 := b1.trans (b2'.mono b1.size)
    have hx' : w.heap.size ≤ x := Nat.le_trans b1.size hx
    have hg' : w.heap.size ≤ g := Nat.le_trans b1.size hg
    clear hx hg b1 b2' hI
    go_wp2_with (go_at_call 24; refine (Hr.out x g _ hB2).mono ?_; rintro e w3 ⟨rfl, hw3⟩; replace hw3 := hw3.symm; subst hw3)
    refine (Ht.out x g _ hB2).mono ?_
    rintro e w3 ⟨t1, rc1, rfl, hT1, ht1, b3'⟩
    have hB3 := hB2.below b3'
    have b3 := b2.trans (b3'.mono b2.size)
    go_wp2_with fail
    refine (Hh.out x g _ hB3).mono ?_
    rintro e w4 ⟨rfl, n4, hw4⟩
    have hB4 := hB3.drewN n4
    have b4 := below_drewN b3 n4
    have hT4 : Tolds t1 rc1 (R + 2) (fun j => hasB (inL R ns) ((j : Int) - 1)) w4 := by rw [hw4]; exact ⟨hT1.lt, hT1.at'⟩
    have hne : t1 ≠ g := by have := hB2.ltg; omega
    rw [← hw4] at hB4 b4
    clear hw4 hB3 b3 hT1 hB2 b2 b3'
    go_wp2_with fail
    refine (Hd.out x g _ hB4).mono ?_
    rintro e w5 ⟨rfl, hB5, t5⟩
    have b5 : Below w.heap.size w w5 := b4.trans (t5.below (fun j hj => by rw [hj]; exact hg') b4.size)
    have hT5 : Tolds t1 rc1 (R + 2) (fun j => hasB (inL R ns) ((j : Int) - 1)) w5 := ⟨Nat.lt_of_lt_of_le hT4.lt t5.size, fun j hj => (t5.cell (p := ⟨t1, j, none⟩) hT4.lt hne).trans (hT4.at' j hj)⟩
    clear hT4 hB4 b4 t5 ht1
    go_wp2_with (first | (go_at_call 24; refine (Hr2.out x g _ hB5).mono ?_; rintro e w6 ⟨rfl, hw6⟩; replace hw6 := hw6.symm; subst hw6))
    refine (Hh2.out x g _ hB5).mono ?_
    rintro e w6 ⟨rfl, n6, hw6⟩
    have hB6 := hB5.drewN n6
    have b6 := below_drewN b5 n6
    have hT6 : Tolds t1 rc1 (R + 2) (fun j => hasB (inL R ns) ((j : Int) - 1)) w6 := by rw [hw6]; exact ⟨hT5.lt, hT5.at'⟩
    rw [← hw6] at hB6 b6
    clear hw6 hB5 b5 hT5
    go_wp2_with fail
    refine (Ht2.out x g _ hB6).mono ?_
    rintro e w7 ⟨t2, rc2, rfl, hT72, ht2, b7'⟩
    have hT71 := hT6.below b7'
    have hB7 := hB6.below b7'
    have b7 := b6.trans (b7'.mono b6.size)
    clear hB6 b6 hT6 b7' ht2
    go_wp2_with fail
    go_loopw [16] (fun i wx => ∃ (k nn : Nat), k ≤ R + 2 ∧ i = .int .i64 (k : Int) ∧ wx = w7.drewN nn) (fun i _ => R + 2 - (intOf i).toNat)
    case atStart => exact ⟨0, 0, by omega, rfl, rfl⟩
    case round =>
      obtain ⟨k, nn, hk, rfl, rfl⟩ := hrel
      by_cases hlt : k < R + 2
      · have c1 := hT71.at' k hlt
        have c2 := hT72.at' k hlt
        have hlt' : (k : Int) < (R : Int) + 2 := by omega
        try simp only at c1 c2
        by_cases hkn : (k : Int) - 1 = n
        · have e9 : ((k : Int) - 1 != n) = false := by simpa using hkn
          have HK := hide' hkn
          clear hkn
          go_wp2_with fail
          go_quiet (fail)
          go_wp2
          exact ⟨⟨k + 1, nn + nq, by omega, by go_num, rfl⟩, by simp [intOf]; omega⟩
        · have e9 : ((k : Int) - 1 != n) = true := by simpa using hkn
          have hsm := Hsame.out ((k : Int) - 1) hkn
          rw [hsm] at c2
          generalize hasB (inL R ns) ((k : Int) - 1) = bb at *
          have e10 : (bb != bb) = false := by simp
          clear hkn
          go_wp2_with fail
          go_quiet (fail)
          go_wp2
          exact ⟨⟨k + 1, nn + nq, by omega, by go_num, rfl⟩, by simp [intOf]; omega⟩
      · have hkr : k = R + 2 := by omega
        subst hkr
        have hlt' : ¬ ((R + 2 : Nat) : Int) < (R : Int) + 2 := by omega
        have hB8 := hB7.drewN nn
        have b8 := below_drewN b7 nn
        have hT8 : Tolds t2 rc2 (R + 2) _ (w7.drewN nn) := ⟨hT72.lt, hT72.at'⟩
        generalize w7.drewN nn = w8 at *
        clear hlt
        go_wp2_with fail
        refine (Hc.out x g _ hB8).mono ?_
        rintro e w9 ⟨rfl, hw9⟩
        subst hw9
        go_wp2_with fail
        refine (Hu.out _ _ _ hT8).mono ?_
        rintro e w9 ⟨rfl, hw9⟩
        subst hw9
        go_wp2
        go_ret
        exact ⟨rfl, b8⟩
  · have k5 : decide (0 ≤ room) = true := by simp; omega
    have k6 : decide (room ≤ 65536) = false := by simp; omega
    clear r1 r2
    go_enter Try.func5, Try.ntmps5
    go_wp2_with fail
    refine (Hf.out _).mono ?_
    rintro e w1 ⟨rfl, b1⟩
    go_wp2_with fail
    refine (Hm.out _ (hI.below (Nat.le_refl _) b1)).mono ?_
    rintro e w2 ⟨x, rfl, g, hB2, b2', hx, hg⟩
    have b2 := b1.trans (b2'.mono b1.size)
    have hx' : w.heap.size ≤ x := Nat.le_trans b1.size hx
    have hg' : w.heap.size ≤ g := Nat.le_trans b1.size hg
    clear hx hg b1 b2' hI
    go_wp2_with (go_at_call 24; refine (Hr.out x g _ hB2).mono ?_; rintro e w3 ⟨rfl, hw3⟩; replace hw3 := hw3.symm; subst hw3)
    refine (Ht.out x g _ hB2).mono ?_
    rintro e w3 ⟨t1, rc1, rfl, hT1, ht1, b3'⟩
    have hB3 := hB2.below b3'
    have b3 := b2.trans (b3'.mono b2.size)
    go_wp2_with fail
    refine (Hh.out x g _ hB3).mono ?_
    rintro e w4 ⟨rfl, n4, hw4⟩
    have hB4 := hB3.drewN n4
    have b4 := below_drewN b3 n4
    have hT4 : Tolds t1 rc1 (R + 2) (fun j => hasB (inL R ns) ((j : Int) - 1)) w4 := by rw [hw4]; exact ⟨hT1.lt, hT1.at'⟩
    have hne : t1 ≠ g := by have := hB2.ltg; omega
    rw [← hw4] at hB4 b4
    clear hw4 hB3 b3 hT1 hB2 b2 b3'
    go_wp2_with fail
    refine (Hd.out x g _ hB4).mono ?_
    rintro e w5 ⟨rfl, hB5, t5⟩
    have b5 : Below w.heap.size w w5 := b4.trans (t5.below (fun j hj => by rw [hj]; exact hg') b4.size)
    have hT5 : Tolds t1 rc1 (R + 2) (fun j => hasB (inL R ns) ((j : Int) - 1)) w5 := ⟨Nat.lt_of_lt_of_le hT4.lt t5.size, fun j hj => (t5.cell (p := ⟨t1, j, none⟩) hT4.lt hne).trans (hT4.at' j hj)⟩
    clear hT4 hB4 b4 t5 ht1
    go_wp2_with (first | (go_at_call 24; refine (Hr2.out x g _ hB5).mono ?_; rintro e w6 ⟨rfl, hw6⟩; replace hw6 := hw6.symm; subst hw6))
    refine (Hh2.out x g _ hB5).mono ?_
    rintro e w6 ⟨rfl, n6, hw6⟩
    have hB6 := hB5.drewN n6
    have b6 := below_drewN b5 n6
    have hT6 : Tolds t1 rc1 (R + 2) (fun j => hasB (inL R ns) ((j : Int) - 1)) w6 := by rw [hw6]; exact ⟨hT5.lt, hT5.at'⟩
    rw [← hw6] at hB6 b6
    clear hw6 hB5 b5 hT5
    go_wp2_with fail
    refine (Ht2.out x g _ hB6).mono ?_
    rintro e w7 ⟨t2, rc2, rfl, hT72, ht2, b7'⟩
    have hT71 := hT6.below b7'
    have hB7 := hB6.below b7'
    have b7 := b6.trans (b7'.mono b6.size)
    clear hB6 b6 hT6 b7' ht2
    go_wp2_with fail
    go_loopw [16] (fun i wx => ∃ (k nn : Nat), k ≤ R + 2 ∧ i = .int .i64 (k : Int) ∧ wx = w7.drewN nn) (fun i _ => R + 2 - (intOf i).toNat)
    case atStart => exact ⟨0, 0, by omega, rfl, rfl⟩
    case round =>
      obtain ⟨k, nn, hk, rfl, rfl⟩ := hrel
      by_cases hlt : k < R + 2
      · have c1 := hT71.at' k hlt
        have c2 := hT72.at' k hlt
        have hlt' : (k : Int) < (R : Int) + 2 := by omega
        try simp only at c1 c2
        by_cases hkn : (k : Int) - 1 = n
        · have e9 : ((k : Int) - 1 != n) = false := by simpa using hkn
          have HK := hide' hkn
          clear hkn
          go_wp2_with fail
          go_quiet (fail)
          go_wp2
          exact ⟨⟨k + 1, nn + nq, by omega, by go_num, rfl⟩, by simp [intOf]; omega⟩
        · have e9 : ((k : Int) - 1 != n) = true := by simpa using hkn
          have hsm := Hsame.out ((k : Int) - 1) hkn
          rw [hsm] at c2
          generalize hasB (inL R ns) ((k : Int) - 1) = bb at *
          have e10 : (bb != bb) = false := by simp
          clear hkn
          go_wp2_with fail
          go_quiet (fail)
          go_wp2
          exact ⟨⟨k + 1, nn + nq, by omega, by go_num, rfl⟩, by simp [intOf]; omega⟩
      · have hkr : k = R + 2 := by omega
        subst hkr
        have hlt' : ¬ ((R + 2 : Nat) : Int) < (R : Int) + 2 := by omega
        have hB8 := hB7.drewN nn
        have b8 := below_drewN b7 nn
        have hT8 : Tolds t2 rc2 (R + 2) _ (w7.drewN nn) := ⟨hT72.lt, hT72.at'⟩
        generalize w7.drewN nn = w8 at *
        clear hlt
        go_wp2_with fail
        refine (Hc.out x g _ hB8).mono ?_
        rintro e w9 ⟨rfl, hw9⟩
        subst hw9
        go_wp2_with fail
        refine (Hu.out _ _ _ hT8).mono ?_
        rintro e w9 ⟨rfl, hw9⟩
        subst hw9
        go_wp2
        go_ret
        exact ⟨rfl, b8⟩
  · have k5 : decide (0 ≤ room) = true := by simp; omega
    have k6 : decide (room ≤ 65536) = true := by simp; omega
    have k7 : ((R : Int) != room) = false := by simp; omega
    clear r1 r2 r3
    go_enter Try.func5, Try.ntmps5
    go_wp2_with fail
    refine (Hf.out _).mono ?_
    rintro e w1 ⟨rfl, b1⟩
    go_wp2_with fail
    refine (Hm.out _ (hI.below (Nat.le_refl _) b1)).mono ?_
    rintro e w2 ⟨x, rfl, g, hB2, b2', hx, hg⟩
    have b2 := b1.trans (b2'.mono b1.size)
    have hx' : w.heap.size ≤ x := Nat.le_trans b1.size hx
    have hg' : w.heap.size ≤ g := Nat.le_trans b1.size hg
    clear hx hg b1 b2' hI
    go_wp2_with (go_at_call 24; refine (Hr.out x g _ hB2).mono ?_; rintro e w3 ⟨rfl, hw3⟩; replace hw3 := hw3.symm; subst hw3)
    refine (Ht.out x g _ hB2).mono ?_
    rintro e w3 ⟨t1, rc1, rfl, hT1, ht1, b3'⟩
    have hB3 := hB2.below b3'
    have b3 := b2.trans (b3'.mono b2.size)
    go_wp2_with fail
    refine (Hh.out x g _ hB3).mono ?_
    rintro e w4 ⟨rfl, n4, hw4⟩
    have hB4 := hB3.drewN n4
    have b4 := below_drewN b3 n4
    have hT4 : Tolds t1 rc1 (R + 2) (fun j => hasB (inL R ns) ((j : Int) - 1)) w4 := by rw [hw4]; exact ⟨hT1.lt, hT1.at'⟩
    have hne : t1 ≠ g := by have := hB2.ltg; omega
    rw [← hw4] at hB4 b4
    clear hw4 hB3 b3 hT1 hB2 b2 b3'
    go_wp2_with fail
    refine (Hd.out x g _ hB4).mono ?_
    rintro e w5 ⟨rfl, hB5, t5⟩
    have b5 : Below w.heap.size w w5 := b4.trans (t5.below (fun j hj => by rw [hj]; exact hg') b4.size)
    have hT5 : Tolds t1 rc1 (R + 2) (fun j => hasB (inL R ns) ((j : Int) - 1)) w5 := ⟨Nat.lt_of_lt_of_le hT4.lt t5.size, fun j hj => (t5.cell (p := ⟨t1, j, none⟩) hT4.lt hne).trans (hT4.at' j hj)⟩
    clear hT4 hB4 b4 t5 ht1
    go_wp2_with (first | (go_at_call 24; refine (Hr2.out x g _ hB5).mono ?_; rintro e w6 ⟨rfl, hw6⟩; replace hw6 := hw6.symm; subst hw6))
    refine (Hh2.out x g _ hB5).mono ?_
    rintro e w6 ⟨rfl, n6, hw6⟩
    have hB6 := hB5.drewN n6
    have b6 := below_drewN b5 n6
    have hT6 : Tolds t1 rc1 (R + 2) (fun j => hasB (inL R ns) ((j : Int) - 1)) w6 := by rw [hw6]; exact ⟨hT5.lt, hT5.at'⟩
    rw [← hw6] at hB6 b6
    clear hw6 hB5 b5 hT5
    go_wp2_with fail
    refine (Ht2.out x g _ hB6).mono ?_
    rintro e w7 ⟨t2, rc2, rfl, hT72, ht2, b7'⟩
    have hT71 := hT6.below b7'
    have hB7 := hB6.below b7'
    have b7 := b6.trans (b7'.mono b6.size)
    clear hB6 b6 hT6 b7' ht2
    go_wp2_with fail
    go_loopw [16] (fun i wx => ∃ (k nn : Nat), k ≤ R + 2 ∧ i = .int .i64 (k : Int) ∧ wx = w7.drewN nn) (fun i _ => R + 2 - (intOf i).toNat)
    case atStart => exact ⟨0, 0, by omega, rfl, rfl⟩
    case round =>
      obtain ⟨k, nn, hk, rfl, rfl⟩ := hrel
      by_cases hlt : k < R + 2
      · have c1 := hT71.at' k hlt
        have c2 := hT72.at' k hlt
        have hlt' : (k : Int) < (R : Int) + 2 := by omega
        try simp only at c1 c2
        by_cases hkn : (k : Int) - 1 = n
        · have e9 : ((k : Int) - 1 != n) = false := by simpa using hkn
          have HK := hide' hkn
          clear hkn
          go_wp2_with fail
          go_quiet (fail)
          go_wp2
          exact ⟨⟨k + 1, nn + nq, by omega, by go_num, rfl⟩, by simp [intOf]; omega⟩
        · have e9 : ((k : Int) - 1 != n) = true := by simpa using hkn
          have hsm := Hsame.out ((k : Int) - 1) hkn
          rw [hsm] at c2
          generalize hasB (inL R ns) ((k : Int) - 1) = bb at *
          have e10 : (bb != bb) = false := by simp
          clear hkn
          go_wp2_with fail
          go_quiet (fail)
          go_wp2
          exact ⟨⟨k + 1, nn + nq, by omega, by go_num, rfl⟩, by simp [intOf]; omega⟩
      · have hkr : k = R + 2 := by omega
        subst hkr
        have hlt' : ¬ ((R + 2 : Nat) : Int) < (R : Int) + 2 := by omega
        have hB8 := hB7.drewN nn
        have b8 := below_drewN b7 nn
        have hT8 : Tolds t2 rc2 (R + 2) _ (w7.drewN nn) := ⟨hT72.lt, hT72.at'⟩
        generalize w7.drewN nn = w8 at *
        clear hlt
        go_wp2_with fail
        refine (Hc.out x g _ hB8).mono ?_
        rintro e w9 ⟨rfl, hw9⟩
        subst hw9
        go_wp2_with fail
        refine (Hu.out _ _ _ hT8).mono ?_
        rintro e w9 ⟨rfl, hw9⟩
        subst hw9
        go_wp2
        go_ret
        exact ⟨rfl, b8⟩
set_option maxHeartbeats 4000000 in
set_option maxRecDepth 100000 in
theorem one_a_in_f (room : Int) (a : Option Addr) (len cap : Nat) (ns : List Int) (n : Int) (w : World) (hI : IsInts w a len cap ns) (hn : 0 ≤ n ∧ n < (roomOf room : Int)) (hT : hasB (inL (roomOf room) ns) n = false) (hout : ∀ k, roomOf room ≤ k → inL (roomOf room) ns k = false) :
    Calls Try.prog 5 #[.int .i64 room, .slice a len cap, .int .i64 n, .bool false] w fun e w' => e = .returned (.bool true) ∧ Below w.heap.size w w' := by
  have Hf := hide' (fun w => fixed_any w)
  have Hm := hide' (fun w h => made_any room a len cap ns w h)
  have hR := roomOf_le room
  have hro : (room < 0 ∧ roomOf room = 0) ∨ (65536 < room ∧ roomOf room = 65536) ∨ (0 ≤ room ∧ room ≤ 65536 ∧ (roomOf room : Int) = room) := by unfold roomOf; omega
  generalize roomOf room = R at *
  have Hr := hide' (fun x g w h => room_any x g R (inL R ns) w h)
  have Ht := hide' (fun x g w h => told_any x g R (inL R ns) w h)
  have Hh := hide' (fun x g w h => has_any x g R (inL R ns) n w h)
  rw [hT] at Hh
  have Hd := hide' (fun x g w h => add_gen x g R (inL R ns) n w h)
  have hfb : fitB R n = true := by simp only [fitB]; simp; omega
  rw [hT, hfb] at Hd
  simp only [Bool.not_true, Bool.not_false, Bool.and_true, Bool.and_false, Bool.false_and, Bool.true_and] at Hd
  have Hsame : Hid (∀ i, ¬ i = n → hasB (addP R (inL R ns) n) i = hasB (inL R ns) i) := fun i hi => by rw [hasB_add]; simp [hi]
  have hh2 : hasB (addP R (inL R ns) n) n = true := by rw [hasB_add, hfb, hT]; simp
  have hout2 : (addP R (inL R ns) n) R = false := by simp [addP, hout R (Nat.le_refl _)]
  have Hr2 := hide' (fun x g w h => room_any x g R (addP R (inL R ns) n) w h)
  have Hh2 := hide' (fun x g w h => has_any x g R (addP R (inL R ns) n) n w h)
  rw [hh2] at Hh2
  have Ht2 := hide' (fun x g w h => told_any x g R (addP R (inL R ns) n) w h)
  have Hc := hide' (fun x g w h => count_any x g R (addP R (inL R ns) n) w h)
  have Hu := hide' (fun t rc w h => trues_any t rc (R + 2) (fun j => hasB (addP R (inL R ns) n) ((j : Int) - 1)) w h (by omega))
  rw [cnt_told _ _ hout2] at Hu
  generalize B.cnt (addP R (inL R ns) n) R 0 = C at *
  generalize addP R (inL R ns) n = P2 at *
  have k1 : decide ((R : Int) < 0) = false := by simp
  have k2 : decide (65536 < (R : Int)) = false := by simp; omega
  have k3 : decide (0 ≤ n) = true := by simp; omega
  have k4 : decide (n < (R : Int)) = true := by simp; omega
  clear hout hT hfb hn hh2 hout2
  rcases hro with ⟨r1, r2⟩ | ⟨r1, r2⟩ | ⟨r1, r2, r3⟩
  · have k5 : decide (0 ≤ room) = false := by simp; omega
    clear r1 r2
    go_enter Try.func5, Try.ntmps5
    go_wp2_with fail
    refine (Hf.out _).mono ?_
    rintro e w1 ⟨rfl, b1⟩
    go_wp2_with fail
    refine (Hm.out _ (hI.below (Nat.le_refl _) b1)).mono ?_
    rintro e w2 ⟨x, rfl, g, hB2, b2', hx, hg⟩
    have b2 := b1.trans (b2'.mono b1.size)
    have hx' : w.heap.size ≤ x := Nat.le_trans b1.size hx
    have hg' : w.heap.size ≤ g := Nat.le_trans b1.size hg
    clear hx hg b1 b2' hI
    go_wp2_with (go_at_call 24; refine (Hr.out x g _ hB2).mono ?_; rintro e w3 ⟨rfl, hw3⟩; replace hw3 := hw3.symm; subst hw3)
    refine (Ht.out x g _ hB2).mono ?_
    rintro e w3 ⟨t1, rc1, rfl, hT1, ht1, b3'⟩
    have hB3 := hB2.below b3'
    have b3 := b2.trans (b3'.mono b2.size)
    go_wp2_with fail
    refine (Hh.out x g _ hB3).mono ?_
    rintro e w4 ⟨rfl, n4, hw4⟩
    have hB4 := hB3.drewN n4
    have b4 := below_drewN b3 n4
    have hT4 : Tolds t1 rc1 (R + 2) (fun j => hasB (inL R ns) ((j : Int) - 1)) w4 := by rw [hw4]; exact ⟨hT1.lt, hT1.at'⟩
    have hne : t1 ≠ g := by have := hB2.ltg; omega
    rw [← hw4] at hB4 b4
    clear hw4 hB3 b3 hT1 hB2 b2 b3'
    go_wp2_with fail
    refine (Hd.out x g _ hB4).mono ?_
    rintro e w5 ⟨rfl, hB5, t5⟩
    have b5 : Below w.heap.size w w5 := b4.trans (t5.below (fun j hj => by rw [hj]; exact hg') b4.size)
    have hT5 : Tolds t1 rc1 (R + 2) (fun j => hasB (inL R ns) ((j : Int) - 1)) w5 := ⟨Nat.lt_of_lt_of_le hT4.lt t5.size, fun j hj => (t5.cell (p := ⟨t1, j, none⟩) hT4.lt hne).trans (hT4.at' j hj)⟩
    clear hT4 hB4 b4 t5 ht1
    go_wp2_with (first | (go_at_call 24; refine (Hr2.out x g _ hB5).mono ?_; rintro e w6 ⟨rfl, hw6⟩; replace hw6 := hw6.symm; subst hw6))
    refine (Hh2.out x g _ hB5).mono ?_
    rintro e w6 ⟨rfl, n6, hw6⟩
    have hB6 := hB5.drewN n6
    have b6 := below_drewN b5 n6
    have hT6 : Tolds t1 rc1 (R + 2) (fun j => hasB (inL R ns) ((j : Int) - 1)) w6 := by rw [hw6]; exact ⟨hT5.lt, hT5.at'⟩
    rw [← hw6] at hB6 b6
    clear hw6 hB5 b5 hT5
    go_wp2_with fail
    refine (Ht2.out x g _ hB6).mono ?_
    rintro e w7 ⟨t2, rc2, rfl, hT72, ht2, b7'⟩
    have hT71 := hT6.below b7'
    have hB7 := hB6.below b7'
    have b7 := b6.trans (b7'.mono b6.size)
    clear hB6 b6 hT6 b7' ht2
    go_wp2_with fail
    go_loopw [16] (fun i wx => ∃ (k nn : Nat), k ≤ R + 2 ∧ i = .int .i64 (k : Int) ∧ wx = w7.drewN nn) (fun i _ => R + 2 - (intOf i).toNat)
    case atStart => exact ⟨0, 0, by omega, rfl, rfl⟩
    case round =>
      obtain ⟨k, nn, hk, rfl, rfl⟩ := hrel
      by_cases hlt : k < R + 2
      · have c1 := hT71.at' k hlt
        have c2 := hT72.at' k hlt
        have hlt' : (k : Int) < (R : Int) + 2 := by omega
        try simp only at c1 c2
        by_cases hkn : (k : Int) - 1 = n
        · have e9 : ((k : Int) - 1 != n) = false := by simpa using hkn
          have HK := hide' hkn
          clear hkn
          go_wp2_with fail
          go_quiet (fail)
          go_wp2
          exact ⟨⟨k + 1, nn + nq, by omega, by go_num, rfl⟩, by simp [intOf]; omega⟩
        · have e9 : ((k : Int) - 1 != n) = true := by simpa using hkn
          have hsm := Hsame.out ((k : Int) - 1) hkn
          rw [hsm] at c2
          generalize hasB (inL R ns) ((k : Int) - 1) = bb at *
          have e10 : (bb != bb) = false := by simp
          clear hkn
          go_wp2_with fail
          go_quiet (fail)
          go_wp2
          exact ⟨⟨k + 1, nn + nq, by omega, by go_num, rfl⟩, by simp [intOf]; omega⟩
      · have hkr : k = R + 2 := by omega
        subst hkr
        have hlt' : ¬ ((R + 2 : Nat) : Int) < (R : Int) + 2 := by omega
        have hB8 := hB7.drewN nn
        have b8 := below_drewN b7 nn
        have hT8 : Tolds t2 rc2 (R + 2) _ (w7.drewN nn) := ⟨hT72.lt, hT72.at'⟩
        generalize w7.drewN nn = w8 at *
        clear hlt
        go_wp2_with fail
        refine (Hc.out x g _ hB8).mono ?_
        rintro e w9 ⟨rfl, hw9⟩
        subst hw9
        go_wp2_with fail
        refine (Hu.out _ _ _ hT8).mono ?_
        rintro e w9 ⟨rfl, hw9⟩
        subst hw9
        go_wp2
        go_ret
        exact ⟨rfl, b8⟩
  · have k5 : decide (0 ≤ room) = true := by simp; omega
    have k6 : decide (room ≤ 65536) = false := by simp; omega
    clear r1 r2
    go_enter Try.func5, Try.ntmps5
    go_wp2_with fail
    refine (Hf.out _).mono ?_
    rintro e w1 ⟨rfl, b1⟩
    go_wp2_with fail
    refine (Hm.out _ (hI.below (Nat.le_refl _) b1)).mono ?_
    rintro e w2 ⟨x, rfl, g, hB2, b2', hx, hg⟩
    have b2 := b1.trans (b2'.mono b1.size)
    have hx' : w.heap.size ≤ x := Nat.le_trans b1.size hx
    have hg' : w.heap.size ≤ g := Nat.le_trans b1.size hg
    clear hx hg b1 b2' hI
    go_wp2_with (go_at_call 24; refine (Hr.out x g _ hB2).mono ?_; rintro e w3 ⟨rfl, hw3⟩; replace hw3 := hw3.symm; subst hw3)
    refine (Ht.out x g _ hB2).mono ?_
    rintro e w3 ⟨t1, rc1, rfl, hT1, ht1, b3'⟩
    have hB3 := hB2.below b3'
    have b3 := b2.trans (b3'.mono b2.size)
    go_wp2_with fail
    refine (Hh.out x g _ hB3).mono ?_
    rintro e w4 ⟨rfl, n4, hw4⟩
    have hB4 := hB3.drewN n4
    have b4 := below_drewN b3 n4
    have hT4 : Tolds t1 rc1 (R + 2) (fun j => hasB (inL R ns) ((j : Int) - 1)) w4 := by rw [hw4]; exact ⟨hT1.lt, hT1.at'⟩
    have hne : t1 ≠ g := by have := hB2.ltg; omega
    rw [← hw4] at hB4 b4
    clear hw4 hB3 b3 hT1 hB2 b2 b3'
    go_wp2_with fail
    refine (Hd.out x g _ hB4).mono ?_
    rintro e w5 ⟨rfl, hB5, t5⟩
    have b5 : Below w.heap.size w w5 := b4.trans (t5.below (fun j hj => by rw [hj]; exact hg') b4.size)
    have hT5 : Tolds t1 rc1 (R + 2) (fun j => hasB (inL R ns) ((j : Int) - 1)) w5 := ⟨Nat.lt_of_lt_of_le hT4.lt t5.size, fun j hj => (t5.cell (p := ⟨t1, j, none⟩) hT4.lt hne).trans (hT4.at' j hj)⟩
    clear hT4 hB4 b4 t5 ht1
    go_wp2_with (first | (go_at_call 24; refine (Hr2.out x g _ hB5).mono ?_; rintro e w6 ⟨rfl, hw6⟩; replace hw6 := hw6.symm; subst hw6))
    refine (Hh2.out x g _ hB5).mono ?_
    rintro e w6 ⟨rfl, n6, hw6⟩
    have hB6 := hB5.drewN n6
    have b6 := below_drewN b5 n6
    have hT6 : Tolds t1 rc1 (R + 2) (fun j => hasB (inL R ns) ((j : Int) - 1)) w6 := by rw [hw6]; exact ⟨hT5.lt, hT5.at'⟩
    rw [← hw6] at hB6 b6
    clear hw6 hB5 b5 hT5
    go_wp2_with fail
    refine (Ht2.out x g _ hB6).mono ?_
    rintro e w7 ⟨t2, rc2, rfl, hT72, ht2, b7'⟩
    have hT71 := hT6.below b7'
    have hB7 := hB6.below b7'
    have b7 := b6.trans (b7'.mono b6.size)
    clear hB6 b6 hT6 b7' ht2
    go_wp2_with fail
    go_loopw [16] (fun i wx => ∃ (k nn : Nat), k ≤ R + 2 ∧ i = .int .i64 (k : Int) ∧ wx = w7.drewN nn) (fun i _ => R + 2 - (intOf i).toNat)
    case atStart => exact ⟨0, 0, by omega, rfl, rfl⟩
    case round =>
      obtain ⟨k, nn, hk, rfl, rfl⟩ := hrel
      by_cases hlt : k < R + 2
      · have c1 := hT71.at' k hlt
        have c2 := hT72.at' k hlt
        have hlt' : (k : Int) < (R : Int) + 2 := by omega
        try simp only at c1 c2
        by_cases hkn : (k : Int) - 1 = n
        · have e9 : ((k : Int) - 1 != n) = false := by simpa using hkn
          have HK := hide' hkn
          clear hkn
          go_wp2_with fail
          go_quiet (fail)
          go_wp2
          exact ⟨⟨k + 1, nn + nq, by omega, by go_num, rfl⟩, by simp [intOf]; omega⟩
        · have e9 : ((k : Int) - 1 != n) = true := by simpa using hkn
          have hsm := Hsame.out ((k : Int) - 1) hkn
          rw [hsm] at c2
          generalize hasB (inL R ns) ((k : Int) - 1) = bb at *
          have e10 : (bb != bb) = false := by simp
          clear hkn
          go_wp2_with fail
          go_quiet (fail)
          go_wp2
          exact ⟨⟨k + 1, nn + nq, by omega, by go_num, rfl⟩, by simp [intOf]; omega⟩
      · have hkr : k = R + 2 := by omega
        subst hkr
        have hlt' : ¬ ((R + 2 : Nat) : Int) < (R : Int) + 2 := by omega
        have hB8 := hB7.drewN nn
        have b8 := below_drewN b7 nn
        have hT8 : Tolds t2 rc2 (R + 2) _ (w7.drewN nn) := ⟨hT72.lt, hT72.at'⟩
        generalize w7.drewN nn = w8 at *
        clear hlt
        go_wp2_with fail
        refine (Hc.out x g _ hB8).mono ?_
        rintro e w9 ⟨rfl, hw9⟩
        subst hw9
        go_wp2_with fail
        refine (Hu.out _ _ _ hT8).mono ?_
        rintro e w9 ⟨rfl, hw9⟩
        subst hw9
        go_wp2
        go_ret
        exact ⟨rfl, b8⟩
  · have k5 : decide (0 ≤ room) = true := by simp; omega
    have k6 : decide (room ≤ 65536) = true := by simp; omega
    have k7 : ((R : Int) != room) = false := by simp; omega
    clear r1 r2 r3
    go_enter Try.func5, Try.ntmps5
    go_wp2_with fail
    refine (Hf.out _).mono ?_
    rintro e w1 ⟨rfl, b1⟩
    go_wp2_with fail
    refine (Hm.out _ (hI.below (Nat.le_refl _) b1)).mono ?_
    rintro e w2 ⟨x, rfl, g, hB2, b2', hx, hg⟩
    have b2 := b1.trans (b2'.mono b1.size)
    have hx' : w.heap.size ≤ x := Nat.le_trans b1.size hx
    have hg' : w.heap.size ≤ g := Nat.le_trans b1.size hg
    clear hx hg b1 b2' hI
    go_wp2_with (go_at_call 24; refine (Hr.out x g _ hB2).mono ?_; rintro e w3 ⟨rfl, hw3⟩; replace hw3 := hw3.symm; subst hw3)
    refine (Ht.out x g _ hB2).mono ?_
    rintro e w3 ⟨t1, rc1, rfl, hT1, ht1, b3'⟩
    have hB3 := hB2.below b3'
    have b3 := b2.trans (b3'.mono b2.size)
    go_wp2_with fail
    refine (Hh.out x g _ hB3).mono ?_
    rintro e w4 ⟨rfl, n4, hw4⟩
    have hB4 := hB3.drewN n4
    have b4 := below_drewN b3 n4
    have hT4 : Tolds t1 rc1 (R + 2) (fun j => hasB (inL R ns) ((j : Int) - 1)) w4 := by rw [hw4]; exact ⟨hT1.lt, hT1.at'⟩
    have hne : t1 ≠ g := by have := hB2.ltg; omega
    rw [← hw4] at hB4 b4
    clear hw4 hB3 b3 hT1 hB2 b2 b3'
    go_wp2_with fail
    refine (Hd.out x g _ hB4).mono ?_
    rintro e w5 ⟨rfl, hB5, t5⟩
    have b5 : Below w.heap.size w w5 := b4.trans (t5.below (fun j hj => by rw [hj]; exact hg') b4.size)
    have hT5 : Tolds t1 rc1 (R + 2) (fun j => hasB (inL R ns) ((j : Int) - 1)) w5 := ⟨Nat.lt_of_lt_of_le hT4.lt t5.size, fun j hj => (t5.cell (p := ⟨t1, j, none⟩) hT4.lt hne).trans (hT4.at' j hj)⟩
    clear hT4 hB4 b4 t5 ht1
    go_wp2_with (first | (go_at_call 24; refine (Hr2.out x g _ hB5).mono ?_; rintro e w6 ⟨rfl, hw6⟩; replace hw6 := hw6.symm; subst hw6))
    refine (Hh2.out x g _ hB5).mono ?_
    rintro e w6 ⟨rfl, n6, hw6⟩
    have hB6 := hB5.drewN n6
    have b6 := below_drewN b5 n6
    have hT6 : Tolds t1 rc1 (R + 2) (fun j => hasB (inL R ns) ((j : Int) - 1)) w6 := by rw [hw6]; exact ⟨hT5.lt, hT5.at'⟩
    rw [← hw6] at hB6 b6
    clear hw6 hB5 b5 hT5
    go_wp2_with fail
    refine (Ht2.out x g _ hB6).mono ?_
    rintro e w7 ⟨t2, rc2, rfl, hT72, ht2, b7'⟩
    have hT71 := hT6.below b7'
    have hB7 := hB6.below b7'
    have b7 := b6.trans (b7'.mono b6.size)
    clear hB6 b6 hT6 b7' ht2
    go_wp2_with fail
    go_loopw [16] (fun i wx => ∃ (k nn : Nat), k ≤ R + 2 ∧ i = .int .i64 (k : Int) ∧ wx = w7.drewN nn) (fun i _ => R + 2 - (intOf i).toNat)
    case atStart => exact ⟨0, 0, by omega, rfl, rfl⟩
    case round =>
      obtain ⟨k, nn, hk, rfl, rfl⟩ := hrel
      by_cases hlt : k < R + 2
      · have c1 := hT71.at' k hlt
        have c2 := hT72.at' k hlt
        have hlt' : (k : Int) < (R : Int) + 2 := by omega
        try simp only at c1 c2
        by_cases hkn : (k : Int) - 1 = n
        · have e9 : ((k : Int) - 1 != n) = false := by simpa using hkn
          have HK := hide' hkn
          clear hkn
          go_wp2_with fail
          go_quiet (fail)
          go_wp2
          exact ⟨⟨k + 1, nn + nq, by omega, by go_num, rfl⟩, by simp [intOf]; omega⟩
        · have e9 : ((k : Int) - 1 != n) = true := by simpa using hkn
          have hsm := Hsame.out ((k : Int) - 1) hkn
          rw [hsm] at c2
          generalize hasB (inL R ns) ((k : Int) - 1) = bb at *
          have e10 : (bb != bb) = false := by simp
          clear hkn
          go_wp2_with fail
          go_quiet (fail)
          go_wp2
          exact ⟨⟨k + 1, nn + nq, by omega, by go_num, rfl⟩, by simp [intOf]; omega⟩
      · have hkr : k = R + 2 := by omega
        subst hkr
        have hlt' : ¬ ((R + 2 : Nat) : Int) < (R : Int) + 2 := by omega
        have hB8 := hB7.drewN nn
        have b8 := below_drewN b7 nn
        have hT8 : Tolds t2 rc2 (R + 2) _ (w7.drewN nn) := ⟨hT72.lt, hT72.at'⟩
        generalize w7.drewN nn = w8 at *
        clear hlt
        go_wp2_with fail
        refine (Hc.out x g _ hB8).mono ?_
        rintro e w9 ⟨rfl, hw9⟩
        subst hw9
        go_wp2_with fail
        refine (Hu.out _ _ _ hT8).mono ?_
        rintro e w9 ⟨rfl, hw9⟩
        subst hw9
        go_wp2
        go_ret
        exact ⟨rfl, b8⟩
set_option maxHeartbeats 4000000 in
set_option maxRecDepth 100000 in
theorem one_a_neg_f (room : Int) (a : Option Addr) (len cap : Nat) (ns : List Int) (n : Int) (w : World) (hI : IsInts w a len cap ns) (hn : n < 0) (hT : hasB (inL (roomOf room) ns) n = false) (hout : ∀ k, roomOf room ≤ k → inL (roomOf room) ns k = false) :
    Calls Try.prog 5 #[.int .i64 room, .slice a len cap, .int .i64 n, .bool false] w fun e w' => e = .returned (.bool true) ∧ Below w.heap.size w w' := by
  have Hf := hide' (fun w => fixed_any w)
  have Hm := hide' (fun w h => made_any room a len cap ns w h)
  have hR := roomOf_le room
  have hro : (room < 0 ∧ roomOf room = 0) ∨ (65536 < room ∧ roomOf room = 65536) ∨ (0 ≤ room ∧ room ≤ 65536 ∧ (roomOf room : Int) = room) := by unfold roomOf; omega
  generalize roomOf room = R at *
  have Hr := hide' (fun x g w h => room_any x g R (inL R ns) w h)
  have Ht := hide' (fun x g w h => told_any x g R (inL R ns) w h)
  have Hh := hide' (fun x g w h => has_any x g R (inL R ns) n w h)
  rw [hT] at Hh
  have Hd := hide' (fun x g w h => add_gen x g R (inL R ns) n w h)
  have hfb : fitB R n = false := by simp only [fitB]; simp; omega
  rw [hT, hfb] at Hd
  simp only [Bool.not_true, Bool.not_false, Bool.and_true, Bool.and_false, Bool.false_and, Bool.true_and] at Hd
  have Hsame : Hid (∀ i, ¬ i = n → hasB (addP R (inL R ns) n) i = hasB (inL R ns) i) := fun i hi => by rw [hasB_add]; simp [hi]
  have hh2 : hasB (addP R (inL R ns) n) n = false := by rw [hasB_add, hfb, hT]; simp
  have hout2 : (addP R (inL R ns) n) R = false := by simp [addP, hout R (Nat.le_refl _)]
  have Hr2 := hide' (fun x g w h => room_any x g R (addP R (inL R ns) n) w h)
  have Hh2 := hide' (fun x g w h => has_any x g R (addP R (inL R ns) n) n w h)
  rw [hh2] at Hh2
  have Ht2 := hide' (fun x g w h => told_any x g R (addP R (inL R ns) n) w h)
  have Hc := hide' (fun x g w h => count_any x g R (addP R (inL R ns) n) w h)
  have Hu := hide' (fun t rc w h => trues_any t rc (R + 2) (fun j => hasB (addP R (inL R ns) n) ((j : Int) - 1)) w h (by omega))
  rw [cnt_told _ _ hout2] at Hu
  generalize B.cnt (addP R (inL R ns) n) R 0 = C at *
  generalize addP R (inL R ns) n = P2 at *
  have k1 : decide ((R : Int) < 0) = false := by simp
  have k2 : decide (65536 < (R : Int)) = false := by simp; omega
  have k3 : decide (0 ≤ n) = false := by simp; omega
  clear hout hT hfb hn hh2 hout2
  rcases hro with ⟨r1, r2⟩ | ⟨r1, r2⟩ | ⟨r1, r2, r3⟩
  · have k5 : decide (0 ≤ room) = false := by simp; omega
    clear r1 r2
    go_enter Try.func5, Try.ntmps5
    go_wp2_with fail
    refine (Hf.out _).mono ?_
    rintro e w1 ⟨rfl, b1⟩
    go_wp2_with fail
    refine (Hm.out _ (hI.below (Nat.le_refl _) b1)).mono ?_
    rintro e w2 ⟨x, rfl, g, hB2, b2', hx, hg⟩
    have b2 := b1.trans (b2'.mono b1.size)
    have hx' : w.heap.size ≤ x := Nat.le_trans b1.size hx
    have hg' : w.heap.size ≤ g := Nat.le_trans b1.size hg
    clear hx hg b1 b2' hI
    go_wp2_with (go_at_call 24; refine (Hr.out x g _ hB2).mono ?_; rintro e w3 ⟨rfl, hw3⟩; replace hw3 := hw3.symm; subst hw3)
    refine (Ht.out x g _ hB2).mono ?_
    rintro e w3 ⟨t1, rc1, rfl, hT1, ht1, b3'⟩
    have hB3 := hB2.below b3'
    have b3 := b2.trans (b3'.mono b2.size)
    go_wp2_with fail
    refine (Hh.out x g _ hB3).mono ?_
    rintro e w4 ⟨rfl, n4, hw4⟩
    have hB4 := hB3.drewN n4
    have b4 := below_drewN b3 n4
    have hT4 : Tolds t1 rc1 (R + 2) (fun j => hasB (inL R ns) ((j : Int) - 1)) w4 := by rw [hw4]; exact ⟨hT1.lt, hT1.at'⟩
    have hne : t1 ≠ g := by have := hB2.ltg; omega
    rw [← hw4] at hB4 b4
    clear hw4 hB3 b3 hT1 hB2 b2 b3'
    go_wp2_with fail
    refine (Hd.out x g _ hB4).mono ?_
    rintro e w5 ⟨rfl, hB5, t5⟩
    have b5 : Below w.heap.size w w5 := b4.trans (t5.below (fun j hj => by rw [hj]; exact hg') b4.size)
    have hT5 : Tolds t1 rc1 (R + 2) (fun j => hasB (inL R ns) ((j : Int) - 1)) w5 := ⟨Nat.lt_of_lt_of_le hT4.lt t5.size, fun j hj => (t5.cell (p := ⟨t1, j, none⟩) hT4.lt hne).trans (hT4.at' j hj)⟩
    clear hT4 hB4 b4 t5 ht1
    go_wp2_with (first | (go_at_call 24; refine (Hr2.out x g _ hB5).mono ?_; rintro e w6 ⟨rfl, hw6⟩; replace hw6 := hw6.symm; subst hw6))
    refine (Hh2.out x g _ hB5).mono ?_
    rintro e w6 ⟨rfl, n6, hw6⟩
    have hB6 := hB5.drewN n6
    have b6 := below_drewN b5 n6
    have hT6 : Tolds t1 rc1 (R + 2) (fun j => hasB (inL R ns) ((j : Int) - 1)) w6 := by rw [hw6]; exact ⟨hT5.lt, hT5.at'⟩
    rw [← hw6] at hB6 b6
    clear hw6 hB5 b5 hT5
    go_wp2_with fail
    refine (Ht2.out x g _ hB6).mono ?_
    rintro e w7 ⟨t2, rc2, rfl, hT72, ht2, b7'⟩
    have hT71 := hT6.below b7'
    have hB7 := hB6.below b7'
    have b7 := b6.trans (b7'.mono b6.size)
    clear hB6 b6 hT6 b7' ht2
    go_wp2_with fail
    go_loopw [16] (fun i wx => ∃ (k nn : Nat), k ≤ R + 2 ∧ i = .int .i64 (k : Int) ∧ wx = w7.drewN nn) (fun i _ => R + 2 - (intOf i).toNat)
    case atStart => exact ⟨0, 0, by omega, rfl, rfl⟩
    case round =>
      obtain ⟨k, nn, hk, rfl, rfl⟩ := hrel
      by_cases hlt : k < R + 2
      · have c1 := hT71.at' k hlt
        have c2 := hT72.at' k hlt
        have hlt' : (k : Int) < (R : Int) + 2 := by omega
        try simp only at c1 c2
        by_cases hkn : (k : Int) - 1 = n
        · have e9 : ((k : Int) - 1 != n) = false := by simpa using hkn
          have HK := hide' hkn
          clear hkn
          go_wp2_with fail
          go_quiet (fail)
          go_wp2
          exact ⟨⟨k + 1, nn + nq, by omega, by go_num, rfl⟩, by simp [intOf]; omega⟩
        · have e9 : ((k : Int) - 1 != n) = true := by simpa using hkn
          have hsm := Hsame.out ((k : Int) - 1) hkn
          rw [hsm] at c2
          generalize hasB (inL R ns) ((k : Int) - 1) = bb at *
          have e10 : (bb != bb) = false := by simp
          clear hkn
          go_wp2_with fail
          go_quiet (fail)
          go_wp2
          exact ⟨⟨k + 1, nn + nq, by omega, by go_num, rfl⟩, by simp [intOf]; omega⟩
      · have hkr : k = R + 2 := by omega
        subst hkr
        have hlt' : ¬ ((R + 2 : Nat) : Int) < (R : Int) + 2 := by omega
        have hB8 := hB7.drewN nn
        have b8 := below_drewN b7 nn
        have hT8 : Tolds t2 rc2 (R + 2) _ (w7.drewN nn) := ⟨hT72.lt, hT72.at'⟩
        generalize w7.drewN nn = w8 at *
        clear hlt
        go_wp2_with fail
        refine (Hc.out x g _ hB8).mono ?_
        rintro e w9 ⟨rfl, hw9⟩
        subst hw9
        go_wp2_with fail
        refine (Hu.out _ _ _ hT8).mono ?_
        rintro e w9 ⟨rfl, hw9⟩
        subst hw9
        go_wp2
        go_ret
        exact ⟨rfl, b8⟩
  · have k5 : decide (0 ≤ room) = true := by simp; omega
    have k6 : decide (room ≤ 65536) = false := by simp; omega
    clear r1 r2
    go_enter Try.func5, Try.ntmps5
    go_wp2_with fail
    refine (Hf.out _).mono ?_
    rintro e w1 ⟨rfl, b1⟩
    go_wp2_with fail
    refine (Hm.out _ (hI.below (Nat.le_refl _) b1)).mono ?_
    rintro e w2 ⟨x, rfl, g, hB2, b2', hx, hg⟩
    have b2 := b1.trans (b2'.mono b1.size)
    have hx' : w.heap.size ≤ x := Nat.le_trans b1.size hx
    have hg' : w.heap.size ≤ g := Nat.le_trans b1.size hg
    clear hx hg b1 b2' hI
    go_wp2_with (go_at_call 24; refine (Hr.out x g _ hB2).mono ?_; rintro e w3 ⟨rfl, hw3⟩; replace hw3 := hw3.symm; subst hw3)
    refine (Ht.out x g _ hB2).mono ?_
    rintro e w3 ⟨t1, rc1, rfl, hT1, ht1, b3'⟩
    have hB3 := hB2.below b3'
    have b3 := b2.trans (b3'.mono b2.size)
    go_wp2_with fail
    refine (Hh.out x g _ hB3).mono ?_
    rintro e w4 ⟨rfl, n4, hw4⟩
    have hB4 := hB3.drewN n4
    have b4 := below_drewN b3 n4
    have hT4 : Tolds t1 rc1 (R + 2) (fun j => hasB (inL R ns) ((j : Int) - 1)) w4 := by rw [hw4]; exact ⟨hT1.lt, hT1.at'⟩
    have hne : t1 ≠ g := by have := hB2.ltg; omega
    rw [← hw4] at hB4 b4
    clear hw4 hB3 b3 hT1 hB2 b2 b3'
    go_wp2_with fail
    refine (Hd.out x g _ hB4).mono ?_
    rintro e w5 ⟨rfl, hB5, t5⟩
    have b5 : Below w.heap.size w w5 := b4.trans (t5.below (fun j hj => by rw [hj]; exact hg') b4.size)
    have hT5 : Tolds t1 rc1 (R + 2) (fun j => hasB (inL R ns) ((j : Int) - 1)) w5 := ⟨Nat.lt_of_lt_of_le hT4.lt t5.size, fun j hj => (t5.cell (p := ⟨t1, j, none⟩) hT4.lt hne).trans (hT4.at' j hj)⟩
    clear hT4 hB4 b4 t5 ht1
    go_wp2_with (first | (go_at_call 24; refine (Hr2.out x g _ hB5).mono ?_; rintro e w6 ⟨rfl, hw6⟩; replace hw6 := hw6.symm; subst hw6))
    refine (Hh2.out x g _ hB5).mono ?_
    rintro e w6 ⟨rfl, n6, hw6⟩
    have hB6 := hB5.drewN n6
    have b6 := below_drewN b5 n6
    have hT6 : Tolds t1 rc1 (R + 2) (fun j => hasB (inL R ns) ((j : Int) - 1)) w6 := by rw [hw6]; exact ⟨hT5.lt, hT5.at'⟩
    rw [← hw6] at hB6 b6
    clear hw6 hB5 b5 hT5
    go_wp2_with fail
    refine (Ht2.out x g _ hB6).mono ?_
    rintro e w7 ⟨t2, rc2, rfl, hT72, ht2, b7'⟩
    have hT71 := hT6.below b7'
    have hB7 := hB6.below b7'
    have b7 := b6.trans (b7'.mono b6.size)
    clear hB6 b6 hT6 b7' ht2
    go_wp2_with fail
    go_loopw [16] (fun i wx => ∃ (k nn : Nat), k ≤ R + 2 ∧ i = .int .i64 (k : Int) ∧ wx = w7.drewN nn) (fun i _ => R + 2 - (intOf i).toNat)
    case atStart => exact ⟨0, 0, by omega, rfl, rfl⟩
    case round =>
      obtain ⟨k, nn, hk, rfl, rfl⟩ := hrel
      by_cases hlt : k < R + 2
      · have c1 := hT71.at' k hlt
        have c2 := hT72.at' k hlt
        have hlt' : (k : Int) < (R : Int) + 2 := by omega
        try simp only at c1 c2
        by_cases hkn : (k : Int) - 1 = n
        · have e9 : ((k : Int) - 1 != n) = false := by simpa using hkn
          have HK := hide' hkn
          clear hkn
          go_wp2_with fail
          go_quiet (fail)
          go_wp2
          exact ⟨⟨k + 1, nn + nq, by omega, by go_num, rfl⟩, by simp [intOf]; omega⟩
        · have e9 : ((k : Int) - 1 != n) = true := by simpa using hkn
          have hsm := Hsame.out ((k : Int) - 1) hkn
          rw [hsm] at c2
          generalize hasB (inL R ns) ((k : Int) - 1) = bb at *
          have e10 : (bb != bb) = false := by simp
          clear hkn
          go_wp2_with fail
          go_quiet (fail)
          go_wp2
          exact ⟨⟨k + 1, nn + nq, by omega, by go_num, rfl⟩, by simp [intOf]; omega⟩
      · have hkr : k = R + 2 := by omega
        subst hkr
        have hlt' : ¬ ((R + 2 : Nat) : Int) < (R : Int) + 2 := by omega
        have hB8 := hB7.drewN nn
        have b8 := below_drewN b7 nn
        have hT8 : Tolds t2 rc2 (R + 2) _ (w7.drewN nn) := ⟨hT72.lt, hT72.at'⟩
        generalize w7.drewN nn = w8 at *
        clear hlt
        go_wp2_with fail
        refine (Hc.out x g _ hB8).mono ?_
        rintro e w9 ⟨rfl, hw9⟩
        subst hw9
        go_wp2_with fail
        refine (Hu.out _ _ _ hT8).mono ?_
        rintro e w9 ⟨rfl, hw9⟩
        subst hw9
        go_wp2
        go_ret
        exact ⟨rfl, b8⟩
  · have k5 : decide (0 ≤ room) = true := by simp; omega
    have k6 : decide (room ≤ 65536) = true := by simp; omega
    have k7 : ((R : Int) != room) = false := by simp; omega
    clear r1 r2 r3
    go_enter Try.func5, Try.ntmps5
    go_wp2_with fail
    refine (Hf.out _).mono ?_
    rintro e w1 ⟨rfl, b1⟩
    go_wp2_with fail
    refine (Hm.out _ (hI.below (Nat.le_refl _) b1)).mono ?_
    rintro e w2 ⟨x, rfl, g, hB2, b2', hx, hg⟩
    have b2 := b1.trans (b2'.mono b1.size)
    have hx' : w.heap.size ≤ x := Nat.le_trans b1.size hx
    have hg' : w.heap.size ≤ g := Nat.le_trans b1.size hg
    clear hx hg b1 b2' hI
    go_wp2_with (go_at_call 24; refine (Hr.out x g _ hB2).mono ?_; rintro e w3 ⟨rfl, hw3⟩; replace hw3 := hw3.symm; subst hw3)
    refine (Ht.out x g _ hB2).mono ?_
    rintro e w3 ⟨t1, rc1, rfl, hT1, ht1, b3'⟩
    have hB3 := hB2.below b3'
    have b3 := b2.trans (b3'.mono b2.size)
    go_wp2_with fail
    refine (Hh.out x g _ hB3).mono ?_
    rintro e w4 ⟨rfl, n4, hw4⟩
    have hB4 := hB3.drewN n4
    have b4 := below_drewN b3 n4
    have hT4 : Tolds t1 rc1 (R + 2) (fun j => hasB (inL R ns) ((j : Int) - 1)) w4 := by rw [hw4]; exact ⟨hT1.lt, hT1.at'⟩
    have hne : t1 ≠ g := by have := hB2.ltg; omega
    rw [← hw4] at hB4 b4
    clear hw4 hB3 b3 hT1 hB2 b2 b3'
    go_wp2_with fail
    refine (Hd.out x g _ hB4).mono ?_
    rintro e w5 ⟨rfl, hB5, t5⟩
    have b5 : Below w.heap.size w w5 := b4.trans (t5.below (fun j hj => by rw [hj]; exact hg') b4.size)
    have hT5 : Tolds t1 rc1 (R + 2) (fun j => hasB (inL R ns) ((j : Int) - 1)) w5 := ⟨Nat.lt_of_lt_of_le hT4.lt t5.size, fun j hj => (t5.cell (p := ⟨t1, j, none⟩) hT4.lt hne).trans (hT4.at' j hj)⟩
    clear hT4 hB4 b4 t5 ht1
    go_wp2_with (first | (go_at_call 24; refine (Hr2.out x g _ hB5).mono ?_; rintro e w6 ⟨rfl, hw6⟩; replace hw6 := hw6.symm; subst hw6))
    refine (Hh2.out x g _ hB5).mono ?_
    rintro e w6 ⟨rfl, n6, hw6⟩
    have hB6 := hB5.drewN n6
    have b6 := below_drewN b5 n6
    have hT6 : Tolds t1 rc1 (R + 2) (fun j => hasB (inL R ns) ((j : Int) - 1)) w6 := by rw [hw6]; exact ⟨hT5.lt, hT5.at'⟩
    rw [← hw6] at hB6 b6
    clear hw6 hB5 b5 hT5
    go_wp2_with fail
    refine (Ht2.out x g _ hB6).mono ?_
    rintro e w7 ⟨t2, rc2, rfl, hT72, ht2, b7'⟩
    have hT71 := hT6.below b7'
    have hB7 := hB6.below b7'
    have b7 := b6.trans (b7'.mono b6.size)
    clear hB6 b6 hT6 b7' ht2
    go_wp2_with fail
    go_loopw [16] (fun i wx => ∃ (k nn : Nat), k ≤ R + 2 ∧ i = .int .i64 (k : Int) ∧ wx = w7.drewN nn) (fun i _ => R + 2 - (intOf i).toNat)
    case atStart => exact ⟨0, 0, by omega, rfl, rfl⟩
    case round =>
      obtain ⟨k, nn, hk, rfl, rfl⟩ := hrel
      by_cases hlt : k < R + 2
      · have c1 := hT71.at' k hlt
        have c2 := hT72.at' k hlt
        have hlt' : (k : Int) < (R : Int) + 2 := by omega
        try simp only at c1 c2
        by_cases hkn : (k : Int) - 1 = n
        · have e9 : ((k : Int) - 1 != n) = false := by simpa using hkn
          have HK := hide' hkn
          clear hkn
          go_wp2_with fail
          go_quiet (fail)
          go_wp2
          exact ⟨⟨k + 1, nn + nq, by omega, by go_num, rfl⟩, by simp [intOf]; omega⟩
        · have e9 : ((k : Int) - 1 != n) = true := by simpa using hkn
          have hsm := Hsame.out ((k : Int) - 1) hkn
          rw [hsm] at c2
          generalize hasB (inL R ns) ((k : Int) - 1) = bb at *
          have e10 : (bb != bb) = false := by simp
          clear hkn
          go_wp2_with fail
          go_quiet (fail)
          go_wp2
          exact ⟨⟨k + 1, nn + nq, by omega, by go_num, rfl⟩, by simp [intOf]; omega⟩
      · have hkr : k = R + 2 := by omega
        subst hkr
        have hlt' : ¬ ((R + 2 : Nat) : Int) < (R : Int) + 2 := by omega
        have hB8 := hB7.drewN nn
        have b8 := below_drewN b7 nn
        have hT8 : Tolds t2 rc2 (R + 2) _ (w7.drewN nn) := ⟨hT72.lt, hT72.at'⟩
        generalize w7.drewN nn = w8 at *
        clear hlt
        go_wp2_with fail
        refine (Hc.out x g _ hB8).mono ?_
        rintro e w9 ⟨rfl, hw9⟩
        subst hw9
        go_wp2_with fail
        refine (Hu.out _ _ _ hT8).mono ?_
        rintro e w9 ⟨rfl, hw9⟩
        subst hw9
        go_wp2
        go_ret
        exact ⟨rfl, b8⟩
set_option maxHeartbeats 4000000 in
set_option maxRecDepth 100000 in
theorem one_a_over_f (room : Int) (a : Option Addr) (len cap : Nat) (ns : List Int) (n : Int) (w : World) (hI : IsInts w a len cap ns) (hn : 0 ≤ n ∧ (roomOf room : Int) ≤ n) (hT : hasB (inL (roomOf room) ns) n = false) (hout : ∀ k, roomOf room ≤ k → inL (roomOf room) ns k = false) :
    Calls Try.prog 5 #[.int .i64 room, .slice a len cap, .int .i64 n, .bool false] w fun e w' => e = .returned (.bool true) ∧ Below w.heap.size w w' := by
  have Hf := hide' (fun w => fixed_any w)
  have Hm := hide' (fun w h => made_any room a len cap ns w h)
  have hR := roomOf_le room
  have hro : (room < 0 ∧ roomOf room = 0) ∨ (65536 < room ∧ roomOf room = 65536) ∨ (0 ≤ room ∧ room ≤ 65536 ∧ (roomOf room : Int) = room) := by unfold roomOf; omega
  generalize roomOf room = R at *
  have Hr := hide' (fun x g w h => room_any x g R (inL R ns) w h)
  have Ht := hide' (fun x g w h => told_any x g R (inL R ns) w h)
  have Hh := hide' (fun x g w h => has_any x g R (inL R ns) n w h)
  rw [hT] at Hh
  have Hd := hide' (fun x g w h => add_gen x g R (inL R ns) n w h)
  have hfb : fitB R n = false := by simp only [fitB]; simp; omega
  rw [hT, hfb] at Hd
  simp only [Bool.not_true, Bool.not_false, Bool.and_true, Bool.and_false, Bool.false_and, Bool.true_and] at Hd
  have Hsame : Hid (∀ i, ¬ i = n → hasB (addP R (inL R ns) n) i = hasB (inL R ns) i) := fun i hi => by rw [hasB_add]; simp [hi]
  have hh2 : hasB (addP R (inL R ns) n) n = false := by rw [hasB_add, hfb, hT]; simp
  have hout2 : (addP R (inL R ns) n) R = false := by simp [addP, hout R (Nat.le_refl _)]
  have Hr2 := hide' (fun x g w h => room_any x g R (addP R (inL R ns) n) w h)
  have Hh2 := hide' (fun x g w h => has_any x g R (addP R (inL R ns) n) n w h)
  rw [hh2] at Hh2
  have Ht2 := hide' (fun x g w h => told_any x g R (addP R (inL R ns) n) w h)
  have Hc := hide' (fun x g w h => count_any x g R (addP R (inL R ns) n) w h)
  have Hu := hide' (fun t rc w h => trues_any t rc (R + 2) (fun j => hasB (addP R (inL R ns) n) ((j : Int) - 1)) w h (by omega))
  rw [cnt_told _ _ hout2] at Hu
  generalize B.cnt (addP R (inL R ns) n) R 0 = C at *
  generalize addP R (inL R ns) n = P2 at *
  have k1 : decide ((R : Int) < 0) = false := by simp
  have k2 : decide (65536 < (R : Int)) = false := by simp; omega
  have k3 : decide (0 ≤ n) = true := by simp; omega
  have k4 : decide (n < (R : Int)) = false := by simp; omega
  clear hout hT hfb hn hh2 hout2
  rcases hro with ⟨r1, r2⟩ | ⟨r1, r2⟩ | ⟨r1, r2, r3⟩
  · have k5 : decide (0 ≤ room) = false := by simp; omega
    clear r1 r2
    go_enter Try.func5, Try.ntmps5
    go_wp2_with fail
    refine (Hf.out _).mono ?_
    rintro e w1 ⟨rfl, b1⟩
    go_wp2_with fail
    refine (Hm.out _ (hI.below (Nat.le_refl _) b1)).mono ?_
    rintro e w2 ⟨x, rfl, g, hB2, b2', hx, hg⟩
    have b2 := b1.trans (b2'.mono b1.size)
    have hx' : w.heap.size ≤ x := Nat.le_trans b1.size hx
    have hg' : w.heap.size ≤ g := Nat.le_trans b1.size hg
    clear hx hg b1 b2' hI
    go_wp2_with (go_at_call 24; refine (Hr.out x g _ hB2).mono ?_; rintro e w3 ⟨rfl, hw3⟩; replace hw3 := hw3.symm; subst hw3)
    refine (Ht.out x g _ hB2).mono ?_
    rintro e w3 ⟨t1, rc1, rfl, hT1, ht1, b3'⟩
    have hB3 := hB2.below b3'
    have b3 := b2.trans (b3'.mono b2.size)
    go_wp2_with fail
    refine (Hh.out x g _ hB3).mono ?_
    rintro e w4 ⟨rfl, n4, hw4⟩
    have hB4 := hB3.drewN n4
    have b4 := below_drewN b3 n4
    have hT4 : Tolds t1 rc1 (R + 2) (fun j => hasB (inL R ns) ((j : Int) - 1)) w4 := by rw [hw4]; exact ⟨hT1.lt, hT1.at'⟩
    have hne : t1 ≠ g := by have := hB2.ltg; omega
    rw [← hw4] at hB4 b4
    clear hw4 hB3 b3 hT1 hB2 b2 b3'
    go_wp2_with fail
    refine (Hd.out x g _ hB4).mono ?_
    rintro e w5 ⟨rfl, hB5, t5⟩
    have b5 : Below w.heap.size w w5 := b4.trans (t5.below (fun j hj => by rw [hj]; exact hg') b4.size)
    have hT5 : Tolds t1 rc1 (R + 2) (fun j => hasB (inL R ns) ((j : Int) - 1)) w5 := ⟨Nat.lt_of_lt_of_le hT4.lt t5.size, fun j hj => (t5.cell (p := ⟨t1, j, none⟩) hT4.lt hne).trans (hT4.at' j hj)⟩
    clear hT4 hB4 b4 t5 ht1
    go_wp2_with (first | (go_at_call 24; refine (Hr2.out x g _ hB5).mono ?_; rintro e w6 ⟨rfl, hw6⟩; replace hw6 := hw6.symm; subst hw6))
    refine (Hh2.out x g _ hB5).mono ?_
    rintro e w6 ⟨rfl, n6, hw6⟩
    have hB6 := hB5.drewN n6
    have b6 := below_drewN b5 n6
    have hT6 : Tolds t1 rc1 (R + 2) (fun j => hasB (inL R ns) ((j : Int) - 1)) w6 := by rw [hw6]; exact ⟨hT5.lt, hT5.at'⟩
    rw [← hw6] at hB6 b6
    clear hw6 hB5 b5 hT5
    go_wp2_with fail
    refine (Ht2.out x g _ hB6).mono ?_
    rintro e w7 ⟨t2, rc2, rfl, hT72, ht2, b7'⟩
    have hT71 := hT6.below b7'
    have hB7 := hB6.below b7'
    have b7 := b6.trans (b7'.mono b6.size)
    clear hB6 b6 hT6 b7' ht2
    go_wp2_with fail
    go_loopw [16] (fun i wx => ∃ (k nn : Nat), k ≤ R + 2 ∧ i = .int .i64 (k : Int) ∧ wx = w7.drewN nn) (fun i _ => R + 2 - (intOf i).toNat)
    case atStart => exact ⟨0, 0, by omega, rfl, rfl⟩
    case round =>
      obtain ⟨k, nn, hk, rfl, rfl⟩ := hrel
      by_cases hlt : k < R + 2
      · have c1 := hT71.at' k hlt
        have c2 := hT72.at' k hlt
        have hlt' : (k : Int) < (R : Int) + 2 := by omega
        try simp only at c1 c2
        by_cases hkn : (k : Int) - 1 = n
        · have e9 : ((k : Int) - 1 != n) = false := by simpa using hkn
          have HK := hide' hkn
          clear hkn
          go_wp2_with fail
          go_quiet (fail)
          go_wp2
          exact ⟨⟨k + 1, nn + nq, by omega, by go_num, rfl⟩, by simp [intOf]; omega⟩
        · have e9 : ((k : Int) - 1 != n) = true := by simpa using hkn
          have hsm := Hsame.out ((k : Int) - 1) hkn
          rw [hsm] at c2
          generalize hasB (inL R ns) ((k : Int) - 1) = bb at *
          have e10 : (bb != bb) = false := by simp
          clear hkn
          go_wp2_with fail
          go_quiet (fail)
          go_wp2
          exact ⟨⟨k + 1, nn + nq, by omega, by go_num, rfl⟩, by simp [intOf]; omega⟩
      · have hkr : k = R + 2 := by omega
        subst hkr
        have hlt' : ¬ ((R + 2 : Nat) : Int) < (R : Int) + 2 := by omega
        have hB8 := hB7.drewN nn
        have b8 := below_drewN b7 nn
        have hT8 : Tolds t2 rc2 (R + 2) _ (w7.drewN nn) := ⟨hT72.lt, hT72.at'⟩
        generalize w7.drewN nn = w8 at *
        clear hlt
        go_wp2_with fail
        refine (Hc.out x g _ hB8).mono ?_
        rintro e w9 ⟨rfl, hw9⟩
        subst hw9
        go_wp2_with fail
        refine (Hu.out _ _ _ hT8).mono ?_
        rintro e w9 ⟨rfl, hw9⟩
        subst hw9
        go_wp2
        go_ret
        exact ⟨rfl, b8⟩
  · have k5 : decide (0 ≤ room) = true := by simp; omega
    have k6 : decide (room ≤ 65536) = false := by simp; omega
    clear r1 r2
    go_enter Try.func5, Try.ntmps5
    go_wp2_with fail
    refine (Hf.out _).mono ?_
    rintro e w1 ⟨rfl, b1⟩
    go_wp2_with fail
    refine (Hm.out _ (hI.below (Nat.le_refl _) b1)).mono ?_
    rintro e w2 ⟨x, rfl, g, hB2, b2', hx, hg⟩
    have b2 := b1.trans (b2'.mono b1.size)
    have hx' : w.heap.size ≤ x := Nat.le_trans b1.size hx
    have hg' : w.heap.size ≤ g := Nat.le_trans b1.size hg
    clear hx hg b1 b2' hI
    go_wp2_with (go_at_call 24; refine (Hr.out x g _ hB2).mono ?_; rintro e w3 ⟨rfl, hw3⟩; replace hw3 := hw3.symm; subst hw3)
    refine (Ht.out x g _ hB2).mono ?_
    rintro e w3 ⟨t1, rc1, rfl, hT1, ht1, b3'⟩
    have hB3 := hB2.below b3'
    have b3 := b2.trans (b3'.mono b2.size)
    go_wp2_with fail
    refine (Hh.out x g _ hB3).mono ?_
    rintro e w4 ⟨rfl, n4, hw4⟩
    have hB4 := hB3.drewN n4
    have b4 := below_drewN b3 n4
    have hT4 : Tolds t1 rc1 (R + 2) (fun j => hasB (inL R ns) ((j : Int) - 1)) w4 := by rw [hw4]; exact ⟨hT1.lt, hT1.at'⟩
    have hne : t1 ≠ g := by have := hB2.ltg; omega
    rw [← hw4] at hB4 b4
    clear hw4 hB3 b3 hT1 hB2 b2 b3'
    go_wp2_with fail
    refine (Hd.out x g _ hB4).mono ?_
    rintro e w5 ⟨rfl, hB5, t5⟩
    have b5 : Below w.heap.size w w5 := b4.trans (t5.below (fun j hj => by rw [hj]; exact hg') b4.size)
    have hT5 : Tolds t1 rc1 (R + 2) (fun j => hasB (inL R ns) ((j : Int) - 1)) w5 := ⟨Nat.lt_of_lt_of_le hT4.lt t5.size, fun j hj => (t5.cell (p := ⟨t1, j, none⟩) hT4.lt hne).trans (hT4.at' j hj)⟩
    clear hT4 hB4 b4 t5 ht1
    go_wp2_with (first | (go_at_call 24; refine (Hr2.out x g _ hB5).mono ?_; rintro e w6 ⟨rfl, hw6⟩; replace hw6 := hw6.symm; subst hw6))
    refine (Hh2.out x g _ hB5).mono ?_
    rintro e w6 ⟨rfl, n6, hw6⟩
    have hB6 := hB5.drewN n6
    have b6 := below_drewN b5 n6
    have hT6 : Tolds t1 rc1 (R + 2) (fun j => hasB (inL R ns) ((j : Int) - 1)) w6 := by rw [hw6]; exact ⟨hT5.lt, hT5.at'⟩
    rw [← hw6] at hB6 b6
    clear hw6 hB5 b5 hT5
    go_wp2_with fail
    refine (Ht2.out x g _ hB6).mono ?_
    rintro e w7 ⟨t2, rc2, rfl, hT72, ht2, b7'⟩
    have hT71 := hT6.below b7'
    have hB7 := hB6.below b7'
    have b7 := b6.trans (b7'.mono b6.size)
    clear hB6 b6 hT6 b7' ht2
    go_wp2_with fail
    go_loopw [16] (fun i wx => ∃ (k nn : Nat), k ≤ R + 2 ∧ i = .int .i64 (k : Int) ∧ wx = w7.drewN nn) (fun i _ => R + 2 - (intOf i).toNat)
    case atStart => exact ⟨0, 0, by omega, rfl, rfl⟩
    case round =>
      obtain ⟨k, nn, hk, rfl, rfl⟩ := hrel
      by_cases hlt : k < R + 2
      · have c1 := hT71.at' k hlt
        have c2 := hT72.at' k hlt
        have hlt' : (k : Int) < (R : Int) + 2 := by omega
        try simp only at c1 c2
        by_cases hkn : (k : Int) - 1 = n
        · have e9 : ((k : Int) - 1 != n) = false := by simpa using hkn
          have HK := hide' hkn
          clear hkn
          go_wp2_with fail
          go_quiet (fail)
          go_wp2
          exact ⟨⟨k + 1, nn + nq, by omega, by go_num, rfl⟩, by simp [intOf]; omega⟩
        · have e9 : ((k : Int) - 1 != n) = true := by simpa using hkn
          have hsm := Hsame.out ((k : Int) - 1) hkn
          rw [hsm] at c2
          generalize hasB (inL R ns) ((k : Int) - 1) = bb at *
          have e10 : (bb != bb) = false := by simp
          clear hkn
          go_wp2_with fail
          go_quiet (fail)
          go_wp2
          exact ⟨⟨k + 1, nn + nq, by omega, by go_num, rfl⟩, by simp [intOf]; omega⟩
      · have hkr : k = R + 2 := by omega
        subst hkr
        have hlt' : ¬ ((R + 2 : Nat) : Int) < (R : Int) + 2 := by omega
        have hB8 := hB7.drewN nn
        have b8 := below_drewN b7 nn
        have hT8 : Tolds t2 rc2 (R + 2) _ (w7.drewN nn) := ⟨hT72.lt, hT72.at'⟩
        generalize w7.drewN nn = w8 at *
        clear hlt
        go_wp2_with fail
        refine (Hc.out x g _ hB8).mono ?_
        rintro e w9 ⟨rfl, hw9⟩
        subst hw9
        go_wp2_with fail
        refine (Hu.out _ _ _ hT8).mono ?_
        rintro e w9 ⟨rfl, hw9⟩
        subst hw9
        go_wp2
        go_ret
        exact ⟨rfl, b8⟩
  · have k5 : decide (0 ≤ room) = true := by simp; omega
    have k6 : decide (room ≤ 65536) = true := by simp; omega
    have k7 : ((R : Int) != room) = false := by simp; omega
    clear r1 r2 r3
    go_enter Try.func5, Try.ntmps5
    go_wp2_with fail
    refine (Hf.out _).mono ?_
    rintro e w1 ⟨rfl, b1⟩
    go_wp2_with fail
    refine (Hm.out _ (hI.below (Nat.le_refl _) b1)).mono ?_
    rintro e w2 ⟨x, rfl, g, hB2, b2', hx, hg⟩
    have b2 := b1.trans (b2'.mono b1.size)
    have hx' : w.heap.size ≤ x := Nat.le_trans b1.size hx
    have hg' : w.heap.size ≤ g := Nat.le_trans b1.size hg
    clear hx hg b1 b2' hI
    go_wp2_with (go_at_call 24; refine (Hr.out x g _ hB2).mono ?_; rintro e w3 ⟨rfl, hw3⟩; replace hw3 := hw3.symm; subst hw3)
    refine (Ht.out x g _ hB2).mono ?_
    rintro e w3 ⟨t1, rc1, rfl, hT1, ht1, b3'⟩
    have hB3 := hB2.below b3'
    have b3 := b2.trans (b3'.mono b2.size)
    go_wp2_with fail
    refine (Hh.out x g _ hB3).mono ?_
    rintro e w4 ⟨rfl, n4, hw4⟩
    have hB4 := hB3.drewN n4
    have b4 := below_drewN b3 n4
    have hT4 : Tolds t1 rc1 (R + 2) (fun j => hasB (inL R ns) ((j : Int) - 1)) w4 := by rw [hw4]; exact ⟨hT1.lt, hT1.at'⟩
    have hne : t1 ≠ g := by have := hB2.ltg; omega
    rw [← hw4] at hB4 b4
    clear hw4 hB3 b3 hT1 hB2 b2 b3'
    go_wp2_with fail
    refine (Hd.out x g _ hB4).mono ?_
    rintro e w5 ⟨rfl, hB5, t5⟩
    have b5 : Below w.heap.size w w5 := b4.trans (t5.below (fun j hj => by rw [hj]; exact hg') b4.size)
    have hT5 : Tolds t1 rc1 (R + 2) (fun j => hasB (inL R ns) ((j : Int) - 1)) w5 := ⟨Nat.lt_of_lt_of_le hT4.lt t5.size, fun j hj => (t5.cell (p := ⟨t1, j, none⟩) hT4.lt hne).trans (hT4.at' j hj)⟩
    clear hT4 hB4 b4 t5 ht1
    go_wp2_with (first | (go_at_call 24; refine (Hr2.out x g _ hB5).mono ?_; rintro e w6 ⟨rfl, hw6⟩; replace hw6 := hw6.symm; subst hw6))
    refine (Hh2.out x g _ hB5).mono ?_
    rintro e w6 ⟨rfl, n6, hw6⟩
    have hB6 := hB5.drewN n6
    have b6 := below_drewN b5 n6
    have hT6 : Tolds t1 rc1 (R + 2) (fun j => hasB (inL R ns) ((j : Int) - 1)) w6 := by rw [hw6]; exact ⟨hT5.lt, hT5.at'⟩
    rw [← hw6] at hB6 b6
    clear hw6 hB5 b5 hT5
    go_wp2_with fail
    refine (Ht2.out x g _ hB6).mono ?_
    rintro e w7 ⟨t2, rc2, rfl, hT72, ht2, b7'⟩
    have hT71 := hT6.below b7'
    have hB7 := hB6.below b7'
    have b7 := b6.trans (b7'.mono b6.size)
    clear hB6 b6 hT6 b7' ht2
    go_wp2_with fail
    go_loopw [16] (fun i wx => ∃ (k nn : Nat), k ≤ R + 2 ∧ i = .int .i64 (k : Int) ∧ wx = w7.drewN nn) (fun i _ => R + 2 - (intOf i).toNat)
    case atStart => exact ⟨0, 0, by omega, rfl, rfl⟩
    case round =>
      obtain ⟨k, nn, hk, rfl, rfl⟩ := hrel
      by_cases hlt : k < R + 2
      · have c1 := hT71.at' k hlt
        have c2 := hT72.at' k hlt
        have hlt' : (k : Int) < (R : Int) + 2 := by omega
        try simp only at c1 c2
        by_cases hkn : (k : Int) - 1 = n
        · have e9 : ((k : Int) - 1 != n) = false := by simpa using hkn
          have HK := hide' hkn
          clear hkn
          go_wp2_with fail
          go_quiet (fail)
          go_wp2
          exact ⟨⟨k + 1, nn + nq, by omega, by go_num, rfl⟩, by simp [intOf]; omega⟩
        · have e9 : ((k : Int) - 1 != n) = true := by simpa using hkn
          have hsm := Hsame.out ((k : Int) - 1) hkn
          rw [hsm] at c2
          generalize hasB (inL R ns) ((k : Int) - 1) = bb at *
          have e10 : (bb != bb) = false := by simp
          clear hkn
          go_wp2_with fail
          go_quiet (fail)
          go_wp2
          exact ⟨⟨k + 1, nn + nq, by omega, by go_num, rfl⟩, by simp [intOf]; omega⟩
      · have hkr : k = R + 2 := by omega
        subst hkr
        have hlt' : ¬ ((R + 2 : Nat) : Int) < (R : Int) + 2 := by omega
        have hB8 := hB7.drewN nn
        have b8 := below_drewN b7 nn
        have hT8 : Tolds t2 rc2 (R + 2) _ (w7.drewN nn) := ⟨hT72.lt, hT72.at'⟩
        generalize w7.drewN nn = w8 at *
        clear hlt
        go_wp2_with fail
        refine (Hc.out x g _ hB8).mono ?_
        rintro e w9 ⟨rfl, hw9⟩
        subst hw9
        go_wp2_with fail
        refine (Hu.out _ _ _ hT8).mono ?_
        rintro e w9 ⟨rfl, hw9⟩
        subst hw9
        go_wp2
        go_ret
        exact ⟨rfl, b8⟩
end Go.Proofs.Ytifbppjmdjdjbaa
