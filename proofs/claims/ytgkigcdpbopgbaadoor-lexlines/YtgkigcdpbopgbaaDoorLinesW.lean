import Derived.Test.YtgkigcdpbopgbaaDoorAlive
import Derived.Test.YtgkigcdpbopgbaaDoorPlc
import Derived.Test.YtgkigcdpbopgbaaDoorPik
set_option linter.unusedVariables false
set_option linter.unusedSimpArgs false
namespace Go.Proofs.YtgkigcdpbopgbaaDoor
open Go.RowKit
theorem bt_at (s : ByteArray) (k : Nat) (h : k < s.size) : (s[k]'h).toNat = L.bt s k := by
  have := get_at s k h
  rw [← this]; rfl
theorem find_hi (s : ByteArray) (a : Nat) : ∀ f p n, 1 ≤ n.2 → (L.find s a f p n).2 ≤ n.2 + (f : Int) := by
  intro f
  induction f with
  | zero => intro p n h; simp [L.find]
  | succ f ih =>
    intro p n h
    unfold L.find
    split
    · split
      · omega
      · have h1 := L.nxt_col n (L.rn s p) h
        have := ih (p + L.wd s p) _ h1
        have h2 : (L.nxt n (L.rn s p)).2 ≤ n.2 + 1 := by unfold L.nxt; split <;> simp; omega
        omega
    · omega
theorem plc_nat (s : ByteArray) (n : Nat) (h : n ≤ s.size) : plc s (n : Int) = L.find s n s.size 0 (1, 1) := by
  unfold plc
  rw [if_neg (by omega)]
  rfl

set_option maxHeartbeats 2000000 in
set_option maxRecDepth 100000 in
theorem lexLines_walk (s : ByteArray) (a : Int) (w : World) (hs0 : Hid (s.size ≤ 140737488355328)) (ha : -9223372036854775808 ≤ a ∧ a ≤ 9223372036854775807) :
    Calls Tryd.prog 5 #[.string s, .int .i64 a] w fun e w' => e = .returned (.bool true) ∧ Below w.heap.size w w' := by
  have hs := hs0.out
  have hpk := pik_bd a ((s.size : Int) + 1) (by omega)
  obtain ⟨k, hk⟩ : ∃ k : Nat, pik a ((s.size : Int) + 1) = (k : Int) := ⟨(pik a ((s.size : Int) + 1)).toNat, by omega⟩
  have hks : k ≤ s.size := by omega
  have HPik := hide' fun w => pick_any a ((s.size : Int) + 1) w ha ⟨by omega, by omega⟩
  have HP := hide' fun (n : Nat) (hn : n ≤ s.size) w => place_any s (n : Int) w hs0 ⟨by omega, by omega⟩
  have hline := L.find_line s k hks s.size 0 (1, 1) (by omega) (by omega)
  have hcol := L.find_col s k s.size 0 (1, 1) (by simp)
  have hnl := fun h0 h => L.find_nl s k hks h s.size 0 (1, 1) (by omega) h0
  have hst := fun h1 h => L.find_step s k hks h1 h s.size 0 (1, 1) (by omega) (by omega)
  rw [← plc_nat s k hks] at hline hcol hnl hst
  rw [hk] at HPik
  obtain ⟨q, hq⟩ : ∃ q, plc s (k : Int) = q := ⟨_, rfl⟩
  obtain ⟨q1, q2⟩ := q
  have HPk := hide' (HP.out k hks)
  rw [hq] at hline hcol hnl hst HPk
  simp only [Nat.sub_zero] at hline
  simp only at hcol hnl hst hline HPk
  have hq0 : k = 0 → q2 = 1 := fun h0 => by
    subst h0
    have := plc_nat s 0 (by omega)
    rw [L.find_self] at this
    rw [show ((0 : Nat) : Int) = 0 from rfl] at this
    rw [show ((0 : Nat) : Int) = 0 from rfl, this] at hq
    exact (congrArg Prod.snd hq).symm
  have Hh := hide' (And.intro hline (And.intro hnl hst))
  have Hq0 := hide' hq0
  clear hpk hk hline hnl hst hq hq0
  go_enter Tryd.func5, Tryd.ntmps5
  go_wp2_with (first | (go_at_call 7; refine (alive_any _).mono ?_; rintro e w1 ⟨rfl, b1⟩) | (go_at_call 10; refine (HPik.out _).mono ?_; rintro e w2 ⟨rfl, hw2⟩; replace hw2 := hw2.symm; subst hw2) | (go_at_call 11; refine (HPk.out _).mono ?_; rintro e w3 ⟨rfl, b3⟩))
  go_loopw [9, 10] (fun x y wx => wx = w3 ∧ ∃ (i : Nat) (m : Int), i ≤ k ∧ y = .int .i64 (i : Int) ∧ x = .int .i64 m ∧ Hid (m = 1 + (L.cnt s 0 i : Int)) ∧ (1 ≤ m ∧ m ≤ 1 + (i : Int))) (fun _ y _ => k - (intOf y).toNat)
  case atStart => exact ⟨rfl, 0, 1, by omega, rfl, rfl, rfl, by omega⟩
  case round =>
    obtain ⟨rfl, i, m, hik, rfl, rfl, hm, hmb⟩ := hrel
    by_cases hlt : i < k
    · have e1 : decide ((i : Int) < (k : Int)) = true := by simpa using hlt
      have his : i < s.size := by omega
      have hat := bt_at s i his
      by_cases h10 : L.bt s i = 10
      · have e2 : ((L.bt s i : Int) == 10) = true := by simp; omega
        have hm2 : Hid (m + 1 = 1 + (L.cnt s 0 (i + 1) : Int)) := (by show _ = _; rw [L.cnt, Nat.zero_add, if_pos h10, hm.out]; simp; omega)
        clear h10
        go_wp2
        exact ⟨⟨trivial, i + 1, m + 1, by omega, by go_num, rfl, hm2, by omega⟩, by simp [intOf]; omega⟩
      · have e2 : ((L.bt s i : Int) == 10) = false := by simp; omega
        have hm2 : Hid (m = 1 + (L.cnt s 0 (i + 1) : Int)) := (by show _ = _; rw [L.cnt, Nat.zero_add, if_neg h10, hm.out]; simp)
        clear h10
        go_wp2
        exact ⟨⟨trivial, i + 1, m, by omega, by go_num, rfl, hm2, by omega⟩, by simp [intOf]; omega⟩
    · have e1 : decide ((i : Int) < (k : Int)) = false := by simpa using hlt
      have hie : i = k := by omega
      subst hie
      have hmq : q1 = m := by rw [Hh.out.1, hm.out]
      subst hmq
      have e3 : (q1 != q1) = false := by simp
      have e4 : decide (q2 < 1) = false := by simp; omega
      have bel : Below w.heap.size w wr := b1.trans (b3.mono b1.size)
      clear hlt
      by_cases hk0 : i = 0
      · subst hk0
        have hq2 : Hid (q2 = 1) := Hq0.out rfl
        have e5 : (q2 == 1) = true := by simp [hq2.out]
        go_wp2
        go_ret
        exact ⟨rfl, bel⟩
      · have e5 : ((i : Int) == 0) = false := by simp; omega
        have hi1 : i - 1 < s.size := by omega
        have hat := bt_at s (i - 1) hi1
        have hc1 : (i : Int) - 1 = ((i - 1 : Nat) : Int) := by omega
        have hbk := HP.out (i - 1) (by omega)
        rw [plc_nat s (i - 1) (by omega)] at hbk
        obtain ⟨z, hz⟩ : ∃ z, L.find s (i - 1) s.size 0 (1, 1) = z := ⟨_, rfl⟩
        rw [hz] at hbk
        have Hbk := hide' hbk
        have hst := Hh.out.2.2
        rw [hz] at hst
        have Hst := hide' hst
        have hzb : 1 ≤ z.2 ∧ z.2 ≤ 140737488355329 := by
          rw [← hz]
          have h1 := find_hi s (i - 1) s.size 0 (1, 1) (by simp)
          have h2 := L.find_col s (i - 1) s.size 0 (1, 1) (by simp)
          simp only at h1
          omega
        obtain ⟨z1, z2⟩ := z
        simp only at hzb hst hbk
        clear hbk hst hz
        by_cases h10 : L.bt s (i - 1) = 10
        · have e6 : ((L.bt s (i - 1) : Int) == 10) = true := by simp; omega
          have e7 : (q2 == 1) = true := by simp [Hh.out.2.1 (by omega) h10]
          clear h10
          go_wp2
          go_ret
          exact ⟨rfl, bel⟩
        · have e6 : ((L.bt s (i - 1) : Int) == 10) = false := by simp; omega
          have hst' := Hst.out (by omega) h10
          simp only at hst'
          have Hs2 := hide' hst'
          clear h10 hst'
          go_wp2_with (go_at_call 11; refine (Hbk.out _).mono ?_; rintro e w4 ⟨rfl, b4⟩)
          all_goals go_ret
          all_goals refine ⟨ret_bool ?_, bel.trans (b4.mono bel.size)⟩
          all_goals have := Hs2.out
          all_goals first | rfl | (simp; omega)
end Go.Proofs.YtgkigcdpbopgbaaDoor
