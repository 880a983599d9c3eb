import Derived.Test.YtagdgbbomohooaaGreatDoorQtS
set_option linter.unusedVariables false
set_option linter.unusedSimpArgs false
namespace Go.Proofs.YtagdgbbomohooaaGreatDoor
open Go.RowKit
theorem iter_pos (w : World) (t : ByteArray) (p : Nat) : (w.iter t p).iterPos w.heap.size = p := by simp
theorem msrN {k n : Nat} (h : k < n) (i : Int) (e : i = (k : Int) + 1) : n - (intOf (.int .i64 i)).toNat < n - (intOf (.int .i64 (k : Int))).toNat := by
  rw [e]
  show n - ((k : Int) + 1).toNat < n - (k : Int).toNat
  omega
set_option maxHeartbeats 4000000 in
set_option maxRecDepth 100000 in
/-- the character at a place, or none -/
theorem scalar_any (s : ByteArray) (i : Nat) (hi : i < s.size) (hs : s.size ≤ 140737488355328) (w : World) :
    Calls Tryz.prog 16 #[.string s, .int .i64 (i : Int)] w fun e w' => ∃ n v : Int, e = .returned (.tuple #[.int .i64 n, .int .i64 v]) ∧ Hid (Below w.heap.size w w') ∧ Hid ((L.Inv s i ∧ n = 1 ∧ v = -1) ∨ (¬ L.Inv s i ∧ n = (L.wd s i : Int) ∧ v = L.rn s i)) := by
  have HS := hide' (And.intro hi hs)
  have HB0 := hide' (Below.refl w.heap.size w)
  clear hi hs
  go_enter Tryz.func16, Tryz.ntmps16
  go_wp2_with fail
  go_loopw [6] (fun nv wx => ∃ (n : Nat) (V : World), V = wx ∧ nv = .int .i64 (n : Int) ∧ 1 ≤ n ∧ n ≤ 5 ∧ (¬ L.Inv s i → n ≤ L.wd s i) ∧ Below w.heap.size w V) (fun nv _ => 5 - (intOf nv).toNat)
  case atStart => exact ⟨1, _, rfl, rfl, by omega, by omega, fun _ => L.wd_pos s i, HB0.out⟩
  case round =>
    obtain ⟨n, V, rfl, rfl, h1, h5, hin, hb⟩ := hrel
    have HH := hide' (And.intro h1 (And.intro hin hb))
    clear HB0 hin hb
    by_cases hn4 : n ≤ 4
    · have hn4' : (n : Int) ≤ 4 := by omega
      obtain ⟨j, hj⟩ : ∃ j, j = i + n := ⟨_, rfl⟩
      have Hj := hide' hj
      have e1 : wrap64 ((i : Int) + (n : Int)) = (j : Int) := by have := HS.out; unfold wrap64; omega
      by_cases hsz : j ≤ s.size
      · have hsz' : (j : Int) ≤ (s.size : Int) := by omega
        have hij : i ≤ j := by omega
        have Hsz := hide' (And.intro hsz hij)
        have Hn := hide' (show n < 5 by omega)
        have hz : (s.extract i j).size = n := by rw [L.ext_size _ _ _ hsz]; omega
        have htr := L.trunc (s := s) (i := i) h1 (show i + n ≤ s.size by omega)
        rw [← hj] at htr
        have ew := hide' (show wrap64 ((n : Int) + 1) = ((n + 1 : Nat) : Int) by unfold wrap64; omega)
        have Hms := hide' (msrN (show n < 5 by omega) _ rfl)
        have hfa : n ≠ 1 → L.wd s i = n → L.rn s i = 65533 → s.extract i j = L.fffd := fun a b c => by rw [hj]; exact L.fffd_is a (by omega) b c
        have HF := hide' hfa
        have hne : n = 1 → ((s.extract i j).toList == ([239, 191, 189] : List UInt8)) = false := fun h => by
          cases hq : ((s.extract i j).toList == ([239, 191, 189] : List UInt8)) with
          | false => rfl
          | true =>
            have e := congrArg List.length (eq_of_beq hq)
            rw [ByteArray.toList_eq, Array.length_toList] at e
            have e2 : (s.extract i j).data.size = 1 := by rw [← h]; exact hz
            rw [e2] at e
            cases e
        have HE := hide' hne
        clear hn4 h5 hj hfa hne
        go_wp2_with fail
        obtain ⟨t, ht⟩ : ∃ t, t = s.extract i j := ⟨_, rfl⟩
        rw [← ht] at hz htr ⊢
        have HT := hide' (And.intro hz htr)
        have Ht := hide' ht
        clear htr ht
        go_loopw [7, 8] (fun cv vv wx => ∃ (pos c : Nat) (v : Int), wx = V.iter t pos ∧ cv = .int .i64 (c : Int) ∧ vv = .int .i64 v ∧ c ≤ pos ∧ pos ≤ n ∧ ((pos = 0 ∧ c = 0) ∨ (pos = L.wd t 0 ∧ c = 1 ∧ v = L.rn t 0) ∨ (2 ≤ c ∧ L.wd t 0 < pos))) (fun _ _ w' => t.size - w'.iterPos V.heap.size)
        case atStart => exact ⟨0, 0, -1, rfl, rfl, rfl, by omega, by omega, .inl ⟨rfl, rfl⟩⟩
        case round =>
          obtain ⟨pos, c, v, rfl, rfl, rfl, hcp, hpn, hcase⟩ := hrel
          by_cases hp : pos < t.size
          · have hnx : ∀ ty, (Instr.next (.pointer (some ⟨V.heap.size, 0, none⟩)) true ty).run Tryz.prog (V.iter t pos) = .ok (.tuple #[.bool true, .int .i64 pos, .int .i32 (N.rn t pos)]) (V.iter t (pos + N.wd t pos)) := fun ty => run_next_any V t pos ty hp
            have hb := L.rn_bd t pos
            have hwp := L.wd_pos t pos
            have hwi := L.wd_in t pos hp
            obtain ⟨r, hr⟩ : ∃ r, N.rn t pos = r := ⟨_, rfl⟩
            have er : IntKind.wrap .i64 r = r := by rw [IntKind.wrap_i64]; have : L.rn t pos = r := hr; omega
            have ec : wrap64 ((c : Int) + 1) = ((c + 1 : Nat) : Int) := by unfold wrap64; omega
            have hwr : N.wd t pos = L.wd t pos := rfl
            have hrr : L.rn t pos = r := hr
            rw [hr] at hnx
            have HC := hide' (And.intro hcase (And.intro hwp (And.intro hwi (And.intro hrr (And.intro hcp (And.intro hp hz))))))
            clear hcase hwp hwi hrr hb hr hcp hp hpn hz
            rw [hwr] at hnx
            clear hwr
            go_wp2_with fail
            obtain ⟨hcase, hwp, hwi, hrr, hcp, hp, hz⟩ := HC.out
            refine ⟨⟨pos + L.wd t pos, c + 1, r, rfl, by first | rfl | rw [ec], rfl, by omega, by omega, ?_⟩, by simp; omega⟩
            rcases hcase with ⟨a1, a2⟩ | ⟨a1, a2, a3⟩ | ⟨a1, a2⟩
            · subst a1 a2
              right; left
              exact ⟨by omega, rfl, hrr.symm⟩
            · right; right; exact ⟨by omega, by omega⟩
            · right; right; exact ⟨by omega, by omega⟩
          · have hnx : ∀ ty, (Instr.next (.pointer (some ⟨V.heap.size, 0, none⟩)) true ty).run Tryz.prog (V.iter t pos) = _ := fun ty => run_next_end V t pos ty hp
            have hpe : pos = n := by omega
            have BV := hide' (HH.out.2.2.trans ((below_iter V t pos).mono HH.out.2.2.size))
            have more : (¬ L.Inv s i → L.wd s i ≠ n) → ∃ (m : Nat) (V' : World), V' = V.iter t pos ∧ (.int .i64 ((n + 1 : Nat) : Int) : Value) = .int .i64 (m : Int) ∧ 1 ≤ m ∧ m ≤ 5 ∧ (¬ L.Inv s i → m ≤ L.wd s i) ∧ Below w.heap.size w V' := fun hx => ⟨n + 1, _, rfl, rfl, by omega, by have := Hn.out; omega, fun h => by have := hx h; have := HH.out.2.1 h; omega, BV.out⟩
            have HM := hide' more
            have HC := hide' hcase
            clear hcase hcp hpn hp more hz
            rcases HC.out with ⟨a1, a2⟩ | ⟨a1, a2, a3⟩ | ⟨a1, a2⟩
            · have := HH.out.1; omega
            · have hw : L.wd t 0 = n := by omega
              have Hw := hide' hw
              subst a2 a3
              by_cases hv : L.rn t 0 = 65533
              · by_cases hn1 : n = 1
                · have hne := HE.out hn1
                  have hq : Hid (¬ L.Inv s i → L.wd s i ≠ n) := hide' (fun h e => h (by
                    have := (HT.out.2.1 (by omega)).1
                    exact ⟨by rw [← this]; exact hv, by omega⟩))
                  rw [hv]
                  clear HC hv hw a1 hpe hn1
                  go_wp2
                  all_goals (obtain ⟨m, V', z1, z2, z3⟩ := HM.out hq.out; exact ⟨⟨m, V', z1, by first | exact z2 | (rw [ew.out]; exact z2), z3⟩, by first | exact Hms.out | (rw [ew.out]; exact Hms.out)⟩)
                · have hws : L.wd s i = n ∧ L.rn s i = 65533 := by
                    rcases Nat.lt_or_ge n (L.wd s i) with y | y
                    · have := (HT.out.2.2 y).2; omega
                    · have := HT.out.2.1 y; exact ⟨by omega, by rw [← this.1]; exact hv⟩
                  have hx := HF.out hn1 hws.1 hws.2
                  unfold L.fffd at hx
                  have HA := hide' (show ¬ L.Inv s i ∧ (n : Int) = (L.wd s i : Int) ∧ (65533 : Int) = L.rn s i from ⟨fun q => hn1 (by have := q.2; omega), by omega, hws.2.symm⟩)
                  rw [hv]
                  clear HC hv hw a1 hpe hn1 hws HF
                  go_wp2
                  go_ret2
                  exact ⟨_, _, rfl, BV, hide' (.inr HA.out)⟩
              · have HA := hide' (show ¬ L.Inv s i ∧ (n : Int) = (L.wd s i : Int) ∧ L.rn t 0 = L.rn s i from by
                  have hle : L.wd s i ≤ n := by
                    rcases Nat.lt_or_ge n (L.wd s i) with y | y
                    · exact absurd (HT.out.2.2 y).1 hv
                    · exact y
                  have := HT.out.2.1 hle
                  exact ⟨fun q => hv (by rw [this.1]; exact q.1), by omega, this.1⟩)
                generalize L.rn t 0 = v at *
                clear HC hw a1 hpe
                go_wp2
                go_ret2
                exact ⟨_, _, rfl, BV, hide' (.inr HA.out)⟩
            · have hq : Hid (¬ L.Inv s i → L.wd s i ≠ n) := hide' (fun h e => by
                have := (HT.out.2.1 (by omega)).2
                omega)
              have hc1 : ((c : Int) == 1) = false := by
                rw [beq_eq_false_iff_ne]; omega
              clear HC a1 a2 hpe
              go_wp2
              all_goals (obtain ⟨m, V', z1, z2, z3⟩ := HM.out hq.out; exact ⟨⟨m, V', z1, by first | exact z2 | (rw [ew.out]; exact z2), z3⟩, by first | exact Hms.out | (rw [ew.out]; exact Hms.out)⟩)
      · have hsz' : ¬ (j : Int) ≤ (s.size : Int) := by omega
        have HA := hide' (show L.Inv s i from by
          rcases Classical.em (L.Inv s i) with q | q
          · exact q
          · have := HH.out.2.1 q; have := L.wd_in s i HS.out.1; omega)
        clear hn4 h5 h1 hj hsz
        go_wp2
        go_ret2
        exact ⟨_, _, rfl, hide' HH.out.2.2, hide' (.inl ⟨HA.out, rfl, rfl⟩)⟩
    · have hn4' : ¬ (n : Int) ≤ 4 := by omega
      have HA := hide' (show L.Inv s i from by
        rcases Classical.em (L.Inv s i) with q | q
        · exact q
        · have := HH.out.2.1 q; have := L.wd_le4 s i; omega)
      clear hn4 h5 h1
      go_wp2
      go_ret2
      exact ⟨_, _, rfl, hide' HH.out.2.2, hide' (.inl ⟨HA.out, rfl, rfl⟩)⟩
end Go.Proofs.YtagdgbbomohooaaGreatDoor
