import Derived.Test.YtjhnlmedmpcgoaaRbl
import Derived.Test.YtjhnlmedmpcgoaaSaB
set_option linter.unusedVariables false
set_option linter.unusedSimpArgs false
namespace Go.Proofs.Ytjhnlmedmpcgoaa
open Go.RowKit
namespace Q
open C (Tk)
variable {D U : Nat → Prop} {B : Nat} {m : Mr} {w w' : World} {s : Sq} {Db : Nat → Prop} {P E : Nat → Nat → Prop}
theorem pjoin_ok (m : Mr) (h : Tb B s Db P E w) (hB : B ≤ w.heap.size) (hl : s.L.length < 64) : Calls Try.prog 33 #[ptr s.b, .iface m.vi.1 m.vi.2] w fun e w' => e = .returned (.tuple #[.int .i64 (s.L.length : Nat), .int .i64 0]) ∧ To B { s with L := s.L ++ [(m.vi, -1)] } (Sb s Db P E) w w' := by
  refine (C.join_ok m.vi.1 m.vi.2 h.bo hB hl).mono ?_
  rintro e w' ⟨rfl, D', a, b, c⟩
  exact ⟨rfl, h.turnB b a c⟩
theorem pjoin_full (m : Mr) (h : Tb B s Db P E w) (hl : s.L.length = 64) : Calls Try.prog 33 #[ptr s.b, .iface m.vi.1 m.vi.2] w fun e w' => e = .returned (.tuple #[.int .i64 0, .int .i64 4]) ∧ w' = w := C.join_many m.vi.1 m.vi.2 h.bo hl
theorem size_to {B : Nat} {s' : Sq} {U : Nat → Prop} {w w' : World} (h : To B s' U w w') : w.heap.size ≤ w'.heap.size := by obtain ⟨_, _, _, _, b, _⟩ := h; exact b.size
theorem To.drew {B : Nat} {s' : Sq} {U : Nat → Prop} {w w' : World} (h : To B s' U w w') : To B s' U w w'.drew := h.trans (fun _ _ _ z => z.same (Below.refl _ _).drew)
set_option maxRecDepth 100000 in
set_option maxHeartbeats 4000000 in
theorem joined_ok (i : Nat) (m : Mr) (h : Tb B s Db P E w) (hB : B ≤ w.heap.size) (hl : s.T.length < 64) (hl2 : s.L.length = s.T.length) (hc : s.vc[i]? = some m.pc) (ho : s.vo[i]? = some m.po) :
    Calls Try.prog 42 #[.pointer (some ⟨s.t, 0, none⟩), .int .i64 (i : Int)] w fun e w' => e = .returned (.bool true) ∧ ∃ rt', To B { s with T := s.T ++ [(i, -1)], rt := rt', L := s.L ++ [(m.vi, -1)] } (Sb s Db P E) w w' := by
  have H57 := hide' (rjoin_ok i h hB hl)
  obtain ⟨n, hn⟩ : ∃ n, n = s.T.length := ⟨_, rfl⟩
  rw [← hn] at H57
  have HJ : Hid (∀ rt' w1 Db1 P1 E1, Tb B { s with T := s.T ++ [(i, -1)], rt := rt' } Db1 P1 E1 w1 → Turn (Sb s Db P E) w w1 → (∀ j, Sb { s with T := s.T ++ [(i, -1)], rt := rt' } Db1 P1 E1 j → Sb s Db P E j ∨ w.heap.size ≤ j) →
      Calls Try.prog 33 #[.pointer (some ⟨s.b, 0, none⟩), .iface m.vi.1 m.vi.2] w1.drew fun e w' => e = .returned (.tuple #[.int .i64 (n : Int), .int .i64 0]) ∧ Hid (∃ rt', To B { s with T := s.T ++ [(i, -1)], rt := rt', L := s.L ++ [(m.vi, -1)] } (Sb s Db P E) w w')) := hide' (by
    intro rt' w1 Db1 P1 E1 a b c
    have ad := a.below (Below.refl w1.heap.size w1).drew
    refine (pjoin_ok m ad (Nat.le_trans hB b.size) (by show s.L.length < 64; omega)).mono ?_
    rintro e w' ⟨rfl, d⟩
    have e1 : To B { s with T := s.T ++ [(i, -1)], rt := rt' } (Sb s Db P E) w w1.drew := To.drew ⟨_, _, _, a, b, c⟩
    obtain ⟨_, _, _, x, y, z⟩ := d
    refine ⟨by rw [hn, ← hl2], hide' ⟨rt', _, _, _, x, b.drew.then y (fun j hj q => (c j q).elim id (fun z => by omega)), fun j q => ?_⟩⟩
    rcases z j q with q | q
    · exact c j q
    · exact .inr (Nat.le_trans b.size q))
  have hci := idx hc
  have hoi := idx ho
  have h3 : (i : Int) < (s.vc.length : Int) := by omega
  have h4 : (i : Int) < (s.vo.length : Int) := by omega
  have HF : Hid (∀ rt' w1 Db1 P1 E1, Tb B { s with T := s.T ++ [(i, -1)], rt := rt' } Db1 P1 E1 w1 → (w1.cell? ⟨s.t, 0, none⟩ = some (.pointer (some ⟨s.b, 0, none⟩))) ∧ (∃ g, w1.cell? ⟨s.t, 4, none⟩ = some (.slice (some ⟨g, 0, none⟩) s.vc.length s.rc.c) ∧ w1.cell? ⟨g, i, none⟩ = some m.pc) ∧ ∃ g, w1.cell? ⟨s.t, 5, none⟩ = some (.slice (some ⟨g, 0, none⟩) s.vo.length s.ro.c) ∧ w1.cell? ⟨g, i, none⟩ = some m.po) := hide' (by
    intro rt' w1 Db1 P1 E1 a
    refine ⟨a.c 0, ?_, ?_⟩
    · obtain ⟨g, e, q, _⟩ := at_row a.hc (k := i) hc
      have e : s.rc.a = some ⟨g, 0, none⟩ := e
      exact ⟨g, by rw [← e]; exact a.c 4, q⟩
    · obtain ⟨g, e, q, _⟩ := at_row a.ho (k := i) ho
      have e : s.ro.a = some ⟨g, 0, none⟩ := e
      exact ⟨g, by rw [← e]; exact a.c 5, q⟩)
  clear h hB hl hl2 hc ho hci hoi hn
  generalize s.vc.length = nc at *
  generalize s.vo.length = no at *
  unfold Mr.pc Mr.po at HF
  unfold Mr.vi at HJ ⊢
  cases hmo : m.o with
  | false =>
    rw [hmo] at HF HJ
    simp only [Bool.false_eq_true, if_false] at HF HJ ⊢
    go_enter Try.func42, Try.ntmps42
    go_wp2_with fail
    refine H57.out.mono ?_
    rintro e w1 ⟨rfl, rt', Db1, P1, E1, a, b, c⟩
    obtain ⟨c0, ⟨g, c4, r4⟩, g2, c5, r5⟩ := HF.out rt' w1 Db1 P1 E1 a
    have HC := hide' (HJ.out rt' w1 Db1 P1 E1 a b c)
    unfold ptr at r4 HC
    clear a b c H57 HF HJ c5 r5 h4
    have c0' : w1.drew.cell? ⟨s.t, 0, none⟩ = some (.pointer (some ⟨s.b, 0, none⟩)) := c0
    have c4' : w1.drew.cell? ⟨s.t, 4, none⟩ = some (.slice (some ⟨g, 0, none⟩) nc s.rc.c) := c4
    have r4' : w1.drew.cell? ⟨g, i, none⟩ = some (.pointer (some ⟨m.b, 0, none⟩)) := r4
    go_wp2_with fail
    go_region_with (refine HC.out.mono ?_; rintro e w2 ⟨rfl, k2⟩)
    all_goals
      clear HC c0 c4 r4 c0' c4' r4'
      go_wp2
      go_ret
      exact ⟨rfl, k2.out⟩
  | true =>
    rw [hmo] at HF HJ
    simp only [if_true] at HF HJ ⊢
    go_enter Try.func42, Try.ntmps42
    go_wp2_with fail
    refine H57.out.mono ?_
    rintro e w1 ⟨rfl, rt', Db1, P1, E1, a, b, c⟩
    obtain ⟨c0, ⟨g2, c4, r4⟩, g, c5, r5⟩ := HF.out rt' w1 Db1 P1 E1 a
    have HC := hide' (HJ.out rt' w1 Db1 P1 E1 a b c)
    unfold ptr at r5 HC
    clear a b c H57 HF HJ
    have c0' : w1.drew.cell? ⟨s.t, 0, none⟩ = some (.pointer (some ⟨s.b, 0, none⟩)) := c0
    have c5' : w1.drew.cell? ⟨s.t, 5, none⟩ = some (.slice (some ⟨g, 0, none⟩) no s.ro.c) := c5
    have r5' : w1.drew.cell? ⟨g, i, none⟩ = some (.pointer (some ⟨m.b, 0, none⟩)) := r5
    go_wp2_with fail
    go_region_with (refine HC.out.mono ?_; rintro e w2 ⟨rfl, k2⟩)
    all_goals
      clear HC c0 c4 r4 c0' c5 r5 c5' r5'
      go_wp2
      go_ret
      exact ⟨rfl, k2.out⟩
set_option maxRecDepth 100000 in
set_option maxHeartbeats 4000000 in
theorem joined_full (i : Nat) (m : Mr) (h : Tb B s Db P E w) (hl : s.T.length = 64) (hl2 : s.L.length = 64) (hc : s.vc[i]? = some m.pc) (ho : s.vo[i]? = some m.po) :
    Calls Try.prog 42 #[.pointer (some ⟨s.t, 0, none⟩), .int .i64 (i : Int)] w fun e w' => e = .returned (.bool true) ∧ Below w.heap.size w w' := by
  have H57 := hide' (rjoin_full (i : Int) h (by omega) (by omega))
  have HC := hide' (pjoin_full m (h.below (Below.refl w.heap.size w).drew) hl2)
  have h3 : (i : Int) < (s.vc.length : Int) := by have := idx hc; omega
  have h4 : (i : Int) < (s.vo.length : Int) := by have := idx ho; omega
  have c0 : w.cell? ⟨s.t, 0, none⟩ = some (.pointer (some ⟨s.b, 0, none⟩)) := h.c 0
  have c0' : w.drew.cell? ⟨s.t, 0, none⟩ = some (.pointer (some ⟨s.b, 0, none⟩)) := c0
  obtain ⟨g, eg, r4, _⟩ := at_row h.hc (k := i) hc
  obtain ⟨g2, eg2, r5, _⟩ := at_row h.ho (k := i) ho
  have c4 : w.cell? ⟨s.t, 4, none⟩ = some (.slice (some ⟨g, 0, none⟩) s.vc.length s.rc.c) := by rw [← eg]; exact h.c 4
  have c5 : w.cell? ⟨s.t, 5, none⟩ = some (.slice (some ⟨g2, 0, none⟩) s.vo.length s.ro.c) := by rw [← eg2]; exact h.c 5
  clear h hl hl2 hc ho eg eg2
  generalize s.vc.length = nc at *
  generalize s.vo.length = no at *
  unfold Mr.pc at r4
  unfold Mr.po at r5
  unfold Mr.vi at HC
  unfold ptr at HC r4 r5
  have c4' : w.drew.cell? ⟨s.t, 4, none⟩ = some (.slice (some ⟨g, 0, none⟩) nc s.rc.c) := c4
  have c5' : w.drew.cell? ⟨s.t, 5, none⟩ = some (.slice (some ⟨g2, 0, none⟩) no s.ro.c) := c5
  cases hmo : m.o with
  | false =>
    rw [hmo] at HC r4 r5
    simp only [Bool.false_eq_true, if_false] at HC r4 r5
    have r4' : w.drew.cell? ⟨g, i, none⟩ = some (.pointer (some ⟨m.b, 0, none⟩)) := r4
    go_enter Try.func42, Try.ntmps42
    go_wp2_with fail
    refine H57.out.mono ?_
    rintro e w1 ⟨rfl, rfl⟩
    go_wp2_with fail
    go_region_with (refine HC.out.mono ?_; rintro e w2 ⟨rfl, rfl⟩)
    all_goals
      clear HC c0 c4 r4 c0' c4' r4' c5 c5' r5 H57
      go_wp2
      go_ret
      exact ⟨rfl, (Below.refl _ _).drew⟩
  | true =>
    rw [hmo] at HC r4 r5
    simp only [if_true] at HC r4 r5
    have r5' : w.drew.cell? ⟨g2, i, none⟩ = some (.pointer (some ⟨m.b, 0, none⟩)) := r5
    go_enter Try.func42, Try.ntmps42
    go_wp2_with fail
    refine H57.out.mono ?_
    rintro e w1 ⟨rfl, rfl⟩
    go_wp2_with fail
    go_region_with (refine HC.out.mono ?_; rintro e w2 ⟨rfl, rfl⟩)
    all_goals
      clear HC c0 c4 r4 c0' c4' r5' c5 c5' r5 H57
      go_wp2
      go_ret
      exact ⟨rfl, (Below.refl _ _).drew⟩
set_option maxRecDepth 100000 in
set_option maxHeartbeats 4000000 in
/-- the moments of a machine -/
theorem times_is (i : Nat) (m : Mr) (h : Tb B s Db P E w) (hm : s.MP[i]? = some m) (hc : s.vc[i]? = some m.pc) (ho : s.vo[i]? = some m.po) (hs : m.ts.length ≤ 17592186043904) :
    Calls Try.prog 45 #[.pointer (some ⟨s.t, 0, none⟩), .int .i64 (i : Int)] w fun e w' => ∃ ro rc, e = .returned (.slice ro m.ts.length rc) ∧ Ints w' ro m.ts ∧ Below w.heap.size w w' := by
  have h3 : (i : Int) < (s.vc.length : Int) := by have := idx hc; omega
  have h4 : (i : Int) < (s.vo.length : Int) := by have := idx ho; omega
  obtain ⟨g, eg, r4, _⟩ := at_row h.hc (k := i) hc
  obtain ⟨g2, eg2, r5, _⟩ := at_row h.ho (k := i) ho
  have c4 : w.cell? ⟨s.t, 4, none⟩ = some (.slice (some ⟨g, 0, none⟩) s.vc.length s.rc.c) := by rw [← eg]; exact h.c 4
  have c5 : w.cell? ⟨s.t, 5, none⟩ = some (.slice (some ⟨g2, 0, none⟩) s.vo.length s.ro.c) := by rw [← eg2]; exact h.c 5
  have hp := h.pm i m hm
  clear h hc ho eg eg2 hm
  generalize s.vc.length = nc at *
  generalize s.vo.length = no at *
  unfold Mr.pc at r4
  unfold Mr.po at r5
  unfold ptr at r4 r5
  rcases hp with ⟨e, hp⟩ | ⟨e, hp, _⟩
  · rw [e] at r4 r5
    simp only [if_true] at r4 r5
    obtain ⟨ao, cap, k, _⟩ := hp
    have d1 := k.c1
    have K := hide' (Ints.of_row k.row)
    clear k
    go_enter Try.func45, Try.ntmps45
    go_wp2
    go_ret
    exact ⟨_, _, rfl, K.out, Below.refl _ _⟩
  · rw [e] at r4 r5
    simp only [Bool.false_eq_true, if_false] at r4 r5
    have HC := hide' (C.times_any hp hs)
    clear hp
    go_enter Try.func45, Try.ntmps45
    go_wp2_with fail
    refine HC.out.mono ?_
    rintro e w1 ⟨ro, rc, rfl, k1, k2⟩
    have K := hide' (And.intro (Ints.of_row k1) k2)
    clear k1 k2
    go_wp2
    go_ret
    exact ⟨_, _, rfl, K.out.1, K.out.2⟩
end Q
end Go.Proofs.Ytjhnlmedmpcgoaa
