import Derived.Test.YtkipcdjadmocaaaRefM
set_option linter.unusedVariables false
set_option linter.unusedSimpArgs false
namespace Go.Proofs.Ytkipcdjadmocaaa
open Go.RowKit
set_option maxHeartbeats 2000000 in
set_option maxRecDepth 100000 in
theorem rlist_any (m : Nat) (w : World) (hm : m < 65536) : Calls Try.prog 15 #[.int .u16 (m : Nat)] w fun e w' => ∃ ro rc, e = .returned (.slice ro (lst m 16).length rc) ∧ w'.ownsRow w.heap.size 40 1 (.slice ro (lst m 16).length rc) (lst m 16).length (i8s (lst m 16)) ∧ Below w.heap.size w w' := by
  obtain ⟨i0, hi, hz0, hz1, hz2⟩ := info_parts info40
  have Hh' := hide' (fun (i : Nat) (hi : i < 16) w => holds_any m (i : Int) hm w)
  have Hy := hide' (lst_yes m)
  have Hn := hide' (lst_no m)
  have Hl := hide' (lst_len m)
  obtain ⟨C, hC⟩ : ∃ C, w.heap.size = C := ⟨_, rfl⟩
  have HC := hide' hC
  rw [hC]
  clear hC
  go_enter Try.func15, Try.ntmps15
  go_wp2
  go_loopw [3, 4] (fun v i wx => ∃ (k : Nat) (ro : Option Addr) (rc : Nat), k ≤ 16 ∧ i = .int .i64 (k : Int) ∧ v = .slice ro (lst m k).length rc ∧ wx.ownsRow C 40 1 (.slice ro (lst m k).length rc) (lst m k).length (i8s (lst m k)) ∧ Below C w wx) (fun _ i _ => 16 - (intOf i).toNat)
  case atStart => exact ⟨0, none, 0, by omega, rfl, rfl, World.ownsRow_nil _ _ _ _, Below.refl _ _⟩
  case round =>
    obtain ⟨k, ro, rc, hk, rfl, rfl, hrow, bk⟩ := hrel
    have hlen := Hl.out k
    have hsk : C ≤ wr.heap.size := by rw [← HC.out]; exact bk.size
    by_cases hlt : k < 16
    · have hlt' : (k : Int) < 16 := by omega
      have HH := hide' (fun w => Hh'.out k hlt w)
      have hv : holdsB m (k : Int) = m.testBit k := by unfold holdsB; rw [if_pos ⟨by omega, hlt'⟩]; rfl
      rw [hv] at HH
      clear hv
      cases hb : m.testBit k
      · rw [hb] at HH
        have Hl2 := hide' (Hn.out k hb)
        clear hb
        go_wp2_with fail
        refine (HH.out _).mono ?_
        rintro e w1 ⟨rfl, rfl⟩
        go_wp2
        exact ⟨⟨k + 1, ro, rc, by omega, by go_num, by rw [Hl2.out], by rw [Hl2.out]; exact hrow, bk⟩, by simp [intOf]; omega⟩
      · rw [hb] at HH
        have Hl2 := hide' (Hy.out k hb)
        have hw8 : IntKind.i8.wrap (k : Int) = (k : Int) := by simp [IntKind.wrap, IntKind.signed, IntKind.bits]; omega
        have hrB := own_ge hrow
        generalize hL : lst m k = L at *
        clear hb hL
        go_wp2_with fail
        refine (HH.out _).mono ?_
        rintro e w1 ⟨rfl, rfl⟩
        go_wp2_with (first | (at_builtin; refine wpList_append_lies _ rfl _ _ 42 rfl C 40 i0 (.int .i8 0) 1 1 Try.underlying42 hi hz0 hz1 hz2 rfl (by decide) _ _ _ rfl (hrow.alloc _) ⟨w1.heap.size, 0, none⟩ 1 1 [.int .i8 (k : Int)] rfl rfl (cell_one_new _ _ _) (by simp [Value.oneCell']) (by decide) (by unfold maxLen; omega) (by omega) (by simp; omega) (w1.heap.size + 1) (by simp) ?_; intro g3 rc' w3 hrow3 hgrow3 hat3 hlt3))
        have b3 : Below C w w3 := bk.grown ((World.grownBy_alloc w1 _ _).trans hgrow3) hsk hrB
        have hlq : (lst m (k + 1)).length = L.length + 1 := by rw [Hl2.out]; simp
        have hiq : i8s (lst m (k + 1)) = i8s L ++ [.int .i8 (k : Int)] := by rw [Hl2.out]; simp [i8s]
        exact ⟨⟨k + 1, some ⟨g3, 0, none⟩, rc', by omega, by go_num, by rw [hlq], by rw [hlq, hiq]; exact hrow3, b3⟩, by simp [intOf]; omega⟩
    · have hk16 : k = 16 := by omega
      subst hk16
      go_wp2
      go_ret
      exact ⟨ro, rc, rfl, hrow, bk⟩
set_option maxHeartbeats 1000000 in
set_option maxRecDepth 100000 in
/-- two slices of the same numbers -/
theorem sameInts_any (a b : Option Addr) (len ca cb : Nat) (ns : List Int) (w : World) (ha : IsInts w a len ca ns) (hb : IsInts w b len cb ns) : Calls Try.prog 65 #[.slice a len ca, .slice b len cb] w fun e w' => e = .returned (.bool true) ∧ ∃ n, w' = w.drewN n := by
  obtain ⟨a1, a2, a3, a4⟩ := ha
  obtain ⟨b1, b2, b3, b4⟩ := hb
  unfold maxLen at a2 b2
  have Hc : Hid (∀ j, j < len → ∃ x off y offb, a = some ⟨x, off, none⟩ ∧ b = some ⟨y, offb, none⟩ ∧ w.cell? ⟨x, off + j, none⟩ = some (.int .i64 (ns.getD j 0)) ∧ w.cell? ⟨y, offb + j, none⟩ = some (.int .i64 (ns.getD j 0))) := fun j hj => by
    rcases a4 with q | ⟨x, off, rfl, _, hc⟩
    · exfalso; omega
    · rcases b4 with q | ⟨y, offb, rfl, _, hd⟩
      · exfalso; omega
      · exact ⟨x, off, y, offb, rfl, rfl, ⟨hc j hj, hd j hj⟩⟩
  clear a4 b4 a3 b3
  go_enter Try.func65, Try.ntmps65
  go_wp2
  go_loopw [5] (fun i wx => ∃ k n : Nat, k ≤ len ∧ i = .int .i64 (k : Int) ∧ wx = w.drewN n) (fun i _ => len - (intOf i).toNat)
  case atStart => exact ⟨0, 0, by omega, rfl, rfl⟩
  case round =>
    obtain ⟨k, n, hk, rfl, rfl⟩ := hrel
    by_cases hlt : k < len
    · have hlt' : (k : Int) < (len : Int) := by omega
      obtain ⟨x, off, y, offb, rfl, rfl, c1, c2⟩ := Hc.out k hlt
      generalize ns.getD k 0 = z at *
      go_wp2
      go_quiet (fail)
      go_wp2
      exact ⟨⟨k + 1, n + nq, by omega, by go_num, rfl⟩, by simp [intOf]; omega⟩
    · have hkl : k = len := by omega
      subst hkl
      have hlt' : ¬ (k : Int) < (k : Int) := by omega
      go_wp2
      go_ret
      exact ⟨rfl, n, rfl⟩
end Go.Proofs.Ytkipcdjadmocaaa
