import Derived.Test.YtnpbbejclkphgaaPlA
import Derived.Test.YtnpbbejclkphgaaChsP
import Derived.OwnWalk
import Derived.Deep.AppendLies
set_option linter.unusedVariables false
set_option linter.unusedSimpArgs false
namespace Go.Proofs.Ytnpbbejclkphgaa
open Go.RowKit
theorem info32 : (Try.prog.info? 32).map (fun i => (i.zero, i.size, i.bytes)) = some (some (.agg #[.string ByteArray.empty, .int .i64 0, .int .i64 0, .int .i64 0]), 4, 40) := by kernel_rfl
theorem four_new (w : World) (x y z u' : Value) (t : TypeId) : ∀ j u, [x, y, z, u'][j]? = some u → (w.alloc (.cells #[x, y, z, u'] t)).cell? ((⟨w.heap.size, 0, none⟩ : Addr).add j) = some u := by
  intro j u hj
  exact World.news_of_block (heap_alloc_new w (.cells #[x, y, z, u'] t)) j u (by simpa using hj)

set_option maxRecDepth 100000 in
set_option maxHeartbeats 1000000 in
theorem chars_any (s : ByteArray) (w : World) (hs : s.size ≤ 1048576) :
    Calls Try.prog 8 #[.string s] w fun e w' => ∃ v, e = .returned v ∧ w'.ownsRow w.heap.size 32 4 v (L.chars s).length ((L.chars s).flatMap L.Ch.cells) ∧ Below w.heap.size w w' := by
  obtain ⟨i0, hi, hz0, hz1, hz2⟩ := info_parts info32
  obtain ⟨B, hB⟩ : ∃ B, w.heap.size = B := ⟨_, rfl⟩
  go_enter Try.func8, Try.ntmps8
  go_wp2
  go_loopw [3, 4, 5, 6] (fun v l c a wx => ∃ (pos g : Nat) (m : Int × Int) (acc : List L.Ch), l = .int .i64 m.1 ∧ c = .int .i64 m.2 ∧ a = .int .i64 (pos : Int) ∧ wx.ownsRow B 32 4 v acc.length (acc.flatMap L.Ch.cells) ∧ Below B w wx ∧ acc ++ L.chs s g pos m = L.chars s ∧ s.size ≤ pos + g ∧ pos ≤ s.size ∧ acc.length ≤ pos ∧ (0 ≤ m.1 ∧ m.1 ≤ pos + 1) ∧ (0 ≤ m.2 ∧ m.2 ≤ pos + 1)) (fun _ _ _ a _ => s.size - (intOf a).toNat)
  case atStart => exact ⟨0, s.size, (1, 1), [], rfl, rfl, rfl, World.ownsRow_nil _ _ _ _, Below.refl _ _, rfl, by omega, by omega, by simp, by simp, by simp⟩
  case round =>
    obtain ⟨pos, g, ⟨m1, m2⟩, acc, rfl, rfl, rfl, hrow, bel, hacc, hg, hp, hal, b1, b2⟩ := hrel
    have Hacc := hide' hacc
    clear hacc
    by_cases hps : pos < s.size
    · have e1 : decide ((pos : Int) < (s.size : Int)) = true := by simpa using hps
      have hwp := L.wd_pos s pos
      have hwi := L.wd_in s pos hps
      have Hrow := hide' hrow
      have n1 : Hid (acc.length + 1 ≤ maxLen) := (show acc.length + 1 ≤ maxLen by unfold maxLen; omega)
      have n2 : Hid ((acc.length + 1) * 40 ≤ 140737488355328) := (show (acc.length + 1) * 40 ≤ 140737488355328 by omega)
      have hBw : Hid (B ≤ wr.heap.size) := (show B ≤ wr.heap.size by rw [← hB]; exact bel.size)
      clear hrow
      cases h10 : decide (L.bt s pos = 10)
      · have e2 : ((L.bt s pos : Int) == 10) = false := by simp at h10 ⊢; omega
        have hat := bt_at s pos hps
        have hnx : Hid (L.nxt (m1, m2) (L.rn s pos) = (m1, m2 + 1)) := by
          have : ¬ L.rn s pos = 10 := fun h => by have := (L.rn_ten s pos).1 h; simp [this] at h10
          show _ = _
          simp [L.nxt, this]
        clear h10
        go_wp2_with (first | (go_at_call 9; refine (size_any _ _ _ hs hps).mono ?_; rintro e w1 ⟨⟨bb, rfl⟩, hw1⟩; replace hw1 := hw1.symm; subst hw1) | (at_builtin; refine wpList_append_lies _ rfl _ _ 29 rfl B 32 i0 _ 4 40 Try.underlying29 hi hz0 hz1 hz2 rfl (by decide) _ acc.length (acc.flatMap L.Ch.cells) rfl (Hrow.out.alloc _) ⟨wr.heap.size, 0, none⟩ 1 1 [.string (s.extract pos (pos + L.wd s pos)), .int .i64 m1, .int .i64 m2, .int .i64 pos] rfl rfl (four_new _ _ _ _ _ _) (by simp [Value.oneCell']) (by decide) n1.out n2.out (by have := hBw.out; simp; omega) (wr.heap.size + 1) (by simp) ?_; intro gg rc w3 hrow3 hgrow3 hat3 hlt3; have Hr3 := hide' (And.intro hrow3 hgrow3); clear hrow3 hgrow3))
        have hgr : (wr.alloc (.cells #[.string (s.extract pos (pos + L.wd s pos)), .int .i64 m1, .int .i64 m2, .int .i64 pos] 32)).grownBy w3 u3.ownBlock := Hr3.out.2
        have hrw := Hr3.out.1
        obtain ⟨g', q1, q2⟩ := L.chs_on s g pos (m1, m2) hg hps
        have hbl : Below B w w3 := (bel.alloc hBw.out _).grown hgr (by have := hBw.out; simp; omega) (fun k hk => (Hrow.out.lt k hk).1)
        refine ⟨⟨pos + L.wd s pos, g', (m1, m2 + 1), acc ++ [⟨s.extract pos (pos + L.wd s pos), m1, m2, pos⟩], rfl, rfl, by simp, ?_, hbl, ?_, q2, hwi, by simp; omega, ?_, ?_⟩, by simp [intOf]; omega⟩
        · rw [List.length_append, List.flatMap_append]; simpa [L.Ch.cells] using hrw
        · rw [List.append_assoc, ← Hacc.out, q1, hnx.out]; rfl
        · simp; omega
        · simp; omega
      · have e2 : ((L.bt s pos : Int) == 10) = true := by simp at h10 ⊢; omega
        have hat := bt_at s pos hps
        have hnx : Hid (L.nxt (m1, m2) (L.rn s pos) = (m1 + 1, 1)) := by
          have : L.rn s pos = 10 := (L.rn_ten s pos).2 (by simpa using h10)
          show _ = _
          simp [L.nxt, this]
        clear h10
        go_wp2_with (first | (go_at_call 9; refine (size_any _ _ _ hs hps).mono ?_; rintro e w1 ⟨⟨bb, rfl⟩, hw1⟩; replace hw1 := hw1.symm; subst hw1) | (at_builtin; refine wpList_append_lies _ rfl _ _ 29 rfl B 32 i0 _ 4 40 Try.underlying29 hi hz0 hz1 hz2 rfl (by decide) _ acc.length (acc.flatMap L.Ch.cells) rfl (Hrow.out.alloc _) ⟨wr.heap.size, 0, none⟩ 1 1 [.string (s.extract pos (pos + L.wd s pos)), .int .i64 m1, .int .i64 m2, .int .i64 pos] rfl rfl (four_new _ _ _ _ _ _) (by simp [Value.oneCell']) (by decide) n1.out n2.out (by have := hBw.out; simp; omega) (wr.heap.size + 1) (by simp) ?_; intro gg rc w3 hrow3 hgrow3 hat3 hlt3; have Hr3 := hide' (And.intro hrow3 hgrow3); clear hrow3 hgrow3))
        have hgr : (wr.alloc (.cells #[.string (s.extract pos (pos + L.wd s pos)), .int .i64 m1, .int .i64 m2, .int .i64 pos] 32)).grownBy w3 u3.ownBlock := Hr3.out.2
        have hrw := Hr3.out.1
        obtain ⟨g', q1, q2⟩ := L.chs_on s g pos (m1, m2) hg hps
        have hbl : Below B w w3 := (bel.alloc hBw.out _).grown hgr (by have := hBw.out; simp; omega) (fun k hk => (Hrow.out.lt k hk).1)
        refine ⟨⟨pos + L.wd s pos, g', (m1 + 1, 1), acc ++ [⟨s.extract pos (pos + L.wd s pos), m1, m2, pos⟩], rfl, rfl, by simp, ?_, hbl, ?_, q2, hwi, by simp; omega, ?_, ?_⟩, by simp [intOf]; omega⟩
        · rw [List.length_append, List.flatMap_append]; simpa [L.Ch.cells] using hrw
        · rw [List.append_assoc, ← Hacc.out, q1, hnx.out]; rfl
        · simp; omega
        · simp; omega
    · have e1 : decide ((pos : Int) < (s.size : Int)) = false := by simpa using hps
      have Hrow := hide' hrow
      have n1 : Hid (acc.length + 1 ≤ maxLen) := (show acc.length + 1 ≤ maxLen by unfold maxLen; omega)
      have n2 : Hid ((acc.length + 1) * 40 ≤ 140737488355328) := (show (acc.length + 1) * 40 ≤ 140737488355328 by omega)
      have hBw : Hid (B ≤ wr.heap.size) := (show B ≤ wr.heap.size by rw [← hB]; exact bel.size)
      clear hrow
      go_wp2_with (at_builtin; refine wpList_append_lies _ rfl _ _ 29 rfl B 32 i0 _ 4 40 Try.underlying29 hi hz0 hz1 hz2 rfl (by decide) _ acc.length (acc.flatMap L.Ch.cells) rfl (Hrow.out.alloc _) ⟨wr.heap.size, 0, none⟩ 1 1 [.string ByteArray.empty, .int .i64 m1, .int .i64 m2, .int .i64 pos] rfl rfl (four_new _ _ _ _ _ _) (by simp [Value.oneCell']) (by decide) n1.out n2.out (by have := hBw.out; simp; omega) (wr.heap.size + 1) (by simp) ?_; intro gg rc w3 hrow3 hgrow3 hat3 hlt3; have Hr3 := hide' (And.intro hrow3 hgrow3); clear hrow3 hgrow3)
      have hgr : (wr.alloc (.cells #[.string ByteArray.empty, .int .i64 m1, .int .i64 m2, .int .i64 pos] 32)).grownBy w3 u3.ownBlock := Hr3.out.2
      have hrw := Hr3.out.1
      have hbl : Below B w w3 := (bel.alloc hBw.out _).grown hgr (by have := hBw.out; simp; omega) (fun k hk => (Hrow.out.lt k hk).1)
      go_ret
      refine ⟨_, rfl, ?_, by first | exact hbl | (rw [hB]; exact hbl)⟩
      rw [← Hacc.out, L.chs_end s g pos (m1, m2) hps, List.length_append, List.flatMap_append]
      simpa [L.Ch.cells] using hrw
end Go.Proofs.Ytnpbbejclkphgaa
