import Derived.Test.YtagdgbbomohooaaGreatDoorAliveZ
import Derived.Test.YtagdgbbomohooaaGreatDoorToldW
set_option linter.unusedVariables false
set_option linter.unusedSimpArgs false
namespace Go.Proofs.YtagdgbbomohooaaGreatDoor
open Go.RowKit
theorem below_cell {w W : World} {B : Nat} (b : Below B w W) {p : Addr} {v : Value} (hp : p.block < B) (h : w.cell? p = some v) : W.cell? p = some v := (b.cell hp).trans h
set_option maxHeartbeats 4000000 in
set_option maxRecDepth 100000 in
theorem first_long (s m : ByteArray) (w : World) (hs : s.size ≤ 140737488355328) (hm : m.size ≤ 140737488355328) (h : 65536 < s.size + 1 + m.size) :
    Calls Tryz.prog 5 #[.string s, .string m] w fun e w' => e = .returned (.bool true) ∧ Below w.heap.size w w' := by
  have HA := hide' fun w => alive_any w
  go_enter Tryz.func5, Tryz.ntmps5
  go_wp2_with (go_at_call 15; refine (HA.out _).mono ?_; rintro e w1 ⟨rfl, b1⟩)
  go_ret
  exact ⟨rfl, b1⟩
set_option maxHeartbeats 4000000 in
set_option maxRecDepth 100000 in
theorem first_none (s m : ByteArray) (w : World) (h : s.size + 1 + m.size ≤ 65536) (ts : List Tkn) (hP : L.scn s = (ts, none)) :
    Calls Tryz.prog 5 #[.string s, .string m] w fun e w' => e = .returned (.bool true) ∧ Below w.heap.size w w' := by
  have HA := hide' fun w => alive_any w
  have HT := hide' fun w => told_nil w
  have HS := hide' fun w => scan_fun s w (by omega)
  rw [hP] at HS
  unfold ScanIs at HS
  unfold zfault at HT
  go_enter Tryz.func5, Tryz.ntmps5
  go_wp2_with (first | (go_at_call 15; refine (HA.out _).mono ?_; rintro e w1 ⟨rfl, b1⟩) | (go_at_call 9; refine (HS.out _).mono ?_; rintro e w2 ⟨⟨sv, rfl, hrow⟩, b2⟩) | (go_at_call 10; refine (HT.out _).mono ?_; rintro e w3 ⟨rfl, b3⟩))
  go_ret
  exact ⟨rfl, by
    have s1 := b1.size; have s2 := b2.size; have s3 := b3.size
    exact ((b1.trans (b2.mono s1)).trans (b3.mono (Nat.le_trans s1 s2))).alloc (by omega) _⟩
set_option maxHeartbeats 4000000 in
set_option maxRecDepth 100000 in
theorem first_zero (s m : ByteArray) (w : World) (hg : w.cell? ⟨0, 0, none⟩ = some (ty 29)) (h : s.size + 1 + m.size ≤ 65536) (ts : List Tkn) (l c : Int) (word : ByteArray) (hP : L.scn s = (ts, some (0, l, c, word))) :
    Calls Tryz.prog 5 #[.string s, .string m] w fun e w' => e = .returned (.bool true) ∧ Below w.heap.size w w' := by
  have HA := hide' fun w => alive_any w
  have HT := hide' fun fb k l c word w a b => told_flt fb k l c word w a b
  have HS := hide' fun w => scan_fun s w (by omega)
  have HG := hide' hg
  clear hg
  rw [hP] at HS
  unfold ScanIs at HS
  go_enter Tryz.func5, Tryz.ntmps5
  go_wp2_with (first | (go_at_call 15; refine (HA.out _).mono ?_; rintro e w1 ⟨rfl, b1⟩; have G1 := hide' (below_keeps b1 HG.out)) | (go_at_call 9; refine (HS.out _).mono ?_; rintro e w2 ⟨⟨fb, rfl, hfb, hflt⟩, b2⟩; have G2 := hide' (below_keeps b2 G1.out); have F2 := hide' hflt; clear hflt) | (go_at_call 10; refine (HT.out _ _ _ _ _ _ F2.out G2.out).mono ?_; rintro e w3 ⟨rfl, b3⟩))
  go_ret
  exact ⟨rfl, by
    have s1 := b1.size; have s2 := b2.size; have s3 := b3.size
    exact ((b1.trans (b2.mono s1)).trans (b3.mono (Nat.le_trans s1 s2))).alloc (by omega) _⟩
end Go.Proofs.YtagdgbbomohooaaGreatDoor
