import Derived.Test.YtagdgbbomohooaaGreatDoorFirstW
set_option linter.unusedVariables false
set_option linter.unusedSimpArgs false
namespace Go.Proofs.YtagdgbbomohooaaGreatDoor
open Go.RowKit
set_option maxHeartbeats 800000 in
set_option maxRecDepth 100000 in
theorem first_some (s m : ByteArray) (w : World) (hg : w.cell? ⟨0, 0, none⟩ = some (ty 29)) (h : s.size + 1 + m.size ≤ 65536) (ts ts' : List Tkn) (k l c : Int) (word : ByteArray) (hk : k ≠ 0) (hP : L.scn s = (ts, some (k, l, c, word))) (hQ : L.scn (s ++ ⟨#[10]⟩ ++ m) = (ts', some (k, l, c, word))) :
    Calls Tryz.prog 5 #[.string s, .string m] w fun e w' => e = .returned (.bool true) ∧ Below w.heap.size w w' := by
  have HA := hide' fun w => alive_any w
  have HT := hide' fun fb k l c word w a b => told_flt fb k l c word w a b
  have HS := hide' fun w => scan_fun s w (by omega)
  have HR := hide' fun w => scan_fun (s ++ ⟨#[10]⟩ ++ m) w (by simp only [ByteArray.size_append]; change s.size + 1 + m.size ≤ 65536; exact h)
  have HG := hide' hg
  clear hg
  rw [hP] at HS
  rw [hQ] at HR
  unfold ScanIs at HS HR
  clear hP hQ
  go_enter Tryz.func5, Tryz.ntmps5
  go_wp2_with (first | (go_at_call 15; refine (HA.out _).mono ?_; rintro e w1 ⟨rfl, b1⟩; have G1 := hide' (below_keeps b1 HG.out)) | (go_at_call 9; first | (have G4 := hide' ((World.cell?_alloc_lt w3 (.cells #[.int .i64 k, .int .i64 l, .int .i64 c, .string word] 25) _ (lt_of_cell G3.out)).trans G3.out); refine (HR.out _).mono ?_; rintro e w4 ⟨⟨fb', rfl, hfb', hflt'⟩, b4⟩; replace G4 := hide' (below_keeps b4 G4.out); have F4 := hide' hflt'; clear hflt'; have T4 := hide' ((Tk.of_cells (heap_alloc_new w3 _)).below b4)) | (refine (HS.out _).mono ?_; rintro e w2 ⟨⟨fb, rfl, hfb, hflt⟩, b2⟩; have G2 := hide' (below_keeps b2 G1.out); have F2 := hide' hflt; clear hflt)) | (go_at_call 10; first | (have F5 := F4.out; refine (HT.out _ _ _ _ _ _ F5 G4.out).mono ?_; clear F5; rintro e w5 ⟨rfl, b5⟩; have T5 := T4.out.below b5; have T6 := T5.of_block (Below.heap_alloc w5 (.cells #[.int .i64 k, .int .i64 l, .int .i64 c, .string word] 25) _ (lt_of_cell T5.c0)); have c0 := T6.c0; have c1 := T6.c1; have c2 := T6.c2; have c3 := T6.c3; clear T5 T6) | (refine (HT.out _ _ _ _ _ _ F2.out G2.out).mono ?_; rintro e w3 ⟨rfl, b3⟩; have G3 := hide' (below_keeps b3 G2.out))))
  go_ret
  have s1 := b1.size
  have s2 := b2.size
  have s3 := b3.size
  have s4 := b4.size
  have s5 := b5.size
  simp at s4
  have B3 : Below w.heap.size w (w3.alloc (.cells #[.int .i64 k, .int .i64 l, .int .i64 c, .string word] 25)) := ((b1.trans (b2.mono s1)).trans (b3.mono (Nat.le_trans s1 s2))).alloc (by omega) _
  exact ⟨rfl, ((B3.trans (b4.mono B3.size)).trans (b5.mono (by omega))).alloc (by omega) _⟩
end Go.Proofs.YtagdgbbomohooaaGreatDoor
