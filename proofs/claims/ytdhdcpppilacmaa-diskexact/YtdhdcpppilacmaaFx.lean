import Derived.Test.YtdhdcpppilacmaaOp
set_option linter.unusedVariables false
set_option linter.unusedSimpArgs false
namespace Go.Proofs.Ytdhdcpppilacmaa
open Go.RowKit
namespace K
open M
variable {B b s cap : Nat} {room : Int} {l : List UInt8} {ao : Option Addr} {w w' : World}
set_option maxRecDepth 100000 in
set_option maxHeartbeats 1000000 in
theorem fixed_any (w : World) : Calls Try.prog 6 #[] w fun e w' => e = .returned (.bool true) ∧ Below w.heap.size w w' := by
  have C1 := hide' (open_ok (room := 5) [97, 98] w (by decide) (by decide))
  go_enter Try.func6, Try.ntmps6
  go_wp2_with fail
  refine C1.out.mono ?_
  rintro e w1 ⟨b, rfl, H1⟩
  obtain ⟨ao, cap, d1, b1⟩ := H1.out
  have C2 := hide' (append_ok d1 [99, 100] (by decide) b1.size)
  have HB := hide' b1
  have hB : Hid (w.heap.size ≤ b ∧ ∀ j, DB b ao j → w.heap.size ≤ j) := hide' ⟨d1.hb, fun j hj => (d1.in hj).1⟩
  clear d1 b1 H1 C1
  go_wp2_with fail
  refine C2.out.mono ?_
  rintro e w2 ⟨rfl, ao2, cap2, d2, t2, p2⟩
  have HB2 := hide' (HB.out.trans (t2.below hB.out.2 HB.out.size))
  have D2 := hide' d2
  have C3 := hide' (safe_any d2)
  have C4 : Hid (Calls Try.prog 10 #[.pointer (some ⟨b, 0, none⟩)] w2 fun e w' => e = .returned (.string ⟨#[97, 98, 99, 100]⟩) ∧ w' = w2) := hide' (bytes_any d2)
  have C5 : Hid (Calls Try.prog 14 #[.pointer (some ⟨b, 0, none⟩), .int .i64 1] w2 fun e w' => e = .returned (.string ⟨#[97, 98, 99]⟩) ∧ Below w2.heap.size w2 w') := hide' (cut_any d2 1)
  have C6 : Hid (∀ w3, Below w2.heap.size w2 w3 → Calls Try.prog 14 #[.pointer (some ⟨b, 0, none⟩), .int .i64 0] w3 fun e w' => e = .returned (.string ⟨#[97, 98]⟩) ∧ Below w3.heap.size w3 w') := hide' (fun w3 b3 => cut_any (D2.out.below b3) 0)
  clear d2 t2 p2 C2 HB hB
  go_wp2_with fail
  refine C3.out.mono ?_
  rintro e w3 ⟨rfl, rfl⟩
  go_wp2_with fail
  refine C4.out.mono ?_
  rintro e w3 ⟨rfl, rfl⟩
  go_wp2_with fail
  refine C5.out.mono ?_
  rintro e w3 ⟨rfl, b3⟩
  have C7 := hide' (C6.out _ b3)
  have HB3 := hide' (HB2.out.trans (b3.mono HB2.out.size))
  clear b3 C6 HB2 C3 C4 C5
  go_wp2_with fail
  refine C7.out.mono ?_
  rintro e w4 ⟨rfl, b4⟩
  have HB4 := hide' (HB3.out.trans (b4.mono HB3.out.size))
  clear b4 C7 HB3
  go_wp2
  go_ret
  exact ⟨rfl, HB4.out⟩
end K
end Go.Proofs.Ytdhdcpppilacmaa
