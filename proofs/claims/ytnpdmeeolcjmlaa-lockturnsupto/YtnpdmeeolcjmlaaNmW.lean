import Derived.Test.YtnpdmeeolcjmlaaLcn
set_option linter.unusedVariables false
set_option linter.unusedSimpArgs false
namespace Go.Proofs.Ytnpdmeeolcjmlaa
open Go.RowKit
namespace M
theorem WTo.below {D : Nat → Prop} {B x b l : Nat} {ws ws' : List Int} {tr tr' : List Ac} {bad bad' : Nat} {t' : Int} {has' ho' : Bool} {w w' w0 : World} {B0 : Nat} (k : WTo D B x b l ws' tr' bad' t' has' ho' w w') (h : Mem D B x ws tr bad w) (bl : Below B0 w0 w) (h1 : B0 ≤ B) (h2 : B0 ≤ b) : Below B0 w0 w' := by
  obtain ⟨D', hm, hwt, tu, s⟩ := k
  refine bl.trans (tu.below (fun j hj => ?_) (Nat.le_trans h1 h.base))
  rcases hj with q | q
  · exact Nat.le_trans h1 (h.lo q).1
  · omega
theorem WTo.lk {D : Nat → Prop} {B x b l l' nx sv : Nat} {ws ws' : List Int} {tr tr' : List Ac} {bad bad' : Nat} {t t' : Int} {has ho has' ho' : Bool} {w w' : World} (k : WTo D B x b l ws' tr' bad' t' has' ho' w w') (h : Mem D B x ws tr bad w) (hw : Wt b l t has ho w) (hk : Lk l' x nx sv w) : Lk l' x nx sv w' := by
  obtain ⟨D', hm, hwt, tu, s⟩ := k
  refine hk.kept tu (fun q => ?_)
  rcases q with q | q
  · exact hk.nd h q
  · exact cells_ne hk hw (by decide) q
set_option maxRecDepth 100000 in
set_option maxHeartbeats 1000000 in
theorem names_walk (w : World) : Calls Try.prog 3 #[] w fun e w' => e = .returned (.bool true) ∧ Below w.heap.size w w' := by
  have H1 := hide' (new_any 2 w (by omega) (by omega) 2 rfl)
  go_enter Try.func3, Try.ntmps3
  go_wp2_with fail
  refine H1.out.mono ?_
  rintro e w1 ⟨x, rfl, D, h1, b1⟩
  clear H1
  have H2 : Hid (Calls Try.prog 9 #[.pointer (some ⟨x, 0, none⟩), .int .i64 0, .int .i64 1] w1 fun e w' => e = .returned (.tuple #[.pointer (some ⟨w1.heap.size, 0, none⟩), .int .i64 0]) ∧ w' = w1.alloc (.cells #[.pointer (some ⟨x, 0, none⟩), .int .i64 ((0 : Nat) : Int), .int .i64 ((1 : Nat) : Int)] 71)) := hide' (lnew_ok 0 1 h1 (by decide) (by decide) (by decide))
  go_wp2_with fail
  refine H2.out.mono ?_
  rintro e w2 ⟨rfl, hw2⟩
  have hk : Lk w1.heap.size x 0 1 w2 := by rw [hw2]; exact lnew_lk x 0 1 w1
  have h2 : Mem D w.heap.size x [0, 0] [] 0 w2 := by rw [hw2]; exact h1.below ((Below.refl _ _).alloc (Nat.le_refl _) _)
  have b2 : Below w.heap.size w w2 := by rw [hw2]; exact b1.alloc b1.size _
  generalize w1.heap.size = l at *
  clear H2 hw2 h1 b1
  have H3 := hide' (wait_new l w2)
  go_wp2_with fail
  refine H3.out.mono ?_
  rintro e w3 ⟨rfl, hw3⟩
  have hw : Wt w2.heap.size l (-1) false false w3 := by rw [hw3]; exact wait_wt l w2
  have hk3 : Lk l x 0 1 w3 := by rw [hw3]; exact hk.below ((Below.refl _ _).alloc (Nat.le_refl _) _)
  have h3 : Mem D w.heap.size x [0, 0] [] 0 w3 := by rw [hw3]; exact h2.below ((Below.refl _ _).alloc (Nat.le_refl _) _)
  have b3 : Below w.heap.size w w3 := by rw [hw3]; exact b2.alloc b2.size _
  have hb := b2.size
  generalize w2.heap.size = b at *
  clear H3 hw3 hk h2 b2
  have H4 := hide' (step_any h3 hk3 hw (fun _ => rfl) (by decide))
  rw [show wO [0, 0] 1 (-1) false false = false by kernel_rfl, show wM [0, 0] 0 false = [1, 0] by kernel_rfl, show wT [0, 0] 0 (-1) false = 0 by kernel_rfl, show wH [0, 0] 0 false = true by kernel_rfl] at H4
  have Hx := hide' (And.intro h3 (And.intro hk3 (And.intro hw (And.intro b3 hb))))
  clear h3 hk3 hw b3 hb
  go_wp2_with fail
  refine H4.out.mono ?_
  rintro e w4 ⟨rfl, K⟩
  obtain ⟨h3, hk3, hw, b3, hb⟩ := Hx.out
  have b4 := K.below h3 b3 (Nat.le_refl _) hb
  have hk4 := K.lk h3 hw hk3
  obtain ⟨D4, h4, hw4, _, _⟩ := K
  have H5 := hide' (step_any h4 hk4 hw4 (fun q => by cases q) (by decide))
  rw [show wO [1, 0] 1 0 true false = true by kernel_rfl, show wT [1, 0] 0 0 true = 0 by kernel_rfl, show wH [1, 0] 0 true = true by kernel_rfl] at H5
  have Hy := hide' (And.intro h4 (And.intro b4 hb))
  clear H4 h3 hk3 hw b3 hb Hx b4 hk4 h4 hw4
  go_wp2_with fail
  refine H5.out.mono ?_
  rintro e w5 ⟨rfl, K⟩
  obtain ⟨h4, b4, hb⟩ := Hy.out
  have b5 := hide' (K.below h4 b4 (Nat.le_refl _) hb)
  obtain ⟨D5, h5, hw5, _, _⟩ := K
  have H6 := hide' (ticket_any hw5)
  clear H5 h4 b4 hb Hy h5 hw5
  go_wp2_with fail
  refine H6.out.mono ?_
  rintro e w6 ⟨rfl, rfl⟩
  go_wp2
  go_ret
  exact ⟨rfl, b5.out⟩
end M
end Go.Proofs.Ytnpdmeeolcjmlaa
