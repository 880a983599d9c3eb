import Derived.Test.YtbgjggblaeadlaaRpt
set_option linter.unusedVariables false
set_option linter.unusedSimpArgs false
namespace Go.Proofs.Ytbgjggblaeadlaa
open Go.RowKit
namespace C
set_option maxRecDepth 100000 in
set_option maxHeartbeats 600000 in
theorem repeat_zero (x : Int) (xb : Nat) (w : World) :
    Calls Try.prog 46 #[.slice (some ⟨xb, 0, none⟩) 1 1, .int .i64 0] w fun e w' => ∃ g, e = .returned (.slice (some ⟨g, 0, none⟩) 0 0) ∧ w'.ownsRow w.heap.size 3 1 (.slice (some ⟨g, 0, none⟩) 0 0) 0 [] ∧ Below w.heap.size w w' := by
  have HM := hide' (mul_any 0 (by omega))
  go_enter Try.func46, Try.ntmps46
  go_wp2_with fail
  refine (HM.out w).mono ?_
  rintro e w1 ⟨rfl, rfl⟩
  obtain ⟨i0, hi, hz0, hz1, hz2⟩ := info_parts info3
  have hsz1 : (Try.prog.info? 3).map (·.size) = some 1 := by rw [hi]; simp [hz1]
  have Hi := hide' (And.intro hi (And.intro hz0 (And.intro hz1 (And.intro hz2 hsz1))))
  clear hi hz0 hz1 hz2 hsz1
  rename World => w
  have hbl : Hid (∀ v : World, w.grownBy v none → Below w.heap.size w v) := fun v g => ⟨g.os, g.tape, g.output, g.size, fun k hk => g.block k hk (by simp)⟩
  go_wp2_with (first | (have G := E2; (refine wpList_copy_nothing rfl _ _ 23 23 rfl 3 Try.underlying23 Hi.out.2.2.2.2 _ _ _ _ _ _ rfl rfl rfl ?_; have G2 := E2)) | (at_make; refine wpList_make_full _ rfl _ _ 23 rfl w.heap.size 3 i0 (.int .i64 0) 1 Try.underlying23 Hi.out.1 Hi.out.2.1 Hi.out.2.2.1 _ _ _ _ 0 rfl rfl rfl rfl (by rw [Hi.out.2.2.2.1]; omega) (by unfold maxLen; omega) (Nat.le_refl _) ?_; intro w2 r2 hg2; have E2 := hide' (And.intro r2 (hbl.out _ hg2)); clear r2 hg2))
  go_loopw [8] (fun i wx => i = .int .i64 0 ∧ wx = w2) (fun i _ => 0)
  case atStart => exact ⟨rfl, rfl⟩
  case round =>
    obtain ⟨rfl, rfl⟩ := hrel
    go_wp2_with fail
    go_ret
    exact ⟨_, rfl, by simpa [madeCells] using E2.out.1, E2.out.2⟩
/-- slices.Repeat of one number -/
theorem repeat_any (x : Int) (xb n : Nat) (w : World) (hx : w.cell? ⟨xb, 0, none⟩ = some (.int .i64 x)) (hb : n ≤ 17592186044000) :
    Calls Try.prog 46 #[.slice (some ⟨xb, 0, none⟩) 1 1, .int .i64 (n : Int)] w fun e w' => ∃ g, e = .returned (.slice (some ⟨g, 0, none⟩) n n) ∧ w'.ownsRow w.heap.size 3 1 (.slice (some ⟨g, 0, none⟩) n n) n (ivs (List.replicate n x)) ∧ Below w.heap.size w w' := by
  by_cases h0 : n = 0
  · subst h0
    exact repeat_zero x xb w
  · exact repeat_some x xb n w hx (World.block_lt_of_cell? w _ hx) (by omega) hb
end C
end Go.Proofs.Ytbgjggblaeadlaa
