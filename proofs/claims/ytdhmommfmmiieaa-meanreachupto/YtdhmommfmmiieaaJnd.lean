import Derived.Test.YtdhmommfmmiieaaApa
set_option linter.unusedVariables false
set_option linter.unusedSimpArgs false
namespace Go.Proofs.Ytdhmommfmmiieaa
open Go.RowKit Go.Maps
namespace U
set_option maxRecDepth 100000 in
set_option maxHeartbeats 4000000 in
/-- two lists of pairs, one behind the other, in a row of their own -/
theorem joined_any (x y : P3) (w : World) (hx : Ok3 Q.Ints x w) (hy : Ok3 Q.Ints y w) (hl : x.2.2.length + y.2.2.length ≤ 1048576) :
    Calls Try.prog 41 #[.slice x.1 x.2.2.length x.2.1, .slice y.1 y.2.2.length y.2.1] w fun e w' => ∃ o c, e = .returned (.slice o (x.2.2.length + y.2.2.length) c) ∧ Q.RowI w.heap.size o c (x.2.2 ++ y.2.2) w' ∧ Below w.heap.size w w' := by
  have HX := hide' hx
  have HY := hide' hy
  have HL := hide' hl
  clear hx hy hl
  go_enter Try.func41, Try.ntmps41
  go_wp2_with (at_builtin; refine stay_app _ _ _ rfl ?_)
  unfold Stay
  refine Q.wpList_appS _ (by rfl) _ _ rfl w.heap.size x.1 x.2.1 x.2.2 rfl rfl HX.out.1 HX.out.2.2 (by have := HL.out; show _ < _; omega) (Nat.le_refl _) ?_
  intro o1 c1 w1 r1 b1
  have E1 := hide' (And.intro r1 b1)
  clear r1 b1
  go_wp2_with (at_builtin; refine stay_app _ _ _ rfl ?_)
  unfold Stay
  refine G.wpList_appR (by rfl) (fun K hK => ?_)
  refine G.wp_appR _ _ 30 98 2 32 _ (by rfl) Try.underlying30 G.info98 rfl (by decide) (by decide) w.heap.size o1 c1 x.2.2.length (x.2.2.map Q.cells) (List.length_map _) (by rfl) (Q.RowI.g.1 E1.out.1) y.1 y.2.1 y.2.2.length (y.2.2.map Q.cells) (List.length_map _) (by rfl) (HY.out.1.below E1.out.2).lies (fun k hk => by obtain ⟨R, hR, rfl⟩ := List.mem_map.1 hk; rfl) (fun k hk u hu => by obtain ⟨R, hR, rfl⟩ := List.mem_map.1 hk; unfold Q.cells at hu; simp only [List.mem_cons, List.mem_nil_iff, or_false] at hu; rcases hu with rfl | rfl <;> rfl) HY.out.2.2 (by have := HL.out; omega) E1.out.2.size ?_
  intro o2 c2 w2 r2 t2
  refine hK _ _ ?_
  clear hK K
  have E2 : Hid (Q.RowI w.heap.size o2 c2 (x.2.2 ++ y.2.2) w2 ∧ Below w.heap.size w w2) := ⟨Q.RowI.g.2 (by rw [List.map_append]; exact r2), E1.out.2.trans (below_own t2 (fun j q => (E1.out.1.lt j q).1) E1.out.2.size)⟩
  clear r2 t2 E1
  go_wp2_with fail
  go_ret
  exact ⟨o2, c2, rfl, E2.out.1, E2.out.2⟩
end U
end Go.Proofs.Ytdhmommfmmiieaa
