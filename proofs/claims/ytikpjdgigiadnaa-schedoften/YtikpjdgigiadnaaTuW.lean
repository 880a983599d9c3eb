import Derived.Test.YtikpjdgigiadnaaTuP
import Derived.Test.YtikpjdgigiadnaaAv
set_option linter.unusedVariables false
set_option linter.unusedSimpArgs false
namespace Go.Proofs.Ytikpjdgigiadnaa
open Go.RowKit
namespace X
open C F
theorem rep_more (k : Nat) : List.replicate k (-1 : Int) ++ [-1] = List.replicate (k + 1) (-1) := by rw [List.replicate_succ']
/-- two rows of one's own -/
structure Rr (w : World) (g : Nat) (ps : List Int) (eo : Option Addr) (ec : Nat) (es : List Int) (X : World) : Prop where
  bel : Below w.heap.size w X
  p : X.ownsRow w.heap.size 3 1 (.slice (some ⟨g, 0, none⟩) ps.length ps.length) ps.length (ivs ps)
  e : X.ownsRow w.heap.size 3 1 (.slice eo es.length ec) es.length (ivs es)
  ne : ¬ At eo g
theorem Rr.below {w : World} {g : Nat} {ps : List Int} {eo : Option Addr} {ec : Nat} {es : List Int} {X X' : World} (h : Rr w g ps eo ec es X) (b : Below X.heap.size X X') : Rr w g ps eo ec es X' :=
  ⟨h.bel.trans (b.mono h.bel.size), (turn_below (S := fun _ => False) b).row h.p (fun _ _ q => q), (turn_below (S := fun _ => False) b).row h.e (fun _ _ q => q), h.ne⟩
set_option maxRecDepth 100000 in
set_option maxHeartbeats 4000000 in
theorem turns_walk (t n k : Int) (w : World) : Calls Try.prog 11 #[.int .i64 t, .int .i64 n, .int .i64 k] w fun e w' => e = .returned (.bool true) ∧ Below w.heap.size w w' := by
  have HA := hide' (alive_any w)
  by_cases hok : rok t n
  · obtain ⟨a1, a2, a3, a4⟩ := hok
    obtain ⟨T, rfl⟩ : ∃ T : Nat, t = (T : Int) := ⟨t.toNat, by omega⟩
    obtain ⟨N, rfl⟩ : ∃ N : Nat, n = (N : Int) := ⟨n.toNat, by omega⟩
    have hR := hide' (fun v => round_some T N v ⟨a1, a2, a3, a4⟩)
    have h1 : ¬ (T : Int) < 1 := by omega
    have h2 : ¬ (T : Int) > 64 := by omega
    have h3 : ¬ (N : Int) < 1 := by omega
    have h4 : ¬ (N : Int) > 1048576 := by omega
    have HT := hide' (show 0 < T ∧ T ≤ 64 ∧ 0 < N ∧ N ≤ 1048576 by omega)
    clear a1 a2 a3 a4
    go_enter Try.func11, Try.ntmps11
    go_wp2_with fail
    refine HA.out.mono ?_
    rintro e w1 ⟨rfl, b1⟩
    go_wp2_with fail
    refine (hR.out w1).mono ?_
    rintro e w2 ⟨g, rfl, r2, b2⟩
    have K2 : Hid (Rr w g (rl T N) none 0 [] w2) := hide' ⟨b1.trans (b2.mono b1.size), by rw [rl_len]; exact row_lower r2 b1.size, World.ownsRow_nil _ _ _ _, fun q => by obtain ⟨a, ha, _⟩ := q; cases ha⟩
    clear b1 b2 r2 hR HA
    go_wp2_with fail
    go_loopw [10, 9] (fun i v wx => ∃ (j : Nat) (eo : Option Addr) (ec : Nat), i = .int .i64 (j : Int) ∧ j ≤ T ∧ v = .slice eo j ec ∧ Rr w g (rl T N) eo ec (List.replicate j (-1)) wx) (fun i _ _ => T - (intOf i).toNat)
    case atStart => exact ⟨0, none, 0, rfl, Nat.zero_le _, rfl, K2.out⟩
    case round =>
      obtain ⟨j, eo, ec, rfl, hj, rfl, hS⟩ := hrel
      have HS := hide' hS
      clear K2
      by_cases hlt : j < T
      · have hlt' : (j : Int) < (T : Int) := by omega
        have e1 : wrap64 ((j : Int) + 1) = (j : Int) + 1 := by have := HT.out; exact wrap_in (by omega) (by omega)
        have Hend := hide' (msr' hlt _ e1)
        have Hj := hide' hlt
        have hrow := hS.e
        have n1 : Hid ((List.replicate j (-1 : Int)).length < 17592186044000) := hide' (by have := HT.out; simp; omega)
        have hlen : (List.replicate j (-1 : Int)).length = j := by simp
        have HLen := hide' hlen
        clear hS hj
        go_wp2_with (at_builtin; refine wpList_num wr rfl _ _ rfl HS.out.e n1 HS.out.bel.size (-1) _ (by rw [HLen.out]; rfl) rfl ?_; intro gg cap' w3 r3 t3 hg3; rw [rep_more] at r3; have K3 : Hid (Rr w g (rl T N) (some ⟨gg, 0, none⟩) cap' (List.replicate (j + 1) (-1)) w3) := hide' ⟨HS.out.bel.trans (t3.below (fun i q => (HS.out.e.lt i (at_own q)).1) HS.out.bel.size), t3.row HS.out.p (fun i hi q => HS.out.ne (by have : g = i := (by simpa [Value.ownBlock] using hi); rw [this]; exact q)), r3, fun q => by obtain ⟨a, ha, e⟩ := q; cases ha; rcases hg3 with q | q; exact HS.out.ne (by rw [e]; exact q); have := (HS.out.p.lt g rfl).2; simp at e; omega⟩; clear r3 t3 hg3; rw [HLen.out])
        exact ⟨⟨j + 1, _, _, by first | rfl | (rw [e1]; rfl), Hj.out, rfl, K3.out⟩, by first | exact Hend.out | (rw [← e1]; exact Hend.out)⟩
      · obtain rfl : j = T := by omega
        clear hS hj hlt
        go_wp2_with fail
        refine (which_any k N HT.out.2.2.1 (by have := HT.out; omega) wr).mono ?_
        rintro e w4 ⟨at', rfl, hat, rfl⟩
        have C1 : Hid (∀ X, Rr w g (rl j N) eo ec (List.replicate j (-1)) X → Calls Try.prog 28 #[.slice (some ⟨g, 0, none⟩) N N, .slice eo j ec, .int .i64 (j : Int)] X fun e X' => e = .returned (.bool true) ∧ Rr w g (rl j N) eo ec (List.replicate j (-1)) X') := hide' (fun X h => by
          have c := fair_any (some ⟨g, 0, none⟩) N (rl j N) eo ec (List.replicate j (-1)) (j : Int) X (Ints.of_row h.p) (Ints.of_row h.e) (by rw [rl_len]; have := HT.out; omega) (by rw [List.length_replicate]; have := HT.out; omega)
          rw [rl_len, List.length_replicate, fr_true (turn_fair j N HT.out.1)] at c
          exact c.mono fun e X' ⟨h1, h2⟩ => ⟨h1, h.below h2⟩)
        have C2 : Hid (j ≤ N → ∀ X, Rr w g (rl j N) eo ec (List.replicate j (-1)) X → Calls Try.prog 28 #[.slice (some ⟨g, 0, none⟩) N N, .slice eo j ec, .int .i64 ((j : Int) - 1)] X fun e X' => e = .returned (.bool false) ∧ Rr w g (rl j N) eo ec (List.replicate j (-1)) X') := hide' (fun hjN X h => by
          have c := fair_any (some ⟨g, 0, none⟩) N (rl j N) eo ec (List.replicate j (-1)) ((j : Int) - 1) X (Ints.of_row h.p) (Ints.of_row h.e) (by rw [rl_len]; have := HT.out; omega) (by rw [List.length_replicate]; have := HT.out; omega)
          rw [rl_len, List.length_replicate, fr_false (turn_less j N HT.out.1 hjN)] at c
          exact c.mono fun e X' ⟨h1, h2⟩ => ⟨h1, h.below h2⟩)
        have ic : w4.cell? ⟨g, at', none⟩ = some (.int .i64 ((at' % j : Nat) : Int)) := by
          have h1 := HS.out.p
          have := (row_int h1 (k := at') (by rw [rl_len]; exact hat)).1
          rw [this]
          have h2 := rl_at j N at' hat
          simp [List.getD, h2]
        have Hcell0 : ∀ X, Rr w g (rl j N) eo ec (List.replicate j (-1)) X → X.cell? ⟨g, at', none⟩ = some (.int .i64 ((at' % j : Nat) : Int)) := fun X h => by
          have := (row_int h.p (k := at') (by rw [rl_len]; exact hat)).1
          rw [this]
          have h2 := rl_at j N at' hat
          simp [List.getD, h2]
        have hlt' : (at' : Int) < (N : Int) := by omega
        have hj0 : ¬ (j : Int) = 0 := by omega
        have hjn : ¬ j = 0 := by omega
        have hS0 : Rr w g (rl j N) eo ec (List.replicate j (-1)) w4.drew := HS.out.below (Below.refl _ _).drew
        have HSd := hide' (C1.out _ hS0)
        have hg4 : g < w4.heap.size := (HS.out.p.lt g rfl).2
        clear hS0
        have hmod : ((at' : Int) % (j : Int)) = ((at' % j : Nat) : Int) := rfl
        obtain ⟨q, hq⟩ : ∃ q : Int, q = ((at' % j : Nat) : Int) := ⟨_, rfl⟩
        have hmt : Int.tmod (at' : Int) (j : Int) = ((at' % j : Nat) : Int) := rfl
        have hqw : IntKind.i64.wrap q = q := by
          rw [hq, IntKind.wrap_i64]
          have h1 := Nat.mod_le at' j
          have h2 := HT.out.2.2.2
          omega
        have hqw2 : wrap64 q = q := by
          rw [hq]
          have h1 := Nat.mod_le at' j
          have h2 := HT.out.2.2.2
          exact wrap_in (by omega) (by omega)
        rw [← hq] at ic hmod hmt Hcell0
        have Hcell := hide' Hcell0
        clear Hcell0
        clear hq
        go_wp2_with fail
        have ic' : w4.drew.cell? ⟨g, at', none⟩ = some (.int .i64 q) := ic
        go_region_held3 (fun w' => w'.cell? ⟨g, at', none⟩ = some (.int .i64 q)) (first | exact ic' | exact kg) ((go_at_call 28; refine HSd.out.mono ?_; rintro e w5 ⟨rfl, h5⟩; have kg : w5.cell? ⟨g, at', none⟩ = some (.int .i64 q) := Hcell.out w5 h5))
        rename_i hHeld
        have H5 := hide' h5
        have ej : wrap64 ((j : Int) - 1) = (j : Int) - 1 := by have := HT.out; exact wrap_in (by omega) (by omega)
        clear hHeld kg h5 ic ic' HSd hmod hmt hqw hqw2 Hcell hlt'
        rcases Nat.lt_or_ge N j with hNj | hNj
        · have hNj' : (N : Int) < (j : Int) := by omega
          have K := hide' H5.out.bel
          go_wp2_with fail
          go_ret
          exact ⟨rfl, K.out⟩
        · have hNj' : ¬ (N : Int) < (j : Int) := by omega
          go_wp2_with fail
          refine (C2.out hNj w5 H5.out).mono ?_
          rintro e w6 ⟨rfl, h6⟩
          have K := hide' h6.bel
          clear h6
          go_wp2_with fail
          go_ret
          exact ⟨rfl, K.out⟩
  · have e0 : rr t n = [] := if_neg hok
    have hR := hide' (fun v => round_none t n v hok)
    unfold rok at hok
    have hcase : t < 1 ∨ (¬ t < 1 ∧ t > 64) ∨ (¬ t < 1 ∧ ¬ t > 64 ∧ n < 1) ∨ (¬ t < 1 ∧ ¬ t > 64 ∧ ¬ n < 1 ∧ n > 1048576) := by omega
    clear hok e0
    rcases hcase with h | ⟨h, h'⟩ | ⟨h, h', h''⟩ | ⟨h, h', h'', h3⟩
    all_goals
      go_enter Try.func11, Try.ntmps11
      go_wp2_with fail
      refine HA.out.mono ?_
      rintro e w1 ⟨rfl, b1⟩
      go_wp2_with fail
      refine (hR.out w1).mono ?_
      rintro e w2 ⟨rfl, rfl⟩
      go_wp2_with fail
      go_ret
      exact ⟨rfl, b1⟩
end X
end Go.Proofs.Ytikpjdgigiadnaa
