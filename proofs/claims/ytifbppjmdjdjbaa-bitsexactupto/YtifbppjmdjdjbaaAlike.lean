import Derived.Test.YtifbppjmdjdjbaaTwoP
set_option linter.unusedVariables false
set_option linter.unusedSimpArgs false
namespace Go.Proofs.Ytifbppjmdjdjbaa
open Go.RowKit
theorem Pr.below {x g R B0 y : Nat} {ao : Option Addr} {cap : Nat} {p : Nat → Bool} {w w' : World} (h : Pr x g R B0 y ao cap p w) (b : Below w.heap.size w w') : Pr x g R B0 y ao cap p w' := ⟨h.b.below b, h.r.below b⟩
/-- both Quads tell one thing -/
theorem quads (x g R B0 y : Nat) (ao : Option Addr) (cap : Nat) (p : Nat → Bool) (n : Int) : ∃ (a b c d : Int) (bq : Bool), (∀ w, Bs x g R p w → Calls Try.prog 36 #[.pointer (some ⟨x, 0, none⟩), .int .i64 n] w fun e w' => e = .returned (.tuple #[.agg #[.int .u64 a, .int .u64 b, .int .u64 c, .int .u64 d], .bool bq]) ∧ Below w.heap.size w w') ∧ (∀ w, Rs B0 y ao cap R p w → Calls Try.prog 42 #[.pointer (some ⟨y, 0, none⟩), .int .i64 n] w fun e w' => e = .returned (.tuple #[.agg #[.int .u64 a, .int .u64 b, .int .u64 c, .int .u64 d], .bool bq]) ∧ Below w.heap.size w w') := by
  by_cases hq : 0 ≤ n ∧ 256 * n < (R : Int)
  · obtain ⟨k, rfl⟩ : ∃ k : Nat, n = (k : Int) := ⟨n.toNat, by omega⟩
    exact ⟨_, _, _, _, true, fun w h => bigQuad_in x g R p k w h (by omega), fun w h => rquad_in k h (by omega)⟩
  · exact ⟨_, _, _, _, false, fun w h => bigQuad_out x g R p n w h (by omega), fun w h => rquad_out n h (by omega)⟩
set_option maxHeartbeats 4000000 in
set_option maxRecDepth 100000 in
theorem alike_any (x g R B0 y : Nat) (ao : Option Addr) (cap : Nat) (p : Nat → Bool) (w : World) (h : Pr x g R B0 y ao cap p w) :
    Calls Try.prog 14 #[.agg #[.pointer (some ⟨x, 0, none⟩), .pointer (some ⟨y, 0, none⟩)]] w fun e w' => e = .returned (.bool true) ∧ Below w.heap.size w w' := by
  have hR := h.b.le
  have hP := h.kept ((Turn.refl (fun _ => False) w).alloc (.cells #[.pointer (some ⟨x, 0, none⟩), .pointer (some ⟨y, 0, none⟩)] 31)) (fun q => q) (fun q => q) (fun q => q) (fun _ _ q => q)
  have bW : Below w.heap.size w (w.alloc (.cells #[.pointer (some ⟨x, 0, none⟩), .pointer (some ⟨y, 0, none⟩)] 31)) := (Below.refl _ _).alloc (Nat.le_refl _) _
  have c0 : (w.alloc (.cells #[.pointer (some ⟨x, 0, none⟩), .pointer (some ⟨y, 0, none⟩)] 31)).cell? ⟨w.heap.size, 0, none⟩ = some (.pointer (some ⟨x, 0, none⟩)) := by go_simp
  have c1 : (w.alloc (.cells #[.pointer (some ⟨x, 0, none⟩), .pointer (some ⟨y, 0, none⟩)] 31)).cell? ⟨w.heap.size, 1, none⟩ = some (.pointer (some ⟨y, 0, none⟩)) := by go_simp
  have hsz : w.heap.size < (w.alloc (.cells #[.pointer (some ⟨x, 0, none⟩), .pointer (some ⟨y, 0, none⟩)] 31)).heap.size := by simp
  have Ha := hide' (fun w h => room_any x g R p w h)
  have Hb := hide' (fun w (h : Rs B0 y ao cap R p w) => rroom_any h)
  have Hc := hide' (fun w h => count_any x g R p w h)
  have Hd := hide' (fun w (h : Rs B0 y ao cap R p w) => rcount_any h)
  have He := hide' (fun i w h => has_any x g R p i w h)
  have Hf := hide' (fun i w (h : Rs B0 y ao cap R p w) => rhas_any i h)
  have Hq := hide' (quads x g R B0 y ao cap p)
  clear h
  have eR : ((R : Int) != (R : Int)) = false := by simp
  have eC : (((B.cnt p R 0 : Nat) : Int) != ((B.cnt p R 0 : Nat) : Int)) = false := by simp
  generalize B.cnt p R 0 = cn at *
  go_enter Try.func14, Try.ntmps14
  go_wp2
  generalize hWW : (w.alloc (.cells #[.pointer (some ⟨x, 0, none⟩), .pointer (some ⟨y, 0, none⟩)] 31)) = W at *
  clear hWW
  obtain ⟨b, hb⟩ : ∃ b, w.heap.size = b := ⟨_, rfl⟩
  have HBb := hide' hb
  rw [hb] at c0 c1 hsz ⊢
  clear hb
  have hP1 := hP.drewN 1
  have cD0 : W.drew.cell? ⟨b, 0, none⟩ = some (.pointer (some ⟨x, 0, none⟩)) := c0
  have cD1 : W.drew.cell? ⟨b, 1, none⟩ = some (.pointer (some ⟨y, 0, none⟩)) := c1
  go_region_held3 (fun w' => w'.cell? ⟨b, 0, none⟩ = some (.pointer (some ⟨x, 0, none⟩)) ∧ w'.cell? ⟨b, 1, none⟩ = some (.pointer (some ⟨y, 0, none⟩))) (first | go_keep | exact ⟨k0, k1⟩) ((first | (go_at_call 24; refine (Ha.out W.drew hP1.b).mono ?_; rintro e z ⟨rfl, hz⟩; replace hz := hz.symm; subst hz) | (go_at_call 41; refine (Hb.out W.drew hP1.r).mono ?_; rintro e z ⟨rfl, hz⟩; replace hz := hz.symm; subst hz) | (go_at_call 29; refine (Hc.out W.drew hP1.b).mono ?_; rintro e z ⟨rfl, hz⟩; replace hz := hz.symm; subst hz) | (go_at_call 40; refine (Hd.out W.drew hP1.r).mono ?_; rintro e w1 ⟨rfl, b1⟩; have k0 := (b1.cell (p := ⟨b, 0, none⟩) (show b < W.heap.size from hsz)).trans cD0; have k1 := (b1.cell (p := ⟨b, 1, none⟩) (show b < W.heap.size from hsz)).trans cD1)))
  have hP2 : Pr x g R B0 y ao cap p w1 := hP1.below b1
  have bel1 : Below w.heap.size w w1 := (below_drewN bW 1).trans (b1.mono bW.size)
  have hsz1 : b < w1.heap.size := Nat.lt_of_lt_of_le hsz b1.size
  clear cD0 cD1 c0 c1 hsz hP hP1 bW
  go_wp2
  have HP := hide' (fun wx (bx : Below w1.heap.size w1 wx) => And.intro (hP2.below bx) (And.intro ((bx.cell (p := ⟨b, 0, none⟩) hsz1).trans k0) ((bx.cell (p := ⟨b, 1, none⟩) hsz1).trans k1)))
  go_loopw [3] (fun i wx => ∃ k : Nat, k ≤ R + 2 ∧ i = .int .i64 ((k : Int) - 1) ∧ Below w1.heap.size w1 wx) (fun i _ => R + 2 - (intOf i + 1).toNat)
  case atStart => exact ⟨0, by omega, rfl, Below.refl _ _⟩
  case round =>
    clear k0 k1
    obtain ⟨k, hk, rfl, bk⟩ := hrel
    obtain ⟨hPk, k0, k1⟩ := HP.out _ bk
    have HPk := hide' hPk
    clear hPk
    by_cases hlt : k < R + 2
    · have e1 : decide ((k : Int) - 1 ≤ (R : Int)) = true := by simp; omega
      have He2 := hide' (fun w h => He.out ((k : Int) - 1) w h)
      have Hf2 := hide' (fun w h => Hf.out ((k : Int) - 1) w h)
      generalize hasB p ((k : Int) - 1) = bb at *
      have ebb : (bb != bb) = false := by simp
      go_wp2_with fail
      refine (Hb.out _ HPk.out.r).mono ?_
      rintro e z ⟨rfl, hz⟩
      replace hz := hz.symm
      subst hz
      go_wp2_with fail
      go_quiet ((first | (go_at_call 26; exact quiet_of_drew (He2.out _ (HPk.out.b.drewN _))) | (go_at_call 39; exact Calls.quiet_of_same (Hf2.out _ (HPk.out.r.drewN _)))))
      go_wp2
      exact ⟨⟨k + 1, by omega, by go_num, below_drewN bk nq⟩, by simp [intOf]; omega⟩
    · have hkr : k = R + 2 := by omega
      subst hkr
      have e1 : decide (((R + 2 : Nat) : Int) - 1 ≤ (R : Int)) = false := by simp; omega
      clear hlt
      go_wp2_with fail
      refine (Hb.out _ HPk.out.r).mono ?_
      rintro e z ⟨rfl, hz⟩
      replace hz := hz.symm
      subst hz
      go_wp2_with fail
      go_loopw [4] (fun i wx => ∃ k : Nat, k ≤ (R + 256) / 256 + 2 ∧ i = .int .i64 ((k : Int) - 1) ∧ Below w1.heap.size w1 wx) (fun i _ => (R + 256) / 256 + 2 - (intOf i + 1).toNat)
      case atStart => exact ⟨0, by omega, rfl, bk⟩
      case round =>
        clear k0 k1 HPk bk
        obtain ⟨k, hk, rfl, bk⟩ := hrel
        obtain ⟨hPk, k0, k1⟩ := HP.out _ bk
        have HPk := hide' hPk
        have hszk : b < wr.heap.size := Nat.lt_of_lt_of_le hsz1 bk.size
        clear hPk
        by_cases hlt : k < (R + 256) / 256 + 2
        · have e1 : decide (256 * ((k : Int) - 1) ≤ (R : Int) + 256) = true := by simp; omega
          obtain ⟨qa, qb, qc, qd, bq, HA, HB⟩ := Hq.out ((k : Int) - 1)
          have heq := eq_four qa qb qc qd
          have ebq : (bq != bq) = false := by simp
          have HA' := hide' HA
          have HB' := hide' HB
          clear HA HB
          go_wp2_with fail
          refine (Hb.out _ HPk.out.r).mono ?_
          rintro e z ⟨rfl, hz⟩
          replace hz := hz.symm
          subst hz
          go_wp2_with fail
          refine (HA'.out _ HPk.out.b).mono ?_
          rintro e w3 ⟨rfl, b3⟩
          have hP3 := HPk.out.below b3
          have m1 := (b3.cell (p := ⟨b, 1, none⟩) hszk).trans k1
          have hsz3 : b < w3.heap.size := Nat.lt_of_lt_of_le hszk b3.size
          have bb3 := bk.trans (b3.mono bk.size)
          clear b3 bk k0 k1 HPk
          go_wp2_with fail
          have hP4 : ∀ o, Pr x g R B0 y ao cap p (w3.alloc o) := fun o => hP3.kept ((Turn.refl (fun _ => False) w3).alloc o) (fun q => q) (fun q => q) (fun q => q) (fun _ _ q => q)
          refine (HB'.out _ (hP4 _).r).mono ?_
          rintro e w4 ⟨rfl, b4⟩
          have bb4 := (bb3.alloc bb3.size _).trans (b4.mono (bb3.alloc bb3.size _).size)
          have d0 := (b4.cell (p := ⟨w3.heap.size, 0, none⟩) (by simp))
          have d1 := (b4.cell (p := ⟨w3.heap.size, 1, none⟩) (by simp))
          have d2 := (b4.cell (p := ⟨w3.heap.size, 2, none⟩) (by simp))
          have d3 := (b4.cell (p := ⟨w3.heap.size, 3, none⟩) (by simp))
          have hl4 : w3.heap.size < w4.heap.size := by have := b4.size; simp at this; omega
          go_wp2_with fail
          exact ⟨⟨k + 1, by omega, by go_num, bb4.alloc bb4.size _⟩, by simp [intOf]; omega⟩
        · have hkN : k = (R + 256) / 256 + 2 := by omega
          have e1 : decide (256 * ((k : Int) - 1) ≤ (R : Int) + 256) = false := by simp; omega
          have hkb : (k : Int) ≤ 1000 := by omega
          have HkN := hide' hkN
          clear hlt hkN
          go_wp2_with fail
          refine (Hb.out _ HPk.out.r).mono ?_
          rintro e z ⟨rfl, hz⟩
          replace hz := hz.symm
          subst hz
          go_wp2_with fail
          go_ret
          exact ⟨rfl, bel1.trans (bk.mono bel1.size)⟩
end Go.Proofs.Ytifbppjmdjdjbaa
