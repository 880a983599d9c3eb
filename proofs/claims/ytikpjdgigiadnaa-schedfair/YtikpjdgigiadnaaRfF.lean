import Derived.Test.YtikpjdgigiadnaaTwn
set_option linter.unusedVariables false
set_option linter.unusedSimpArgs false
namespace Go.Proofs.Ytikpjdgigiadnaa
open Go.RowKit
namespace F
open C
/-- picked so far -/
def Pk (ps : List Int) (k f m : Nat) : Prop := ∃ x : Nat, f ≤ x ∧ x < m ∧ ps[x]? = some (k : Int)
noncomputable def pk (ps : List Int) (k f m : Nat) : Bool := @decide (Pk ps k f m) (Classical.propDecidable _)
theorem pk_start (ps : List Int) (k f : Nat) : pk ps k f f = false := by
  unfold pk
  exact @decide_eq_false _ (Classical.propDecidable _) (fun ⟨x, h1, h2, _⟩ => by omega)
theorem pk_iff {ps : List Int} {k f m : Nat} : pk ps k f m = true ↔ Pk ps k f m := by unfold pk; exact @decide_eq_true_iff _ (Classical.propDecidable _)
theorem pk_yes {ps : List Int} {k f m : Nat} (h : pk ps k f m = true) : pk ps k f (m + 1) = true := by
  rw [pk_iff] at h ⊢
  obtain ⟨x, h1, h2, h3⟩ := h
  exact ⟨x, h1, by omega, h3⟩
theorem pk_here {ps : List Int} {k f m : Nat} (hf : f ≤ m) (h : ps[m]? = some (k : Int)) : pk ps k f (m + 1) = true := by
  rw [pk_iff]
  exact ⟨m, hf, by omega, h⟩
theorem pk_not {ps : List Int} {k f m : Nat} (h : pk ps k f m = false) (hh : ps[m]? ≠ some (k : Int)) : pk ps k f (m + 1) = false := by
  cases q : pk ps k f (m + 1) with
  | false => rfl
  | true =>
    rw [pk_iff] at q
    obtain ⟨x, h1, h2, h3⟩ := q
    by_cases hx : x = m
    · subst hx; exact absurd h3 hh
    · have : pk ps k f m = true := pk_iff.2 ⟨x, h1, by omega, h3⟩
      rw [h] at this; cases this
set_option maxRecDepth 100000 in
set_option maxHeartbeats 4000000 in
theorem rfair_any (pa : Option Addr) (pc : Nat) (ps : List Int) (ea : Option Addr) (ec : Nat) (es : List Int) (W : Int) (w : World) (hp : Ints w pa ps) (he : Ints w ea es) (hpl : ps.length ≤ 17592186044000) (hel : es.length ≤ 17592186044000) :
    Calls Try.prog 26 #[.slice pa ps.length pc, .slice ea es.length ec, .int .i64 W] w fun e w' => e = .returned (.bool (fr ps es W)) ∧ w' = w := by
  rcases Int.lt_or_le W 1 with hW | hW
  · rw [fr_false (fun q => by have := q.1; omega)]
    clear hp he hpl hel
    go_enter Try.func26, Try.ntmps26
    go_wp2
    go_ret
    exact ⟨rfl, rfl⟩
  have hW' : ¬ W < 1 := by omega
  have E3 : Hid (∀ k : Nat, k < 17592186044000 → wrap64 ((k : Int) + 1) = (k : Int) + 1) := hide' (fun k hk => wrap_in (by omega) (by omega))
  have e0 : wrap64 ((ps.length : Int) - 1) = (ps.length : Int) - 1 := wrap_in (by omega) (by omega)
  have HP := hide' hp
  have HE := hide' he
  have HPL := hide' hpl
  have HEL := hide' hel
  have HW := hide' hW
  have E0 := hide' e0
  clear hp he hpl hel hW e0
  go_enter Try.func26, Try.ntmps26
  go_wp2_with fail
  go_loopw [7] (fun i wx => ∃ k : Nat, i = .int .i64 (k : Int) ∧ k ≤ es.length ∧ wx = w ∧ ∀ j, j < k → ∀ f : Nat, (f : Int) + W ≤ ef ps.length (es.getD j 0) + 1 → Rw ps j f W) (fun i _ => es.length - (intOf i).toNat)
  case atStart => exact ⟨0, rfl, Nat.zero_le _, rfl, fun j hj => by omega⟩
  case round =>
    obtain ⟨k, rfl, hk, hwr, hall⟩ := hrel
    obtain rfl := hwr.symm
    clear hwr
    by_cases hlt : k < es.length
    · have hlt' : (k : Int) < (es.length : Int) := by omega
      have e1 := E3.out k (Nat.lt_of_lt_of_le hlt HEL.out)
      have Hend := hide' (msr' hlt _ e1)
      rcases HE.out with q | ⟨eb, eo, hea, heb, hec⟩
      · rw [q] at hlt; simp at hlt
      have ie := hec k hlt
      have Hk := hide' hlt
      have HA := hide' hall
      obtain ⟨ev, hev⟩ : ∃ ev, es.getD k 0 = ev := ⟨_, rfl⟩
      rw [hev] at ie
      obtain rfl := hea
      obtain ⟨E, hE⟩ : ∃ E, ef ps.length (es.getD k 0) = E := ⟨_, rfl⟩
      have hle := ef_le ps.length (es.getD k 0)
      have hlo := ef_lo ps.length (es.getD k 0)
      rw [hE] at hle hlo
      have HEv := hide' hE
      have HEd : Hid ((ev < 0 ∨ (¬ ev < 0 ∧ ev ≥ (ps.length : Int)) ∧ True) ∧ E = (ps.length : Int) - 1 ∨ (¬ ev < 0 ∧ ¬ ev ≥ (ps.length : Int) ∧ E = ev)) := by
        show _ ∨ _
        rw [← hE, hev]
        unfold ef
        by_cases q : ev < 0 ∨ (ps.length : Int) ≤ ev
        · rw [if_pos q]; refine .inl ⟨?_, rfl⟩; rcases q with q | q
          · exact .inl q
          · by_cases q' : ev < 0
            · exact .inl q'
            · exact .inr ⟨⟨q', q⟩, trivial⟩
        · rw [if_neg q]; exact .inr ⟨fun h => q (.inl h), fun h => q (.inr h), rfl⟩
      have HLE := hide' (And.intro hle hlo)
      clear hec heb hev hE hle hlo hall hk
      have key : Hid (ev < 0 ∧ wrap64 ((ps.length : Int) - 1) = E ∨ (¬ ev < 0 ∧ ev ≥ (ps.length : Int)) ∧ wrap64 ((ps.length : Int) - 1) = E ∨ (¬ ev < 0 ∧ ¬ ev ≥ (ps.length : Int)) ∧ E = ev) := by
        show _ ∨ _
        rcases HEd.out with ⟨q | ⟨q, _⟩, h⟩ | ⟨q1, q2, h⟩
        · exact .inl ⟨q, by rw [E0.out, h]⟩
        · exact .inr (.inl ⟨q, by rw [E0.out, h]⟩)
        · exact .inr (.inr ⟨⟨q1, q2⟩, h⟩)
      have HV : Hid (∀ f : Nat, (f : Int) ≤ E + 1 → wrap64 (E - (f : Int)) = E - (f : Int) ∧ wrap64 (E - (f : Int) + 1) = E - (f : Int) + 1 ∧ wrap64 ((f : Int) + 1) = (f : Int) + 1) := hide' (fun f hf => by
        have h1 := HLE.out
        have h2 := HPL.out
        exact ⟨wrap_in (by omega) (by omega), wrap_in (by omega) (by omega), wrap_in (by omega) (by omega)⟩)
      clear HEd
      rcases key.out with ⟨a1, aw⟩ | ⟨⟨a1, a2⟩, aw⟩ | ⟨⟨a1, a2⟩, a3⟩
      rotate_right
      · obtain rfl := a3
        clear key
        go_wp2_with fail
        go_loopw [9] (fun i wx => ∃ f : Nat, i = .int .i64 (f : Int) ∧ (f : Int) ≤ E + 1 ∧ wx = w ∧ ∀ f' : Nat, f' < f → (f' : Int) + W ≤ E + 1 → Rw ps k f' W) (fun i _ => (E + 2).toNat - (intOf i).toNat)
        case atStart => exact ⟨0, rfl, by have := HLE.out; omega, rfl, fun f' hf => by omega⟩
        case round =>
          obtain ⟨f, rfl, hf, hwr, hall2⟩ := hrel
          obtain rfl := hwr.symm
          clear hwr
          have HA2 := hide' hall2
          have HF := hide' hf
          obtain ⟨v1, v2, v3⟩ := HV.out f hf
          clear hall2
          by_cases hin : (f : Int) + W ≤ E + 1
          · have g1 : (f : Int) ≤ E := by have := HW.out; omega
            have g2 : W ≤ E - (f : Int) + 1 := by omega
            obtain ⟨M, hM⟩ : ∃ M : Nat, (M : Int) = (f : Int) + W := ⟨((f : Int) + W).toNat, by have := HW.out; omega⟩
            have hMl : M ≤ ps.length := by have := HLE.out; omega
            have v4 : wrap64 ((f : Int) + W) = (M : Int) := by rw [← hM]; exact wrap_in (by omega) (by have := HPL.out; omega)
            have hfM : f < M := by have := HW.out; omega
            have HM := hide' (And.intro hM (And.intro hMl hfM))
            have Hend2 : Hid ((E + 2).toNat - (intOf (.int .i64 ((f : Int) + 1))).toNat < (E + 2).toNat - (intOf (.int .i64 (f : Int))).toNat) := hide' (by
              show (E + 2).toNat - ((f : Int) + 1).toNat < (E + 2).toNat - (f : Int).toNat
              omega)
            have HFE : Hid (((f + 1 : Nat) : Int) ≤ E + 1) := hide' (by omega)
            clear hin hM hMl hfM hf
            go_wp2_with fail
            go_loopw [11, 10] (fun i p wx => ∃ m : Nat, i = .int .i64 (m : Int) ∧ p = .bool (pk ps k f m) ∧ f ≤ m ∧ m ≤ M ∧ wx = w) (fun i _ _ => M - (intOf i).toNat)
            case atStart => exact ⟨f, rfl, by rw [pk_start], Nat.le_refl _, Nat.le_of_lt HM.out.2.2, rfl⟩
            case round =>
              obtain ⟨m, rfl, rfl, hm1, hm2, hwr⟩ := hrel
              obtain rfl := hwr.symm
              clear hwr
              by_cases hmM : m < M
              · have hmM' : (m : Int) < (M : Int) := by omega
                have hml : m < ps.length := by have := HM.out.2.1; omega
                have hml' : (m : Int) < (ps.length : Int) := by omega
                have e2 := E3.out m (Nat.lt_of_lt_of_le hml HPL.out)
                have Hend3 := hide' (msr' hmM _ e2)
                have Hm := hide' (And.intro hm1 hmM)
                have HG := hide' (getE hml)
                rcases HP.out with q | ⟨pb, po, hpa, hpb, hpc⟩
                · rw [q] at hml; simp at hml
                have ip := hpc m hml
                obtain ⟨u, hu⟩ : ∃ u, ps.getD m 0 = u := ⟨_, rfl⟩
                rw [hu] at ip
                rw [hu] at HG
                obtain rfl := hpa
                clear hpc hpb hu hm1 hm2 hml
                cases hpk : pk ps k f m with
                | true =>
                  have K := hide' (pk_yes hpk)
                  clear hpk
                  go_wp2_with fail
                  exact ⟨⟨m + 1, by rw [e2]; rfl, by rw [K.out], Nat.le_succ_of_le Hm.out.1, Hm.out.2, by trivial⟩, Hend3.out⟩
                | false =>
                  by_cases huk : u = (k : Int)
                  · have K := hide' (pk_here Hm.out.1 (by rw [HG.out, huk]))
                    clear hpk
                    obtain rfl := huk
                    go_wp2_with fail
                    exact ⟨⟨m + 1, by rw [e2]; rfl, by rw [K.out], Nat.le_succ_of_le Hm.out.1, Hm.out.2, by trivial⟩, Hend3.out⟩
                  · have K := hide' (pk_not hpk (by rw [HG.out]; intro q; exact huk (by simpa using q)))
                    clear hpk
                    go_wp2_with fail
                    exact ⟨⟨m + 1, by rw [e2]; rfl, by rw [K.out]; simp [huk], Nat.le_succ_of_le Hm.out.1, Hm.out.2, by trivial⟩, Hend3.out⟩
              · obtain rfl : m = M := by omega
                clear hm1 hm2 hmM
                cases hpk : pk ps k f m with
                | true =>
                  have K : Hid (∀ f' : Nat, f' < f + 1 → (f' : Int) + W ≤ E + 1 → Rw ps k f' W) := hide' (fun f' h1 h2 => by
                    by_cases q : f' = f
                    · subst q
                      obtain ⟨x, x1, x2, x3⟩ := pk_iff.1 hpk
                      exact ⟨x, x1, by have := HM.out.1; omega, x3⟩
                    · exact HA2.out f' (by omega) h2)
                  clear hpk
                  go_wp2_with fail
                  exact ⟨⟨f + 1, by rw [v3]; rfl, HFE.out, by trivial, K.out⟩, by rw [v3]; exact Hend2.out⟩
                | false =>
                  have K := hide' (fr_false (ps := ps) (es := es) (W := W) (fun q => by
                    obtain ⟨x, x1, x2, x3⟩ := q.2 k Hk.out f (by rw [HEv.out]; have := HM.out.1; omega)
                    have : pk ps k f m = true := pk_iff.2 ⟨x, x1, by have := HM.out.1; omega, x3⟩
                    rw [hpk] at this; cases this))
                  clear hpk
                  go_wp2_with fail
                  go_ret
                  exact ⟨by rw [K.out]; rfl, by trivial⟩
          · have K : Hid (∀ j, j < k + 1 → ∀ f : Nat, (f : Int) + W ≤ ef ps.length (es.getD j 0) + 1 → Rw ps j f W) := hide' (fun j hj f' h1 => by
              by_cases q : j = k
              · subst q
                rw [HEv.out] at h1
                by_cases q2 : f' < f
                · exact HA2.out f' q2 h1
                · omega
              · exact HA.out j (by omega) f' h1)
            by_cases g1 : (f : Int) ≤ E
            · have g2 : ¬ W ≤ E - (f : Int) + 1 := by omega
              clear hin hf
              go_wp2_with fail
              exact ⟨⟨k + 1, by rw [e1]; rfl, Hk.out, by trivial, K.out⟩, Hend.out⟩
            · clear hin hf
              go_wp2_with fail
              exact ⟨⟨k + 1, by rw [e1]; rfl, Hk.out, by trivial, K.out⟩, Hend.out⟩
      all_goals
        clear key
        go_wp2_with fail
        try rw [aw]
        clear aw a1
        try clear a2
        go_loopw [9] (fun i wx => ∃ f : Nat, i = .int .i64 (f : Int) ∧ (f : Int) ≤ E + 1 ∧ wx = w ∧ ∀ f' : Nat, f' < f → (f' : Int) + W ≤ E + 1 → Rw ps k f' W) (fun i _ => (E + 2).toNat - (intOf i).toNat)
        case atStart => exact ⟨0, rfl, by have := HLE.out; omega, rfl, fun f' hf => by omega⟩
        case round =>
          obtain ⟨f, rfl, hf, hwr, hall2⟩ := hrel
          obtain rfl := hwr.symm
          clear hwr
          have HA2 := hide' hall2
          have HF := hide' hf
          obtain ⟨v1, v2, v3⟩ := HV.out f hf
          clear hall2
          by_cases hin : (f : Int) + W ≤ E + 1
          · have g1 : (f : Int) ≤ E := by have := HW.out; omega
            have g2 : W ≤ E - (f : Int) + 1 := by omega
            obtain ⟨M, hM⟩ : ∃ M : Nat, (M : Int) = (f : Int) + W := ⟨((f : Int) + W).toNat, by have := HW.out; omega⟩
            have hMl : M ≤ ps.length := by have := HLE.out; omega
            have v4 : wrap64 ((f : Int) + W) = (M : Int) := by rw [← hM]; exact wrap_in (by omega) (by have := HPL.out; omega)
            have hfM : f < M := by have := HW.out; omega
            have HM := hide' (And.intro hM (And.intro hMl hfM))
            have Hend2 : Hid ((E + 2).toNat - (intOf (.int .i64 ((f : Int) + 1))).toNat < (E + 2).toNat - (intOf (.int .i64 (f : Int))).toNat) := hide' (by
              show (E + 2).toNat - ((f : Int) + 1).toNat < (E + 2).toNat - (f : Int).toNat
              omega)
            have HFE : Hid (((f + 1 : Nat) : Int) ≤ E + 1) := hide' (by omega)
            clear hin hM hMl hfM hf
            go_wp2_with fail
            go_loopw [11, 10] (fun i p wx => ∃ m : Nat, i = .int .i64 (m : Int) ∧ p = .bool (pk ps k f m) ∧ f ≤ m ∧ m ≤ M ∧ wx = w) (fun i _ _ => M - (intOf i).toNat)
            case atStart => exact ⟨f, rfl, by rw [pk_start], Nat.le_refl _, Nat.le_of_lt HM.out.2.2, rfl⟩
            case round =>
              obtain ⟨m, rfl, rfl, hm1, hm2, hwr⟩ := hrel
              obtain rfl := hwr.symm
              clear hwr
              by_cases hmM : m < M
              · have hmM' : (m : Int) < (M : Int) := by omega
                have hml : m < ps.length := by have := HM.out.2.1; omega
                have hml' : (m : Int) < (ps.length : Int) := by omega
                have e2 := E3.out m (Nat.lt_of_lt_of_le hml HPL.out)
                have Hend3 := hide' (msr' hmM _ e2)
                have Hm := hide' (And.intro hm1 hmM)
                have HG := hide' (getE hml)
                rcases HP.out with q | ⟨pb, po, hpa, hpb, hpc⟩
                · rw [q] at hml; simp at hml
                have ip := hpc m hml
                obtain ⟨u, hu⟩ : ∃ u, ps.getD m 0 = u := ⟨_, rfl⟩
                rw [hu] at ip
                rw [hu] at HG
                obtain rfl := hpa
                clear hpc hpb hu hm1 hm2 hml
                cases hpk : pk ps k f m with
                | true =>
                  have K := hide' (pk_yes hpk)
                  clear hpk
                  go_wp2_with fail
                  exact ⟨⟨m + 1, by rw [e2]; rfl, by rw [K.out], Nat.le_succ_of_le Hm.out.1, Hm.out.2, by trivial⟩, Hend3.out⟩
                | false =>
                  by_cases huk : u = (k : Int)
                  · have K := hide' (pk_here Hm.out.1 (by rw [HG.out, huk]))
                    clear hpk
                    obtain rfl := huk
                    go_wp2_with fail
                    exact ⟨⟨m + 1, by rw [e2]; rfl, by rw [K.out], Nat.le_succ_of_le Hm.out.1, Hm.out.2, by trivial⟩, Hend3.out⟩
                  · have K := hide' (pk_not hpk (by rw [HG.out]; intro q; exact huk (by simpa using q)))
                    clear hpk
                    go_wp2_with fail
                    exact ⟨⟨m + 1, by rw [e2]; rfl, by rw [K.out]; simp [huk], Nat.le_succ_of_le Hm.out.1, Hm.out.2, by trivial⟩, Hend3.out⟩
              · obtain rfl : m = M := by omega
                clear hm1 hm2 hmM
                cases hpk : pk ps k f m with
                | true =>
                  have K : Hid (∀ f' : Nat, f' < f + 1 → (f' : Int) + W ≤ E + 1 → Rw ps k f' W) := hide' (fun f' h1 h2 => by
                    by_cases q : f' = f
                    · subst q
                      obtain ⟨x, x1, x2, x3⟩ := pk_iff.1 hpk
                      exact ⟨x, x1, by have := HM.out.1; omega, x3⟩
                    · exact HA2.out f' (by omega) h2)
                  clear hpk
                  go_wp2_with fail
                  exact ⟨⟨f + 1, by rw [v3]; rfl, HFE.out, by trivial, K.out⟩, by rw [v3]; exact Hend2.out⟩
                | false =>
                  have K := hide' (fr_false (ps := ps) (es := es) (W := W) (fun q => by
                    obtain ⟨x, x1, x2, x3⟩ := q.2 k Hk.out f (by rw [HEv.out]; have := HM.out.1; omega)
                    have : pk ps k f m = true := pk_iff.2 ⟨x, x1, by have := HM.out.1; omega, x3⟩
                    rw [hpk] at this; cases this))
                  clear hpk
                  go_wp2_with fail
                  go_ret
                  exact ⟨by rw [K.out]; rfl, by trivial⟩
          · have K : Hid (∀ j, j < k + 1 → ∀ f : Nat, (f : Int) + W ≤ ef ps.length (es.getD j 0) + 1 → Rw ps j f W) := hide' (fun j hj f' h1 => by
              by_cases q : j = k
              · subst q
                rw [HEv.out] at h1
                by_cases q2 : f' < f
                · exact HA2.out f' q2 h1
                · omega
              · exact HA.out j (by omega) f' h1)
            by_cases g1 : (f : Int) ≤ E
            · have g2 : ¬ W ≤ E - (f : Int) + 1 := by omega
              clear hin hf
              go_wp2_with fail
              exact ⟨⟨k + 1, by rw [e1]; rfl, Hk.out, by trivial, K.out⟩, Hend.out⟩
            · clear hin hf
              go_wp2_with fail
              exact ⟨⟨k + 1, by rw [e1]; rfl, Hk.out, by trivial, K.out⟩, Hend.out⟩
    · obtain rfl : k = es.length := by omega
      have K := hide' (fr_true ⟨HW.out, hall⟩)
      clear hall hlt hk
      go_wp2
      go_ret
      exact ⟨by rw [K.out]; rfl, by trivial⟩
end F
end Go.Proofs.Ytikpjdgigiadnaa
