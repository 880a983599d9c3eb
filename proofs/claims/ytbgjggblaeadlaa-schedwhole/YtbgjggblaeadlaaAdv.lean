import Derived.Test.YtbgjggblaeadlaaFst
set_option linter.unusedVariables false
set_option linter.unusedSimpArgs false
namespace Go.Proofs.Ytbgjggblaeadlaa
open Go.RowKit
namespace X
open C F
/-- it falls from a place on -/
def Falls (zs : List Int) (p : Int) : Prop := ∀ i : Nat, p < (i : Int) → i + 1 < zs.length → zs.getD (i + 1) 0 ≤ zs.getD i 0
def swp (zs : List Int) (p g : Nat) : List Int := (zs.set p (zs.getD g 0)).set g (zs.getD p 0)
def nxt (zs : List Int) (p g : Nat) : List Int := (swp zs p g).take (p + 1) ++ ((swp zs p g).drop (p + 1)).reverse
/-- the next list -/
def Nx (zs zs' : List Int) : Prop := ∃ p g : Nat, p < g ∧ g < zs.length ∧ zs.getD p 0 < zs.getD (p + 1) 0 ∧ Falls zs p ∧ zs.getD p 0 < zs.getD g 0 ∧ (∀ i : Nat, g < i → i < zs.length → zs.getD i 0 ≤ zs.getD p 0) ∧ zs' = nxt zs p g
theorem swp_len (zs : List Int) (p g : Nat) : (swp zs p g).length = zs.length := by simp [swp]
theorem nxt_len (zs : List Int) (p g : Nat) : (nxt zs p g).length = zs.length := by simp [nxt, swp_len]; omega
def puts (zs : List Int) : Nat → List Int → List Int
  | _, [] => zs
  | o, v :: r => puts (zs.set o v) (o + 1) r
theorem puts_eq : ∀ (vs : List Int) (zs : List Int) (o : Nat), o + vs.length ≤ zs.length → puts zs o vs = zs.take o ++ vs ++ zs.drop (o + vs.length) := by
  intro vs
  induction vs with
  | nil => intro zs o h; simp [puts]
  | cons v r ih =>
    intro zs o h
    simp only [List.length_cons] at h
    show puts (zs.set o v) (o + 1) r = _
    rw [ih _ _ (by rw [List.length_set]; omega)]
    have a : (zs.set o v).take (o + 1) = zs.take o ++ [v] := by
      rw [List.take_succ_eq_append_getElem (by simp; omega), List.take_set_of_le (Nat.le_refl _)]
      simp
    have b : (zs.set o v).drop (o + 1 + r.length) = zs.drop (o + 1 + r.length) := List.drop_set_of_lt (by omega)
    rw [a, b, List.length_cons, show o + (r.length + 1) = o + 1 + r.length by omega]
    simp
theorem puts_rev (S : List Int) (o : Nat) (h : o ≤ S.length) : puts S o (S.drop o).reverse = S.take o ++ (S.drop o).reverse := by
  have e : S.drop (o + (S.drop o).reverse.length) = [] := List.drop_eq_nil_of_le (by simp; omega)
  rw [puts_eq _ _ _ (by simp; omega), e, List.append_nil]
theorem row_puts {g rc n B : Nat} : ∀ (vs : List Int) (zs : List Int) (o : Nat) (w : World), w.ownsRow B 3 1 (.slice (some ⟨g, 0, none⟩) n rc) n (ivs zs) → (w.setCells g o (vs.map (Value.int .i64))).ownsRow B 3 1 (.slice (some ⟨g, 0, none⟩) n rc) n (ivs (puts zs o vs)) ∧ Turn (fun j => j = g) w (w.setCells g o (vs.map (Value.int .i64))) := by
  intro vs
  induction vs with
  | nil => intro zs o w h; exact ⟨h, Turn.refl _ _⟩
  | cons v r ih =>
    intro zs o w h
    obtain ⟨h1, h2⟩ := ih (zs.set o v) (o + 1) (w.setCell ⟨g, o, none⟩ (.int .i64 v)) (row_put h v)
    exact ⟨h1, ((Turn.refl (fun j => j = g) w).setCell (p := ⟨g, o, none⟩) (fun _ => rfl) _).trans h2⟩
set_option maxRecDepth 100000 in
set_option maxHeartbeats 4000000 in
theorem advance_any {B : Nat} {ro : Option Addr} {rc : Nat} (zs : List Int) (w : World) (hrow : w.ownsRow B 3 1 (.slice ro zs.length rc) zs.length (ivs zs)) (hl : zs.length ≤ 1048576) :
    Calls Try.prog 63 #[.slice ro zs.length rc] w fun e w' => ∃ r zs', e = .returned (.bool r) ∧ (r = true → Nx zs zs') ∧ (r = false → Falls zs (-1) ∧ zs' = zs) ∧ zs'.length = zs.length ∧ w'.ownsRow B 3 1 (.slice ro zs.length rc) zs.length (ivs zs') ∧ Turn (At ro) w w' := by
  have E2 : Hid (∀ p : Int, -2 ≤ p → p ≤ 1048576 → wrap64 (p - 1) = p - 1 ∧ wrap64 (p + 1) = p + 1) := hide' (fun p h1 h2 => ⟨wrap_in (by omega) (by omega), wrap_in (by omega) (by omega)⟩)
  have e0 : wrap64 ((zs.length : Int) - 2) = (zs.length : Int) - 2 := wrap_in (by omega) (by omega)
  have HR := hide' hrow
  have HL := hide' hl
  clear hrow hl
  go_enter Try.func63, Try.ntmps63
  go_wp2_with fail
  rw [e0]
  clear e0
  go_loopw [3] (fun i wx => ∃ p : Int, i = .int .i64 p ∧ -2 ≤ p ∧ p ≤ (zs.length : Int) - 2 ∧ Falls zs p ∧ ∃ m, wx = w.drewN m) (fun i _ => (intOf i + 3).toNat)
  case atStart => exact ⟨_, rfl, by omega, Int.le_refl _, fun i h1 h2 => by omega, 0, rfl⟩
  case round =>
    obtain ⟨p, rfl, hp1, hp2, hf, m, hm⟩ := hrel
    subst hm
    by_cases hp0 : 0 ≤ p
    · obtain ⟨k, rfl⟩ : ∃ k : Nat, p = (k : Int) := ⟨p.toNat, by omega⟩
      have hk1 : k + 1 < zs.length := by omega
      have hl := HL.out
      obtain ⟨e1, e2⟩ := E2.out (k : Int) (by omega) (by omega)
      obtain ⟨g, cap, hv, hgl, _⟩ := HR.out.form (by omega)
      simp only [Value.slice.injEq] at hv
      obtain ⟨rfl, _, rfl⟩ := hv
      have i1 : (w.drewN m).cell? ⟨g, k, none⟩ = some (.int .i64 (zs.getD k 0)) := (row_int HR.out (k := k) (by omega)).1
      have i2 : (w.drewN m).cell? ⟨g, k + 1, none⟩ = some (.int .i64 (zs.getD (k + 1) 0)) := (row_int HR.out (k := k + 1) (by omega)).1
      have HF := hide' hf
      obtain ⟨u, hu⟩ : ∃ u, zs.getD k 0 = u := ⟨_, rfl⟩
      obtain ⟨v, hv⟩ : ∃ v, zs.getD (k + 1) 0 = v := ⟨_, rfl⟩
      rw [hu] at i1
      rw [hv] at i2
      have HU := hide' (And.intro hu hv)
      have q1 : (k : Int) < (zs.length : Int) := by omega
      have q2 : ((k : Int) + 1) < (zs.length : Int) := by omega
      have q3 : k < zs.length := by omega
      clear hu hv hf hgl hp1 hp2 hl hp0
      generalize hW : w.drewN m = W at *
      rcases Int.lt_or_le u v with huv | huv
      · have huv' : ¬ u ≥ v := by omega
        have e3 : wrap64 ((zs.length : Int) - 1) = (zs.length : Int) - 1 := by have := HL.out; exact wrap_in (by omega) (by omega)
        have hk0 : ¬ (k : Int) < 0 := by omega
        go_wp2_with fail
        go_quiet (fail)
        go_wp2_with fail
        rw [e3]
        clear e3 i2 i1
        have Huv := hide' huv
        have Hk1 := hide' hk1
        clear huv huv' hk1 hk0
        go_loopw [4] (fun i wx => ∃ j : Nat, i = .int .i64 (j : Int) ∧ k < j ∧ j < zs.length ∧ (∀ i : Nat, j < i → i < zs.length → zs.getD i 0 ≤ zs.getD k 0) ∧ ∃ m', wx = w.drewN m') (fun i _ => (intOf i).toNat)
        case atStart => exact ⟨zs.length - 1, by have := Hk1.out; congr 1; omega, by have := Hk1.out; omega, by have := Hk1.out; omega, fun i h1 h2 => by omega, by rw [← hW]; exact ⟨_, World.drewN_drewN ..⟩⟩
        case round =>
          obtain ⟨j, rfl, hj1, hj2, hall, m', hm'⟩ := hrel
          clear hW
          subst hm'
          have i1 : (w.drewN m').cell? ⟨g, k, none⟩ = some (.int .i64 (zs.getD k 0)) := (row_int HR.out (k := k) (by omega)).1
          have i2 : (w.drewN m').cell? ⟨g, j, none⟩ = some (.int .i64 (zs.getD j 0)) := (row_int HR.out (k := j) (by omega)).1
          have f1 : (w.drewN m').frozen? ⟨g, k, none⟩ = false := (row_int HR.out (k := k) (by omega)).2.1
          have f2 : (w.drewN m').frozen? ⟨g, j, none⟩ = false := (row_int HR.out (k := j) (by omega)).2.1
          have ejm : wrap64 ((j : Int) - 1) = (j : Int) - 1 := (E2.out (j : Int) (by omega) (by have := HL.out; omega)).1
          rw [HU.out.1] at i1 hall
          obtain ⟨x, hx⟩ : ∃ x, zs.getD j 0 = x := ⟨_, rfl⟩
          rw [hx] at i2
          have HX := hide' hx
          have HA := hide' hall
          have HJ := hide' (And.intro hj1 hj2)
          have j1 : (j : Int) < (zs.length : Int) := by omega
          have hne : ¬ k = j := by omega
          clear hx hall hj1
          generalize hW2 : w.drewN m' = V at *
          rcases Int.lt_or_le u x with hxu | hxu
          · have hxu' : ¬ x ≤ u := by omega
            have hcap : zs.length ≤ rc := by
              rcases HR.out.2 with ⟨hv, _⟩ | ⟨g', cap', cur, hv, hb, hg', h1, _⟩
              · cases hv
              · simp only [Value.slice.injEq, Option.some.injEq] at hv
                obtain ⟨_, _, rfl⟩ := hv
                exact h1
            go_wp2_with fail
            go_quiet (fail)
            go_wp2_with fail
            go_region
            have HRV : Hid (V.ownsRow B 3 1 (.slice (some ⟨g, 0, none⟩) zs.length rc) zs.length (ivs zs) ∧ Turn (At (some ⟨g, 0, none⟩)) w V) := hide' (by rw [← hW2]; exact ⟨((Turn.refl (fun _ => False) w).drewN _).row HR.out (fun _ _ q => q), (Turn.refl _ w).drewN _⟩)
            have hS : swp zs k j = (zs.set k x).set j u := by unfold swp; rw [HX.out, HU.out.1]
            have KY : Hid ((((V.drewN (nq + 1)).setCell ⟨g, k, none⟩ (.int .i64 x)).setCell ⟨g, j, none⟩ (.int .i64 u)).ownsRow B 3 1 (.slice (some ⟨g, 0, none⟩) zs.length rc) zs.length (ivs (swp zs k j)) ∧ Turn (At (some ⟨g, 0, none⟩)) w (((V.drewN (nq + 1)).setCell ⟨g, k, none⟩ (.int .i64 x)).setCell ⟨g, j, none⟩ (.int .i64 u))) := hide' (by
              rw [hS]
              exact ⟨row_put (row_put (((Turn.refl (fun _ => False) V).drewN _).row HRV.out.1 (fun _ _ q => q)) x) u, ((HRV.out.2.drewN _).setCell (p := ⟨g, k, none⟩) (fun _ => ⟨_, rfl, rfl⟩) _).setCell (p := ⟨g, j, none⟩) (fun _ => ⟨_, rfl, rfl⟩) _⟩)
            generalize (((V.drewN (nq + 1)).setCell ⟨g, k, none⟩ (.int .i64 x)).setCell ⟨g, j, none⟩ (.int .i64 u)) = Y at *
            have HNx : Hid (Nx zs (nxt zs k j)) := hide' ⟨k, j, HJ.out.1, HJ.out.2, by rw [HU.out.1, HU.out.2]; exact Huv.out, HF.out, by rw [HU.out.1, HX.out]; exact hxu, by intro i h1 h2; rw [HU.out.1]; exact HA.out i h1 h2, rfl⟩
            have HD : Hid (((swp zs k j).drop (k + 1)).length = zs.length - (k + 1)) := hide' (by rw [List.length_drop, swp_len])
            have HRev := hide' (sh.slices_Reverse_int_cells g (k + 1) (zs.length - (k + 1)) (rc - (k + 1)) ((swp zs k j).drop (k + 1)) Y (by rw [HD.out]; exact Nat.le_refl _) (by have := HL.out; omega) (fun i hi => by
              rw [HD.out] at hi
              have := (row_int KY.out.1 (k := k + 1 + i) (by rw [swp_len]; omega)).1
              rw [this]
              simp [List.getD]) (fun i hi => (row_int KY.out.1 (k := k + 1 + i) (by rw [swp_len]; omega)).2.1))
            rw [List.take_of_length_le (by rw [HD.out]; exact Nat.le_refl _)] at HRev
            have HFin : Hid (∀ q, ((Y.drewN q).setCells g (k + 1) (((swp zs k j).drop (k + 1)).reverse.map (Value.int .i64))).ownsRow B 3 1 (.slice (some ⟨g, 0, none⟩) zs.length rc) zs.length (ivs (nxt zs k j)) ∧ Turn (At (some ⟨g, 0, none⟩)) w ((Y.drewN q).setCells g (k + 1) (((swp zs k j).drop (k + 1)).reverse.map (Value.int .i64)))) := hide' (fun q => by
              obtain ⟨r1, t1⟩ := row_puts ((swp zs k j).drop (k + 1)).reverse (swp zs k j) (k + 1) (Y.drewN q) (((Turn.refl (fun _ => False) Y).drewN _).row KY.out.1 (fun _ _ q => q))
              rw [puts_rev _ _ (by rw [swp_len]; exact Nat.le_of_lt Hk1.out)] at r1
              exact ⟨r1, (KY.out.2.drewN q).trans (t1.mono (fun i _ hi => ⟨_, rfl, hi⟩))⟩)
            have hk1' : k + 1 ≤ zs.length := by have := Hk1.out; omega
            have hk1r : ¬ rc = k + 1 := by have := Hk1.out; omega
            have HLn := hide' (nxt_len zs k j)
            clear i1 i2 f1 f2 hxu hxu' hS HRV HD KY hW2 ejm
            generalize nxt zs k j = N at *
            generalize ((swp zs k j).drop (k + 1)).reverse.map (Value.int .i64) = vs at *
            go_wp2_with fail
            refine HRev.out.mono ?_
            rintro e w9 ⟨rfl, q, rfl⟩
            have K9 := hide' (HFin.out q)
            generalize (Y.drewN q).setCells g (k + 1) vs = Z at *
            clear HFin HRev
            go_wp2_with fail
            go_ret
            exact ⟨true, N, rfl, fun _ => HNx.out, (fun q => by cases q), HLn.out, K9.out.1, K9.out.2⟩
          · go_wp2_with fail
            go_quiet (fail)
            go_wp2_with fail
            rw [ejm]
            have hjk : k + 1 < j := by
              by_cases q : j = k + 1
              · have h1 := HU.out.2; have h2 := HX.out; rw [q, h1] at h2; have := Huv.out; omega
              · have := HJ.out; omega
            refine ⟨⟨j - 1, by congr 1; omega, by omega, by omega, fun i h1 h2 => ?_, by rw [← hW2]; exact ⟨_, World.drewN_drewN ..⟩⟩, ?_⟩
            · rw [HU.out.1]
              by_cases hij : i = j
              · rw [hij, HX.out]; exact hxu
              · exact HA.out i (by omega) h2
            · show ((j : Int) - 1).toNat < (j : Int).toNat
              omega
      · have huv' : u ≥ v := huv
        go_wp2_with fail
        go_quiet (fail)
        go_wp2_with fail
        rw [e1]
        refine ⟨⟨(k : Int) - 1, rfl, by omega, by omega, fun i h1 h2 => ?_, by rw [← hW]; exact ⟨_, World.drewN_drewN ..⟩⟩, ?_⟩
        · by_cases hik : i = k
          · rw [hik, HU.out.1, HU.out.2]; exact huv
          · exact HF.out i (by omega) h2
        · show ((k : Int) - 1 + 3).toNat < ((k : Int) + 3).toNat
          omega
    · have hp3 : p < 0 := by omega
      have dp : decide (0 ≤ p) = false := decide_eq_false hp0
      have dp2 : decide (p ≥ 0) = false := decide_eq_false hp0
      have np : ¬ 0 ≤ p := hp0
      have K : Hid (Falls zs (-1)) := hide' (fun i h1 h2 => hf i (by omega) h2)
      clear hf hp1 hp2 hp0
      generalize hW : w.drewN m = W at *
      go_wp2_with fail
      go_quiet (fail)
      go_wp2_with fail
      go_ret
      refine ⟨false, zs, rfl, (fun q => by cases q), fun _ => ⟨K.out, rfl⟩, rfl, ?_, ?_⟩
      · rw [← hW, World.drewN_drewN]; exact ((Turn.refl (fun _ => False) w).drewN _).row HR.out (fun _ _ q => q)
      · rw [← hW, World.drewN_drewN]; exact (Turn.refl _ w).drewN _
end X
end Go.Proofs.Ytbgjggblaeadlaa
