import Derived.Test.YtbgjggblaeadlaaEnP
set_option linter.unusedVariables false
set_option linter.unusedSimpArgs false
namespace Go.Proofs.Ytbgjggblaeadlaa
open Go.RowKit
namespace O
open C X
theorem wsc {a : Nat} (h : a ≤ 17592186043904) : wrap64 ((a : Int) + 1) = ((a + 1 : Nat) : Int) := by unfold wrap64; omega
theorem wad {a : Nat} {u : Int} (h : a ≤ 1048576) (h0 : 0 < u) (h1 : u ≤ 1048576) : wrap64 ((a : Int) + u) = ((a + (max u 0).toNat : Nat) : Int) := by unfold wrap64; omega
theorem nns_pos (zs : List Int) (i : Nat) : 1 ≤ nns zs i := by unfold nns; omega
theorem false_of {r : Bool} {P : Prop} (hr : r = true ↔ P) (h : ¬ P) : r = false := by
  cases r with
  | false => rfl
  | true => exact absurd (hr.1 rfl) h
set_option maxRecDepth 100000 in
set_option maxHeartbeats 8000000 in
theorem ended_walk (sa : Option Addr) (sc : Nat) (zs : List Int) (pa : Option Addr) (pc : Nat) (ps : List Int) (w : World) (hs : Ints w sa zs) (hp : Ints w pa ps) (hsl : zs.length ≤ 64) (hsm : sm zs ≤ 1048576) (hpl : ps.length ≤ 17592186043904) (r : Bool) (hr : r = true ↔ ps.Perm (fz zs zs.length)) :
    Calls Try.prog 38 #[.slice sa zs.length sc, .slice pa ps.length pc] w fun e w' => e = .returned (.bool r) ∧ Below w.heap.size w w' := by
  have HSs := hide' (fun w' (b : Below w.heap.size w w') => Ints.below hs b)
  have HP := hide' (fun w' (b : Below w.heap.size w w') => Ints.below hp b)
  obtain ⟨T, hT⟩ : ∃ T, T = zs.length := ⟨_, rfl⟩
  obtain ⟨P, hP⟩ : ∃ P, P = ps.length := ⟨_, rfl⟩
  have HL := hide' (And.intro hsl (And.intro hsm (And.intro hpl (And.intro hT hP))))
  have HR := hide' hr
  rw [← hT, ← hP]
  clear hs hp hsl hsm hpl hT hP hr
  go_enter Try.func38, Try.ntmps38
  go_wp2_with fail
  refine (board_any (B := w.heap.size) w (Nat.le_refl _)).mono ?_
  rintro e w2 ⟨rfl, h2, b2, z2⟩
  obtain ⟨b, hb⟩ : ∃ b, b = w.heap.size := ⟨_, rfl⟩
  have K2 : Hid (Cw w w.heap.size 0 (fun _ => 0) (nns zs) (fun _ => []) 0 (fun j => j = w.heap.size) (fun _ _ => False) w2) := hide' (Cw.start w (Below.refl _ _) _ _ _ _ h2 b2)
  have Hb := hide' hb
  clear h2 b2 z2 hb
  go_wp2_with fail
  rw [← Hb.out]
  rw [← Hb.out] at K2
  go_loopw [6, 7] (fun s i wx => ∃ (k : Nat) (cs : Nat → Nat) (Db : Nat → Prop) (D : Nat → Nat → Prop), s = .int .i64 ((sm (zs.take k) : Nat) : Int) ∧ i = .int .i64 (k : Int) ∧ k ≤ T ∧ Cw w b k cs (nns zs) (fun _ => []) 0 Db D wx) (fun _ i _ => T - (intOf i).toNat)
  case atStart => exact ⟨0, _, _, _, rfl, rfl, Nat.zero_le _, K2.out⟩
  case round =>
    obtain ⟨k, cs, Db, D, rfl, rfl, hk, hJ⟩ := hrel
    clear K2
    have HJ := hide' hJ
    obtain ⟨sk, hsk⟩ : ∃ s, s = sm (zs.take k) := ⟨_, rfl⟩
    have Hsk : Hid (sk = sm (zs.take k) ∧ sk ≤ 1048576) := hide' ⟨hsk, by rw [hsk]; exact Nat.le_trans (sm_le zs k) HL.out.2.1⟩
    rw [← hsk]
    clear hJ hsk
    by_cases hlt : k < T
    · have hlt' : (k : Int) < (T : Int) := by omega
      have hl64 : k < 64 := by have := HL.out; omega
      have ek := hide' (wsc (a := k) (by omega))
      have Hms := hide' (msr' hlt _ rfl)
      have Hk := hide' (And.intro hlt hl64)
      have hkz : k < zs.length := by have := HL.out.2.2.2.1; omega
      rcases HSs.out _ HJ.out.bel with q | ⟨xb, xo, hsa, hxb, hxc⟩
      · rw [q] at hkz; simp at hkz
      have ic := hxc k hkz
      obtain ⟨u, hu⟩ : ∃ u, u = zs.getD k 0 := ⟨_, rfl⟩
      rw [← hu] at ic
      have HU : Hid (nns zs k = max u 1 ∧ sm (zs.take (k + 1)) = sk + (max u 0).toNat ∧ (max u 0).toNat ≤ 1048576) := hide' ⟨by unfold nns; rw [hu], by rw [sm_take hkz, Hsk.out.1, hu], by
        have h1 := sm_take hkz
        have h2 := sm_le zs (k + 1)
        have h3 := HL.out.2.1
        rw [hu]; omega⟩
      obtain rfl := hsa
      have HX := hide' (And.intro hxb hxc)
      clear hxc hxb hu hk hlt hl64
      go_wp2_with fail
      refine (new_ct (B := w.heap.size) u wr HJ.out.bel.size).mono ?_
      rintro e w3 ⟨rfl, h3, b3, z3⟩
      rw [← HU.out.1] at h3
      have H3 := hide' (And.intro h3 b3)
      clear h3 b3 z3
      have HJn := hide' (join_ok 24 (.pointer (some ⟨wr.heap.size, 0, none⟩)) (HJ.out.below H3.out.2).bo (Nat.le_trans HJ.out.bel.size H3.out.2.size) (by rw [Ls_len]; exact Hk.out.2))
      rw [Ls_len] at HJn
      go_wp2_with fail
      refine HJn.out.mono ?_
      rintro e w4 ⟨rfl, h4⟩
      obtain ⟨Db', hC, t4⟩ := HJ.out.join rfl (by rw [HU.out.1]; omega) H3.out.1 H3.out.2 h4
      have H4 := hide' hC
      have ic4 : w4.cell? ⟨xb, xo + k, none⟩ = some (.int .i64 u) := by
        rcases HSs.out _ hC.bel with q | ⟨xb2, xo2, hsa2, hxb2, hxc2⟩
        · rw [q] at hkz; simp at hkz
        · cases hsa2
          have i1 := hxc2 k hkz
          have i0 := HX.out.2 k hkz
          rw [ic] at i0
          rw [i1, ← i0]
      clear hC t4 h4 HJn H3 ic hkz HX
      by_cases hu0 : 0 < u
      · have ea := wad (a := sk) (u := u) Hsk.out.2 hu0 (by have := HU.out.2.2; omega)
        rw [← HU.out.2.1] at ea
        have EA := hide' ea
        clear ea
        go_wp2_with fail
        exact ⟨⟨k + 1, _, _, _, by rw [EA.out], by first | rfl | rw [ek.out], Hk.out.1, H4.out⟩, by first | exact Hms.out | (rw [ek.out]; exact Hms.out)⟩
      · have EA : Hid (sk = sm (zs.take (k + 1))) := hide' (by rw [HU.out.2.1]; omega)
        go_wp2_with fail
        exact ⟨⟨k + 1, _, _, _, by rw [EA.out], by first | rfl | rw [ek.out], Hk.out.1, H4.out⟩, by first | exact Hms.out | (rw [ek.out]; exact Hms.out)⟩
    · obtain rfl : k = T := by omega
      have hlt' : ¬ ((k : Int) < (k : Int)) := by omega
      have HS : Hid (sk = sm zs) := hide' (by rw [Hsk.out.1, HL.out.2.2.2.1, List.take_length])
      have C0 : Hid (Cw w b k cs (nns zs) (fun i => tms (nns zs i) ps i 0) 0 Db D wr) := hide' HJ.out
      clear hk hlt HJ Hsk
      go_wp2_with fail
      go_loopw [11] (fun i wx => ∃ (p : Nat) (D : Nat → Nat → Prop), i = .int .i64 (p : Int) ∧ p ≤ P ∧ Pk zs ps p ∧ Cw w b k cs (nns zs) (fun i => tms (nns zs i) ps i p) p Db D wx) (fun i _ => P - (intOf i).toNat)
      case atStart => exact ⟨0, D, rfl, Nat.zero_le _, Pk.zero _ _, C0.out⟩
      case round =>
        obtain ⟨p, D2, rfl, hp, hpk, hJ⟩ := hrel
        clear C0
        have HJ := hide' hJ
        have HK := hide' hpk
        clear hJ hpk
        by_cases hlt : p < P
        · have hltp : (p : Int) < (P : Int) := by omega
          have ek := hide' (wsc (a := p) (by have := HL.out; omega))
          have Hms := hide' (msr' hlt _ rfl)
          have Hk := hide' hlt
          have hpz : p < ps.length := by have := HL.out.2.2.2.2; omega
          have Hpz := hide' hpz
          rcases HP.out _ HJ.out.bel with q | ⟨yb, yo, hpa, hyb, hyc⟩
          · rw [q] at hpz; simp at hpz
          have jc := hyc p hpz
          obtain ⟨v, hv⟩ : ∃ v, v = ps.getD p 0 := ⟨_, rfl⟩
          rw [← hv] at jc
          obtain rfl := hpa
          have HV := hide' hv
          have HPm : Hid (ps.Perm (fz zs zs.length) → ∃ i : Nat, i < zs.length ∧ v = (i : Int) ∧ 1 ≤ zs.getD i 0 ∧ ((tms (nns zs i) ps i p).length : Int) < nns zs i) := hide' (fun h => by rw [hv]; exact perm_step h hpz HK.out)
          have hPick : ∀ (r' : Bool), (r' = true ↔ ∃ i : Nat, i < k ∧ v = (i : Int) ∧ ((tms (nns zs i) ps i p).length : Int) < nns zs i) → Calls Try.prog 34 #[.pointer (some ⟨b, 0, none⟩), .int .i64 v] wr fun e X' => e = .returned (.bool r') ∧ ∃ D', Cw w b k cs (nns zs) (fun i => tms (nns zs i) ps i (p + 1)) (p + 1) Db D' X' ∧ Turn (Sb k Db D2) wr X' := fun r' hr' =>
            HJ.out.pick v (fun i _ => nns_pos zs i) (fun i _ => ⟨tms_len (nns_pos zs i) p, tms_le p, ed_yes (nns_pos zs i)⟩) (by have := HL.out; omega) (fun j _ => by
              by_cases q : ps.getD p 0 = (j : Int) ∧ ((tms (nns zs j) ps j p).length : Int) < nns zs j
              · rw [tms_yes q.1 q.2, if_pos (by rw [hv]; exact q)]
              · rw [tms_no q, if_neg (by rw [hv]; exact q)]) r' hr'
          have HPick := hide' hPick
          have HBB := hide' HJ.out.bel
          clear hyc hyb hv hp hlt hpz hPick
          by_cases hin : 0 ≤ v ∧ v < (k : Int)
          · obtain ⟨i, rfl⟩ := Int.eq_ofNat_of_zero_le hin.1
            have hik : i < k := by omega
            have hv0 : (0 : Int) ≤ (i : Int) := by omega
            have hvk : (i : Int) < (k : Int) := by omega
            have hiz : i < zs.length := by have := HL.out.2.2.2.1; omega
            rcases HSs.out _ HJ.out.bel with q | ⟨xb, xo, hsa, hxb, hxc⟩
            · rw [q] at hiz; simp at hiz
            have ic := hxc i hiz
            obtain ⟨u, hu⟩ : ∃ u, u = zs.getD i 0 := ⟨_, rfl⟩
            rw [← hu] at ic
            obtain rfl := hsa
            have Hik := hide' (And.intro hik hiz)
            have HU := hide' hu
            clear hxc hxb hu hin hik hiz
            by_cases hu1 : u < 1
            · have RF : Hid (r = false) := hide' (false_of HR.out (fun h => by
                obtain ⟨i', _, e, h1, _⟩ := HPm.out h
                have : i' = i := by omega
                subst this
                rw [← HU.out] at h1
                omega))
              go_wp2
              go_ret
              exact ⟨by rw [RF.out]; rfl, HBB.out⟩
            · by_cases hS : ((tms (nns zs i) ps i p).length : Int) < nns zs i
              · have D1 := hide' (HPick.out true ⟨fun _ => ⟨i, Hik.out.1, rfl, hS⟩, fun _ => rfl⟩)
                have HK2 := hide' (HK.out.succ Hik.out.2 HV.out.symm (by rw [← HU.out]; omega) hS)
                clear hS
                go_wp2_with fail
                refine D1.out.mono ?_
                rintro e w6 ⟨rfl, D6, h6, t6⟩
                have H6 := hide' h6
                clear h6 t6 D1 jc ic
                go_wp2_with fail
                exact ⟨⟨p + 1, _, by first | rfl | rw [ek.out], Hk.out, HK2.out, H6.out⟩, by first | exact Hms.out | (rw [ek.out]; exact Hms.out)⟩
              · have D1 := hide' (HPick.out false ⟨(fun h => by cases h), fun ⟨i', h1, h2, h3⟩ => by
                  have : i' = i := by omega
                  subst this
                  exact absurd h3 hS⟩)
                have RF : Hid (r = false) := hide' (false_of HR.out (fun h => by
                  obtain ⟨i', _, e, _, h1⟩ := HPm.out h
                  have : i' = i := by omega
                  subst this
                  exact hS h1))
                clear hS
                go_wp2_with fail
                refine D1.out.mono ?_
                rintro e w6 ⟨rfl, D6, h6, t6⟩
                have H6 := hide' h6.bel
                clear h6 t6 D1 jc ic
                go_wp2
                go_ret
                exact ⟨by rw [RF.out]; rfl, H6.out⟩
          · have D1 := hide' (HPick.out false ⟨(fun h => by cases h), fun ⟨i', h1, h2, h3⟩ => absurd ⟨by omega, by omega⟩ hin⟩)
            have RF : Hid (r = false) := hide' (false_of HR.out (fun h => by
              obtain ⟨i', h1, e, _, _⟩ := HPm.out h
              have := HL.out.2.2.2.1
              exact hin ⟨by omega, by omega⟩))
            by_cases hv0 : (0 : Int) ≤ v
            · have hvk : ¬ v < (k : Int) := fun q => hin ⟨hv0, q⟩
              clear hin
              go_wp2_with fail
              refine D1.out.mono ?_
              rintro e w6 ⟨rfl, D6, h6, t6⟩
              have H6 := hide' h6.bel
              clear h6 t6 D1 jc
              go_wp2
              go_ret
              exact ⟨by rw [RF.out]; rfl, H6.out⟩
            · clear hin
              go_wp2_with fail
              refine D1.out.mono ?_
              rintro e w6 ⟨rfl, D6, h6, t6⟩
              have H6 := hide' h6.bel
              clear h6 t6 D1 jc
              go_wp2
              go_ret
              exact ⟨by rw [RF.out]; rfl, H6.out⟩
        · obtain rfl : p = P := by omega
          have hltp : ¬ ((p : Int) < (p : Int)) := by omega
          obtain ⟨W5, hW5⟩ : ∃ W, W = wr := ⟨_, rfl⟩
          rw [← hW5]
          rw [← hW5] at HJ
          clear hp hlt hW5
          go_wp2_with fail
          go_loopw [13] (fun i wx => ∃ q : Nat, i = .int .i64 (q : Int) ∧ q ≤ k ∧ (∀ j : Nat, j < q → 0 < zs.getD j 0 → ((tms (nns zs j) ps j p).length : Int) = nns zs j) ∧ wx = W5) (fun i _ => k - (intOf i).toNat)
          case atStart => exact ⟨0, rfl, Nat.zero_le _, fun j hj => by omega, rfl⟩
          case round =>
            obtain ⟨q, rfl, hq, hE, rfl⟩ := hrel
            have HE := hide' hE
            clear hE
            by_cases hlt : q < k
            · have hltq : (q : Int) < (k : Int) := by omega
              have ek := hide' (wsc (a := q) (by have := HL.out; omega))
              have Hms := hide' (msr' hlt _ rfl)
              have hqz : q < zs.length := by have := HL.out.2.2.2.1; omega
              rcases HSs.out _ HJ.out.bel with z | ⟨xb, xo, hsa, hxb, hxc⟩
              · rw [z] at hqz; simp at hqz
              have ic := hxc q hqz
              obtain ⟨u, hu⟩ : ∃ u, u = zs.getD q 0 := ⟨_, rfl⟩
              rw [← hu] at ic
              obtain rfl := hsa
              have HU := hide' (And.intro hu (And.intro hlt hqz))
              clear hxc hxb hu hq hlt hqz
              by_cases hu0 : 0 < u
              · have D1 := hide' (ended_any (q : Int) HJ.out.bo)
                rw [en_ls cs _ _ HU.out.2.1] at D1
                by_cases hl : ((tms (nns zs q) ps q p).length : Int) = nns zs q
                · have he : ¬ ed (nns zs q) (tms (nns zs q) ps q p) < 0 := fun z => (ed_pos (nns_pos zs q)).1 z hl
                  have HE2 : Hid (∀ j : Nat, j < q + 1 → 0 < zs.getD j 0 → ((tms (nns zs j) ps j p).length : Int) = nns zs j) := hide' (fun j hj hz => by
                    by_cases e : j = q
                    · subst e; exact hl
                    · exact HE.out j (by omega) hz)
                  generalize ed (nns zs q) (tms (nns zs q) ps q p) = en at *
                  clear hl
                  go_wp2_with fail
                  refine D1.out.mono ?_
                  rintro e w6 ⟨rfl, rfl⟩
                  clear D1
                  go_wp2_with fail
                  exact ⟨⟨q + 1, by first | rfl | rw [ek.out], HU.out.2.1, HE2.out, by trivial⟩, by first | exact Hms.out | (rw [ek.out]; exact Hms.out)⟩
                · have he : ed (nns zs q) (tms (nns zs q) ps q p) < 0 := (ed_pos (nns_pos zs q)).2 hl
                  have RF : Hid (r = false) := hide' (false_of HR.out (fun h => hl (by
                    have := perm_end h HU.out.2.2 (by rw [← HU.out.1]; exact hu0)
                    rw [← HL.out.2.2.2.2] at this
                    exact this)))
                  generalize ed (nns zs q) (tms (nns zs q) ps q p) = en at *
                  have HBB := hide' HJ.out.bel
                  clear hl
                  go_wp2_with fail
                  refine D1.out.mono ?_
                  rintro e w6 ⟨rfl, rfl⟩
                  clear D1
                  go_wp2
                  go_ret
                  exact ⟨by rw [RF.out]; rfl, HBB.out⟩
              · have HE2 : Hid (∀ j : Nat, j < q + 1 → 0 < zs.getD j 0 → ((tms (nns zs j) ps j p).length : Int) = nns zs j) := hide' (fun j hj hz => by
                  by_cases e : j = q
                  · subst e; rw [← HU.out.1] at hz; omega
                  · exact HE.out j (by omega) hz)
                go_wp2_with fail
                exact ⟨⟨q + 1, by first | rfl | rw [ek.out], HU.out.2.1, HE2.out, by trivial⟩, by first | exact Hms.out | (rw [ek.out]; exact Hms.out)⟩
            · obtain rfl : q = k := by omega
              have hltq : ¬ ((q : Int) < (q : Int)) := by omega
              have hPm : ps.Perm (fz zs zs.length) := pk_perm (by rw [← HL.out.2.2.2.2]; exact HK.out) (fun i hi hz => by rw [← HL.out.2.2.2.2]; exact HE.out i (by rw [HL.out.2.2.2.1]; exact hi) hz)
              have RT : Hid (r = true) := hide' (HR.out.2 hPm)
              have hEq : ((p : Int) == (sk : Int)) = true := by
                have h1 := perm_len hPm
                have h2 := HL.out.2.2.2.2
                have h3 := HS.out
                simp
                omega
              have HBB := hide' HJ.out.bel
              clear hPm hq hlt
              go_wp2
              go_ret
              exact ⟨by rw [RT.out]; rfl, HBB.out⟩
end O
end Go.Proofs.Ytbgjggblaeadlaa
