import Derived.Test.YtikpjdgigiadnaaRfF
set_option linter.unusedVariables false
set_option linter.unusedSimpArgs false
namespace Go.Proofs.Ytikpjdgigiadnaa
open Go.RowKit
namespace F
open C
/-- the law's two lists -/
structure Sf (w : World) (qs es : List Int) (g1 c1 g2 c2 : Nat) (wx : World) : Prop where
  bel : Below w.heap.size w wx
  t1 : Tw w.heap.size g1 c1 qs wx
  t2 : Tw w.heap.size g2 c2 es wx
  ne : g1 ≠ g2
variable {w wx wy : World} {qs es : List Int} {g1 c1 g2 c2 : Nat}
theorem Sf.below (h : Sf w qs es g1 c1 g2 c2 wx) (b : Below wx.heap.size wx wy) : Sf w qs es g1 c1 g2 c2 wy := ⟨h.bel.trans (b.mono h.bel.size), h.t1.below b, h.t2.below b, h.ne⟩
theorem Sf.drewN (h : Sf w qs es g1 c1 g2 c2 wx) (m : Nat) : Sf w qs es g1 c1 g2 c2 (wx.drewN m) := h.below (bel_drewN (Below.refl _ _) m)
theorem mk_set (qs : List Int) (k : Nat) (v : Int) (hk : k < qs.length) : (F.mk qs 24).set k v = F.mk (qs.set k v) 24 := by
  rw [F.mk, F.mk, List.set_append_left _ _ hk]
theorem Tw.put {B g cap : Nat} (h : Tw B g cap qs wx) {k : Nat} (hk : k < qs.length) (v : Int) : Tw B g cap (qs.set k v) (wx.setCell ⟨g, k, none⟩ (.int .i64 v)) := by
  have := row_put (k := k) h.row v
  rw [mk_set _ _ _ hk] at this
  refine ⟨?_⟩
  rw [show (F.mk (qs.set k v) 24).length = (F.mk qs 24).length by simp [mk_len]]
  exact this
theorem Sf.put (h : Sf w qs es g1 c1 g2 c2 wx) {k : Nat} (hk : k < qs.length) (v : Int) : Sf w (qs.set k v) es g1 c1 g2 c2 (wx.setCell ⟨g1, k, none⟩ (.int .i64 v)) := by
  have t : Turn (fun j => j = g1) wx (wx.setCell ⟨g1, k, none⟩ (.int .i64 v)) := (Turn.refl (fun j => j = g1) wx).setCell (p := ⟨g1, k, none⟩) (fun _ => rfl) _
  exact ⟨h.bel.trans (t.below (fun j hj => by rw [hj]; exact h.t1.blk.1) h.bel.size), h.t1.put hk v, h.t2.kept t (fun q => h.ne q.symm), h.ne⟩
theorem Sf.cell (h : Sf w qs es g1 c1 g2 c2 wx) {k : Nat} (hk : k < qs.length) : ∃ u, wx.cell? ⟨g1, k, none⟩ = some (.int .i64 u) ∧ wx.frozen? ⟨g1, k, none⟩ = false := by
  have := row_int h.t1.row (k := k) (by rw [mk_len]; omega)
  exact ⟨_, this.1, this.2.1⟩
set_option maxRecDepth 100000 in
set_option maxHeartbeats 4000000 in
theorem fair_walk (pa : Option Addr) (pc : Nat) (ps : List Int) (ea : Option Addr) (ec : Nat) (es : List Int) (W : Int) (w : World) (hp : Ints w pa ps) (he : Ints w ea es) (hpn : pa = none → pc = 0) (hen : ea = none → ec = 0) (hpl : ps.length ≤ 17592186043904) (hel : es.length ≤ 17592186043904) :
    Calls Try.prog 7 #[.slice pa ps.length pc, .slice ea es.length ec, .int .i64 W] w fun e w' => e = .returned (.bool true) ∧ Below w.heap.size w w' := by
  have hp8 : ps.length ≤ 17592186044000 := by omega
  have he8 : es.length ≤ 17592186044000 := by omega
  have C1 := hide' (rfair_any pa pc ps ea ec es W w hp he hp8 he8)
  have C2 := hide' (twin_any pa pc ps w hp hpn hpl)
  have HP := hide' (fun w' (b : Below w.heap.size w w') => Ints.below hp b)
  have HE := hide' (fun w' (b : Below w.heap.size w w') => Ints.below he b)
  have HN := hide' (And.intro hpn hen)
  have HL := hide' (And.intro (And.intro hpl hel) (And.intro hp8 he8))
  clear hp he hpn hen hpl hel hp8 he8
  go_enter Try.func7, Try.ntmps7
  go_wp2_with fail
  refine C1.out.mono ?_
  rintro e w0 ⟨rfl, rfl⟩
  go_wp2_with fail
  refine C2.out.mono ?_
  rintro e w1 ⟨g1, c1, rfl, t1, b1⟩
  have C3 := hide' (twin_any ea ec es w1 (HE.out w1 b1) HN.out.2 HL.out.1.2)
  have T1 := hide' (And.intro t1 b1)
  clear t1 b1 C1 C2
  go_wp2_with fail
  refine C3.out.mono ?_
  rintro e w2 ⟨g2, c2, rfl, t2, b2⟩
  have K2 : Hid (Sf w0 ps es g1 c1 g2 c2 w2) := hide' ⟨T1.out.2.trans (b2.mono T1.out.2.size), T1.out.1.below b2, ⟨row_lower t2.row T1.out.2.size⟩, fun q => by have h1 := T1.out.1.blk.2; have h2 := t2.blk.1; omega⟩
  clear t2 b2 C3 T1
  have C4 := hide' (fun wx (h : Sf w0 ps es g1 c1 g2 c2 wx) => fair_any (some ⟨g1, 0, none⟩) c1 ps (some ⟨g2, 0, none⟩) c2 es W wx h.t1.ints h.t2.ints HL.out.2.1 HL.out.2.2)
  go_wp2_with fail
  refine (C4.out _ K2.out).mono ?_
  rintro e w3 ⟨rfl, b3⟩
  have K3 := hide' (K2.out.below b3)
  clear b3 K2
  go_wp2_with fail
  refine (C4.out _ K3.out).mono ?_
  rintro e w4 ⟨rfl, b4⟩
  have K4 := hide' (K3.out.below b4)
  clear b4 K3 C4
  generalize fr ps es W = fv at *
  go_wp2_with fail
  refine (kept_any pa pc ps w4 K4.out.t1 (HP.out _ K4.out.bel) HL.out.1.1).mono ?_
  rintro e w5 ⟨rfl, m5, hw5⟩
  have K5 : Hid (Sf w0 ps es g1 c1 g2 c2 w5) := hide' (by rw [hw5]; exact K4.out.drewN m5)
  clear hw5 K4
  go_wp2_with fail
  refine (kept_any ea ec es w5 K5.out.t2 (HE.out _ K5.out.bel) HL.out.1.2).mono ?_
  rintro e w6 ⟨rfl, m6, hw6⟩
  have K6 : Hid (Sf w0 ps es g1 c1 g2 c2 w6) := hide' (by rw [hw6]; exact K5.out.drewN m6)
  clear hw6 K5
  go_wp2_with fail
  go_loopw [13] (fun i wx => ∃ (k : Nat) (qs : List Int), i = .int .i64 (k : Int) ∧ k ≤ ps.length ∧ qs.length = ps.length ∧ Sf w0 qs es g1 c1 g2 c2 wx) (fun i _ => ps.length - (intOf i).toNat)
  case atStart => exact ⟨0, ps, rfl, Nat.zero_le _, rfl, K6.out⟩
  case round =>
    obtain ⟨k, qs, rfl, hk, hq, hS⟩ := hrel
    have HS := hide' hS
    have HQ := hide' hq
    clear K6
    by_cases hlt : k < ps.length
    · have hlt' : (k : Int) < (ps.length : Int) := by omega
      obtain ⟨j, hj⟩ : ∃ j : Nat, j = ps.length - 1 - k := ⟨_, rfl⟩
      have hjl : j < ps.length := by omega
      have hjl' : (j : Int) < (ps.length : Int) := by omega
      have hL := HL.out.2.1
      have v1 : wrap64 ((ps.length : Int) - 1) = (ps.length : Int) - 1 := wrap_in (by omega) (by omega)
      have v2 : wrap64 ((ps.length : Int) - 1 - (k : Int)) = (j : Int) := by rw [wrap_in (by omega) (by omega)]; omega
      have e1 : wrap64 ((k : Int) + 1) = (k : Int) + 1 := wrap_in (by omega) (by omega)
      have Hend := hide' (msr' hlt _ e1)
      have Hk := hide' hlt
      obtain ⟨u, ic, jf⟩ := hS.cell (k := k) (by omega)
      rcases HP.out _ hS.bel with q | ⟨pb, po, hpa, hpb, hpc⟩
      · rw [q] at hlt; simp at hlt
      have ip := hpc j hjl
      obtain ⟨pv, hpv⟩ : ∃ pv, ps.getD j 0 = pv := ⟨_, rfl⟩
      rw [hpv] at ip
      have K := hide' (hS.put (k := k) (by omega) pv)
      obtain rfl := hpa
      clear hpc hpb hpv hS hq hk hj hL
      go_wp2_with fail
      exact ⟨⟨k + 1, _, by first | rfl | (rw [e1]; rfl), Hk.out, by rw [List.length_set]; exact HQ.out, K.out⟩, by first | exact Hend.out | (rw [← e1]; exact Hend.out)⟩
    · obtain rfl : k = ps.length := by omega
      have C5 := hide' (fun wx (h : Sf w0 qs es g1 c1 g2 c2 wx) => fair_any (some ⟨g1, 0, none⟩) c1 qs (some ⟨g2, 0, none⟩) c2 es W wx h.t1.ints h.t2.ints (by rw [hq]; exact HL.out.2.1) HL.out.2.2)
      have C6 := hide' (fun wx (h : Sf w0 qs es g1 c1 g2 c2 wx) => rfair_any (some ⟨g1, 0, none⟩) c1 qs ea ec es W wx h.t1.ints (HE.out _ h.bel) (by rw [hq]; exact HL.out.2.1) HL.out.2.2)
      rw [hq] at C5 C6
      have hroom := hS.t1.room
      have hr1 : ps.length ≤ c1 := by omega
      clear hroom hS hq hlt hk
      generalize fr qs es W = fq at *
      go_wp2_with fail
      have hS0 : Sf w0 qs es g1 c1 g2 c2 wr.drew := HS.out.below (Below.refl _ _).drew
      go_region_held3 (fun w' => Sf w0 qs es g1 c1 g2 c2 w') (first | exact hS0 | exact hS1 | assumption) ((first | (go_at_call 28; refine (C5.out _ (by assumption)).mono ?_; rintro e w7 ⟨rfl, b7⟩; have hS1 := Sf.below (by assumption) b7) | (go_at_call 26; refine (C6.out _ (by assumption)).mono ?_; rintro e w8 ⟨rfl, rfl⟩)))
      rename_i hHeld
      have K := hide' hS1.bel
      clear hHeld hS1 b7 hS0
      go_wp2
      go_ret
      exact ⟨rfl, K.out⟩
end F
end Go.Proofs.Ytikpjdgigiadnaa
