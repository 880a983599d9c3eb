import Derived.Test.YtkipcdjadmocaaaChgW
set_option linter.unusedVariables false
set_option linter.unusedSimpArgs false
namespace Go.Proofs.Ytkipcdjadmocaaa
open Go.RowKit
set_option maxHeartbeats 4000000 in
set_option maxRecDepth 100000 in
theorem change_58 (op : Nat → Nat → Nat) (L : Bool → Bool → Bool) (hcl : ∀ (a b : Nat) (w : World), a < 18446744073709551616 → b < 18446744073709551616 → Calls Try.prog 58 #[.int .u64 (a : Int), .int .u64 (b : Int)] w fun e w' => e = .returned (.int .u64 (op a b : Nat)) ∧ w' = w)
    (x g room : Nat) (p q : Nat → Bool) (hop : ∀ j, op (B.wd p j) (B.wd q j) = B.wd (fun i => L (p i) (q i)) j) (hlt : ∀ j, op (B.wd p j) (B.wd q j) < 18446744073709551616) (ov : Option Addr) (O : World → Prop)
    (hO : ∀ (k : Nat) wx, k < (room + 255) / 256 → Bs x g room (B.upto p (B.laid L room p q) (k * 4)) wx → O wx → Calls Try.prog 60 #[.pointer ov, .int .i64 (k : Nat)] wx fun e w' => e = .returned (.agg (four q k)) ∧ Below wx.heap.size wx w')
    (hk : ∀ wx wy, O wx → Turn (fun j => j = g) wx wy → O wy) (w : World) (h : Bs x g room p w) (ho : O w) :
    Calls Try.prog 55 #[.pointer (some ⟨x, 0, none⟩), .pointer ov, .func (.func 58) #[] #[]] w fun e w' => e = .returned (.bool (B.chg p (B.laid L room p q) (nw room))) ∧ Bs x g room (B.laid L room p q) w' ∧ O w' ∧ Turn (fun j => j = g) w w' := by
  have hle := h.le
  have hout := h.out
  have hnw : nw room = (room + 255) / 256 * 4 := rfl
  have hQ : (room + 255) / 256 ≤ 256 := by omega
  have hout' : ∀ i, room ≤ i → B.laid L room p q i = false := fun i hi => by simp only [B.laid]; rw [decide_eq_false (by omega)]; simp
  have hwd : ∀ m, op (B.wd p m) (B.wd q m) &&& B.wd (B.rch room) m = B.wd (B.laid L room p q) m := fun m => by rw [hop, B.wd_and]; rfl
  have Hst := hide' (fun m wx hb hm u hu => Bs.step (x := x) (g := g) (room := room) (p := p) (p' := B.laid L room p q) (w := wx) m hb hm hout' hout u hu)
  have Hq := hide' (fun k wx (hb : Bs x g room (B.upto p (B.laid L room p q) (k * 4)) wx) => quad_any x g room (B.upto p (B.laid L room p q) (k * 4)) k wx hb)
  have Hqs := hide' (fun wx (hb : Bs x g room p wx) => quads_any x g room p wx hb)
  have h4 : ∀ k, four (B.upto p (B.laid L room p q) (k * 4)) k = four p k := fun k => by
    unfold four
    rw [B.upto_wd_ge _ _ _ _ (by omega), B.upto_wd_ge _ _ _ _ (by omega), B.upto_wd_ge _ _ _ _ (by omega), B.upto_wd_ge _ _ _ _ (by omega)]
  have HO := hide' hO
  have Hk := hide' hk
  have Hcl := hide' hcl
  have Hlt := hide' hlt
  have Hwd := hide' hwd
  have H4 := hide' h4
  have H := hide' h
  have Hfin : Hid (B.upto p (B.laid L room p q) ((room + 255) / 256 * 4) = B.laid L room p q) := by
    show _ = _
    funext i
    simp only [B.upto]
    by_cases hi : i < 64 * ((room + 255) / 256 * 4)
    · rw [if_pos hi]
    · rw [if_neg hi, hout i (by omega), hout' i (by omega)]
  have H0 := hide' (B.upto_zero p (B.laid L room p q))
  rw [hnw]
  have Hnw := hide' hnw
  have Hcg : Hid (∀ m, B.chg p (B.laid L room p q) (m + 1) = (B.chg p (B.laid L room p q) m || (((B.wd (B.laid L room p q) m : Nat) : Int) != ((B.wd p m : Nat) : Int)))) := fun m => rfl
  clear hop hlt hO hk hcl hwd h4 h hout hout' hnw
  generalize B.laid L room p q = p' at *
  generalize (room + 255) / 256 = Q at *
  go_enter Try.func55, Try.ntmps55
  go_wp2_with fail
  refine (Hqs.out _ H.out).mono ?_
  rintro e w1 ⟨rfl, hw1⟩
  replace hw1 := hw1.symm
  subst hw1
  go_wp2_with fail
  go_loopw [7, 16] (fun c i wx => ∃ k : Nat, k ≤ Q ∧ i = .int .i64 (k : Int) ∧ c = .bool (B.chg p p' (k * 4)) ∧ Bs x g room (B.upto p p' (k * 4)) wx ∧ O wx ∧ Turn (fun j => j = g) w wx) (fun _ i _ => Q - (intOf i).toNat)
  case atStart => exact ⟨0, by omega, rfl, rfl, by rw [Nat.zero_mul, H0.out]; exact H.out, ho, Turn.refl _ _⟩
  case round =>
    obtain ⟨k, hkQ, rfl, rfl, hBk, hOk, tk⟩ := hrel
    by_cases hlt : k < Q
    · have hlt' : (k : Int) < (Q : Int) := by omega
      go_wp2_with fail
      refine (Hq.out k _ hBk).mono ?_
      rw [H4.out k]
      rintro e w2 ⟨rfl, b2⟩
      have hB2 := hBk.below b2
      have hO2 := Hk.out _ _ hOk (turn_below b2)
      have t2 := tk.trans (turn_below b2)
      clear hBk hOk tk b2
      go_wp2_with fail
      refine (HO.out k _ hlt hB2 hO2).mono ?_
      rintro e w3 ⟨rfl, b3⟩
      have hB3 := hB2.below b3
      have hO3 := Hk.out _ _ hO2 (turn_below b3)
      have t3 := t2.trans (turn_below b3)
      clear hB2 hO2 t2 b3
      have hgl := hB3.ltg
      unfold four
      go_wp2_with fail
      have hB5 : ∀ o1 o2, Bs x g room (B.upto p p' (k * 4)) ((w3.alloc o1).alloc o2) := fun o1 o2 => hB3.kept (((Turn.refl (fun _ => False) w3).alloc o1).alloc o2) (fun q => q) (fun q => q)
      have hO5 : ∀ o1 o2, O ((w3.alloc o1).alloc o2) := fun o1 o2 => Hk.out _ _ hO3 (((Turn.refl _ w3).alloc o1).alloc o2)
      have t5 : ∀ o1 o2, Turn (fun j => j = g) w ((w3.alloc o1).alloc o2) := fun o1 o2 => (t3.alloc o1).alloc o2
      have hc5 : ∀ o1 i, i < 4 → ((w3.alloc o1).alloc (.cells #[.int .u64 (B.wd q (k * 4) : Nat), .int .u64 (B.wd q (k * 4 + 1) : Nat), .int .u64 (B.wd q (k * 4 + 2) : Nat), .int .u64 (B.wd q (k * 4 + 3) : Nat)] 64)).cell? ⟨w3.heap.size + 1, i, none⟩ = some (.int .u64 (B.wd q (k * 4 + i) : Nat)) := by
        intro o1 i hi
        have e := heap_alloc_new (w3.alloc o1) (.cells #[.int .u64 (B.wd q (k * 4) : Nat), .int .u64 (B.wd q (k * 4 + 1) : Nat), .int .u64 (B.wd q (k * 4 + 2) : Nat), .int .u64 (B.wd q (k * 4 + 3) : Nat)] 64)
        rw [show (w3.alloc o1).heap.size = w3.heap.size + 1 by simp] at e
        rw [Lib.cell_of_heap e]
        rcases (by omega : i = 0 ∨ i = 1 ∨ i = 2 ∨ i = 3) with rfl | rfl | rfl | rfl <;> rfl
      have hbg : w3.heap.size + 1 ≠ g := by omega
      have hs5 : ∀ o1 o2, w3.heap.size + 1 < ((w3.alloc o1).alloc o2).heap.size := fun o1 o2 => by simp
      generalize w3.heap.size + 1 = bk at *
      obtain ⟨N, hN⟩ : ∃ N, nw room = N := ⟨_, rfl⟩
      have hNQ : N = Q * 4 := by rw [← hN]; exact Hnw.out
      go_loopw [7, 26] (fun c i wx => ∃ n : Nat, n ≤ 4 ∧ i = .int .i64 (n : Int) ∧ c = .bool (B.chg p p' (k * 4 + n)) ∧ Bs x g room (B.upto p p' (k * 4 + n)) wx ∧ O wx ∧ Turn (fun j => j = g) w wx ∧ (∀ i, i < 4 → wx.cell? ⟨bk, i, none⟩ = some (.int .u64 (B.wd q (k * 4 + i) : Nat))) ∧ bk < wx.heap.size) (fun _ i _ => 4 - (intOf i).toNat)
      case atStart => exact ⟨0, by omega, rfl, rfl, hB5 _ _, hO5 _ _, t5 _ _, hc5 _, hs5 _ _⟩
      case round =>
        obtain ⟨n, hn4, rfl, hci, hBi, hOi, ti, cqs, hbl⟩ := hrel
        by_cases hn : n < 4
        · have hz3 : (n : Int) < 4 := by omega
          rcases (by omega : n = 0 ∨ n = 1 ∨ n = 2 ∨ n = 3) with rfl | rfl | rfl | rfl
          · obtain ⟨m, hm⟩ : ∃ m, k * 4 = m := ⟨_, rfl⟩
            have hmq : (k : Int) * 4 = (m : Int) := by omega
            have hmQ : m < N := by omega
            have hm1 : (m : Int) < (N : Int) := by omega
            have hq3 : IntKind.i64.wrap (m : Int) = (m : Int) := by rw [IntKind.wrap_i64]; omega
            have cq := cqs 0 (by omega)
            have hBm : Bs x g room (B.upto p p' m) wr := by rw [← hm]; exact hBi
            have c0 := hBm.c0
            have c1 := hBm.c1
            rw [hN] at c1
            have fg := hBm.fw m
            have cw := hBm.cw m (by rw [hN]; exact hmQ)
            rw [B.upto_wd_ge _ _ _ _ (Nat.le_refl _)] at cw
            have hxl := hBm.ltx
            have hgl := hBm.ltg
            have hxg := hBm.ne
            have hgx : g ≠ x := fun q => hxg q.symm
            have hgb : g ≠ bk := fun q => hbg q.symm
            try simp only [Nat.add_zero] at hci cq
            rw [hm] at cq
            have ha := B.wd_lt p m
            have hb := B.wd_lt q m
            have hz := Hlt.out m
            have hr := B.wd_lt (B.rch room) m
            have hy := Hwd.out m
            have HB := hide' hBm
            have hand := and_mask _ _ hz hr
            rw [hy] at hand
            have Hc2 := hide' (fun w => Hcl.out _ _ w ha hb)
            have Hre := hide' (fun w c0 => reached_any x room m w c0 hle (by omega))
            have Hs2 := hide' (fun wx hb hm => Hst.out m wx hb hm _ rfl)
            have Hcg2 := hide' (Hcg.out m)
            have hci' : u7 = .bool (B.chg p p' m) := by rw [hci, hm]
            clear hy hz hr ha hb hci hBi hBm
            subst hci'
            have hwp : B.wd p (k * 4) = B.wd p m := by rw [hm]
            rw [hwp]
            clear hwp
            generalize op (B.wd p m) (B.wd q m) = z at *
            generalize B.wd p m = a at *
            generalize B.wd q m = bq at *
            generalize B.wd (B.rch room) m = r at *
            generalize hyy : B.wd p' m = y at *
            generalize B.chg p p' m = ch at *
            have HCQ := hide' cqs
            have Hm1 : Hid (k * 4 + (0 + 1) = m + 1) := (show k * 4 + (0 + 1) = m + 1 by omega)
            have hix := idx0
            have HN := hide' hN
            clear hN hNQ
            clear hB5 hO5 t5 hc5 hs5 cqs hn hz3 hn4 hm hB3 hO3 t3
            go_wp2_with fail
            go_region_held3 (fun w' => w'.cell? ⟨x, 0, none⟩ = some (.int .i64 (room : Int)) ∧ w'.cell? ⟨x, 1, none⟩ = some (.slice (some ⟨g, 0, none⟩) N N) ∧ w'.cell? ⟨bk, 0, none⟩ = some (.int .u64 (bq : Int)) ∧ w'.frozen? ⟨g, m, none⟩ = false) (go_keep) ((first | (go_at_call 66; refine (Hre.out wr.drew c0).mono ?_; rintro e w1 ⟨rfl, hw1⟩; replace hw1 := hw1.symm; subst hw1) | (go_at_call 58; refine (Hc2.out _).mono ?_; rintro e w1 ⟨rfl, hw1⟩; replace hw1 := hw1.symm; subst hw1)))
            have tt : Turn (fun j => j = g) wr (wr.setCell ⟨g, m, none⟩ (.int .u64 (y : Int))).drew := ((Turn.refl (fun j => j = g) wr).setCell (p := ⟨g, m, none⟩) (fun _ => rfl) _).drew
            have hBn : Bs x g room (B.upto p p' (m + 1)) (wr.setCell ⟨g, m, none⟩ (.int .u64 (y : Int))).drew := (Hs2.out wr HB.out (by rw [HN.out]; exact hmQ)).drewN 1
            have hOn := Hk.out _ _ hOi tt
            have tn := ti.trans tt
            have cqn : ∀ i, i < 4 → (wr.setCell ⟨g, m, none⟩ (.int .u64 (y : Int))).drew.cell? ⟨bk, i, none⟩ = some (.int .u64 (B.wd q (k * 4 + i) : Nat)) := fun i hi => (tt.cell (p := ⟨bk, i, none⟩) hbl hbg).trans (HCQ.out i hi)
            have hbn : bk < (wr.setCell ⟨g, m, none⟩ (.int .u64 (y : Int))).drew.heap.size := Nat.lt_of_lt_of_le hbl tt.size
            have cn := hBn.cw m (by rw [HN.out]; exact hmQ)
            rw [B.upto_wd_lt _ _ _ _ (by omega), hyy] at cn
            have c1n := hBn.c1
            rw [HN.out] at c1n
            clear tt c0 c1 fg cw cq hOi ti
            generalize (wr.setCell ⟨g, m, none⟩ (.int .u64 (y : Int))).drew = wn at *
            have hBf : Bs x g room (B.upto p p' (k * 4 + (0 + 1))) wn := by rw [Hm1.out]; exact hBn
            have HBn := hide' hBf
            have Hcqn := hide' cqn
            clear hBn cqn hBf
            cases ch
            · have hcf : Value.bool ((y : Int) != (a : Int)) = .bool (B.chg p p' (k * 4 + (0 + 1))) := by rw [Hm1.out, Hcg2.out]; rfl
              have Hcf := hide' hcf
              clear hcf
              go_wp2
              exact ⟨⟨0 + 1, by omega, rfl, Hcf.out, HBn.out, hOn, tn, Hcqn.out, hbn⟩, by simp [intOf]⟩
            · have hcf : Value.bool true = .bool (B.chg p p' (k * 4 + (0 + 1))) := by rw [Hm1.out, Hcg2.out]; rfl
              have Hcf := hide' hcf
              clear hcf
              go_wp2
              exact ⟨⟨0 + 1, by omega, rfl, Hcf.out, HBn.out, hOn, tn, Hcqn.out, hbn⟩, by simp [intOf]⟩
          · obtain ⟨m, hm⟩ : ∃ m, k * 4 + 1 = m := ⟨_, rfl⟩
            have hmq : (k : Int) * 4 + 1 = (m : Int) := by omega
            have hmQ : m < N := by omega
            have hm1 : (m : Int) < (N : Int) := by omega
            have hq3 : IntKind.i64.wrap (m : Int) = (m : Int) := by rw [IntKind.wrap_i64]; omega
            have cq := cqs 1 (by omega)
            have hBm : Bs x g room (B.upto p p' m) wr := by rw [← hm]; exact hBi
            have c0 := hBm.c0
            have c1 := hBm.c1
            rw [hN] at c1
            have fg := hBm.fw m
            have cw := hBm.cw m (by rw [hN]; exact hmQ)
            rw [B.upto_wd_ge _ _ _ _ (Nat.le_refl _)] at cw
            have hxl := hBm.ltx
            have hgl := hBm.ltg
            have hxg := hBm.ne
            have hgx : g ≠ x := fun q => hxg q.symm
            have hgb : g ≠ bk := fun q => hbg q.symm
            try simp only [Nat.add_zero] at hci cq
            rw [hm] at cq
            have ha := B.wd_lt p m
            have hb := B.wd_lt q m
            have hz := Hlt.out m
            have hr := B.wd_lt (B.rch room) m
            have hy := Hwd.out m
            have HB := hide' hBm
            have hand := and_mask _ _ hz hr
            rw [hy] at hand
            have Hc2 := hide' (fun w => Hcl.out _ _ w ha hb)
            have Hre := hide' (fun w c0 => reached_any x room m w c0 hle (by omega))
            have Hs2 := hide' (fun wx hb hm => Hst.out m wx hb hm _ rfl)
            have Hcg2 := hide' (Hcg.out m)
            have hci' : u7 = .bool (B.chg p p' m) := by rw [hci, hm]
            clear hy hz hr ha hb hci hBi hBm
            subst hci'
            have hwp : B.wd p (k * 4 + 1) = B.wd p m := by rw [hm]
            rw [hwp]
            clear hwp
            generalize op (B.wd p m) (B.wd q m) = z at *
            generalize B.wd p m = a at *
            generalize B.wd q m = bq at *
            generalize B.wd (B.rch room) m = r at *
            generalize hyy : B.wd p' m = y at *
            generalize B.chg p p' m = ch at *
            have HCQ := hide' cqs
            have Hm1 : Hid (k * 4 + (1 + 1) = m + 1) := (show k * 4 + (1 + 1) = m + 1 by omega)
            have hix := idx1
            have HN := hide' hN
            clear hN hNQ
            clear hB5 hO5 t5 hc5 hs5 cqs hn hz3 hn4 hm hB3 hO3 t3
            go_wp2_with fail
            go_region_held3 (fun w' => w'.cell? ⟨x, 0, none⟩ = some (.int .i64 (room : Int)) ∧ w'.cell? ⟨x, 1, none⟩ = some (.slice (some ⟨g, 0, none⟩) N N) ∧ w'.cell? ⟨bk, 1, none⟩ = some (.int .u64 (bq : Int)) ∧ w'.frozen? ⟨g, m, none⟩ = false) (go_keep) ((first | (go_at_call 66; refine (Hre.out wr.drew c0).mono ?_; rintro e w1 ⟨rfl, hw1⟩; replace hw1 := hw1.symm; subst hw1) | (go_at_call 58; refine (Hc2.out _).mono ?_; rintro e w1 ⟨rfl, hw1⟩; replace hw1 := hw1.symm; subst hw1)))
            have tt : Turn (fun j => j = g) wr (wr.setCell ⟨g, m, none⟩ (.int .u64 (y : Int))).drew := ((Turn.refl (fun j => j = g) wr).setCell (p := ⟨g, m, none⟩) (fun _ => rfl) _).drew
            have hBn : Bs x g room (B.upto p p' (m + 1)) (wr.setCell ⟨g, m, none⟩ (.int .u64 (y : Int))).drew := (Hs2.out wr HB.out (by rw [HN.out]; exact hmQ)).drewN 1
            have hOn := Hk.out _ _ hOi tt
            have tn := ti.trans tt
            have cqn : ∀ i, i < 4 → (wr.setCell ⟨g, m, none⟩ (.int .u64 (y : Int))).drew.cell? ⟨bk, i, none⟩ = some (.int .u64 (B.wd q (k * 4 + i) : Nat)) := fun i hi => (tt.cell (p := ⟨bk, i, none⟩) hbl hbg).trans (HCQ.out i hi)
            have hbn : bk < (wr.setCell ⟨g, m, none⟩ (.int .u64 (y : Int))).drew.heap.size := Nat.lt_of_lt_of_le hbl tt.size
            have cn := hBn.cw m (by rw [HN.out]; exact hmQ)
            rw [B.upto_wd_lt _ _ _ _ (by omega), hyy] at cn
            have c1n := hBn.c1
            rw [HN.out] at c1n
            clear tt c0 c1 fg cw cq hOi ti
            generalize (wr.setCell ⟨g, m, none⟩ (.int .u64 (y : Int))).drew = wn at *
            have hBf : Bs x g room (B.upto p p' (k * 4 + (1 + 1))) wn := by rw [Hm1.out]; exact hBn
            have HBn := hide' hBf
            have Hcqn := hide' cqn
            clear hBn cqn hBf
            cases ch
            · have hcf : Value.bool ((y : Int) != (a : Int)) = .bool (B.chg p p' (k * 4 + (1 + 1))) := by rw [Hm1.out, Hcg2.out]; rfl
              have Hcf := hide' hcf
              clear hcf
              go_wp2
              exact ⟨⟨1 + 1, by omega, rfl, Hcf.out, HBn.out, hOn, tn, Hcqn.out, hbn⟩, by simp [intOf]⟩
            · have hcf : Value.bool true = .bool (B.chg p p' (k * 4 + (1 + 1))) := by rw [Hm1.out, Hcg2.out]; rfl
              have Hcf := hide' hcf
              clear hcf
              go_wp2
              exact ⟨⟨1 + 1, by omega, rfl, Hcf.out, HBn.out, hOn, tn, Hcqn.out, hbn⟩, by simp [intOf]⟩
          · obtain ⟨m, hm⟩ : ∃ m, k * 4 + 2 = m := ⟨_, rfl⟩
            have hmq : (k : Int) * 4 + 2 = (m : Int) := by omega
            have hmQ : m < N := by omega
            have hm1 : (m : Int) < (N : Int) := by omega
            have hq3 : IntKind.i64.wrap (m : Int) = (m : Int) := by rw [IntKind.wrap_i64]; omega
            have cq := cqs 2 (by omega)
            have hBm : Bs x g room (B.upto p p' m) wr := by rw [← hm]; exact hBi
            have c0 := hBm.c0
            have c1 := hBm.c1
            rw [hN] at c1
            have fg := hBm.fw m
            have cw := hBm.cw m (by rw [hN]; exact hmQ)
            rw [B.upto_wd_ge _ _ _ _ (Nat.le_refl _)] at cw
            have hxl := hBm.ltx
            have hgl := hBm.ltg
            have hxg := hBm.ne
            have hgx : g ≠ x := fun q => hxg q.symm
            have hgb : g ≠ bk := fun q => hbg q.symm
            try simp only [Nat.add_zero] at hci cq
            rw [hm] at cq
            have ha := B.wd_lt p m
            have hb := B.wd_lt q m
            have hz := Hlt.out m
            have hr := B.wd_lt (B.rch room) m
            have hy := Hwd.out m
            have HB := hide' hBm
            have hand := and_mask _ _ hz hr
            rw [hy] at hand
            have Hc2 := hide' (fun w => Hcl.out _ _ w ha hb)
            have Hre := hide' (fun w c0 => reached_any x room m w c0 hle (by omega))
            have Hs2 := hide' (fun wx hb hm => Hst.out m wx hb hm _ rfl)
            have Hcg2 := hide' (Hcg.out m)
            have hci' : u7 = .bool (B.chg p p' m) := by rw [hci, hm]
            clear hy hz hr ha hb hci hBi hBm
            subst hci'
            have hwp : B.wd p (k * 4 + 2) = B.wd p m := by rw [hm]
            rw [hwp]
            clear hwp
            generalize op (B.wd p m) (B.wd q m) = z at *
            generalize B.wd p m = a at *
            generalize B.wd q m = bq at *
            generalize B.wd (B.rch room) m = r at *
            generalize hyy : B.wd p' m = y at *
            generalize B.chg p p' m = ch at *
            have HCQ := hide' cqs
            have Hm1 : Hid (k * 4 + (2 + 1) = m + 1) := (show k * 4 + (2 + 1) = m + 1 by omega)
            have hix := idx2
            have HN := hide' hN
            clear hN hNQ
            clear hB5 hO5 t5 hc5 hs5 cqs hn hz3 hn4 hm hB3 hO3 t3
            go_wp2_with fail
            go_region_held3 (fun w' => w'.cell? ⟨x, 0, none⟩ = some (.int .i64 (room : Int)) ∧ w'.cell? ⟨x, 1, none⟩ = some (.slice (some ⟨g, 0, none⟩) N N) ∧ w'.cell? ⟨bk, 2, none⟩ = some (.int .u64 (bq : Int)) ∧ w'.frozen? ⟨g, m, none⟩ = false) (go_keep) ((first | (go_at_call 66; refine (Hre.out wr.drew c0).mono ?_; rintro e w1 ⟨rfl, hw1⟩; replace hw1 := hw1.symm; subst hw1) | (go_at_call 58; refine (Hc2.out _).mono ?_; rintro e w1 ⟨rfl, hw1⟩; replace hw1 := hw1.symm; subst hw1)))
            have tt : Turn (fun j => j = g) wr (wr.setCell ⟨g, m, none⟩ (.int .u64 (y : Int))).drew := ((Turn.refl (fun j => j = g) wr).setCell (p := ⟨g, m, none⟩) (fun _ => rfl) _).drew
            have hBn : Bs x g room (B.upto p p' (m + 1)) (wr.setCell ⟨g, m, none⟩ (.int .u64 (y : Int))).drew := (Hs2.out wr HB.out (by rw [HN.out]; exact hmQ)).drewN 1
            have hOn := Hk.out _ _ hOi tt
            have tn := ti.trans tt
            have cqn : ∀ i, i < 4 → (wr.setCell ⟨g, m, none⟩ (.int .u64 (y : Int))).drew.cell? ⟨bk, i, none⟩ = some (.int .u64 (B.wd q (k * 4 + i) : Nat)) := fun i hi => (tt.cell (p := ⟨bk, i, none⟩) hbl hbg).trans (HCQ.out i hi)
            have hbn : bk < (wr.setCell ⟨g, m, none⟩ (.int .u64 (y : Int))).drew.heap.size := Nat.lt_of_lt_of_le hbl tt.size
            have cn := hBn.cw m (by rw [HN.out]; exact hmQ)
            rw [B.upto_wd_lt _ _ _ _ (by omega), hyy] at cn
            have c1n := hBn.c1
            rw [HN.out] at c1n
            clear tt c0 c1 fg cw cq hOi ti
            generalize (wr.setCell ⟨g, m, none⟩ (.int .u64 (y : Int))).drew = wn at *
            have hBf : Bs x g room (B.upto p p' (k * 4 + (2 + 1))) wn := by rw [Hm1.out]; exact hBn
            have HBn := hide' hBf
            have Hcqn := hide' cqn
            clear hBn cqn hBf
            cases ch
            · have hcf : Value.bool ((y : Int) != (a : Int)) = .bool (B.chg p p' (k * 4 + (2 + 1))) := by rw [Hm1.out, Hcg2.out]; rfl
              have Hcf := hide' hcf
              clear hcf
              go_wp2
              exact ⟨⟨2 + 1, by omega, rfl, Hcf.out, HBn.out, hOn, tn, Hcqn.out, hbn⟩, by simp [intOf]⟩
            · have hcf : Value.bool true = .bool (B.chg p p' (k * 4 + (2 + 1))) := by rw [Hm1.out, Hcg2.out]; rfl
              have Hcf := hide' hcf
              clear hcf
              go_wp2
              exact ⟨⟨2 + 1, by omega, rfl, Hcf.out, HBn.out, hOn, tn, Hcqn.out, hbn⟩, by simp [intOf]⟩
          · obtain ⟨m, hm⟩ : ∃ m, k * 4 + 3 = m := ⟨_, rfl⟩
            have hmq : (k : Int) * 4 + 3 = (m : Int) := by omega
            have hmQ : m < N := by omega
            have hm1 : (m : Int) < (N : Int) := by omega
            have hq3 : IntKind.i64.wrap (m : Int) = (m : Int) := by rw [IntKind.wrap_i64]; omega
            have cq := cqs 3 (by omega)
            have hBm : Bs x g room (B.upto p p' m) wr := by rw [← hm]; exact hBi
            have c0 := hBm.c0
            have c1 := hBm.c1
            rw [hN] at c1
            have fg := hBm.fw m
            have cw := hBm.cw m (by rw [hN]; exact hmQ)
            rw [B.upto_wd_ge _ _ _ _ (Nat.le_refl _)] at cw
            have hxl := hBm.ltx
            have hgl := hBm.ltg
            have hxg := hBm.ne
            have hgx : g ≠ x := fun q => hxg q.symm
            have hgb : g ≠ bk := fun q => hbg q.symm
            try simp only [Nat.add_zero] at hci cq
            rw [hm] at cq
            have ha := B.wd_lt p m
            have hb := B.wd_lt q m
            have hz := Hlt.out m
            have hr := B.wd_lt (B.rch room) m
            have hy := Hwd.out m
            have HB := hide' hBm
            have hand := and_mask _ _ hz hr
            rw [hy] at hand
            have Hc2 := hide' (fun w => Hcl.out _ _ w ha hb)
            have Hre := hide' (fun w c0 => reached_any x room m w c0 hle (by omega))
            have Hs2 := hide' (fun wx hb hm => Hst.out m wx hb hm _ rfl)
            have Hcg2 := hide' (Hcg.out m)
            have hci' : u7 = .bool (B.chg p p' m) := by rw [hci, hm]
            clear hy hz hr ha hb hci hBi hBm
            subst hci'
            have hwp : B.wd p (k * 4 + 3) = B.wd p m := by rw [hm]
            rw [hwp]
            clear hwp
            generalize op (B.wd p m) (B.wd q m) = z at *
            generalize B.wd p m = a at *
            generalize B.wd q m = bq at *
            generalize B.wd (B.rch room) m = r at *
            generalize hyy : B.wd p' m = y at *
            generalize B.chg p p' m = ch at *
            have HCQ := hide' cqs
            have Hm1 : Hid (k * 4 + (3 + 1) = m + 1) := (show k * 4 + (3 + 1) = m + 1 by omega)
            have hix := idx3
            have HN := hide' hN
            clear hN hNQ
            clear hB5 hO5 t5 hc5 hs5 cqs hn hz3 hn4 hm hB3 hO3 t3
            go_wp2_with fail
            go_region_held3 (fun w' => w'.cell? ⟨x, 0, none⟩ = some (.int .i64 (room : Int)) ∧ w'.cell? ⟨x, 1, none⟩ = some (.slice (some ⟨g, 0, none⟩) N N) ∧ w'.cell? ⟨bk, 3, none⟩ = some (.int .u64 (bq : Int)) ∧ w'.frozen? ⟨g, m, none⟩ = false) (go_keep) ((first | (go_at_call 66; refine (Hre.out wr.drew c0).mono ?_; rintro e w1 ⟨rfl, hw1⟩; replace hw1 := hw1.symm; subst hw1) | (go_at_call 58; refine (Hc2.out _).mono ?_; rintro e w1 ⟨rfl, hw1⟩; replace hw1 := hw1.symm; subst hw1)))
            have tt : Turn (fun j => j = g) wr (wr.setCell ⟨g, m, none⟩ (.int .u64 (y : Int))).drew := ((Turn.refl (fun j => j = g) wr).setCell (p := ⟨g, m, none⟩) (fun _ => rfl) _).drew
            have hBn : Bs x g room (B.upto p p' (m + 1)) (wr.setCell ⟨g, m, none⟩ (.int .u64 (y : Int))).drew := (Hs2.out wr HB.out (by rw [HN.out]; exact hmQ)).drewN 1
            have hOn := Hk.out _ _ hOi tt
            have tn := ti.trans tt
            have cqn : ∀ i, i < 4 → (wr.setCell ⟨g, m, none⟩ (.int .u64 (y : Int))).drew.cell? ⟨bk, i, none⟩ = some (.int .u64 (B.wd q (k * 4 + i) : Nat)) := fun i hi => (tt.cell (p := ⟨bk, i, none⟩) hbl hbg).trans (HCQ.out i hi)
            have hbn : bk < (wr.setCell ⟨g, m, none⟩ (.int .u64 (y : Int))).drew.heap.size := Nat.lt_of_lt_of_le hbl tt.size
            have cn := hBn.cw m (by rw [HN.out]; exact hmQ)
            rw [B.upto_wd_lt _ _ _ _ (by omega), hyy] at cn
            have c1n := hBn.c1
            rw [HN.out] at c1n
            clear tt c0 c1 fg cw cq hOi ti
            generalize (wr.setCell ⟨g, m, none⟩ (.int .u64 (y : Int))).drew = wn at *
            have hBf : Bs x g room (B.upto p p' (k * 4 + (3 + 1))) wn := by rw [Hm1.out]; exact hBn
            have HBn := hide' hBf
            have Hcqn := hide' cqn
            clear hBn cqn hBf
            cases ch
            · have hcf : Value.bool ((y : Int) != (a : Int)) = .bool (B.chg p p' (k * 4 + (3 + 1))) := by rw [Hm1.out, Hcg2.out]; rfl
              have Hcf := hide' hcf
              clear hcf
              go_wp2
              exact ⟨⟨3 + 1, by omega, rfl, Hcf.out, HBn.out, hOn, tn, Hcqn.out, hbn⟩, by simp [intOf]⟩
            · have hcf : Value.bool true = .bool (B.chg p p' (k * 4 + (3 + 1))) := by rw [Hm1.out, Hcg2.out]; rfl
              have Hcf := hide' hcf
              clear hcf
              go_wp2
              exact ⟨⟨3 + 1, by omega, rfl, Hcf.out, HBn.out, hOn, tn, Hcqn.out, hbn⟩, by simp [intOf]⟩
        · have hn5 : n = 4 := by omega
          subst hn5
          subst hci
          have e4 : ¬ ((4 : Nat) : Int) < 4 := by omega
          clear hn hB5 hO5 t5 hc5 hs5 cqs
          go_wp2
          exact ⟨⟨k + 1, by omega, by go_num, by rw [show (k + 1) * 4 = k * 4 + 4 by omega], by rw [show (k + 1) * 4 = k * 4 + 4 by omega]; exact hBi, hOi, ti⟩, by simp [intOf]; omega⟩
    · have hkq : k = Q := by omega
      subst hkq
      have hlt' : ¬ (k : Int) < (k : Int) := by omega
      rw [Hfin.out] at hBk
      clear hlt
      go_wp2
      go_ret
      exact ⟨rfl, hBk, hOk, tk⟩
end Go.Proofs.Ytkipcdjadmocaaa
