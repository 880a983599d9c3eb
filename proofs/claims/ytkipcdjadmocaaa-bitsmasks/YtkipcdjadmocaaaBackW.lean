import Derived.Test.YtkipcdjadmocaaaLst
set_option linter.unusedVariables false
set_option linter.unusedSimpArgs false
namespace Go.Proofs.Ytkipcdjadmocaaa
open Go.RowKit
theorem info3 : (Try.prog.info? 3).map (fun i => (i.zero, i.size, i.bytes)) = some (some (.int .i64 0), 1, 8) := by kernel_rfl
theorem lst_sorted (m : Nat) : ∀ k, (lst m k).Pairwise (· < ·) := by
  intro k
  unfold lst
  exact (List.pairwise_lt_range).filter _
theorem lst_mem (m k i : Nat) : i ∈ lst m k ↔ i < k ∧ m.testBit i = true := by simp [lst]
theorem lst_lt (m j : Nat) (h : j < (lst m 16).length) : (lst m 16).getD j 0 < 16 := by
  have : (lst m 16)[j] ∈ lst m 16 := List.getElem_mem h
  rw [lst_mem] at this
  simp only [List.getD, List.getElem?_eq_getElem h, Option.getD_some]
  exact this.1
theorem lst_rise (m j : Nat) (h : j + 1 < (lst m 16).length) : (lst m 16).getD j 0 < (lst m 16).getD (j + 1) 0 := by
  have hs := List.pairwise_iff_getElem.1 (lst_sorted m 16) j (j + 1) (by omega) h (by omega)
  simp only [List.getD, List.getElem?_eq_getElem h, List.getElem?_eq_getElem (show j < (lst m 16).length by omega), Option.getD_some]
  exact hs
theorem lst_back (m : Nat) (hm : m < 65536) : mb (inM ((lst m 16).map fun (i : Nat) => (i : Int))) = m := by
  rw [show mb (inM ((lst m 16).map fun (i : Nat) => (i : Int))) = mb (fun i => m.testBit i) from mb_congr (fun i hi => by
    unfold inM
    rw [Bool.eq_iff_iff]
    simp only [decide_eq_true_eq, List.mem_map]
    constructor
    · rintro ⟨a, ha, e⟩
      rw [lst_mem] at ha
      have : a = i := by omega
      rw [← this]; exact ha.2
    · intro h
      exact ⟨i, (lst_mem m 16 i).2 ⟨hi, h⟩, rfl⟩), mb_self m hm]
theorem fold_back (m : Nat) (hm : m < 65536) : mb (fun i => !decide (bt m i = 0)) = m := by
  rw [show mb (fun i => !decide (bt m i = 0)) = mb (fun i => m.testBit i) from mb_congr (fun i hi => by unfold bt; cases m.testBit i <;> rfl), mb_self m hm]
/-- numbers as they lie -/
def i64s (l : List Nat) : List Value := l.map fun (i : Nat) => Value.int .i64 (i : Int)
theorem i64s_take (l : List Nat) (k : Nat) (h : k < l.length) : i64s (l.take (k + 1)) = i64s (l.take k) ++ [.int .i64 (l.getD k 0 : Nat)] := by
  unfold i64s
  rw [List.take_succ_eq_append_getElem h, show l.getD k 0 = l[k] by simp [List.getD, List.getElem?_eq_getElem h]]
  simp only [List.map_append, List.map_cons, List.map_nil]
theorem ints_row {B n rc : Nat} {ro : Option Addr} {l : List Nat} {w : World} (h : w.ownsRow B 3 1 (.slice ro n rc) n (i64s l)) (hl : l.length = n) (hn : n ≤ 16) : IsInts w ro n rc (l.map fun (i : Nat) => (i : Int)) := by
  rcases h.2 with ⟨hv, h0⟩ | ⟨g, cap, cur, hv, hb, hg, h1, h2, h3, h4⟩
  · simp only [Value.slice.injEq] at hv
    obtain ⟨rfl, rfl, rfl⟩ := hv
    exact ⟨Nat.le_refl _, by unfold maxLen; omega, by simp [hl], .inl rfl⟩
  · simp only [Value.slice.injEq] at hv
    obtain ⟨rfl, _, rfl⟩ := hv
    refine ⟨h1, h2, by simp [hl], .inr ⟨g, 0, rfl, (Array.getElem?_eq_some_iff.1 hg).1, fun j hj => ?_⟩⟩
    rw [Nat.zero_add]
    refine row_at h j _ ?_
    have hjl : j < l.length := by omega
    simp [i64s, List.getD, List.getElem?_eq_getElem hjl]
theorem quiet_of_drew {P : Program} {f : FuncId} {args : Array Value} {w : World} {n : Nat} {v : Value} (h : Calls P f args (w.drewN n) fun e w' => e = .returned v ∧ ∃ m, w' = (w.drewN n).drewN m) : Calls P f args (w.drewN n) fun e w'' => e = .returned v ∧ ∃ m, w'' = w.drewN m :=
  h.mono fun _ _ ⟨he, m, hm⟩ => ⟨he, n + m, by rw [hm, World.drewN_drewN]⟩
theorem bit_one (z k : Nat) : (((z : Nat) : Int) / 2 ^ k % 2 == 1) = z.testBit k := by
  rw [show ((z : Int) / 2 ^ k % 2) = ((z / 2 ^ k % 2 : Nat) : Int) by simp, ← Nat.toNat_testBit]
  cases z.testBit k <;> rfl
set_option maxHeartbeats 4000000 in
set_option maxRecDepth 100000 in
theorem back_walk (m : Nat) (hm : m < 65536) (room : Int) (a : Option Addr) (len cap : Nat) (ns : List Int) (w : World) (h : IsInts w a len cap ns) :
    Calls Try.prog 7 #[.int .u16 (m : Nat), .int .i64 room, .slice a len cap] w fun e w' => e = .returned (.bool true) ∧ Below w.heap.size w w' := by
  obtain ⟨i0, hi, hz0, hz1, hz2⟩ := info_parts info3
  have Hf := hide' (fun w => fixed_any w)
  have Hl := hide' (fun w => list_any m w hm)
  have Hs := hide' (fun w => spread_any m w hm)
  have Hlt := hide' (lst_lt m)
  have Hri := hide' (lst_rise m)
  have Hmk := hide' (lst_back m hm)
  have Hfb := hide' (fold_back m hm)
  have hn16 := lst_len m 16
  have H := hide' (fun w' (b : Below w.heap.size w w') => h.below (Nat.le_refl _) b)
  have Hm := hide' (fun w h => made_any room a len cap ns w h)
  have hR : roomOf room ≤ 65536 := by unfold roomOf; omega
  clear h
  generalize roomOf room = R at *
  generalize inL R ns = p at *
  have Hqi := hide' (fun x g k w h hk => bigQuad_in x g R p k w h hk)
  have Hqo := hide' (fun x g k w h hk => bigQuad_out x g R p k w h hk)
  have Hh := hide' (fun x g i w h => has_any x g R p i w h)
  have Hr := hide' (fun x g w h => room_any x g R p w h)
  have Hbit : Hid (∀ kk n : Nat, (((B.wd p (kk * 4 + n / 64) : Nat) : Int) / 2 ^ (n % 64) % 2 == 1) = hasB p (256 * (kk : Int) + (n : Int))) := fun kk n => by
    have e1 : (B.wd p (kk * 4 + n / 64)).testBit (n % 64) = p (256 * kk + n) := by
      rw [B.wd_bit, show 64 * (kk * 4 + n / 64) + n % 64 = 256 * kk + n by omega]
      simp [Nat.mod_lt]
    have e2 : hasB p (256 * (kk : Int) + (n : Int)) = p (256 * kk + n) := by
      unfold hasB
      rw [show (256 * (kk : Int) + (n : Int)).toNat = 256 * kk + n by omega, decide_eq_true (by omega)]
      rfl
    rw [e2, ← e1]
    exact bit_one _ _
  unfold four at Hqi
  generalize B.wd p = f at *
  have hQ : (R + 255) / 256 ≤ 256 := by omega
  have HQ : Hid (((R : Int) + 255) / 256 = (((R + 255) / 256 : Nat) : Int)) := (show ((R : Int) + 255) / 256 = (((R + 255) / 256 : Nat) : Int) by omega)
  generalize (R + 255) / 256 = Q at *
  generalize lst m 16 = L at *
  obtain ⟨n, hn⟩ : ∃ n, L.length = n := ⟨_, rfl⟩
  have Hn := hide' hn
  rw [hn] at Hl Hlt Hri hn16
  clear hn
  go_enter Try.func7, Try.ntmps7
  go_wp2_with fail
  refine (Hf.out _).mono ?_
  rintro e w1 ⟨rfl, b1⟩
  go_wp2_with fail
  refine (Hl.out _).mono ?_
  rintro e w2 ⟨t, rc, rfl, hrow, b2'⟩
  have b2 := b1.trans (b2'.mono b1.size)
  have hct : ∀ j, j < n → w2.cell? ⟨t, j, none⟩ = some (.int .i8 (L.getD j 0 : Nat)) := fun j hj => row_at hrow j _ (by
    have hjl : j < L.length := by rw [Hn.out]; exact hj
    simp [i8s, List.getD, List.getElem?_eq_getElem hjl])
  have htl := (row_lt hrow).2
  have Hct := hide' hct
  clear b1 b2' hrow hct
  go_wp2_with fail
  obtain ⟨B, hB⟩ : ∃ B, w2.heap.size = B := ⟨_, rfl⟩
  have HB := hide' hB
  rw [hB] at htl
  clear hB
  go_loopw [9, 10] (fun v i wx => ∃ (k : Nat) (ro : Option Addr) (rc2 : Nat), k ≤ n ∧ i = .int .i64 (k : Int) ∧ v = .slice ro k rc2 ∧ wx.ownsRow B 3 1 (.slice ro k rc2) k (i64s (L.take k)) ∧ Below B w2 wx ∧ B ≤ wx.heap.size) (fun _ i _ => n - (intOf i).toNat)
  case atStart => exact ⟨0, none, 0, by omega, rfl, rfl, World.ownsRow_nil _ _ _ _, Below.refl _ _, by rw [HB.out]; exact Nat.le_refl _⟩
  case round =>
    obtain ⟨k, ro, rc2, hk, rfl, rfl, hrow, bk, hsk⟩ := hrel
    by_cases hlt : k < n
    · have hlt' : (k : Int) < (n : Int) := by omega
      have ck := (bk.cell (p := ⟨t, k, none⟩) htl).trans (Hct.out k hlt)
      have hv1 := Hlt.out k hlt
      have hst := i64s_take L k (by rw [Hn.out]; exact hlt)
      have Hst := hide' hst
      have hrB := own_ge hrow
      clear hst
      by_cases hk0 : k = 0
      · subst hk0
        generalize L.getD 0 0 = v at *
        have e1 : decide ((v : Int) < 0) = false := by simp
        have e2 : decide ((15 : Int) < (v : Int)) = false := by simp; omega
        have hlt'' : (0 : Int) < (n : Int) := by omega
        go_wp2_with fail
        go_quiet (fail)
        have hrowD : (wr.drewN nq).ownsRow B 3 1 (.slice ro 0 rc2) 0 (i64s (L.take 0)) := hrow
        have bD := below_drewN bk nq
        have hsD : B ≤ (wr.drewN nq).heap.size := hsk
        have ckD : (wr.drewN nq).cell? ⟨t, 0, none⟩ = some (.int .i8 (v : Int)) := ck
        clear hrow bk hsk ck
        generalize wr.drewN nq = wd at *
        go_wp2_with (first | (at_builtin; refine wpList_append_lies _ rfl _ _ 22 rfl B 3 i0 (.int .i64 0) 1 8 Try.underlying22 hi hz0 hz1 hz2 rfl (by decide) _ _ _ rfl (hrowD.alloc _) ⟨wd.heap.size, 0, none⟩ 1 1 [.int .i64 (v : Int)] rfl rfl (cell_one_new _ _ _) (by simp [Value.oneCell']) (by decide) (by unfold maxLen; omega) (by omega) (by simp; omega) (wd.heap.size + 1) (by simp) ?_; intro g3 rc' w3 hrow3 hgrow3 hat3 hlt3))
        have b3 : Below B w2 w3 := bD.grown ((World.grownBy_alloc wd _ _).trans hgrow3) hsD hrB
        have hs3 : B ≤ w3.heap.size := Nat.le_trans hsD (Nat.le_trans (by simp) hgrow3.size)
        exact ⟨⟨0 + 1, some ⟨g3, 0, none⟩, rc', by omega, by go_num, rfl, by rw [Hst.out]; exact hrow3, b3, hs3⟩, by simp [intOf]; omega⟩
      · have hkp : k - 1 + 1 = k := by omega
        have cp := (bk.cell (p := ⟨t, k - 1, none⟩) htl).trans (Hct.out (k - 1) (by omega))
        have hri := Hri.out (k - 1) (by omega)
        rw [hkp] at hri
        generalize L.getD k 0 = v at *
        generalize L.getD (k - 1) 0 = u at *
        have e1 : decide ((v : Int) < 0) = false := by simp
        have e2 : decide ((15 : Int) < (v : Int)) = false := by simp; omega
        have e3 : decide ((0 : Int) < (k : Int)) = true := by simp; omega
        have e4 : decide ((v : Int) ≤ (u : Int)) = false := by simp; omega
        have e3' : decide (0 < k) = true := by simp; omega
        have e4' : decide (v ≤ u) = false := by simp; omega
        have e5 : (k : Int) - 1 = ((k - 1 : Nat) : Int) := by omega
        have e6 : ((k - 1 : Nat) : Int) < (n : Int) := by omega
        generalize hkk : k - 1 = kp at *
        clear hkp
        go_wp2_with fail
        go_quiet (fail)
        have hrowD : (wr.drewN nq).ownsRow B 3 1 (.slice ro k rc2) k (i64s (L.take k)) := hrow
        have bD := below_drewN bk nq
        have hsD : B ≤ (wr.drewN nq).heap.size := hsk
        have ckD : (wr.drewN nq).cell? ⟨t, k, none⟩ = some (.int .i8 (v : Int)) := ck
        clear hrow bk hsk ck
        generalize wr.drewN nq = wd at *
        go_wp2_with (first | (at_builtin; refine wpList_append_lies _ rfl _ _ 22 rfl B 3 i0 (.int .i64 0) 1 8 Try.underlying22 hi hz0 hz1 hz2 rfl (by decide) _ _ _ rfl (hrowD.alloc _) ⟨wd.heap.size, 0, none⟩ 1 1 [.int .i64 (v : Int)] rfl rfl (cell_one_new _ _ _) (by simp [Value.oneCell']) (by decide) (by unfold maxLen; omega) (by omega) (by simp; omega) (wd.heap.size + 1) (by simp) ?_; intro g3 rc' w3 hrow3 hgrow3 hat3 hlt3))
        have b3 : Below B w2 w3 := bD.grown ((World.grownBy_alloc wd _ _).trans hgrow3) hsD hrB
        have hs3 : B ≤ w3.heap.size := Nat.le_trans hsD (Nat.le_trans (by simp) hgrow3.size)
        exact ⟨⟨k + 1, some ⟨g3, 0, none⟩, rc', by omega, by go_num, rfl, by rw [Hst.out]; exact hrow3, b3, hs3⟩, by simp [intOf]; omega⟩
    · have hkn : k = n := by omega
      subst hkn
      have hlt' : ¬ (k : Int) < (k : Int) := by omega
      have hLk : L.take k = L := List.take_of_length_le (by rw [Hn.out]; exact Nat.le_refl _)
      rw [hLk] at hrow
      have hII := ints_row hrow Hn.out hn16
      have b4 := b2.trans (bk.mono (by rw [← HB.out]; exact b2.size))
      clear hlt hrow hsk hLk
      unfold spr at Hs
      go_wp2_with fail
      refine (Hs.out _).mono ?_
      rintro e w5 ⟨rfl, b5'⟩
      have hI5 := hII.below (Nat.le_refl _) b5'
      have b5 := b4.trans (b5'.mono b4.size)
      clear b5' b4 hII bk
      go_wp2_with fail
      have hI6 := hI5.below (Nat.le_refl _) ((Below.refl _ w5).alloc (Nat.le_refl _) (.cells (spr m) 41))
      unfold spr at hI6
      have Hm2 := mask_any ro k rc2 _ _ hI6
      rw [Hmk.out] at Hm2
      refine Hm2.mono ?_
      rintro e w6 ⟨rfl, hw6⟩
      replace hw6 := hw6.symm
      subst hw6
      have em : ((m : Int) != (m : Int)) = false := by simp
      clear Hm2 hI5 hI6
      go_wp2_with fail
      have hfd := fold_any w5.heap.size (bt m) (w5.alloc (.cells (spr m) 41)) (fun j hj => by
        rw [Lib.cell_of_heap (heap_alloc_new w5 (.cells (spr m) 41))]
        rcases (by omega : j = 0 ∨ j = 1 ∨ j = 2 ∨ j = 3 ∨ j = 4 ∨ j = 5 ∨ j = 6 ∨ j = 7 ∨ j = 8 ∨ j = 9 ∨ j = 10 ∨ j = 11 ∨ j = 12 ∨ j = 13 ∨ j = 14 ∨ j = 15) with rfl | rfl | rfl | rfl | rfl | rfl | rfl | rfl | rfl | rfl | rfl | rfl | rfl | rfl | rfl | rfl <;> rfl)
      rw [Hfb.out] at hfd
      unfold spr at hfd
      refine hfd.mono ?_
      rintro e w7 ⟨rfl, n7, hw7⟩
      have b7 : Below w.heap.size w w7 := by rw [hw7]; exact below_drewN (b5.alloc b5.size _) n7
      clear hfd hw7 b5
      go_wp2_with fail
      refine (Hm.out _ (H.out _ b7)).mono ?_
      rintro e w8 ⟨x, rfl, g, hB8, b8', hx, hg⟩
      have b8 := b7.trans (b8'.mono b7.size)
      clear Hl Hs Hct Hlt Hri Hmk Hfb b7 b8' b2 htl
      go_wp2_with fail
      go_loopw [13] (fun i wx => ∃ kk : Nat, kk ≤ Q ∧ i = .int .i64 (kk : Int) ∧ Bs x g R p wx ∧ Below w.heap.size w wx) (fun i _ => Q - (intOf i).toNat)
      case atStart => exact ⟨0, by omega, rfl, hB8, b8⟩
      case round =>
        clear hB8 b8
        obtain ⟨kk, hkk, rfl, hBk, bk⟩ := hrel
        have e256 : decide ((kk : Int) ≤ 256) = true := by simp; omega
        by_cases hlt : kk < Q
        · have hq := Hqi.out x g kk _ hBk hlt
          have Hq := hide' hq
          clear hq
          go_wp2_with fail
          refine Hq.out.mono ?_
          rintro e w9 ⟨rfl, b9'⟩
          have hB9 := hBk.below b9'
          have b9 := bk.trans (b9'.mono bk.size)
          clear hBk bk b9' Hq
          go_wp2_with fail
          have hBa : ∀ o, Bs x g R p (w9.alloc o) := fun o => hB9.kept ((Turn.refl (fun _ => False) w9).alloc o) (fun q => q) (fun q => q)
          have hba : ∀ o, Below w.heap.size w (w9.alloc o) := fun o => b9.alloc b9.size o
          have hca : ∀ j, j < 4 → (w9.alloc (.cells #[.int .u64 (f (kk * 4) : Nat), .int .u64 (f (kk * 4 + 1) : Nat), .int .u64 (f (kk * 4 + 2) : Nat), .int .u64 (f (kk * 4 + 3) : Nat)] 64)).cell? ⟨w9.heap.size, j, none⟩ = some (.int .u64 (f (kk * 4 + j) : Nat)) := by
            intro j hj
            rw [Lib.cell_of_heap (heap_alloc_new w9 _)]
            rcases (by omega : j = 0 ∨ j = 1 ∨ j = 2 ∨ j = 3) with rfl | rfl | rfl | rfl <;> rfl
          have hBs := hBa (.cells #[.int .u64 (f (kk * 4) : Nat), .int .u64 (f (kk * 4 + 1) : Nat), .int .u64 (f (kk * 4 + 2) : Nat), .int .u64 (f (kk * 4 + 3) : Nat)] 64)
          have hbs := hba (.cells #[.int .u64 (f (kk * 4) : Nat), .int .u64 (f (kk * 4 + 1) : Nat), .int .u64 (f (kk * 4 + 2) : Nat), .int .u64 (f (kk * 4 + 3) : Nat)] 64)
          clear hBa hba
          generalize w9.heap.size = bq at *
          go_loopw [16] (fun i wx => ∃ n : Nat, n ≤ 256 ∧ i = .int .i64 (n : Int) ∧ Bs x g R p wx ∧ Below w.heap.size w wx ∧ (∀ j, j < 4 → wx.cell? ⟨bq, j, none⟩ = some (.int .u64 (f (kk * 4 + j) : Nat)))) (fun i _ => 256 - (intOf i).toNat)
          case atStart => exact ⟨0, by omega, rfl, hBs, hbs, hca⟩
          case round =>
            clear hBs hbs hca
            obtain ⟨n, hn, rfl, hBn, bn, hcn⟩ := hrel
            by_cases hn2 : n < 256
            · have hn3 : (n : Int) < 256 := by omega
              have cw := hcn (n / 64) (by omega)
              have hj : n / 64 < 4 := by omega
              have hj' : (n : Int) / 64 < 4 := by omega
              have hbit := Hbit.out kk n
              have Hhk := hide' (fun w h => Hh.out x g (256 * (kk : Int) + (n : Int)) w h)
              generalize hasB p (256 * (kk : Int) + (n : Int)) = bb at *
              generalize f (kk * 4 + n / 64) = z at *
              have hbit2 : (((z : Int) / 2 ^ (n % 64)).tmod 2 == 1) = bb := by rw [Int.tmod_eq_emod_of_nonneg (Int.ediv_nonneg (by omega) (by exact Int.pow_nonneg (by omega)))]; exact hbit
              have ebb : (bb != bb) = false := by simp
              have HBn := hide' hBn
              have Hcn := hide' hcn
              clear hBn hcn
              go_wp2_with fail
              go_quiet ((go_at_call 26; exact quiet_of_drew (Hhk.out _ (HBn.out.drewN _))))
              have hBd := HBn.out.drewN nq
              have bd := below_drewN bn nq
              have hcd : ∀ j, j < 4 → (wr.drewN nq).cell? ⟨bq, j, none⟩ = some (.int .u64 (f (kk * 4 + j) : Nat)) := Hcn.out
              clear bn cw
              generalize wr.drewN nq = wz at *
              go_wp2
              exact ⟨⟨n + 1, by omega, by go_num, hBd, bd, hcd⟩, by simp [intOf]; omega⟩
            · have hn256 : n = 256 := by omega
              subst hn256
              go_wp2
              exact ⟨⟨kk + 1, by omega, by go_num, hBn, bn⟩, by simp [intOf]; omega⟩
        · have hkQ : kk = Q := by omega
          subst hkQ
          have hq := Hqo.out x g (kk : Int) _ hBk (.inr (Int.le_refl _))
          unfold none4 at hq
          have Hq := hide' hq
          have hQe := HQ.out
          clear hq
          go_wp2_with fail
          refine Hq.out.mono ?_
          rintro e w9 ⟨rfl, b9'⟩
          have hB9 := hBk.below b9'
          have b9 := bk.trans (b9'.mono bk.size)
          clear hBk bk b9' Hq
          have hBa : ∀ o, Bs x g R p (w9.alloc o) := fun o => hB9.kept ((Turn.refl (fun _ => False) w9).alloc o) (fun q => q) (fun q => q)
          go_wp2_with fail
          refine (Hr.out x g _ (hBa _)).mono ?_
          rintro e wa ⟨rfl, hwa⟩
          replace hwa := hwa.symm
          subst hwa
          go_wp2_with fail
          go_ret
          exact ⟨rfl, b9.alloc b9.size _⟩
end Go.Proofs.Ytkipcdjadmocaaa
