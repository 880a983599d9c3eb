import Derived.Test.YtnlopepbcnegbaaGreatDoorJB
import Derived.Test.YtnlopepbcnegbaaGreatDoorDfV
import Derived.Test.YtnlopepbcnegbaaGreatDoorToldW
import Derived.Deep.CutBlock
import Derived.Deep.DeepCutAuto
set_option linter.unusedVariables false
set_option linter.unusedSimpArgs false
namespace Go.Proofs.YtnlopepbcnegbaaGreatDoor
open Go.RowKit
theorem results_ttc {fn : Func} {t u p : Tmp} (h : fn.results = #[.tmp t, .tmp u, .cell p 25]) (tmps : Array Value) (w : World) (g : Nat) (a b c d : Value) (hp : tmps.getD p undef = .pointer (some ⟨g, 0, none⟩)) (K : Tk g a b c d w) :
    (results fn tmps).run Tryz.prog w = .ok (.tuple #[tmps.getD t undef, tmps.getD u undef, .agg #[a, b, c, d]]) w := by
  have hp' : tmps[p]?.getD undef = .pointer (some ⟨g, 0, none⟩) := by simpa using hp
  simp [results, h, hp', asAddr, Result.andThen, loadF w g a b c d K]
/-- what the document's reading of a name in quotes tells -/
def RefN (R : Res) (v : Value) : Prop :=
  match R with
  | .tok k t l c j => v = .tuple #[.string t, .int .i64 (j : Int), zfault]
  | .flt code l c word => ∃ z, v = .tuple #[.string ⟨#[]⟩, .int .i64 z, .agg #[.int .i64 code, .int .i64 l, .int .i64 c, .string word]]
/-- amid the document's reading -/
structure NI (T : Tx) (g : Nat) (w V : World) : Prop where
  chs : Chs T g V
  tk : Tk w.heap.size (.int .i64 0) (.int .i64 0) (.int .i64 0) (.string ⟨#[]⟩) V
  bel : Below w.heap.size w V
theorem NI.to {T : Tx} {g : Nat} {w V V' : World} (h : NI T g w V) (b : Below V.heap.size V V') : NI T g w V' :=
  ⟨h.chs.below b, h.tk.of_block (b.block _ (lt_of_cell h.tk.c0)), h.bel.trans (b.mono h.bel.size)⟩
theorem NI.start {T : Tx} {g : Nat} {w : World} (h : Chs T g w) : NI T g w (w.alloc (.cells #[.int .i64 0, .int .i64 0, .int .i64 0, .string ⟨#[]⟩] 25)) :=
  ⟨h.below ((Below.refl _ _).alloc (Nat.le_refl _) _), Tk.of_cells (heap_alloc_new _ _), (Below.refl _ _).alloc (Nat.le_refl _) _⟩
section
variable {T : Tx} {s : ByteArray}
theorem enc_size (n : Nat) : (Utf8.encode (n : Int)).size ≤ 4 := by
  unfold Utf8.encode
  simp only
  repeat' split
  all_goals (show Array.size _ ≤ 4; simp)
theorem esc_bd (hs : T.s = s) (G : L.Good s T.C T.N 0 (1, 1)) (hz : s.size ≤ 65536) {k j : Nat} {t : ByteArray} (hk : k < T.N) (h : T.esc k = some (t, j)) : k < j ∧ j ≤ T.N ∧ t.size ≤ 65536 := by
  unfold Tx.esc at h
  split at h
  · rename_i q
    simp only [Option.some.injEq, Prod.mk.injEq] at h
    obtain ⟨rfl, rfl⟩ := h
    have h1 : k + 1 < T.N := lt_r G (show k + 1 ≤ T.N from hk) (by rcases q with q | q <;> (rw [q]; decide))
    exact ⟨by omega, h1, Nat.le_trans (txt_size hs G (show k + 2 ≤ T.N from h1)) hz⟩
  · split at h
    · rename_i q
      have h1 : k + 1 < T.N := lt_r G (show k + 1 ≤ T.N from hk) (by rw [q]; decide)
      unfold Tx.numd at h
      split at h
      · cases h
      · rename_i q2
        have q2 : (T.g (k + 2)).r = 123 := by simpa using q2
        have h2 : k + 2 < T.N := lt_r G (show k + 2 ≤ T.N from h1) (by rw [q2]; decide)
        have hbd := skp_bd G L.isHex rfl (i := k + 2 + 1) h2
        split at h
        · cases h
        · rename_i q3
          have q4 : (T.g (T.skp L.isHex (k + 2 + 1))).r = 125 := by
            rcases Decidable.em ((T.g (T.skp L.isHex (k + 2 + 1))).r = 125) with y | y
            · exact y
            · exact absurd (.inr (.inr y)) q3
          have h3 := lt_r G hbd.2 (by rw [q4]; decide)
          split at h
          · simp only [Option.some.injEq, Prod.mk.injEq] at h
            obtain ⟨rfl, rfl⟩ := h
            exact ⟨by omega, h3, Nat.le_trans (enc_size _) (by decide)⟩
          · cases h
    · cases h
theorem S_92 (S : ByteArray) (h : S.toList = [92]) : S = ⟨#[92]⟩ := by
  have e : S.toList = S.data.toList := ByteArray.toList_eq S
  rw [e] at h
  apply ByteArray.ext
  apply Array.ext'
  exact h
theorem esc_word (hs : T.s = s) (G : L.Good s T.C T.N 0 (1, 1)) {k : Nat} (hk : k < T.N) (h92 : (T.g k).S = ⟨#[92]⟩) : T.txt k (T.escTo k) = if (T.g (k + 1)).r = 10 then ⟨#[92]⟩ else ⟨#[92]⟩ ++ (T.g (k + 1)).S := by
  have e1 : T.txt k (k + 1) = ⟨#[92]⟩ := by rw [S_txt hs G hk, h92]
  unfold Tx.escTo
  by_cases h10 : (T.g (k + 1)).r = 10
  · rw [if_neg (fun q => q.2 h10), if_pos h10, e1]
  · rw [if_neg h10]
    by_cases hl : k + 1 < T.N
    · rw [if_pos ⟨hl, h10⟩, ← e1]
      exact (txt_on hs G (Nat.le_succ k) hl (a_mono G (Nat.le_succ k) (Nat.le_of_lt hl))).symm
    · rw [if_neg (fun q => hl q.1), e1]
      have : k + 1 = T.N := by omega
      have e2 : (T.g (k + 1)).S = ByteArray.empty := by rw [this]; exact G.last.2.2
      rw [e2, ByteArray.append_empty]
end
theorem bnd1 {a b k j N : Nat} (h : a ≤ 65536 * k) (hb : b ≤ 65536) (hkj : k < j) : a + b ≤ 65536 * j := by
  have : 65536 * (k + 1) ≤ 65536 * j := Nat.mul_le_mul_left _ hkj
  omega
theorem bnd2 {a b k N : Nat} (h : a ≤ 65536 * k) (hb : b ≤ 65536) (hk : k ≤ N) (hN : N ≤ 65536) : ¬ 9223372036854775807 < a + b ∧ a ≤ 4294967296 := by
  have : 65536 * k ≤ 65536 * 65536 := Nat.mul_le_mul_left _ (Nat.le_trans hk hN)
  omega
end Go.Proofs.YtnlopepbcnegbaaGreatDoor
set_option linter.unusedVariables false
set_option linter.unusedSimpArgs false
namespace Go.Proofs.YtnlopepbcnegbaaGreatDoor
open Go.RowKit
theorem ms3 {k j N : Nat} (h : k ≤ N) (hj : k < j) : N + 1 - (intOf (.int .i64 (j : Int))).toNat < N + 1 - (intOf (.int .i64 (k : Int))).toNat := by
  show N + 1 - ((j : Int)).toNat < N + 1 - ((k : Int)).toNat
  omega
theorem wj {k j : Nat} (hj : j ≤ 65537) : wrap64 ((k : Int) + ((j : Int) - (k : Int))) = (j : Int) := by unfold wrap64; omega
theorem beq0 {k j : Nat} (h : k < j) : (((j : Int) - (k : Int)) == 0) = false ∧ ¬ ((j : Int) - (k : Int)) = 0 := ⟨by rw [beq_eq_false_iff_ne]; omega, by omega⟩
set_option maxRecDepth 100000 in
set_option maxHeartbeats 4000000 in
/-- the document's reading of a name in quotes -/
theorem rname_any {T : Tx} {s : ByteArray} (hs : T.s = s) (G : L.Good s T.C T.N 0 (1, 1)) (hN : T.N ≤ 65536) (hz : s.size ≤ 65536) {g cap o : Nat} {w : World} (hC : Chs T g w) (ho : o < T.N) :
    Calls Tryz.prog 45 #[.slice (some ⟨g, 0, none⟩) (T.N + 1) cap, .int .i64 (o : Int)] w fun e w' => ∃ v, e = .returned v ∧ RefN (T.quotedR o) v ∧ Below w.heap.size w w' := by
  obtain ⟨N, hn⟩ : ∃ N, N = T.N := ⟨_, rfl⟩
  obtain ⟨R, hR0⟩ : ∃ R, R = T.quotedR o := ⟨_, rfl⟩
  have HG := hide' (And.intro hs (And.intro G (And.intro hz (And.intro hn (show N ≤ 65536 by rw [hn]; exact hN)))))
  have HR := hide' hR0
  have Ho := hide' ho
  have HS := hide' (NI.start hC)
  have ol : (o : Int) < ((N + 1 : Nat) : Int) := Int.ofNat_lt.2 (by omega)
  have oN : o ≤ 65536 := by omega
  obtain ⟨o1, ho1⟩ : ∃ o1, o1 = o + 1 := ⟨_, rfl⟩
  have HO1 := hide' ho1
  have eo : wrap64 ((o : Int) + 1) = (o1 : Int) := waddn (b := 1) ho1 (by rw [ho1]; exact Nat.le_trans (Nat.add_le_add_right oN 1) (by decide))
  have HO := hide' oN
  rw [← hR0, ← hn]
  clear hs G hz hn hR0 hC ho hN oN ho1
  go_enter Tryz.func45, Tryz.ntmps45
  go_wp2_with fail
  rw [eo]
  clear eo
  go_loopw [7, 8] (fun sv kv wx => ∃ (k f : Nat) (acc : ByteArray) (V : World), V = wx ∧ sv = .string acc ∧ kv = .int .i64 (k : Int) ∧ k ≤ N ∧ N < k + f ∧ T.qloop o f k acc = R ∧ acc.size ≤ 65536 * k ∧ NI T g w V) (fun _ kv _ => N + 1 - (intOf kv).toNat)
  case atStart =>
    refine ⟨o1, T.N + 1, ByteArray.empty, _, rfl, rfl, rfl, by rw [HG.out.2.2.2.1, HO1.out]; exact Ho.out, by rw [HG.out.2.2.2.1]; omega, ?_, Nat.zero_le _, HS.out⟩
    rw [HR.out, HO1.out]; rfl
  case round =>
    obtain ⟨k, f, acc, V, rfl, rfl, rfl, hk, hf, hq, hacc, hNI⟩ := hrel
    have hkT : k ≤ T.N := by rw [← HG.out.2.2.2.1]; exact hk
    obtain ⟨y0, y1, y2, y3⟩ := hNI.chs.at_ k hkT
    have hR := rl_at HG.out.2.1 hkT
    have kl : (k : Int) < ((N + 1 : Nat) : Int) := Int.ofNat_lt.2 (Nat.lt_succ_of_le hk)
    obtain ⟨f, rfl⟩ : ∃ f', f = f' + 1 := ⟨f - 1, by omega⟩
    rw [Tx.qloop] at hq
    obtain ⟨x0, x1, x2, x3⟩ := hNI.chs.at_ o (Nat.le_of_lt Ho.out)
    have HX := hide' (fun W (b : Below V.heap.size V W) => (hNI.to b).chs.at_ o (Nat.le_of_lt Ho.out))
    have HNI := hide' hNI
    have HK := hide' (And.intro hk (And.intro hkT (And.intro hf hacc)))
    have ovf := (bnd2 (b := (T.g k).S.size) hacc (Nat.le_trans (S_size HG.out.2.1 hkT) HG.out.2.2.1) hk HG.out.2.2.2.2)
    by_cases hend : (T.g k).r = 10 ∨ (T.g k).r = -1
    · rw [if_pos hend] at hq
      have hv : RefN R (.tuple #[.string ⟨#[]⟩, .int .i64 (k : Int), .agg #[.int .i64 21, .int .i64 (T.g o).l, .int .i64 (T.g o).c, .string ⟨#[34]⟩]]) := by rw [← hq]; exact ⟨_, rfl⟩
      have Hv := hide' hv
      have D1 := hide' (fun W => rat_any 21 (T.g o).S (T.g o).l (T.g o).c ((T.g o).a : Int) ⟨#[34]⟩ W)
      have hne : (T.g k).r = -1 ∨ ((T.g k).r ≠ -1 ∧ (T.g k).r = 10) := by
        rcases hend with q | q
        · exact .inr ⟨by rw [q]; decide, q⟩
        · exact .inl q
      rcases hne with q | ⟨q, q2⟩
      · obtain ⟨z1, z2⟩ := nil_yes HG.out.2.1 hkT q
        generalize (T.g k).S = S at *
        generalize (T.g o).S = So at *
        generalize (T.g o).l = lo at *
        generalize (T.g o).c = co at *
        clear hq hv hend hk hkT hf hacc hR y1 y2 y3 q ovf hNI
        go_wp2_with (go_at_call 42; refine (D1.out _).mono ?_; rintro e w5 ⟨rfl, b5⟩; have N5 := HNI.out.to b5; have c0 := N5.tk.c0; have c1 := N5.tk.c1; have c2 := N5.tk.c2; have c3 := N5.tk.c3; obtain ⟨g0, g1, g2, g3⟩ := N5.tk.frz; have H5 := hide' N5; clear N5 b5)
        refine bodyPost_ret_by (results_ttc rfl _ _ w.heap.size _ _ _ _ rfl (H5.out.tk.set _ _ _ _)) rfl ?_
        exact ⟨_, rfl, Hv.out, Below.set4' H5.out.bel (Nat.le_refl _) _ _ _ _⟩
      · obtain ⟨z1, z2⟩ := nil_no HG.out.2.1 hkT q
        obtain ⟨z3, z4⟩ := hR.yes 10 10 rfl (by decide) q2
        generalize (T.g k).S = S at *
        generalize (T.g o).S = So at *
        generalize (T.g o).l = lo at *
        generalize (T.g o).c = co at *
        clear hq hv hend hk hkT hf hacc hR y1 y2 y3 q q2 ovf hNI
        go_wp2_with (go_at_call 42; refine (D1.out _).mono ?_; rintro e w5 ⟨rfl, b5⟩; have N5 := HNI.out.to b5; have c0 := N5.tk.c0; have c1 := N5.tk.c1; have c2 := N5.tk.c2; have c3 := N5.tk.c3; obtain ⟨g0, g1, g2, g3⟩ := N5.tk.frz; have H5 := hide' N5; clear N5 b5)
        refine bodyPost_ret_by (results_ttc rfl _ _ w.heap.size _ _ _ _ rfl (H5.out.tk.set _ _ _ _)) rfl ?_
        exact ⟨_, rfl, Hv.out, Below.set4' H5.out.bel (Nat.le_refl _) _ _ _ _⟩
    · rw [if_neg hend] at hq
      obtain ⟨z1, z2⟩ := nil_no HG.out.2.1 hkT (fun q => hend (.inr q))
      obtain ⟨z3, z4⟩ := hR.no 10 10 rfl (by decide) (fun q => hend (.inl q))
      have hkl : k < T.N := lt_r HG.out.2.1 hkT (fun q => hend (.inr q))
      have ekk : wrap64 ((k : Int) + 1) = ((k + 1 : Nat) : Int) := wadd (k := 1) (Nat.le_trans hk HG.out.2.2.2.2) (by decide)
      have Hkl := hide' hkl
      by_cases h34 : (T.g k).r = 34
      · obtain ⟨z5, z6⟩ := hR.yes 34 34 rfl (by decide) h34
        rw [if_pos h34] at hq
        have D2 := hide' (fun W => refValid_any acc W (by unfold maxLen; have := ovf.2; clear ekk; omega))
        cases hvl : Go.Proofs.YtnlopepbcnegbaaGreatDoor.N.valid acc
        · rw [hvl] at hq D2
          simp only [Bool.false_eq_true, if_false] at hq
          have hv : RefN R (.tuple #[.string ⟨#[]⟩, .int .i64 (k : Int), .agg #[.int .i64 10, .int .i64 (T.g o).l, .int .i64 (T.g o).c, .string acc]]) := by rw [← hq]; exact ⟨_, rfl⟩
          have Hv := hide' hv
          have D1 := hide' (fun W => rat_any 10 (T.g o).S (T.g o).l (T.g o).c ((T.g o).a : Int) acc W)
          generalize (T.g k).S = S at *
          generalize (T.g o).S = So at *
          generalize (T.g o).l = lo at *
          generalize (T.g o).c = co at *
          clear hq hv hend hk hkT hf hacc hR y1 y2 y3 ovf hNI h34 hkl hvl ekk
          go_wp2_with (first | (go_at_call 64; refine (D2.out _).mono ?_; rintro e w4 ⟨rfl, hw4⟩; obtain rfl := hw4.symm) | (go_at_call 42; refine (D1.out _).mono ?_; rintro e w5 ⟨rfl, b5⟩; have N5 := HNI.out.to b5; have c0 := N5.tk.c0; have c1 := N5.tk.c1; have c2 := N5.tk.c2; have c3 := N5.tk.c3; obtain ⟨g0, g1, g2, g3⟩ := N5.tk.frz; have H5 := hide' N5; clear N5 b5))
          refine bodyPost_ret_by (results_ttc rfl _ _ w.heap.size _ _ _ _ rfl (H5.out.tk.set _ _ _ _)) rfl ?_
          exact ⟨_, rfl, Hv.out, Below.set4' H5.out.bel (Nat.le_refl _) _ _ _ _⟩
        · rw [hvl] at hq D2
          simp only [if_true] at hq
          have hv : RefN R (.tuple #[.string acc, .int .i64 (wrap64 ((k : Int) + 1)), zfault]) := by rw [← hq, ekk]; rfl
          have Hv := hide' hv
          have N5 := hNI
          have c0 := N5.tk.c0
          have c1 := N5.tk.c1
          have c2 := N5.tk.c2
          have c3 := N5.tk.c3
          obtain ⟨g0, g1, g2, g3⟩ := N5.tk.frz
          generalize (T.g k).S = S at *
          clear hq hv hend hk hkT hf hacc hR y1 y2 y3 ovf hNI h34 hkl hvl N5 x0 x1 x2 x3
          go_wp2_with (go_at_call 64; refine (D2.out _).mono ?_; rintro e w4 ⟨rfl, hw4⟩; obtain rfl := hw4.symm)
          refine bodyPost_ret_by (results_ttc rfl _ _ w.heap.size _ _ _ _ rfl (HNI.out.tk.set _ _ _ _)) rfl ?_
          exact ⟨_, rfl, Hv.out, Below.set4' HNI.out.bel (Nat.le_refl _) _ _ _ _⟩
      · obtain ⟨z5, z6⟩ := hR.no 34 34 rfl (by decide) h34
        rw [if_neg h34] at hq
        by_cases h92 : (T.g k).r = 92
        · obtain ⟨z7, z8⟩ := hR.yes 92 92 rfl (by decide) h92
          rw [if_pos h92] at hq
          have hS92 := S_92 _ z8
          have D2 := hide' (rescape_any HG.out.1 HG.out.2.1 (by rw [← HG.out.2.2.2.1]; exact HG.out.2.2.2.2) (cap := cap) hNI.chs hkl)
          rw [← HG.out.2.2.2.1] at D2
          have h1T : k + 1 ≤ T.N := hkl
          have kl1 : ((k + 1 : Nat) : Int) < ((N + 1 : Nat) : Int) := Int.ofNat_lt.2 (by have := HG.out.2.2.2.1; clear ekk; omega)
          cases he : T.esc k with
          | none =>
            rw [he] at hq
            rw [escA_none he] at D2
            simp only [Option.elim] at hq
            have hwd := esc_word HG.out.1 HG.out.2.1 hkl hS92
            have hv : RefN R (.tuple #[.string ⟨#[]⟩, .int .i64 (k : Int), .agg #[.int .i64 22, .int .i64 (T.g k).l, .int .i64 (T.g k).c, .string (T.txt k (T.escTo k))]]) := by rw [← hq]; exact ⟨_, rfl⟩
            have HX1 := hide' (fun W (b : Below V.heap.size V W) => And.intro ((hNI.to b).chs.at_ (k + 1) h1T) ((hNI.to b).chs.at_ k hkT))
            have hR1 := rl_at HG.out.2.1 h1T
            have hs1 := S_size HG.out.2.1 h1T
            have ov1 := no_over (a := 1) (by decide) (Nat.le_trans hs1 HG.out.2.2.1)
            by_cases h10 : (T.g (k + 1)).r = 10
            · obtain ⟨u1, u2⟩ := hR1.yes 10 10 rfl (by decide) h10
              rw [hwd, if_pos h10] at hv
              have Hv := hide' hv
              have D1 := hide' (fun W => rat_any 22 (T.g k).S (T.g k).l (T.g k).c ((T.g k).a : Int) ⟨#[92]⟩ W)
              generalize (T.g (k + 1)).S = S1 at *
              generalize (T.g k).S = S at *
              generalize (T.g k).l = lo at *
              generalize (T.g k).c = co at *
              clear hq hv hend hk hkT hf hacc hR y1 y2 y3 ovf hNI h34 hkl h92 hS92 h1T he hwd hR1 hs1 ov1 h10 x0 x1 x2 x3
              go_wp2_with (first | (go_at_call 65; refine D2.out.mono ?_; rintro e w4 ⟨rfl, b4⟩; obtain ⟨⟨r0, r1, r2, r3⟩, s0, s1, s2, s3⟩ := HX1.out _ b4; have H4 := hide' (HNI.out.to b4); clear b4) | (go_at_call 42; refine (D1.out _).mono ?_; rintro e w5 ⟨rfl, b5⟩; have N5 := H4.out.to b5; have c0 := N5.tk.c0; have c1 := N5.tk.c1; have c2 := N5.tk.c2; have c3 := N5.tk.c3; obtain ⟨g0, g1, g2, g3⟩ := N5.tk.frz; have H5 := hide' N5; clear N5 b5))
              refine bodyPost_ret_by (results_ttc rfl _ _ w.heap.size _ _ _ _ rfl (H5.out.tk.set _ _ _ _)) rfl ?_
              exact ⟨_, rfl, Hv.out, Below.set4' H5.out.bel (Nat.le_refl _) _ _ _ _⟩
            · obtain ⟨u1, u2⟩ := hR1.no 10 10 rfl (by decide) h10
              rw [hwd, if_neg h10] at hv
              have Hv := hide' hv
              have D1 := hide' (fun W => rat_any 22 (T.g k).S (T.g k).l (T.g k).c ((T.g k).a : Int) (⟨#[92]⟩ ++ (T.g (k + 1)).S) W)
              generalize (T.g (k + 1)).S = S1 at *
              generalize (T.g k).S = S at *
              generalize (T.g k).l = lo at *
              generalize (T.g k).c = co at *
              clear hq hv hend hk hkT hf hacc hR y1 y2 y3 ovf hNI h34 hkl h92 hS92 h1T he hwd hR1 hs1 h10 x0 x1 x2 x3
              go_wp2_with (first | (go_at_call 65; refine D2.out.mono ?_; rintro e w4 ⟨rfl, b4⟩; obtain ⟨⟨r0, r1, r2, r3⟩, s0, s1, s2, s3⟩ := HX1.out _ b4; have H4 := hide' (HNI.out.to b4); clear b4) | (go_at_call 42; refine (D1.out _).mono ?_; rintro e w5 ⟨rfl, b5⟩; have N5 := H4.out.to b5; have c0 := N5.tk.c0; have c1 := N5.tk.c1; have c2 := N5.tk.c2; have c3 := N5.tk.c3; obtain ⟨g0, g1, g2, g3⟩ := N5.tk.frz; have H5 := hide' N5; clear N5 b5))
              refine bodyPost_ret_by (results_ttc rfl _ _ w.heap.size _ _ _ _ rfl (H5.out.tk.set _ _ _ _)) rfl ?_
              exact ⟨_, rfl, Hv.out, Below.set4' H5.out.bel (Nat.le_refl _) _ _ _ _⟩
          | some tj =>
            obtain ⟨t, j⟩ := tj
            rw [he] at hq
            rw [escA_some he] at D2
            simp only [Option.elim] at hq
            obtain ⟨j1, j2, j3⟩ := esc_bd HG.out.1 HG.out.2.1 HG.out.2.2.1 hkl he
            have ejw := wj (k := k) (j := j) (by have := HG.out.2.2.2; clear ekk; omega)
            obtain ⟨n1, n2⟩ := beq0 j1
            have ov2 := (bnd2 (b := t.size) hacc j3 hk HG.out.2.2.2.2).1
            have Hq := hide' (And.intro hq (And.intro j1 (And.intro (show j ≤ N by rw [HG.out.2.2.2.1]; exact j2) (And.intro (show N < j + f by clear ekk ejw; omega) (show (acc ++ t).size ≤ 65536 * j by rw [ByteArray.size_append]; exact bnd1 (N := N) hacc j3 j1)))))
            generalize (T.g k).S = S at *
            obtain ⟨dj, hdj⟩ : ∃ d, d = (j : Int) - (k : Int) := ⟨_, rfl⟩
            rw [← hdj] at ejw n1 n2 D2
            clear hq hend hk hkT hf hacc hR y1 y2 y3 ovf hNI h34 hkl h92 hS92 h1T he x0 x1 x2 x3 j1 j2 j3 hdj ekk
            go_wp2_with (go_at_call 65; refine D2.out.mono ?_; rintro e w4 ⟨rfl, b4⟩; have H4 := hide' (HNI.out.to b4); clear b4)
            rw [ejw]
            exact ⟨⟨j, f, _, _, rfl, rfl, rfl, Hq.out.2.2.1, Hq.out.2.2.2.1, Hq.out.1, Hq.out.2.2.2.2, H4.out⟩, ms3 HK.out.1 Hq.out.2.1⟩
        · obtain ⟨z7, z8⟩ := hR.no 92 92 rfl (by decide) h92
          rw [if_neg h92, S_txt HG.out.1 HG.out.2.1 hkl] at hq
          have Hq := hide' (And.intro hq (And.intro (show k + 1 ≤ N by rw [HG.out.2.2.2.1]; exact hkl) (And.intro (show N < k + 1 + f by clear ekk; omega) (show (acc ++ (T.g k).S).size ≤ 65536 * (k + 1) by rw [ByteArray.size_append]; exact bnd1 (N := N) hacc (Nat.le_trans (S_size HG.out.2.1 hkT) HG.out.2.2.1) (Nat.lt_succ_self k)))))
          have ov1 := ovf.1
          generalize (T.g k).S = S at *
          clear hq hend hk hkT hf hacc hR y1 y2 y3 ovf hNI h34 hkl h92 x0 x1 x2 x3
          go_wp2_with fail
          rw [ekk]
          exact ⟨⟨k + 1, f, _, _, rfl, rfl, rfl, Hq.out.2.1, Hq.out.2.2.1, Hq.out.1, Hq.out.2.2.2, HNI.out⟩, ms3 HK.out.1 (Nat.lt_succ_self k)⟩
end Go.Proofs.YtnlopepbcnegbaaGreatDoor
set_option linter.unusedVariables false
set_option linter.unusedSimpArgs false
namespace Go.Proofs.YtnlopepbcnegbaaGreatDoor
open Go.RowKit
theorem results_ctc {fn : Func} {p u q : Tmp} (h : fn.results = #[.cell p 52, .tmp u, .cell q 25]) (tmps : Array Value) (w : World) (g g' : Nat) (a b c d a' b' c' d' : Value) (hp : tmps.getD p undef = .pointer (some ⟨g, 0, none⟩)) (hq : tmps.getD q undef = .pointer (some ⟨g', 0, none⟩)) (K : Tk g a b c d w) (K' : Tk g' a' b' c' d' w) :
    (results fn tmps).run Tryz.prog w = .ok (.tuple #[.agg #[a, b, c, d], tmps.getD u undef, .agg #[a', b', c', d']]) w := by
  have hp' : tmps[p]?.getD undef = .pointer (some ⟨g, 0, none⟩) := by simpa using hp
  have hq' : tmps[q]?.getD undef = .pointer (some ⟨g', 0, none⟩) := by simpa using hq
  simp [results, h, hp', hq', asAddr, Result.andThen, load4 w g a b c d K, loadF w g' a' b' c' d' K']
def ztok : Value := .agg #[.int .i8 0, .string ⟨#[]⟩, .int .i64 0, .int .i64 0]
/-- what the document's reading of one token tells -/
def RefT (R : Res) (v : Value) : Prop :=
  match R with
  | .tok k t l c j => v = .tuple #[.agg #[.int .i8 k, .string t, .int .i64 l, .int .i64 c], .int .i64 (j : Int), zfault]
  | .flt code l c word => ∃ z, v = .tuple #[ztok, .int .i64 z, .agg #[.int .i64 code, .int .i64 l, .int .i64 c, .string word]]
theorem Tk.other {g q o : Nat} {a b c d v : Value} {w : World} (h : Tk g a b c d w) (hne : g ≠ q) : Tk g a b c d (w.setCell ⟨q, o, none⟩ v) := h.of_block (Below.heap_setCell _ _ _ _ hne)
theorem Tk.drew {g : Nat} {a b c d : Value} {w : World} (h : Tk g a b c d w) : Tk g a b c d w.drew := h.of_block rfl
/-- amid the document's reading of a token: four blocks -/
structure TS (T : Tx) (g b0 b1 b2 b3 : Nat) (S : ByteArray) (l c a k : Int) (x : ByteArray) (w V : World) : Prop where
  chs : Chs T g V
  tr : Tk b0 (.int .i8 0) (.string ⟨#[]⟩) (.int .i64 0) (.int .i64 0) V
  tf : Tk b1 (.int .i64 0) (.int .i64 0) (.int .i64 0) (.string ⟨#[]⟩) V
  tc : Tk b2 (.string S) (.int .i64 l) (.int .i64 c) (.int .i64 a) V
  tt : Tk b3 (.int .i8 k) (.string x) (.int .i64 l) (.int .i64 c) V
  bel : Below w.heap.size w V
theorem TS.to {T : Tx} {g b0 b1 b2 b3 : Nat} {S : ByteArray} {l c a k : Int} {x : ByteArray} {w V V' : World} (h : TS T g b0 b1 b2 b3 S l c a k x w V) (b : Below V.heap.size V V') : TS T g b0 b1 b2 b3 S l c a k x w V' :=
  ⟨h.chs.below b, h.tr.below b, h.tf.below b, h.tc.below b, h.tt.below b, h.bel.trans (b.mono h.bel.size)⟩
theorem TS.start {T : Tx} {g : Nat} {w : World} (hC : Chs T g w) (S : ByteArray) (l c a : Int) :
    TS T g w.heap.size (w.heap.size + 1) (w.heap.size + 1 + 1) (w.heap.size + 1 + 1 + 1) S l c a 0 S w ((((w.alloc (.cells #[.int .i8 0, .string ⟨#[]⟩, .int .i64 0, .int .i64 0] 52)).alloc (.cells #[.int .i64 0, .int .i64 0, .int .i64 0, .string ⟨#[]⟩] 25)).alloc (.cells #[.string S, .int .i64 l, .int .i64 c, .int .i64 a] 95)).alloc (.cells #[.int .i8 0, .string S, .int .i64 l, .int .i64 c] 52)) := by
  have b1 : Below w.heap.size w (((w.alloc (.cells #[.int .i8 0, .string ⟨#[]⟩, .int .i64 0, .int .i64 0] 52)).alloc (.cells #[.int .i64 0, .int .i64 0, .int .i64 0, .string ⟨#[]⟩] 25)).alloc (.cells #[.string S, .int .i64 l, .int .i64 c, .int .i64 a] 95)) := (((Below.refl _ _).alloc (Nat.le_refl _) _).alloc (by simp) _).alloc (by simp; omega) _
  have k0 : Tk w.heap.size (.int .i8 0) (.string ⟨#[]⟩) (.int .i64 0) (.int .i64 0) (w.alloc (.cells #[.int .i8 0, .string ⟨#[]⟩, .int .i64 0, .int .i64 0] 52)) := Tk.of_cells (heap_alloc_new _ _)
  have al : ∀ (W : World) (o : Obj), Below W.heap.size W (W.alloc o) := fun W o => (Below.refl _ _).alloc (Nat.le_refl _) _
  refine ⟨hC.below (b1.alloc (by simp; omega) _), ((k0.below (al _ _)).below (al _ _)).below (al _ _), ?_, ?_, ?_, b1.alloc (by simp; omega) _⟩
  · have k1 : Tk (w.heap.size + 1) (.int .i64 0) (.int .i64 0) (.int .i64 0) (.string ⟨#[]⟩) ((w.alloc (.cells #[.int .i8 0, .string ⟨#[]⟩, .int .i64 0, .int .i64 0] 52)).alloc (.cells #[.int .i64 0, .int .i64 0, .int .i64 0, .string ⟨#[]⟩] 25)) := by
      have := Tk.of_cells (heap_alloc_new (w.alloc (.cells #[.int .i8 0, .string ⟨#[]⟩, .int .i64 0, .int .i64 0] 52)) (.cells #[.int .i64 0, .int .i64 0, .int .i64 0, .string ⟨#[]⟩] 25))
      simpa using this
    exact (k1.below (al _ _)).below (al _ _)
  · have k2 := Tk.of_cells (heap_alloc_new ((w.alloc (.cells #[.int .i8 0, .string ⟨#[]⟩, .int .i64 0, .int .i64 0] 52)).alloc (.cells #[.int .i64 0, .int .i64 0, .int .i64 0, .string ⟨#[]⟩] 25)) (.cells #[.string S, .int .i64 l, .int .i64 c, .int .i64 a] 95))
    have e : ((w.alloc (.cells #[.int .i8 0, .string ⟨#[]⟩, .int .i64 0, .int .i64 0] 52)).alloc (.cells #[.int .i64 0, .int .i64 0, .int .i64 0, .string ⟨#[]⟩] 25)).heap.size = w.heap.size + 1 + 1 := by simp
    rw [e] at k2
    exact k2.below (al _ _)
  · have k3 := Tk.of_cells (heap_alloc_new (((w.alloc (.cells #[.int .i8 0, .string ⟨#[]⟩, .int .i64 0, .int .i64 0] 52)).alloc (.cells #[.int .i64 0, .int .i64 0, .int .i64 0, .string ⟨#[]⟩] 25)).alloc (.cells #[.string S, .int .i64 l, .int .i64 c, .int .i64 a] 95)) (.cells #[.int .i8 0, .string S, .int .i64 l, .int .i64 c] 52))
    have e : (((w.alloc (.cells #[.int .i8 0, .string ⟨#[]⟩, .int .i64 0, .int .i64 0] 52)).alloc (.cells #[.int .i64 0, .int .i64 0, .int .i64 0, .string ⟨#[]⟩] 25)).alloc (.cells #[.string S, .int .i64 l, .int .i64 c, .int .i64 a] 95)).heap.size = w.heap.size + 1 + 1 + 1 := by simp
    rw [e] at k3
    exact k3
/-- the four blocks lie apart -/
structure Bs (w : World) (b0 b1 b2 b3 : Nat) : Prop where
  n01 : b0 ≠ b1
  n02 : b0 ≠ b2
  n03 : b0 ≠ b3
  n12 : b1 ≠ b2
  n13 : b1 ≠ b3
  n23 : b2 ≠ b3
  l0 : w.heap.size ≤ b0
  l1 : w.heap.size ≤ b1
  l2 : w.heap.size ≤ b2
  l3 : w.heap.size ≤ b3
theorem Chs.set {T : Tx} {g q o : Nat} {v : Value} {w : World} (h : Chs T g w) (hne : g ≠ q) : Chs T g (w.setCell ⟨q, o, none⟩ v) :=
  ⟨by simpa using h.lt, fun j hj => by
    obtain ⟨a0, a1, a2, a3⟩ := h.at_ j hj
    have e : (w.setCell ⟨q, o, none⟩ v).heap[g]? = w.heap[g]? := Below.heap_setCell _ _ _ _ hne
    exact ⟨(World.cell?_of_block e).trans a0, (World.cell?_of_block e).trans a1, (World.cell?_of_block e).trans a2, (World.cell?_of_block e).trans a3⟩⟩
/-- the kind and the text are written -/
theorem TS.kind {T : Tx} {g b0 b1 b2 b3 : Nat} {S : ByteArray} {l c a k : Int} {x : ByteArray} {w V : World} (h : TS T g b0 b1 b2 b3 S l c a k x w V) (B : Bs w b0 b1 b2 b3) (hg : g < w.heap.size) (k' : Int) : TS T g b0 b1 b2 b3 S l c a k' x w (V.setCell ⟨b3, 0, none⟩ (.int .i8 k')) := by
  obtain ⟨c0, c1, c2, c3, ff⟩ := h.tt
  have z0 := ff 0 (by omega)
  refine ⟨h.chs.set (by have := B.l3; omega), h.tr.other B.n03, h.tf.other B.n13, h.tc.other B.n23, ⟨?_, ?_, ?_, ?_, fun j hj => by simp only [World.frozen?_setCell]; exact ff j hj⟩, h.bel.setCell (p := ⟨b3, 0, none⟩) B.l3 _⟩
  · go_simp
  · go_simp
  · go_simp
  · go_simp
theorem TS.text {T : Tx} {g b0 b1 b2 b3 : Nat} {S : ByteArray} {l c a k : Int} {x : ByteArray} {w V : World} (h : TS T g b0 b1 b2 b3 S l c a k x w V) (B : Bs w b0 b1 b2 b3) (hg : g < w.heap.size) (x' : ByteArray) : TS T g b0 b1 b2 b3 S l c a k x' w (V.setCell ⟨b3, 1, none⟩ (.string x')) := by
  obtain ⟨c0, c1, c2, c3, ff⟩ := h.tt
  have z0 := ff 1 (by omega)
  refine ⟨h.chs.set (by have := B.l3; omega), h.tr.other B.n03, h.tf.other B.n13, h.tc.other B.n23, ⟨?_, ?_, ?_, ?_, fun j hj => by simp only [World.frozen?_setCell]; exact ff j hj⟩, h.bel.setCell (p := ⟨b3, 1, none⟩) B.l3 _⟩
  · go_simp
  · go_simp
  · go_simp
  · go_simp
/-- both answers are laid -/
theorem TS.fin {T : Tx} {g b0 b1 b2 b3 : Nat} {S : ByteArray} {l c a k : Int} {x : ByteArray} {w V : World} (h : TS T g b0 b1 b2 b3 S l c a k x w V) (B : Bs w b0 b1 b2 b3) (p0 p1 p2 p3 q0 q1 q2 q3 : Value) :
    ∀ W, W = (((((((V.setCell ⟨b0, 0, none⟩ p0).setCell ⟨b0, 1, none⟩ p1).setCell ⟨b0, 2, none⟩ p2).setCell ⟨b0, 3, none⟩ p3).setCell ⟨b1, 0, none⟩ q0).setCell ⟨b1, 1, none⟩ q1).setCell ⟨b1, 2, none⟩ q2).setCell ⟨b1, 3, none⟩ q3 → Tk b0 p0 p1 p2 p3 W ∧ Tk b1 q0 q1 q2 q3 W ∧ Below w.heap.size w W := by
  rintro W rfl
  have k0 := h.tr.set p0 p1 p2 p3
  have k1 := (((h.tf.other (q := b0) (o := 0) (v := p0) B.n01.symm).other (q := b0) (o := 1) (v := p1) B.n01.symm).other (q := b0) (o := 2) (v := p2) B.n01.symm).other (q := b0) (o := 3) (v := p3) B.n01.symm
  exact ⟨(((k0.other B.n01).other B.n01).other B.n01).other B.n01, k1.set q0 q1 q2 q3, (((((((h.bel.setCell (p := ⟨b0, 0, none⟩) B.l0 _).setCell (p := ⟨b0, 1, none⟩) B.l0 _).setCell (p := ⟨b0, 2, none⟩) B.l0 _).setCell (p := ⟨b0, 3, none⟩) B.l0 _).setCell (p := ⟨b1, 0, none⟩) B.l1 _).setCell (p := ⟨b1, 1, none⟩) B.l1 _).setCell (p := ⟨b1, 2, none⟩) B.l1 _).setCell (p := ⟨b1, 3, none⟩) B.l1 _⟩
end Go.Proofs.YtnlopepbcnegbaaGreatDoor
set_option linter.unusedVariables false
set_option linter.unusedSimpArgs false
namespace Go.Proofs.YtnlopepbcnegbaaGreatDoor
open Go.RowKit
theorem bs_of (w : World) : Bs w w.heap.size (w.heap.size + 1) (w.heap.size + 1 + 1) (w.heap.size + 1 + 1 + 1) := ⟨by omega, by omega, by omega, by omega, by omega, by omega, by omega, by omega, by omega, by omega⟩
theorem letter_not {r : Int} (h : L.isLetter r = true) : r ≠ -1 ∧ L.isSign r = false ∧ L.isDigit r = false ∧ r ≠ 34 := by
  unfold L.isLetter at h
  simp only [Bool.or_eq_true, Bool.and_eq_true, decide_eq_true_eq, beq_iff_eq] at h
  refine ⟨by omega, ?_, ?_, by omega⟩
  · unfold L.isSign; simp only [Bool.or_eq_false_iff, beq_eq_false_iff_ne]; omega
  · unfold L.isDigit; simp only [Bool.and_eq_false_iff, decide_eq_false_iff_not]; omega
theorem digit_not {r : Int} (h : L.isDigit r = true) : r ≠ -1 ∧ L.isSign r = false ∧ L.isLetter r = false ∧ r ≠ 34 := by
  unfold L.isDigit at h
  simp only [Bool.and_eq_true, decide_eq_true_eq] at h
  refine ⟨by omega, ?_, ?_, by omega⟩
  · unfold L.isSign; simp only [Bool.or_eq_false_iff, beq_eq_false_iff_ne]; omega
  · unfold L.isLetter; simp only [Bool.or_eq_false_iff, Bool.and_eq_false_iff, decide_eq_false_iff_not, beq_eq_false_iff_ne]; omega
theorem sign_not {r : Int} (h : L.isSign r = true) : r ≠ -1 ∧ L.isDigit r = false ∧ L.isLetter r = false ∧ r ≠ 34 := by
  unfold L.isSign at h
  simp only [Bool.or_eq_true, beq_iff_eq] at h
  refine ⟨by omega, ?_, ?_, by omega⟩
  · unfold L.isDigit; simp only [Bool.and_eq_false_iff, decide_eq_false_iff_not]; omega
  · unfold L.isLetter; simp only [Bool.or_eq_false_iff, Bool.and_eq_false_iff, decide_eq_false_iff_not, beq_eq_false_iff_ne]; omega
theorem run_len {T : Tx} {s : ByteArray} (hs : T.s = s) (G : L.Good s T.C T.N 0 (1, 1)) (p : Int → Bool) (hp : ∀ r, p r = true → r < 128) (h1 : p (-1) = false) {i : Nat} (hi : i ≤ T.N) : i + (T.txt i (T.skp p i)).size = T.skp p i := by
  have hb := skp_bd G p h1 hi
  have ha : ∀ m, i + m ≤ T.skp p i → (T.g (i + m)).a = (T.g i).a + m := by
    intro m
    induction m with
    | zero => intro _; rfl
    | succ m ih =>
      intro hm
      have h2 := skp_all T.C p T.N i m (by show m < T.skp p i - i; omega)
      have hlt : i + m < T.N := by omega
      obtain ⟨c1, c2, c3, c4⟩ := G.char (i + m) hlt
      obtain ⟨s1, _, _, _⟩ := G.step (i + m) hlt
      have h3 := hp _ h2
      rw [c3] at h3
      have hbt : L.bt s (L.g T.C (i + m)).a < 128 := by
        rcases Nat.lt_or_ge (L.bt s (L.g T.C (i + m)).a) 128 with y | y
        · exact y
        · have := L.rn_ge s _ y; omega
      have hw := (L.rn_lt s _ hbt).2
      rw [hw] at s1
      have s1' : (T.g (i + m + 1)).a = (T.g (i + m)).a + 1 := s1
      have := ih (by omega)
      rw [show i + (m + 1) = i + m + 1 by omega]
      omega
  have e := ha (T.skp p i - i) (by omega)
  rw [show i + (T.skp p i - i) = T.skp p i by omega] at e
  have hle := a_le G hb.2
  unfold Tx.txt
  rw [hs, ByteArray.size_extract, e]
  omega
theorem qloop_form {T : Tx} {s : ByteArray} (hs : T.s = s) (G : L.Good s T.C T.N 0 (1, 1)) (hz : s.size ≤ 65536) (o : Nat) : ∀ f k acc, k ≤ T.N → T.N < k + f → (∃ t j, T.qloop o f k acc = .tok 2 t (T.g o).l (T.g o).c j) ∨ (∃ code l c word, T.qloop o f k acc = .flt code l c word ∧ code ≠ 0) := by
  intro f
  induction f with
  | zero => intro k acc h1 h2; omega
  | succ f ih =>
    intro k acc h1 h2
    rw [Tx.qloop]
    split
    · exact .inr ⟨_, _, _, _, rfl, by decide⟩
    · rename_i hend
      split
      · split
        · exact .inl ⟨_, _, rfl⟩
        · exact .inr ⟨_, _, _, _, rfl, by decide⟩
      · have hk : k < T.N := lt_r G h1 (fun q => hend (.inr q))
        split
        · cases he : T.esc k with
          | none => exact .inr ⟨_, _, _, _, rfl, by decide⟩
          | some tj =>
            obtain ⟨t, j⟩ := tj
            obtain ⟨j1, j2, j3⟩ := esc_bd hs G hz hk he
            exact ih j _ j2 (by omega)
        · exact ih (k + 1) _ hk (by omega)
theorem al5 (w : World) (a b c d : Value) : Below w.heap.size w (w.alloc (.cells #[a, b, c, d] 25)) := (Below.refl _ _).alloc (Nat.le_refl _) _
theorem tk5 (w : World) (a b c d : Value) : Tk w.heap.size a b c d (w.alloc (.cells #[a, b, c, d] 25)) := Tk.of_cells (heap_alloc_new _ _)
theorem inWord_lt (r : Int) (h : L.inWord r = true) : r < 128 := by
  unfold L.inWord L.isLetter L.isDigit at h
  simp only [Bool.or_eq_true, Bool.and_eq_true, decide_eq_true_eq, beq_iff_eq] at h
  omega
theorem inRun_lt (r : Int) (h : L.inRun r = true) : r < 128 := by
  unfold L.inRun at h
  rcases Bool.or_eq_true _ _ ▸ h with h | h
  · exact inWord_lt r h
  · have := eq_of_beq h; omega
set_option maxRecDepth 100000 in
set_option maxHeartbeats 4000000 in
theorem rtaken_any {T : Tx} {s : ByteArray} (hs : T.s = s) (G : L.Good s T.C T.N 0 (1, 1)) (hN : T.N ≤ 65536) (hz : s.size ≤ 65536) {g cap i : Nat} {w : World} (hC : Chs T g w) (hi : i ≤ T.N) :
    Calls Tryz.prog 24 #[.slice (some ⟨g, 0, none⟩) (T.N + 1) cap, .int .i64 (i : Int)] w fun e w' => ∃ v, e = .returned v ∧ RefT (T.tokAt i) v ∧ Below w.heap.size w w' := by
  have hg := hC.lt
  have hR := rl_at G hi
  have HC := hide' (And.intro hs (And.intro G (And.intro hN (And.intro hz (And.intro hi hg)))))
  obtain ⟨R, hR0⟩ : ∃ R, R = T.tokAt i := ⟨_, rfl⟩
  rw [← hR0]
  have HT := TS.start hC (T.g i).S (T.g i).l (T.g i).c ((T.g i).a : Int)
  have HB := bs_of w
  obtain ⟨V, hV⟩ : ∃ V, V = ((((w.alloc (.cells #[.int .i8 0, .string ⟨#[]⟩, .int .i64 0, .int .i64 0] 52)).alloc (.cells #[.int .i64 0, .int .i64 0, .int .i64 0, .string ⟨#[]⟩] 25)).alloc (.cells #[.string (T.g i).S, .int .i64 (T.g i).l, .int .i64 (T.g i).c, .int .i64 ((T.g i).a : Int)] 95)).alloc (.cells #[.int .i8 0, .string (T.g i).S, .int .i64 (T.g i).l, .int .i64 (T.g i).c] 52)) := ⟨_, rfl⟩
  have HV := hide' hV
  obtain ⟨b1, hb1⟩ : ∃ b, b = w.heap.size + 1 := ⟨_, rfl⟩
  obtain ⟨b2, hb2⟩ : ∃ b, b = w.heap.size + 1 + 1 := ⟨_, rfl⟩
  obtain ⟨b3, hb3⟩ : ∃ b, b = w.heap.size + 1 + 1 + 1 := ⟨_, rfl⟩
  have Hbs := hide' (And.intro hb1 (And.intro hb2 hb3))
  rw [← hV, ← hb3, ← hb2, ← hb1] at HT
  rw [← hb3, ← hb2, ← hb1] at HB
  have HT := hide' HT
  have HB := hide' HB
  have D39 := hide' (fun W => rsigns_any (T.g i).S W)
  have D40 := hide' (fun W => rletter_any (T.g i).S W)
  have D43 := hide' (fun W => rdigit_any (T.g i).S W)
  rw [hR.sign] at D39
  rw [hR.letter] at D40
  rw [hR.digit] at D43
  have D41 : Hid (∀ W, Chs T g W → ∀ pt, _) := hide' (fun W (h : Chs T g W) pt => rrun_any hs G hN hz (cap := cap) h hi pt)
  have D42 : Hid (∀ W code word, _) := hide' (fun W code word => rat_any code (T.g i).S (T.g i).l (T.g i).c ((T.g i).a : Int) word W)
  have hC2 := hC.below (w' := (w.alloc (.cells #[.int .i8 0, .string ⟨#[]⟩, .int .i64 0, .int .i64 0] 52)).alloc (.cells #[.int .i64 0, .int .i64 0, .int .i64 0, .string ⟨#[]⟩] 25)) (((Below.refl _ _).alloc (Nat.le_refl _) _).alloc (by simp) _)
  obtain ⟨x0, x1, x2, x3⟩ := hC2.at_ i hi
  obtain ⟨N, hn⟩ : ∃ N, N = T.N := ⟨_, rfl⟩
  have il : (i : Int) < ((N + 1 : Nat) : Int) := Int.ofNat_lt.2 (by omega)
  have i65 : i ≤ 65536 := by omega
  have HI := hide' i65
  rw [← hn] at D41 ⊢
  have HN := hide' hn
  clear hC hC2 G hs hz hn hN hi hV hb1 hb2 hb3 i65 hg
  go_enter Tryz.func24, Tryz.ntmps24
  go_upto_region 3 with fail
  rw [← HV.out, ← Hbs.out.2.2, ← Hbs.out.2.1, ← Hbs.out.1]
  clear x0 x1 x2 x3 il
  have HR := hide' hR
  have HR0 := hide' hR0
  have e0 : T.tokAt i = R := hR0.symm
  clear hR0
  obtain ⟨p0, p1, p2, p3, _⟩ := HT.out.tc
  obtain ⟨q0, q1, q2, q3, _⟩ := HT.out.tt
  obtain ⟨r0, r1, r2, r3, _⟩ := HT.out.tr
  obtain ⟨s0, s1, s2, s3, _⟩ := HT.out.tf
  obtain ⟨q4, q5, q6, q7⟩ := HT.out.tt.frz
  obtain ⟨r4, r5, r6, r7⟩ := HT.out.tr.frz
  obtain ⟨s4, s5, s6, s7⟩ := HT.out.tf.frz
  obtain ⟨n01, n02, n03, n12, n13, n23, _, _, _, _⟩ := HB.out
  have m01 := n01.symm
  have m02 := n02.symm
  have m03 := n03.symm
  have m12 := n12.symm
  have m13 := n13.symm
  have m23 := n23.symm
  by_cases hend : (T.g i).r = -1
  · have hv : RefT R (.tuple #[.agg #[.int .i8 5, .string (T.g i).S, .int .i64 (T.g i).l, .int .i64 (T.g i).c], .int .i64 (i : Int), zfault]) := by
      rw [← e0]; unfold Tx.tokAt; rw [if_pos hend]
      have : (T.g i).S = ByteArray.empty := by
        have hz := (nil_yes HC.out.2.1 HC.out.2.2.2.2.1 hend).2
        have e : (T.g i).S.toList = (T.g i).S.data.toList := ByteArray.toList_eq _
        rw [e] at hz
        apply ByteArray.ext
        apply Array.ext'
        exact hz
      rw [this]; rfl
    have Hv := hide' hv
    obtain ⟨z1, z2⟩ := nil_yes HC.out.2.1 HC.out.2.2.2.2.1 hend
    have HK := hide' (HT.out.kind HB.out HC.out.2.2.2.2.2 5)
    generalize (T.g i).S = S at *
    generalize (T.g i).l = l at *
    generalize (T.g i).c = c at *
    clear hend hv e0 hR
    go_wp2_with fail
    obtain ⟨K0, K1, KB⟩ := HK.out.fin HB.out (.int .i8 5) (.string S) (.int .i64 l) (.int .i64 c) (.int .i64 0) (.int .i64 0) (.int .i64 0) (.string ⟨#[]⟩) _ rfl
    refine bodyPost_ret_by (results_ctc rfl _ _ w.heap.size b1 _ _ _ _ _ _ _ _ rfl rfl K0 K1) rfl ?_
    exact ⟨_, rfl, Hv.out, KB⟩
  · obtain ⟨z1, z2⟩ := nil_no HC.out.2.1 HC.out.2.2.2.2.1 hend
    have hlt := lt_r HC.out.2.1 HC.out.2.2.2.2.1 hend
    have hSt := S_txt HC.out.1 HC.out.2.1 hlt
    have ek : wrap64 ((i : Int) + 1) = ((i + 1 : Nat) : Int) := waddn (b := 1) rfl (Nat.le_trans (Nat.add_le_add_right HI.out 1) (by decide))
    cases hsg : L.isSign (T.g i).r
    · rw [hsg] at D39
      cases hlet : L.isLetter (T.g i).r
      · rw [hlet] at D40
        cases hdig : L.isDigit (T.g i).r
        · rw [hdig] at D43
          by_cases h34 : (T.g i).r = 34
          · obtain ⟨z3, z4⟩ := hR.yes 34 34 rfl (by decide) h34
            have hq0 : T.tokAt i = T.quotedR i := by
              unfold Tx.tokAt
              rw [if_neg hend, if_neg (by rw [hlet]; decide), if_neg (by rw [hdig]; decide), if_neg (by rw [hsg]; decide), if_pos h34]
            rw [e0] at hq0
            have D45 := hide' (rname_any HC.out.1 HC.out.2.1 HC.out.2.2.1 HC.out.2.2.2.1 (cap := cap) HT.out.chs hlt)
            rw [← HN.out, ← hq0] at D45
            have hform := qloop_form HC.out.1 HC.out.2.1 HC.out.2.2.2.1 i (T.N + 1) (i + 1) ByteArray.empty hlt (by clear ek; omega)
            have hqr : T.qloop i (T.N + 1) (i + 1) ByteArray.empty = R := hq0.symm
            rw [hqr] at hform
            rcases hform with ⟨t, j, hRf⟩ | ⟨code, fl, fc, word, hRf, hcode⟩
            · rw [hRf] at D45
              have hv : RefT R (.tuple #[.agg #[.int .i8 2, .string t, .int .i64 (T.g i).l, .int .i64 (T.g i).c], .int .i64 (j : Int), zfault]) := by rw [hRf]; rfl
              have Hv := hide' hv
              unfold RefN at D45
              simp only at D45
              unfold zfault at D45
              generalize (T.g i).S = S at *
              generalize (T.g i).l = l at *
              generalize (T.g i).c = c at *
              clear hend hv e0 hR hlt hSt hsg hlet hdig h34 D41 D42 ek hq0 hqr hRf
              go_wp2_with (first | (go_at_call 39; refine (D39.out _).mono ?_; rintro e w5 ⟨rfl, hw5⟩; obtain rfl := hw5.symm) | (go_at_call 40; refine (D40.out _).mono ?_; rintro e w5 ⟨rfl, hw5⟩; obtain rfl := hw5.symm) | (go_at_call 43; refine (D43.out _).mono ?_; rintro e w5 ⟨rfl, hw5⟩; obtain rfl := hw5.symm) | (go_at_call 45; refine D45.out.mono ?_; rintro e w6 ⟨_, rfl, rfl, b6⟩; have K6 := HT.out.to b6; have K7 := K6.to (al5 w6 (.int .i64 0) (.int .i64 0) (.int .i64 0) (.string ⟨#[]⟩)); have T5 := tk5 w6 (.int .i64 0) (.int .i64 0) (.int .i64 0) (.string ⟨#[]⟩); have y0 := K7.tt.c0; have y1 := K7.tt.c1; have y2 := K7.tt.c2; have y3 := K7.tt.c3; obtain ⟨y4, y5, y6, y7⟩ := K7.tt.frz; have k5 : b3 ≠ w6.heap.size := Nat.ne_of_lt (lt_of_cell K6.tt.c0); have k50 : w.heap.size ≠ w6.heap.size := Nat.ne_of_lt (lt_of_cell K6.tr.c0); have k51 : b1 ≠ w6.heap.size := Nat.ne_of_lt (lt_of_cell K6.tf.c0); have k50' := k50.symm; have k51' := k51.symm; have t0 := T5.c0; have t1 := T5.c1; have t2 := T5.c2; have t3 := T5.c3; have H7 := hide' (And.intro K7 (And.intro T5 k5)); have k5' := k5.symm; clear K6 K7 b6 T5))
              have HK2 := hide' ((H7.out.1.kind HB.out HC.out.2.2.2.2.2 2).text HB.out HC.out.2.2.2.2.2 t)
              have HT5 := hide' ((H7.out.2.1.other (q := b3) (o := 0) (v := .int .i8 2) H7.out.2.2.symm).other (q := b3) (o := 1) (v := .string t) H7.out.2.2.symm)
              generalize hW : ((w6.alloc (.cells #[.int .i64 0, .int .i64 0, .int .i64 0, .string ⟨#[]⟩] 25)).setCell ⟨b3, 0, none⟩ (.int .i8 2)).setCell ⟨b3, 1, none⟩ (.string t) = W at *
              clear p0 p1 p2 p3 q0 q1 q2 q3 r0 r1 r2 r3 s0 s1 s2 s3 q4 q5 q6 q7 r4 r5 r6 r7 s4 s5 s6 s7 y0 y1 y2 y3 y4 y5 y6 y7 t0 t1 t2 t3 hW
              obtain ⟨q0, q1, q2, q3, _⟩ := HK2.out.tt
              obtain ⟨r0, r1, r2, r3, _⟩ := HK2.out.tr
              obtain ⟨s0, s1, s2, s3, _⟩ := HK2.out.tf
              obtain ⟨t0, t1, t2, t3, _⟩ := HT5.out
              obtain ⟨r4, r5, r6, r7⟩ := HK2.out.tr.frz
              obtain ⟨s4, s5, s6, s7⟩ := HK2.out.tf.frz
              generalize w6.heap.size = b5 at *
              go_region
              go_wp2_with fail
              obtain ⟨K0, K1, KB⟩ := HK2.out.fin HB.out (.int .i8 2) (.string t) (.int .i64 l) (.int .i64 c) (.int .i64 0) (.int .i64 0) (.int .i64 0) (.string ⟨#[]⟩) _ rfl
              refine bodyPost_ret_by (results_ctc rfl _ _ w.heap.size b1 _ _ _ _ _ _ _ _ rfl rfl K0.drew K1.drew) rfl ?_
              exact ⟨_, rfl, Hv.out, KB.trans ((below_drew _).mono KB.size)⟩
            · rw [hRf] at D45
              have hv : RefT R (.tuple #[ztok, .int .i64 (i : Int), .agg #[.int .i64 code, .int .i64 fl, .int .i64 fc, .string word]]) := by rw [hRf]; exact ⟨_, rfl⟩
              have Hv := hide' hv
              unfold RefN at D45
              simp only at D45
              have hc1 : (code == 0) = false := beq_eq_false_iff_ne.2 hcode
              generalize (T.g i).S = S at *
              generalize (T.g i).l = l at *
              generalize (T.g i).c = c at *
              clear hend hv e0 hR hlt hSt hsg hlet hdig h34 D41 D42 ek hq0 hqr hRf
              go_wp2_with (first | (go_at_call 39; refine (D39.out _).mono ?_; rintro e w5 ⟨rfl, hw5⟩; obtain rfl := hw5.symm) | (go_at_call 40; refine (D40.out _).mono ?_; rintro e w5 ⟨rfl, hw5⟩; obtain rfl := hw5.symm) | (go_at_call 43; refine (D43.out _).mono ?_; rintro e w5 ⟨rfl, hw5⟩; obtain rfl := hw5.symm) | (go_at_call 45; refine D45.out.mono ?_; rintro e w6 ⟨_, rfl, ⟨z, rfl⟩, b6⟩; have K6 := HT.out.to b6; have K7 := K6.to (al5 w6 (.int .i64 code) (.int .i64 fl) (.int .i64 fc) (.string word)); have T5 := tk5 w6 (.int .i64 code) (.int .i64 fl) (.int .i64 fc) (.string word); have k50 : w.heap.size ≠ w6.heap.size := Nat.ne_of_lt (lt_of_cell K6.tr.c0); have k51 : b1 ≠ w6.heap.size := Nat.ne_of_lt (lt_of_cell K6.tf.c0); have k50' := k50.symm; have k51' := k51.symm; have t0 := T5.c0; have t1 := T5.c1; have t2 := T5.c2; have t3 := T5.c3; have H7 := hide' (And.intro K7 T5); clear K6 K7 b6 T5))
              generalize hW : w6.alloc (.cells #[.int .i64 code, .int .i64 fl, .int .i64 fc, .string word] 25) = W at *
              clear p0 p1 p2 p3 q0 q1 q2 q3 r0 r1 r2 r3 s0 s1 s2 s3 q4 q5 q6 q7 r4 r5 r6 r7 s4 s5 s6 s7 hW
              obtain ⟨r0, r1, r2, r3, _⟩ := H7.out.1.tr
              obtain ⟨s0, s1, s2, s3, _⟩ := H7.out.1.tf
              obtain ⟨r4, r5, r6, r7⟩ := H7.out.1.tr.frz
              obtain ⟨s4, s5, s6, s7⟩ := H7.out.1.tf.frz
              generalize w6.heap.size = b5 at *
              go_region
              go_wp2_with fail
              obtain ⟨K0, K1, KB⟩ := H7.out.1.fin HB.out (.int .i8 0) (.string ⟨#[]⟩) (.int .i64 0) (.int .i64 0) (.int .i64 code) (.int .i64 fl) (.int .i64 fc) (.string word) _ rfl
              refine bodyPost_ret_by (results_ctc rfl _ _ w.heap.size b1 _ _ _ _ _ _ _ _ rfl rfl K0.drew K1.drew) rfl ?_
              exact ⟨_, rfl, Hv.out, KB.trans ((below_drew _).mono KB.size)⟩
          · obtain ⟨z3, z4⟩ := hR.no 34 34 rfl (by decide) h34
            have hv : RefT R (.tuple #[ztok, .int .i64 (i : Int), .agg #[.int .i64 20, .int .i64 (T.g i).l, .int .i64 (T.g i).c, .string (T.g i).S]]) := by
              rw [← e0]; unfold Tx.tokAt
              rw [if_neg hend, if_neg (by rw [hlet]; decide), if_neg (by rw [hdig]; decide), if_neg (by rw [hsg]; decide), if_neg h34, hSt]
              exact ⟨_, rfl⟩
            have Hv := hide' hv
            have D := hide' (fun W => D42.out W 20 (T.g i).S)
            generalize (T.g i).S = S at *
            generalize (T.g i).l = l at *
            generalize (T.g i).c = c at *
            clear hend hv e0 hR hlt hSt hsg hlet hdig h34 D41 D42 ek
            go_wp2_with (first | (go_at_call 39; refine (D39.out _).mono ?_; rintro e w5 ⟨rfl, hw5⟩; obtain rfl := hw5.symm) | (go_at_call 40; refine (D40.out _).mono ?_; rintro e w5 ⟨rfl, hw5⟩; obtain rfl := hw5.symm) | (go_at_call 43; refine (D43.out _).mono ?_; rintro e w5 ⟨rfl, hw5⟩; obtain rfl := hw5.symm) | (go_at_call 42; refine (D.out _).mono ?_; rintro e w6 ⟨rfl, b6⟩; have K6 := HT.out.to b6; have u0 := K6.tr.c0; have u1 := K6.tr.c1; have u2 := K6.tr.c2; have u3 := K6.tr.c3; have v0 := K6.tf.c0; have v1 := K6.tf.c1; have v2 := K6.tf.c2; have v3 := K6.tf.c3; obtain ⟨u4, u5, u6, u7⟩ := K6.tr.frz; obtain ⟨v4, v5, v6, v7⟩ := K6.tf.frz; have H6 := hide' K6; clear K6 b6))
            obtain ⟨K0, K1, KB⟩ := H6.out.fin HB.out (.int .i8 0) (.string ⟨#[]⟩) (.int .i64 0) (.int .i64 0) (.int .i64 20) (.int .i64 l) (.int .i64 c) (.string S) _ rfl
            refine bodyPost_ret_by (results_ctc rfl _ _ w.heap.size b1 _ _ _ _ _ _ _ _ rfl rfl K0 K1) rfl ?_
            exact ⟨_, rfl, Hv.out, KB⟩
        · rw [hdig] at D43
          obtain ⟨_, _, _, h34⟩ := digit_not hdig
          have hlen := run_len HC.out.1 HC.out.2.1 L.inRun inRun_lt rfl HC.out.2.2.2.2.1
          have D41' := hide' (fun W h => D41.out W h true)
          rw [clsP_eq] at D41'
          simp only [if_true] at D41'
          have hX := Nat.le_trans (txt_size HC.out.1 HC.out.2.1 (i := i) (skp_bd HC.out.2.1 L.inRun rfl HC.out.2.2.2.2.1).2) HC.out.2.2.2.1
          have hw0 : T.tokAt i = if L.isNum (T.txt i (T.skp L.inRun i)) then .tok 3 (T.txt i (T.skp L.inRun i)) (T.g i).l (T.g i).c (T.skp L.inRun i) else .flt 23 (T.g i).l (T.g i).c (T.txt i (T.skp L.inRun i)) := by
            unfold Tx.tokAt
            rw [if_neg hend, if_neg (by rw [hlet]; decide), if_pos hdig]
            rfl
          rw [e0] at hw0
          generalize T.txt i (T.skp L.inRun i) = X at *
          rw [← hlen] at hw0
          have D44 := hide' (fun W => rnumeral_any X W hX)
          cases hbig : L.isNum X
          · rw [hbig] at D44
            rw [if_neg (by rw [hbig]; decide)] at hw0
            have hv : RefT R (.tuple #[ztok, .int .i64 (i : Int), .agg #[.int .i64 23, .int .i64 (T.g i).l, .int .i64 (T.g i).c, .string X]]) := by rw [hw0]; exact ⟨_, rfl⟩
            have Hv := hide' hv
            have D := hide' (fun W => D42.out W 23 X)
            have HK1 := hide' (HT.out.kind HB.out HC.out.2.2.2.2.2 3)
            have HK2 := hide' (HK1.out.text HB.out HC.out.2.2.2.2.2 X)
            generalize (T.g i).S = S at *
            generalize (T.g i).l = l at *
            generalize (T.g i).c = c at *
            clear hend hv e0 hR hlt hSt hsg hlet hdig h34 D41 D42 ek hlen hX hw0 hbig
            go_wp2_with (first | (go_at_call 39; refine (D39.out _).mono ?_; rintro e w5 ⟨rfl, hw5⟩; obtain rfl := hw5.symm) | (go_at_call 40; refine (D40.out _).mono ?_; rintro e w5 ⟨rfl, hw5⟩; obtain rfl := hw5.symm) | (go_at_call 43; refine (D43.out _).mono ?_; rintro e w5 ⟨rfl, hw5⟩; obtain rfl := hw5.symm) | (go_at_call 44; refine (D44.out _).mono ?_; rintro e w5 ⟨rfl, hw5⟩; obtain rfl := hw5.symm) | (go_at_call 41; refine (D41'.out _ HK1.out.chs).mono ?_; rintro e w5 ⟨rfl, hw5⟩; obtain rfl := hw5.symm) | (go_at_call 42; refine (D.out _).mono ?_; rintro e w6 ⟨rfl, b6⟩; have K6 := HK2.out.to b6; have u0 := K6.tr.c0; have u1 := K6.tr.c1; have u2 := K6.tr.c2; have u3 := K6.tr.c3; have v0 := K6.tf.c0; have v1 := K6.tf.c1; have v2 := K6.tf.c2; have v3 := K6.tf.c3; obtain ⟨u4, u5, u6, u7⟩ := K6.tr.frz; obtain ⟨v4, v5, v6, v7⟩ := K6.tf.frz; have H6 := hide' K6; clear K6 b6))
            obtain ⟨K0, K1, KB⟩ := H6.out.fin HB.out (.int .i8 0) (.string ⟨#[]⟩) (.int .i64 0) (.int .i64 0) (.int .i64 23) (.int .i64 l) (.int .i64 c) (.string X) _ rfl
            refine bodyPost_ret_by (results_ctc rfl _ _ w.heap.size b1 _ _ _ _ _ _ _ _ rfl rfl K0 K1) rfl ?_
            exact ⟨_, rfl, Hv.out, KB⟩
          · rw [hbig] at D44
            rw [if_pos hbig] at hw0
            obtain ⟨j, hj⟩ : ∃ j, j = i + X.size := ⟨_, rfl⟩
            have ej : wrap64 ((i : Int) + (X.size : Int)) = (j : Int) := waddn hj (by rw [hj]; exact Nat.le_trans (Nat.add_le_add HI.out hX) (by decide))
            rw [← hj] at hw0
            have hv : RefT R (.tuple #[.agg #[.int .i8 3, .string X, .int .i64 (T.g i).l, .int .i64 (T.g i).c], .int .i64 (wrap64 ((i : Int) + (X.size : Int))), zfault]) := by rw [hw0, ej]; rfl
            have Hv := hide' hv
            have HK1 := hide' (HT.out.kind HB.out HC.out.2.2.2.2.2 3)
            have HK2 := hide' (HK1.out.text HB.out HC.out.2.2.2.2.2 X)
            generalize (T.g i).S = S at *
            generalize (T.g i).l = l at *
            generalize (T.g i).c = c at *
            clear hend hv e0 hR hlt hSt hsg hlet hdig h34 D41 D42 ek hlen hX hw0 hbig hj ej
            go_wp2_with (first | (go_at_call 39; refine (D39.out _).mono ?_; rintro e w5 ⟨rfl, hw5⟩; obtain rfl := hw5.symm) | (go_at_call 40; refine (D40.out _).mono ?_; rintro e w5 ⟨rfl, hw5⟩; obtain rfl := hw5.symm) | (go_at_call 43; refine (D43.out _).mono ?_; rintro e w5 ⟨rfl, hw5⟩; obtain rfl := hw5.symm) | (go_at_call 44; refine (D44.out _).mono ?_; rintro e w5 ⟨rfl, hw5⟩; obtain rfl := hw5.symm) | (go_at_call 41; refine (D41'.out _ HK1.out.chs).mono ?_; rintro e w5 ⟨rfl, hw5⟩; obtain rfl := hw5.symm))
            generalize hW : (V.setCell ⟨b3, 0, none⟩ (.int .i8 3)).setCell ⟨b3, 1, none⟩ (.string X) = W at *
            clear p0 p1 p2 p3 q0 q1 q2 q3 r0 r1 r2 r3 s0 s1 s2 s3 q4 q5 q6 q7 r4 r5 r6 r7 s4 s5 s6 s7 hW
            obtain ⟨q0, q1, q2, q3, _⟩ := HK2.out.tt
            obtain ⟨r0, r1, r2, r3, _⟩ := HK2.out.tr
            obtain ⟨s0, s1, s2, s3, _⟩ := HK2.out.tf
            obtain ⟨r4, r5, r6, r7⟩ := HK2.out.tr.frz
            obtain ⟨s4, s5, s6, s7⟩ := HK2.out.tf.frz
            go_region
            go_wp2_with fail
            obtain ⟨K0, K1, KB⟩ := HK2.out.fin HB.out (.int .i8 3) (.string X) (.int .i64 l) (.int .i64 c) (.int .i64 0) (.int .i64 0) (.int .i64 0) (.string ⟨#[]⟩) _ rfl
            refine bodyPost_ret_by (results_ctc rfl _ _ w.heap.size b1 _ _ _ _ _ _ _ _ rfl rfl K0.drew K1.drew) rfl ?_
            exact ⟨_, rfl, Hv.out, KB.trans ((below_drew _).mono KB.size)⟩
      · rw [hlet] at D40
        obtain ⟨_, _, hd, h34⟩ := letter_not hlet
        have hlen := run_len HC.out.1 HC.out.2.1 L.inWord inWord_lt rfl HC.out.2.2.2.2.1
        have D41' := hide' (fun W h => D41.out W h false)
        rw [clsP_eq] at D41'
        simp only [Bool.false_eq_true, if_false] at D41'
        have hX := Nat.le_trans (txt_size HC.out.1 HC.out.2.1 (i := i) (skp_bd HC.out.2.1 L.inWord rfl HC.out.2.2.2.2.1).2) HC.out.2.2.2.1
        have hw0 : T.tokAt i = if 32 < (T.txt i (T.skp L.inWord i)).size then .flt 10 (T.g i).l (T.g i).c (T.txt i (T.skp L.inWord i)) else .tok 1 (T.txt i (T.skp L.inWord i)) (T.g i).l (T.g i).c (T.skp L.inWord i) := by
          unfold Tx.tokAt
          rw [if_neg hend, if_pos hlet]
          rfl
        rw [e0] at hw0
        generalize T.txt i (T.skp L.inWord i) = X at *
        rw [← hlen] at hw0
        by_cases hbig : 32 < X.size
        · rw [if_pos hbig] at hw0
          have hbig' : (32 : Int) < (X.size : Int) := by clear ek; omega
          have hv : RefT R (.tuple #[ztok, .int .i64 (i : Int), .agg #[.int .i64 10, .int .i64 (T.g i).l, .int .i64 (T.g i).c, .string X]]) := by rw [hw0]; exact ⟨_, rfl⟩
          have Hv := hide' hv
          have D := hide' (fun W => D42.out W 10 X)
          have HK1 := hide' (HT.out.kind HB.out HC.out.2.2.2.2.2 1)
          have HK2 := hide' (HK1.out.text HB.out HC.out.2.2.2.2.2 X)
          generalize (T.g i).S = S at *
          generalize (T.g i).l = l at *
          generalize (T.g i).c = c at *
          clear hend hv e0 hR hlt hSt hsg hlet hd h34 D41 D42 ek hlen hX hw0 hbig
          go_wp2_with (first | (go_at_call 39; refine (D39.out _).mono ?_; rintro e w5 ⟨rfl, hw5⟩; obtain rfl := hw5.symm) | (go_at_call 40; refine (D40.out _).mono ?_; rintro e w5 ⟨rfl, hw5⟩; obtain rfl := hw5.symm) | (go_at_call 41; refine (D41'.out _ HK1.out.chs).mono ?_; rintro e w5 ⟨rfl, hw5⟩; obtain rfl := hw5.symm) | (go_at_call 42; refine (D.out _).mono ?_; rintro e w6 ⟨rfl, b6⟩; have K6 := HK2.out.to b6; have u0 := K6.tr.c0; have u1 := K6.tr.c1; have u2 := K6.tr.c2; have u3 := K6.tr.c3; have v0 := K6.tf.c0; have v1 := K6.tf.c1; have v2 := K6.tf.c2; have v3 := K6.tf.c3; obtain ⟨u4, u5, u6, u7⟩ := K6.tr.frz; obtain ⟨v4, v5, v6, v7⟩ := K6.tf.frz; have H6 := hide' K6; clear K6 b6))
          obtain ⟨K0, K1, KB⟩ := H6.out.fin HB.out (.int .i8 0) (.string ⟨#[]⟩) (.int .i64 0) (.int .i64 0) (.int .i64 10) (.int .i64 l) (.int .i64 c) (.string X) _ rfl
          refine bodyPost_ret_by (results_ctc rfl _ _ w.heap.size b1 _ _ _ _ _ _ _ _ rfl rfl K0 K1) rfl ?_
          exact ⟨_, rfl, Hv.out, KB⟩
        · rw [if_neg hbig] at hw0
          have hbig' : ¬ (32 : Int) < (X.size : Int) := by clear ek; omega
          obtain ⟨j, hj⟩ : ∃ j, j = i + X.size := ⟨_, rfl⟩
          have ej : wrap64 ((i : Int) + (X.size : Int)) = (j : Int) := waddn hj (by rw [hj]; exact Nat.le_trans (Nat.add_le_add HI.out hX) (by decide))
          rw [← hj] at hw0
          have hv : RefT R (.tuple #[.agg #[.int .i8 1, .string X, .int .i64 (T.g i).l, .int .i64 (T.g i).c], .int .i64 (wrap64 ((i : Int) + (X.size : Int))), zfault]) := by rw [hw0, ej]; rfl
          have Hv := hide' hv
          have HK1 := hide' (HT.out.kind HB.out HC.out.2.2.2.2.2 1)
          have HK2 := hide' (HK1.out.text HB.out HC.out.2.2.2.2.2 X)
          generalize (T.g i).S = S at *
          generalize (T.g i).l = l at *
          generalize (T.g i).c = c at *
          clear hend hv e0 hR hlt hSt hsg hlet hd h34 D41 D42 ek hlen hX hw0 hbig hj ej
          go_wp2_with (first | (go_at_call 39; refine (D39.out _).mono ?_; rintro e w5 ⟨rfl, hw5⟩; obtain rfl := hw5.symm) | (go_at_call 40; refine (D40.out _).mono ?_; rintro e w5 ⟨rfl, hw5⟩; obtain rfl := hw5.symm) | (go_at_call 41; refine (D41'.out _ HK1.out.chs).mono ?_; rintro e w5 ⟨rfl, hw5⟩; obtain rfl := hw5.symm))
          generalize hW : (V.setCell ⟨b3, 0, none⟩ (.int .i8 1)).setCell ⟨b3, 1, none⟩ (.string X) = W at *
          clear p0 p1 p2 p3 q0 q1 q2 q3 r0 r1 r2 r3 s0 s1 s2 s3 q4 q5 q6 q7 r4 r5 r6 r7 s4 s5 s6 s7 hW
          obtain ⟨q0, q1, q2, q3, _⟩ := HK2.out.tt
          obtain ⟨r0, r1, r2, r3, _⟩ := HK2.out.tr
          obtain ⟨s0, s1, s2, s3, _⟩ := HK2.out.tf
          obtain ⟨r4, r5, r6, r7⟩ := HK2.out.tr.frz
          obtain ⟨s4, s5, s6, s7⟩ := HK2.out.tf.frz
          go_region
          go_wp2_with fail
          obtain ⟨K0, K1, KB⟩ := HK2.out.fin HB.out (.int .i8 1) (.string X) (.int .i64 l) (.int .i64 c) (.int .i64 0) (.int .i64 0) (.int .i64 0) (.string ⟨#[]⟩) _ rfl
          refine bodyPost_ret_by (results_ctc rfl _ _ w.heap.size b1 _ _ _ _ _ _ _ _ rfl rfl K0.drew K1.drew) rfl ?_
          exact ⟨_, rfl, Hv.out, KB.trans ((below_drew _).mono KB.size)⟩
    · rw [hsg] at D39
      obtain ⟨_, hd, hl, _⟩ := sign_not hsg
      have hv : RefT R (.tuple #[.agg #[.int .i8 4, .string (T.g i).S, .int .i64 (T.g i).l, .int .i64 (T.g i).c], .int .i64 (wrap64 ((i : Int) + 1)), zfault]) := by
        rw [← e0, ek]; unfold Tx.tokAt
        rw [if_neg hend, if_neg (by rw [hl]; decide), if_neg (by rw [hd]; decide), if_pos hsg, hSt]; rfl
      have Hv := hide' hv
      have HK := hide' (HT.out.kind HB.out HC.out.2.2.2.2.2 4)
      generalize (T.g i).S = S at *
      generalize (T.g i).l = l at *
      generalize (T.g i).c = c at *
      clear hend hv e0 hR hlt hSt hsg hd hl ek
      go_wp2_with (go_at_call 39; refine (D39.out _).mono ?_; rintro e w5 ⟨rfl, hw5⟩; obtain rfl := hw5.symm)
      obtain ⟨K0, K1, KB⟩ := HK.out.fin HB.out (.int .i8 4) (.string S) (.int .i64 l) (.int .i64 c) (.int .i64 0) (.int .i64 0) (.int .i64 0) (.string ⟨#[]⟩) _ rfl
      refine bodyPost_ret_by (results_ctc rfl _ _ w.heap.size b1 _ _ _ _ _ _ _ _ rfl rfl K0 K1) rfl ?_
      exact ⟨_, rfl, Hv.out, KB⟩
end Go.Proofs.YtnlopepbcnegbaaGreatDoor
