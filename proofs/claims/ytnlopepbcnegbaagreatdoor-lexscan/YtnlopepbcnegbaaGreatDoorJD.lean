import Derived.Test.YtnlopepbcnegbaaGreatDoorJC
import Derived.Test.YtnlopepbcnegbaaGreatDoorFun
import Derived.Laws.StructEq
import Derived.Deep.QuietTactic
set_option linter.unusedVariables false
set_option linter.unusedSimpArgs false
namespace Go.Proofs.YtnlopepbcnegbaaGreatDoor
open Go.RowKit
theorem results_tc {fn : Func} {t p : Tmp} (h : fn.results = #[.tmp t, .cell p 25]) (tmps : Array Value) (w : World) (g : Nat) (a b c d : Value) (hp : tmps.getD p undef = .pointer (some ⟨g, 0, none⟩)) (K : Tk g a b c d w) :
    (results fn tmps).run Tryz.prog w = .ok (.tuple #[tmps.getD t undef, .agg #[a, b, c, d]]) w := by
  have hp' : tmps[p]?.getD undef = .pointer (some ⟨g, 0, none⟩) := by simpa using hp
  simp [results, h, hp', asAddr, Result.andThen, loadF w g a b c d K]
/-- a fault's value -/
def fltV : Option Flw → Value
  | none => zfault
  | some f => .agg #[.int .i64 f.1, .int .i64 f.2.1, .int .i64 f.2.2.1, .string f.2.2.2]
/-- the document's reading is one of a text that is right -/
theorem ref_ok {T : Tx} {s : ByteArray} (hs : T.s = s) (hC : T.C = L.cx s) (G : L.Good s T.C T.N 0 (1, 1)) (hz : s.size ≤ 65536) {g : Nat} {w : World} (hc : Chs T g w) :
    ∃ T' : Tx, T'.s = s ∧ T'.C = L.cx s ∧ T'.Ok ∧ T'.N = T.N ∧ L.Good s T'.C T'.N 0 (1, 1) ∧ Chs T' g w := by
  refine ⟨⟨s, L.cx s, T.N, none, T.N, 0, 0⟩, rfl, rfl, ⟨?_, hz, Nat.le_refl _⟩, rfl, ?_, ?_⟩
  · rw [hC] at G; exact G
  · rw [hC] at G; exact G
  · obtain ⟨ts, tC, tN, ro, rc, sb, sc⟩ := T
    simp only at hs hC
    subst hC
    exact ⟨hc.lt, hc.at_⟩
/-- a fault has a code -/
theorem tokR_code {T : Tx} {s : ByteArray} (hs : T.s = s) (G : L.Good s T.C T.N 0 (1, 1)) (hz : s.size ≤ 65536) (ok : T.Ok) {i : Nat} (hi : i ≤ T.N) {code l c : Int} {word : ByteArray} (h : T.tokR i = .flt code l c word) : code ≠ 0 := by
  obtain ⟨g1, g2⟩ := gap_le ok i hi
  unfold Tx.tokR at h
  generalize T.gap i = j at *
  unfold Tx.tokAt at h
  split at h
  · cases h
  rename_i hend
  have hlt := lt_r G g2 hend
  repeat' split at h
  all_goals first | (cases h; done) | (simp only [Res.flt.injEq] at h; obtain ⟨rfl, _⟩ := h; decide) | skip
  · unfold Tx.wordR at h
    split at h
    · simp only [Res.flt.injEq] at h; obtain ⟨rfl, _⟩ := h; decide
    · cases h
  · unfold Tx.numberR at h
    split at h
    · cases h
    · simp only [Res.flt.injEq] at h; obtain ⟨rfl, _⟩ := h; decide
  · unfold Tx.quotedR at h
    rcases qloop_form hs G hz j _ _ _ hlt (show T.N < j + 1 + (T.N + 1) by omega) with ⟨t, j', e⟩ | ⟨code', l', c', w', e, hc⟩
    · rw [e] at h; cases h
    · rw [e] at h
      simp only [Res.flt.injEq] at h
      obtain ⟨rfl, _⟩ := h
      exact hc
/-- WHAT STANDS WHILE Cut GATHERS -/
structure KI (T : Tx) (g B0 B : Nat) (ov : Value) (acc : List Tkn) (w V : World) : Prop where
  chs : Chs T g V
  tk : Tk B0 (.int .i64 0) (.int .i64 0) (.int .i64 0) (.string ⟨#[]⟩) V
  row : V.ownsRow B 52 4 ov acc.length (acc.flatMap cells4)
  bel : Below w.heap.size w V
  sz : B ≤ V.heap.size
theorem KI.to {T : Tx} {g B0 B : Nat} {ov : Value} {acc : List Tkn} {w V V' : World} (h : KI T g B0 B ov acc w V) (b : Below V.heap.size V V') : KI T g B0 B ov acc w V' :=
  ⟨h.chs.below b, h.tk.below b, (turn_below (S := fun _ => False) b).row h.row (fun _ _ q => q), h.bel.trans (b.mono h.bel.size), Nat.le_trans h.sz b.size⟩
theorem row_down {B B' e size n : Nat} {v : Value} {xs : List Value} {w : World} (h : w.ownsRow B e size v n xs) (hB : B' ≤ B) : w.ownsRow B' e size v n xs := by
  obtain ⟨e1, e2⟩ := h
  refine ⟨e1, ?_⟩
  rcases e2 with e2 | ⟨g, cap, cur, e3, e4, e5⟩
  · exact .inl e2
  · exact .inr ⟨g, cap, cur, e3, by omega, e5⟩
/-- one token more -/
theorem KI.app {T : Tx} {g B0 B : Nat} {ov nv : Value} {acc : List Tkn} {x : Tkn} {w V w3 : World} {o : Obj} (h : KI T g B0 B ov acc w V) (hg : g < B) (h0 : B0 < B) (hw : w.heap.size ≤ B)
    (hrow : w3.ownsRow B 52 4 nv (acc.length + 1) (acc.flatMap cells4 ++ cells4 x)) (hgr : (V.alloc o).grownBy w3 ov.ownBlock) :
    KI T g B0 B nv (acc ++ [x]) w w3 ∧ (∀ k, k < V.heap.size → (∀ q, ov.ownBlock = some q → k ≠ q) → w3.heap[k]? = V.heap[k]?) ∧ V.heap.size ≤ w3.heap.size := by
  have hblk : ∀ k, k < V.heap.size → (∀ q, ov.ownBlock = some q → k ≠ q) → w3.heap[k]? = V.heap[k]? := fun k hk hne => (hgr.block k (by simp; omega) (fun e => hne k e.symm rfl)).trans (Below.heap_alloc _ _ _ hk)
  have hs3 : V.heap.size ≤ w3.heap.size := by have := hgr.size; simp at this; omega
  have hlow : ∀ k, k < B → w3.heap[k]? = V.heap[k]? := fun k hk => hblk k (by have := h.sz; omega) (fun q e => by have := (h.row.lt q e).1; omega)
  refine ⟨⟨?_, h.tk.of_block (hlow _ h0), ?_, ?_, Nat.le_trans h.sz hs3⟩, hblk, hs3⟩
  · refine ⟨Nat.lt_of_lt_of_le h.chs.lt hs3, fun j hj => ?_⟩
    obtain ⟨a0, a1, a2, a3⟩ := h.chs.at_ j hj
    exact ⟨(World.cell?_of_block (hlow g hg)).trans a0, (World.cell?_of_block (hlow g hg)).trans a1, (World.cell?_of_block (hlow g hg)).trans a2, (World.cell?_of_block (hlow g hg)).trans a3⟩
  · rw [List.length_append, List.flatMap_append]; simpa using hrow
  · exact (h.bel.alloc h.bel.size o).grown hgr (by have := h.bel.size; simp; omega) (fun k hk => Nat.le_trans hw (h.row.lt k hk).1)
/-- the fault's cells are written, and that is the end -/
theorem KI.fin {T : Tx} {g B0 B : Nat} {ov : Value} {acc : List Tkn} {w V : World} (h : KI T g B0 B ov acc w V) (h0 : B0 < B) (hw : w.heap.size ≤ B0) (a b c d : Value) (W : World)
    (hW : (((V.setCell ⟨B0, 0, none⟩ a).setCell ⟨B0, 1, none⟩ b).setCell ⟨B0, 2, none⟩ c).setCell ⟨B0, 3, none⟩ d = W) :
    Tk B0 a b c d W ∧ W.ownsRow w.heap.size 52 4 ov acc.length (acc.flatMap cells4) ∧ Below w.heap.size w W := by
  subst hW
  refine ⟨h.tk.set _ _ _ _, ?_, ?_⟩
  · refine row_down (Turn.row (S := fun k => k = B0) ?_ h.row fun q e k => by have := (h.row.lt q e).1; omega) (by omega)
    exact ((((Turn.refl (fun k => k = B0) V).setCell (p := ⟨B0, 0, none⟩) (fun _ => rfl) _).setCell (p := ⟨B0, 1, none⟩) (fun _ => rfl) _).setCell (p := ⟨B0, 2, none⟩) (fun _ => rfl) _).setCell (p := ⟨B0, 3, none⟩) (fun _ => rfl) _
  · exact Below.set4' h.bel hw _ _ _ _
end Go.Proofs.YtnlopepbcnegbaaGreatDoor
set_option linter.unusedVariables false
set_option linter.unusedSimpArgs false
namespace Go.Proofs.YtnlopepbcnegbaaGreatDoor
open Go.RowKit
theorem tk52 (w : World) (a b c d : Value) : Tk w.heap.size a b c d (w.alloc (.cells #[a, b, c, d] 52)) := Tk.of_cells (heap_alloc_new _ _)
/-- a token and a fault of their own -/
theorem two_new (w : World) (a b c d a' b' c' d' : Value) :
    Tk w.heap.size a b c d ((w.alloc (.cells #[a, b, c, d] 52)).alloc (.cells #[a', b', c', d'] 25)) ∧
    Tk (w.heap.size + 1) a' b' c' d' ((w.alloc (.cells #[a, b, c, d] 52)).alloc (.cells #[a', b', c', d'] 25)) ∧
    Below w.heap.size w ((w.alloc (.cells #[a, b, c, d] 52)).alloc (.cells #[a', b', c', d'] 25)) ∧
    ((w.alloc (.cells #[a, b, c, d] 52)).alloc (.cells #[a', b', c', d'] 25)).heap.size = w.heap.size + 2 := by
  have b1 : Below (w.alloc (.cells #[a, b, c, d] 52)).heap.size (w.alloc (.cells #[a, b, c, d] 52)) ((w.alloc (.cells #[a, b, c, d] 52)).alloc (.cells #[a', b', c', d'] 25)) := (Below.refl _ _).alloc (Nat.le_refl _) _
  refine ⟨(tk52 w a b c d).below b1, ?_, ((Below.refl _ _).alloc (Nat.le_refl _) _).trans (b1.mono (by simp)), by simp⟩
  have h := heap_alloc_new (w.alloc (.cells #[a, b, c, d] 52)) (.cells #[a', b', c', d'] 25)
  have e : (w.alloc (.cells #[a, b, c, d] 52)).heap.size = w.heap.size + 1 := by simp
  rw [e] at h
  exact Tk.of_cells h
set_option maxRecDepth 100000 in
set_option maxHeartbeats 4000000 in
theorem rcut_any (s : ByteArray) (w : World) (hz : s.size ≤ 65536) :
    Calls Tryz.prog 13 #[.string s] w fun e w' => ∃ sv, e = .returned (.tuple #[sv, fltV (L.scn s).2]) ∧ w'.ownsRow w.heap.size 52 4 sv (L.scn s).1.length ((L.scn s).1.flatMap cells4) ∧ Below w.heap.size w w' := by
  obtain ⟨i0, hi, hz0, hz1, hz2⟩ := info_parts info29
  have e1 : decide ((65536 : Int) < (s.size : Int)) = false := by simp; omega
  obtain ⟨B0, hB0⟩ : ∃ b, w.heap.size = b := ⟨_, rfl⟩
  obtain ⟨SC, hSC⟩ : ∃ r, L.scn s = r := ⟨_, rfl⟩
  have HSC := hide' hSC
  have HB0 := hide' hB0
  have Hz := hide' hz
  rw [hSC]
  obtain ⟨Wa, hWa⟩ : ∃ W, W = w.alloc (.cells #[.int .i64 0, .int .i64 0, .int .i64 0, .string ⟨#[]⟩] 25) := ⟨_, rfl⟩
  have HWa := hide' hWa
  clear hSC hWa
  go_enter Tryz.func13, Tryz.ntmps13
  go_upto_region 3 with fail
  rw [← HWa.out]
  go_wp2_with (go_at_call 22; go_loud (refine (rchars_any s _ Hz.out).mono ?_; rintro e w1 ⟨T0, g, cap, hTs0, hTC0, G0, hN0, rfl, hg, hC0, b1⟩; obtain ⟨T, hTs, hTC, hok, hTN, G, hC⟩ := ref_ok hTs0 hTC0 G0 Hz.out hC0; have hN : T.N ≤ 65536 := Nat.le_trans (Nat.le_of_eq hTN) hN0; have Hc := hide' (And.intro hTs (And.intro hTC (And.intro hok (And.intro G (And.intro hN (And.intro hC (And.intro b1 hg))))))); rw [← hTN]; clear hTs0 hTC0 G0 hN0 hC0 hTs hTC hok G hN hC b1 hg hTN))
  obtain ⟨B, hB⟩ : ∃ b, w1.heap.size = b := ⟨_, rfl⟩
  have hWs : Wa.heap.size = B0 + 1 := by rw [HWa.out, ← HB0.out]; simp
  have hWb : Below w.heap.size w Wa := by rw [HWa.out]; exact (Below.refl _ _).alloc (Nat.le_refl _) _
  have hWt : Tk B0 (.int .i64 0) (.int .i64 0) (.int .i64 0) (.string ⟨#[]⟩) Wa := by rw [HWa.out, ← HB0.out]; exact Tk.of_cells (heap_alloc_new _ _)
  have hgB : g < B := by rw [← hB]; exact Hc.out.2.2.2.2.2.1.lt
  have h0B : B0 < B := by have := Hc.out.2.2.2.2.2.2.1.size; omega
  have hrun : T.run (T.N + 2) 0 = SC := by rw [run_scn Hc.out.1 Hc.out.2.1 Hc.out.2.2.1]; exact HSC.out
  have hst : KI T g B0 B (.slice none 0 0) [] w w1 := ⟨Hc.out.2.2.2.2.2.1, hWt.below Hc.out.2.2.2.2.2.2.1, World.ownsRow_nil _ _ _ _, hWb.trans (Hc.out.2.2.2.2.2.2.1.mono (by omega)), by omega⟩
  have Hst := hide' (And.intro hst hrun)
  have HB := hide' (And.intro hgB (And.intro h0B (show w.heap.size ≤ B0 by omega)))
  clear hst hrun hWt hWb hWs hB h0B hgB hB0
  obtain ⟨N, hn⟩ : ∃ N, N = T.N := ⟨_, rfl⟩
  have HN := hide' hn
  rw [← hn]
  clear hn hz
  go_loopw [5, 6] (fun ov iv wx => ∃ (i f : Nat) (acc : List Tkn) (V : World), V = wx ∧ iv = .int .i64 (i : Int) ∧ i ≤ N ∧ N + 2 ≤ i + f ∧ acc.length ≤ i ∧ (acc ++ (T.run f i).1, (T.run f i).2) = SC ∧ KI T g B0 B ov acc w V) (fun _ iv _ => N + 1 - (intOf iv).toNat)
  case atStart => exact ⟨0, N + 2, [], _, rfl, rfl, Nat.zero_le _, by omega, Nat.le_refl _, by rw [HN.out, Hst.out.2]; rfl, Hst.out.1⟩
  case round =>
    obtain ⟨i, f, acc, V, rfl, rfl, hiN, hf, hal, hrun, hKI⟩ := hrel
    have hiT : i ≤ T.N := by rw [← HN.out]; exact hiN
    obtain ⟨q1, q2⟩ := gap_le Hc.out.2.2.1 i hiT
    have D23 := hide' (rpassed_any Hc.out.2.2.2.1 Hc.out.2.2.2.2.1 (cap := cap) hKI.chs hiT)
    have D24 := hide' (rtaken_any Hc.out.1 Hc.out.2.2.2.1 Hc.out.2.2.2.2.1 Hz.out (cap := cap) hKI.chs q2)
    rw [← HN.out] at D23 D24
    obtain ⟨R, hR⟩ : ∃ R, T.tokR i = R := ⟨_, rfl⟩
    have hR' : T.tokAt (T.gap i) = R := hR
    rw [hR'] at D24
    have HK := hide' (And.intro hKI (And.intro hiT (And.intro hiN (And.intro hf (And.intro hal (And.intro hrun hR))))))
    clear hKI hiT hiN hf hal hrun hR' q1 q2
    generalize T.gap i = J at *
    obtain ⟨f, rfl⟩ : ∃ f', f = f' + 1 := ⟨f - 1, by have := HK.out.2.2.2.1; have := HK.out.2.2.1; omega⟩
    cases R with
    | flt code l c word =>
      have hc0 := tokR_code Hc.out.1 Hc.out.2.2.2.1 Hz.out Hc.out.2.2.1 HK.out.2.1 hR
      have hc1 : (code == 0) = false := beq_eq_false_iff_ne.2 hc0
      have hfin : (acc, some (code, l, c, word)) = SC := by
        rw [← HK.out.2.2.2.2.2.1, run_flt hR]; simp
      have Hfin := hide' hfin
      have Hu := hide' hc0
      unfold RefT at D24
      simp only at D24
      unfold ztok at D24
      clear hfin hR hc0
      go_upto_region 8 with (first | (go_at_call 23; refine D23.out.mono ?_; rintro e w5 ⟨rfl, hw5⟩; obtain rfl := hw5.symm) | (go_at_call 24; refine D24.out.mono ?_; rintro e w6 ⟨_, rfl, ⟨z, rfl⟩, b6⟩))
      obtain ⟨P1, P2, P3, P4⟩ := two_new w6 (.int .i8 0) (.string ⟨#[]⟩) (.int .i64 0) (.int .i64 0) (.int .i64 code) (.int .i64 l) (.int .i64 c) (.string word)
      have hKI := (HK.out.1.to b6).to P3
      have hV := b6.size
      have hVB := HK.out.1.sz
      generalize hW6 : (w6.alloc (.cells #[.int .i8 0, .string ⟨#[]⟩, .int .i64 0, .int .i64 0] 52)).alloc (.cells #[.int .i64 code, .int .i64 l, .int .i64 c, .string word] 25) = W6 at *
      obtain ⟨b9, hb9⟩ : ∃ b, b = w6.heap.size + 1 := ⟨_, rfl⟩
      have hne : B0 ≠ b9 := by have := HB.out.2.1; omega
      have hne' := hne.symm
      rw [← hb9] at P2 ⊢
      generalize w6.heap.size = b7 at *
      obtain ⟨y0, y1, y2, y3, _⟩ := P2
      obtain ⟨r0, r1, r2, r3, _⟩ := hKI.tk
      obtain ⟨r4, r5, r6, r7⟩ := hKI.tk.frz
      have HKI := hide' hKI
      clear P1 P3 P4 hKI hV hVB hW6 b6 hb9
      go_upto_region 9 with fail
      go_region
      go_wp2_with fail
      obtain ⟨K0, K1, KB⟩ := HKI.out.fin HB.out.2.1 HB.out.2.2 (.int .i64 code) (.int .i64 l) (.int .i64 c) (.string word) _ rfl
      refine bodyPost_ret_by (results_tc rfl _ _ B0 _ _ _ _ rfl K0.drew) rfl ?_
      rw [← Hfin.out]
      exact ⟨_, rfl, K1, KB.trans ((below_drew _).mono KB.size)⟩
    | tok k t l c j =>
      have hj := tok_le Hc.out.2.2.1 HK.out.2.1 hR
      have n1 : Hid (acc.length + 1 ≤ maxLen) := (show acc.length + 1 ≤ maxLen by have h1 := HK.out.2.2.2.2.1; have h2 := HK.out.2.1; have h3 := Hc.out.2.2.2.2.1; unfold maxLen; omega)
      have n2 : Hid ((acc.length + 1) * 40 ≤ 140737488355328) := (show (acc.length + 1) * 40 ≤ 140737488355328 by have h1 := HK.out.2.2.2.2.1; have h2 := HK.out.2.1; have h3 := Hc.out.2.2.2.2.1; omega)
      have Hj := hide' hj
      have HR := hide' hR
      unfold RefT at D24
      simp only at D24
      unfold zfault at D24
      clear hR hj
      go_upto_region 8 with (first | (go_at_call 23; refine D23.out.mono ?_; rintro e w5 ⟨rfl, hw5⟩; obtain rfl := hw5.symm) | (go_at_call 24; refine D24.out.mono ?_; rintro e w6 ⟨_, rfl, rfl, b6⟩))
      obtain ⟨P1, P2, P3, P4⟩ := two_new w6 (.int .i8 k) (.string t) (.int .i64 l) (.int .i64 c) (.int .i64 0) (.int .i64 0) (.int .i64 0) (.string ⟨#[]⟩)
      have hKI := (HK.out.1.to b6).to P3
      have hV := b6.size
      have hVB := HK.out.1.sz
      generalize hW6 : (w6.alloc (.cells #[.int .i8 k, .string t, .int .i64 l, .int .i64 c] 52)).alloc (.cells #[.int .i64 0, .int .i64 0, .int .i64 0, .string ⟨#[]⟩] 25) = W6 at *
      obtain ⟨b9, hb9⟩ : ∃ b, b = w6.heap.size + 1 := ⟨_, rfl⟩
      have hne : B0 ≠ b9 := by have := HB.out.2.1; omega
      have hne' := hne.symm
      rw [← hb9] at P2 ⊢
      have h79 : ∀ q, u5.ownBlock = some q → w6.heap.size ≠ q ∧ b9 ≠ q := fun q e => by have := (HK.out.1.row.lt q e).2; omega
      have l79 : w6.heap.size < W6.heap.size ∧ b9 < W6.heap.size := by omega
      generalize w6.heap.size = b7 at *
      have H79 := hide' (And.intro h79 (And.intro l79 (And.intro P1 P2)))
      obtain ⟨x0, x1, x2, x3, _⟩ := P1
      obtain ⟨y0, y1, y2, y3, _⟩ := P2
      have HKI := hide' hKI
      clear P3 P4 hKI hV hVB hW6 b6 hb9 h79 l79
      by_cases hk : k = 5
      · subst hk
        have hfin : (acc ++ [(5, t, l, c)], none) = SC := by
          rw [← HK.out.2.2.2.2.2.1, run_end HR.out]
        have Hfin := hide' hfin
        clear hfin
        go_upto_region 12 with (at_builtin; refine wpList_append_lies _ rfl _ _ 22 rfl B 52 i0 _ 4 40 Tryz.underlying22 hi hz0 hz1 hz2 rfl (by decide) _ acc.length (acc.flatMap cells4) rfl (HKI.out.row.alloc _) ⟨W6.heap.size, 0, none⟩ 1 1 [.int .i8 5, .string t, .int .i64 l, .int .i64 c] rfl rfl (four_new _ _ _ _ _ _) (by simp [Value.oneCell']) (by decide) n1.out n2.out (by have := HKI.out.sz; simp; omega) (W6.heap.size + 1) (by simp) ?_; intro gg rc w3 hrow3 hgrow3 hat3 hlt3; have A := HKI.out.app (x := (5, t, l, c)) HB.out.1 HB.out.2.1 (Nat.le_of_lt (Nat.lt_of_le_of_lt HB.out.2.2 HB.out.2.1)) hrow3 hgrow3; have z7 := (H79.out.2.2.1.of_block (A.2.1 _ H79.out.2.1.1 (fun q e => (H79.out.1 q e).1))).c0; have HA := hide' A; clear A hrow3 hgrow3 hat3 hlt3)
        have z9 := H79.out.2.2.2.of_block (HA.out.2.1 _ H79.out.2.1.2 (fun q e => (H79.out.1 q e).2))
        obtain ⟨v0, v1, v2, v3, _⟩ := z9
        obtain ⟨r0, r1, r2, r3, _⟩ := HA.out.1.tk
        obtain ⟨r4, r5, r6, r7⟩ := HA.out.1.tk.frz
        go_region
        go_wp2_with fail
        obtain ⟨K0, K1, KB⟩ := HA.out.1.fin HB.out.2.1 HB.out.2.2 (.int .i64 0) (.int .i64 0) (.int .i64 0) (.string ⟨#[]⟩) _ rfl
        refine bodyPost_ret_by (results_tc rfl _ _ B0 _ _ _ _ rfl K0.drew) rfl ?_
        rw [← Hfin.out]
        exact ⟨_, rfl, K1, KB.trans ((below_drew _).mono KB.size)⟩
      · have hk1 : (k == 5) = false := beq_eq_false_iff_ne.2 hk
        have Hk := hide' hk
        clear hk
        go_wp2_with (at_builtin; refine wpList_append_lies _ rfl _ _ 22 rfl B 52 i0 _ 4 40 Tryz.underlying22 hi hz0 hz1 hz2 rfl (by decide) _ acc.length (acc.flatMap cells4) rfl (HKI.out.row.alloc _) ⟨W6.heap.size, 0, none⟩ 1 1 [.int .i8 k, .string t, .int .i64 l, .int .i64 c] rfl rfl (four_new _ _ _ _ _ _) (by simp [Value.oneCell']) (by decide) n1.out n2.out (by have := HKI.out.sz; simp; omega) (W6.heap.size + 1) (by simp) ?_; intro gg rc w3 hrow3 hgrow3 hat3 hlt3; have A := HKI.out.app (x := (k, t, l, c)) HB.out.1 HB.out.2.1 (Nat.le_of_lt (Nat.lt_of_le_of_lt HB.out.2.2 HB.out.2.1)) hrow3 hgrow3; have z7 := (H79.out.2.2.1.of_block (A.2.1 _ H79.out.2.1.1 (fun q e => (H79.out.1 q e).1))).c0; have HA := hide' A; clear A hrow3 hgrow3 hat3 hlt3)
        have hadv := tok_adv Hc.out.2.2.1 HK.out.2.1 HR.out Hk.out
        have h1 := HK.out.2.2.2.1
        have h2 := HK.out.2.2.2.2.1
        have h3 := HK.out.2.2.1
        have h4 := HN.out
        have h5 := Hj.out
        have hrun := HK.out.2.2.2.2.2.1
        rw [run_tok HR.out Hk.out] at hrun
        refine ⟨⟨j, f, acc ++ [(k, t, l, c)], w3, rfl, rfl, by omega, by omega, by simp; omega, ?_, HA.out.1⟩, by simp [intOf]; omega⟩
        rw [← hrun]; simp
end Go.Proofs.YtnlopepbcnegbaaGreatDoor
set_option linter.unusedVariables false
set_option linter.unusedSimpArgs false
namespace Go.Proofs.YtnlopepbcnegbaaGreatDoor
open Go.RowKit
set_option maxRecDepth 100000 in
set_option maxHeartbeats 1000000 in
theorem rcut_long (s : ByteArray) (w : World) (hz : 65536 < s.size) (hm : s.size ≤ maxLen) :
    Calls Tryz.prog 13 #[.string s] w fun e w' => e = .returned (.tuple #[.slice none 0 0, .agg #[.int .i64 5, .int .i64 0, .int .i64 0, .string ⟨#[]⟩]]) ∧ Below w.heap.size w w' := by
  have e1 : decide ((65536 : Int) < (s.size : Int)) = true := by simp; omega
  go_enter Tryz.func13, Tryz.ntmps13
  go_wp2
  refine bodyPost_ret_by (results_tc rfl _ _ w.heap.size _ _ _ _ rfl (Tk.of_cells (heap_alloc_new _ _))) rfl ?_
  exact ⟨rfl, (Below.refl _ _).alloc (Nat.le_refl _) _⟩
theorem wk1' {k : Nat} (h : k ≤ 70000) : wrap64 ((k : Int) + 1) = ((k + 1 : Nat) : Int) := by unfold wrap64; omega
/-- a row of tokens, wherever it lies -/
def Rd (v : Value) (xs : List Tkn) (w : World) : Prop :=
  ∃ ao cap, v = .slice ao xs.length cap ∧ xs.length ≤ cap ∧ ∀ j x, xs[j]? = some x → ∃ g, ao = some ⟨g, 0, none⟩ ∧ w.cell? ⟨g, j * 4, none⟩ = some (.int .i8 x.1) ∧ w.cell? ⟨g, j * 4 + 1, none⟩ = some (.string x.2.1) ∧ w.cell? ⟨g, j * 4 + 2, none⟩ = some (.int .i64 x.2.2.1) ∧ w.cell? ⟨g, j * 4 + 3, none⟩ = some (.int .i64 x.2.2.2)
theorem Rd.below {v : Value} {xs : List Tkn} {w w' : World} (h : Rd v xs w) (b : Below w.heap.size w w') : Rd v xs w' := by
  obtain ⟨ao, cap, h1, h0, h2⟩ := h
  refine ⟨ao, cap, h1, h0, fun j x hx => ?_⟩
  obtain ⟨g, e, c0, c1, c2, c3⟩ := h2 j x hx
  have hl : g < w.heap.size := lt_of_cell c0
  exact ⟨g, e, (b.cell (p := ⟨g, j * 4, none⟩) hl).trans c0, (b.cell (p := ⟨g, j * 4 + 1, none⟩) hl).trans c1, (b.cell (p := ⟨g, j * 4 + 2, none⟩) hl).trans c2, (b.cell (p := ⟨g, j * 4 + 3, none⟩) hl).trans c3⟩
theorem flat_tok (xs : List Tkn) : ∀ (i : Nat) (x : Tkn), xs[i]? = some x →
    (xs.flatMap cells4)[i * 4]? = some (.int .i8 x.1) ∧ (xs.flatMap cells4)[i * 4 + 1]? = some (.string x.2.1) ∧ (xs.flatMap cells4)[i * 4 + 2]? = some (.int .i64 x.2.2.1) ∧ (xs.flatMap cells4)[i * 4 + 3]? = some (.int .i64 x.2.2.2) := by
  induction xs with
  | nil => intro i x h; simp at h
  | cons y ys ih =>
    intro i x h
    cases i with
    | zero =>
      simp only [List.getElem?_cons_zero, Option.some.injEq] at h
      subst h
      simp [cells4]
    | succ i =>
      rw [List.getElem?_cons_succ] at h
      have := ih i x h
      have e : ∀ k, k < 4 → ((y :: ys).flatMap cells4)[(i + 1) * 4 + k]? = (ys.flatMap cells4)[i * 4 + k]? := by
        intro k hk
        rw [List.flatMap_cons, List.getElem?_append_right (by simp [cells4]; omega)]
        congr 1
        simp [cells4]; omega
      exact ⟨(e 0 (by omega)).trans this.1, (e 1 (by omega)).trans this.2.1, (e 2 (by omega)).trans this.2.2.1, (e 3 (by omega)).trans this.2.2.2⟩
theorem rd_row {w : World} {B : Nat} {v : Value} {xs : List Tkn} (h : w.ownsRow B 52 4 v xs.length (xs.flatMap cells4)) : Rd v xs w := by
  rcases h.2 with ⟨q1, q2⟩ | ⟨g, cap, cur, q1, q2, q3, q4, q5⟩
  · refine ⟨none, 0, by rw [q1, q2], by omega, fun j x hx => ?_⟩
    rw [List.length_eq_zero_iff.1 q2] at hx; simp at hx
  · subst q1
    have hcells := h.cells rfl
    refine ⟨some ⟨g, 0, none⟩, cap, rfl, q4, fun j x hx => ?_⟩
    obtain ⟨f0, f1, f2, f3⟩ := flat_tok xs j x hx
    have g0 := hcells (j * 4) _ f0
    have g1 := hcells (j * 4 + 1) _ f1
    have g2 := hcells (j * 4 + 2) _ f2
    have g3 := hcells (j * 4 + 3) _ f3
    rw [addr_add] at g0 g1 g2 g3
    exact ⟨g, rfl, g0, g1, g2, g3⟩
theorem Rd.take {ao : Option Addr} {n cap : Nat} {xs : List Tkn} {w : World} (h : Rd (.slice ao n cap) xs w) (m c : Nat) (hm : m ≤ xs.length) (hc : m ≤ c) : Rd (.slice ao m c) (xs.take m) w := by
  obtain ⟨ao', cap', h1, h0, h2⟩ := h
  simp only [Value.slice.injEq] at h1
  obtain ⟨rfl, _, _⟩ := h1
  have hl : (xs.take m).length = m := by rw [List.length_take]; omega
  refine ⟨ao, c, by rw [hl], by rw [hl]; exact hc, fun j x hx => ?_⟩
  rw [List.getElem?_take] at hx
  split at hx
  · exact h2 j x hx
  · cases hx
set_option maxRecDepth 100000 in
set_option maxHeartbeats 1000000 in
theorem same_any {w : World} {va vb : Value} {xs : List Tkn} (ha : Rd va xs w) (hb : Rd vb xs w) (hl : xs.length ≤ 70000) :
    Calls Tryz.prog 12 #[va, vb] w fun e w' => e = .returned (.bool true) ∧ Below w.heap.size w w' := by
  obtain ⟨n, hn⟩ : ∃ n, n = xs.length := ⟨_, rfl⟩
  obtain ⟨aa, ca, h1, h2⟩ : ∃ aa ca, va = .slice aa n ca ∧ n ≤ ca := by obtain ⟨aa, ca, h1, h2, _⟩ := ha; exact ⟨aa, ca, by rw [hn]; exact h1, by rw [hn]; exact h2⟩
  obtain ⟨ab, cb, h3, h4⟩ : ∃ ab cb, vb = .slice ab n cb ∧ n ≤ cb := by obtain ⟨aa, ca, h1, h2, _⟩ := hb; exact ⟨aa, ca, by rw [hn]; exact h1, by rw [hn]; exact h2⟩
  subst h1 h3
  have HA := hide' (And.intro ha (And.intro hb (And.intro hl hn)))
  clear ha hb hl
  have hn7 : n ≤ 70000 := by rw [hn]; exact HA.out.2.2.1
  have HN := hide' hn7
  clear hn hn7 h2 h4
  go_enter Tryz.func12, Tryz.ntmps12
  go_wp2
  go_loopw [5] (fun i wx => ∃ (k : Nat) (V : World), V = wx ∧ i = .int .i64 (k : Int) ∧ k ≤ n ∧ Below w.heap.size w V) (fun i _ => n - (intOf i).toNat)
  case atStart => exact ⟨0, _, rfl, rfl, Nat.zero_le _, Below.refl _ _⟩
  case round =>
    obtain ⟨k, V, rfl, rfl, hk, bw⟩ := hrel
    have Bw := hide' bw
    have Hk := hide' hk
    by_cases hlt : k < n
    · have hlt' : (k : Int) < (n : Int) := by omega
      obtain ⟨x, hx⟩ : ∃ x, xs[k]? = some x := ⟨_, List.getElem?_eq_getElem (by rw [← HA.out.2.2.2]; exact hlt)⟩
      obtain ⟨ao, cap, e1, e2, e3⟩ := HA.out.1.below bw
      obtain ⟨bo, bcap, e4, e5, e6⟩ := HA.out.2.1.below bw
      simp only [Value.slice.injEq] at e1 e4
      obtain ⟨e1, _, _⟩ := e1
      obtain ⟨e4, _, _⟩ := e4
      obtain ⟨ga, rfl, y0, y1, y2, y3⟩ := e3 k x hx
      obtain ⟨gb, rfl, z0, z1, z2, z3⟩ := e6 k x hx
      subst e1 e4
      have ek := hide' (wk1' (k := k) (by have := HN.out; omega))
      have Hms := hide' (show n - (intOf (.int .i64 (((k + 1 : Nat) : Int)))).toNat < n - (intOf (.int .i64 (k : Int))).toNat by simp [intOf]; omega)
      have Hlt := hide' hlt
      obtain ⟨x0, x1, x2, x3⟩ := x
      simp only at y0 y1 y2 y3 z0 z1 z2 z3
      clear hk hlt hx e2 e3 e5 e6 bw
      go_wp2_with fail
      go_quiet (fail)
      go_wp2
      refine ⟨⟨k + 1, _, rfl, by rw [ek.out], Hlt.out, ?_⟩, by rw [ek.out]; exact Hms.out⟩
      exact Bw.out.trans (below_drewN _ _ nq)
    · have hlt' : ¬ ((k : Int) < (n : Int)) := by omega
      clear hk hlt bw
      go_wp2
      go_ret
      exact ⟨rfl, Bw.out⟩
end Go.Proofs.YtnlopepbcnegbaaGreatDoor
