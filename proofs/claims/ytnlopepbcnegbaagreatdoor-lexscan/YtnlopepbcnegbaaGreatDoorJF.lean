import Derived.Test.YtnlopepbcnegbaaGreatDoorGoB
import Derived.Test.YtnlopepbcnegbaaGreatDoorGoC
set_option linter.unusedVariables false
set_option linter.unusedSimpArgs false
namespace Go.Proofs.YtnlopepbcnegbaaGreatDoor
open Go.RowKit
theorem run_few (T : Tx) : ∀ f i, (T.run f i).1.length ≤ f := by
  intro f
  induction f with
  | zero => intro i; simp [Tx.run]
  | succ f ih =>
    intro i
    unfold Tx.run
    split
    · split
      · simp
      · have := ih (by assumption)
        simp only [List.length_cons]
        exact Nat.succ_le_succ (ih _)
    · simp
theorem run_code {T : Tx} {s : ByteArray} (hs : T.s = s) (G : L.Good s T.C T.N 0 (1, 1)) (hz : s.size ≤ 65536) (ok : T.Ok) : ∀ f i, i ≤ T.N → ∀ x, (T.run f i).2 = some x → x.1 ≠ 0 := by
  intro f
  induction f with
  | zero => intro i _ x h; simp [Tx.run] at h
  | succ f ih =>
    intro i hi x h
    cases hR : T.tokR i with
    | tok k t l c j =>
      have hj := tok_le ok hi hR
      by_cases h5 : k = 5
      · subst h5
        rw [run_end hR] at h; simp at h
      · rw [run_tok hR h5] at h
        exact ih j hj x h
    | flt code l c word =>
      rw [run_flt hR] at h
      simp only [Option.some.injEq] at h
      rw [← h]
      exact tokR_code hs G hz ok hi hR
theorem scn_facts (s : ByteArray) (hz : s.size ≤ 65536) : (L.scn s).1.length ≤ 69000 ∧ ∀ x, (L.scn s).2 = some x → x.1 ≠ 0 := by
  obtain ⟨N, G⟩ := L.good_cx s
  have ok : (⟨s, L.cx s, N, none, N, 0, 0⟩ : Tx).Ok := ⟨G, hz, Nat.le_refl _⟩
  have e := run_scn (T := ⟨s, L.cx s, N, none, N, 0, 0⟩) rfl rfl ok
  have hN : N ≤ 65536 := by have := G.few; omega
  rw [← e]
  refine ⟨Nat.le_trans (run_few _ _ _) (show N + 2 ≤ 69000 by omega), ?_⟩
  exact run_code (T := ⟨s, L.cx s, N, none, N, 0, 0⟩) rfl G hz ok _ 0 (Nat.zero_le _)
theorem each_law (s : ByteArray) (most : Int) (w : World) (hs : s.size ≤ maxLen) (hm : -9223372036854775808 ≤ most ∧ most ≤ 9223372036854775807) (hg0 : w.cell? ⟨0, 0, none⟩ = some (ty 29)) :
    Calls Tryz.prog 4 #[.string s, .int .i64 most] w fun e w' => e = .returned (.bool true) ∧ Below w.heap.size w w' := by
  by_cases hz : s.size ≤ 65536
  · exact law_any s most w (L.scn s) hm hg0 (scn_facts s hz).1 (scn_facts s hz).2 (fun W => rcut_any s W hz) (fun W h => goes_any s most W hz hm h)
  · refine law_any s most w scnL hm hg0 (by decide) (fun x h => ?_) (fun W => ?_) (fun W h => goes_long s most W (by omega) hs hm h)
    · have h' : some (5, 0, 0, (⟨#[]⟩ : ByteArray)) = some x := h
      simp only [Option.some.injEq] at h'
      rw [← h']; decide
    · refine (rcut_long s W (by omega) hs).mono ?_
      rintro e w' ⟨rfl, b⟩
      exact ⟨_, rfl, World.ownsRow_nil _ _ _ _, b⟩
end Go.Proofs.YtnlopepbcnegbaaGreatDoor
set_option linter.unusedVariables false
set_option linter.unusedSimpArgs false
namespace Go.Proofs.YtnlopepbcnegbaaGreatDoor
open Go.RowKit
/-- what Scan tells of what Cut tells -/
def scanV (r : List Tkn × Option Flw) : List Tkn := if r.2.isSome then [] else r.1
set_option maxHeartbeats 4000000 in
set_option maxRecDepth 100000 in
theorem rscan_of (s : ByteArray) (w : World) (r : List Tkn × Option Flw) (hcode : ∀ x, r.2 = some x → x.1 ≠ 0)
    (hcut : ∀ W, Calls Tryz.prog 13 #[.string s] W fun e w' => ∃ sv, e = .returned (.tuple #[sv, fltV r.2]) ∧ w'.ownsRow W.heap.size 52 4 sv r.1.length (r.1.flatMap cells4) ∧ Below W.heap.size W w') :
    Calls Tryz.prog 8 #[.string s] w fun e w' => ∃ sv, e = .returned (.tuple #[sv, fltV r.2]) ∧ w'.ownsRow w.heap.size 52 4 sv (scanV r).length ((scanV r).flatMap cells4) ∧ Below w.heap.size w w' := by
  obtain ⟨rt, rf⟩ := r
  obtain ⟨c, l, k, wo, f1, f2, f3, f4⟩ := flt_form rf
  have hc0 : rf.isSome = true → c ≠ 0 := by
    intro h
    cases rf with
    | none => cases h
    | some x =>
      have := hcode x rfl
      simp [fltV] at f1
      rw [← f1.1]; exact this
  simp only [f1] at hcut ⊢
  have Hcut := hide' hcut
  obtain ⟨Wa, hWa⟩ : ∃ W, W = w.alloc (.cells #[.int .i64 0, .int .i64 0, .int .i64 0, .string ⟨#[]⟩] 25) := ⟨_, rfl⟩
  have HWa := hide' hWa
  have Hc := hide' (And.intro f3 (And.intro f4 hc0))
  clear hcut hcode hWa f1 f2 f3 f4 hc0
  go_enter Tryz.func8, Tryz.ntmps8
  go_upto_region 1 with fail
  rw [← HWa.out]
  go_upto_region 2 with (go_at_call 13; refine (Hcut.out _).mono ?_; rintro e w1 ⟨sv, rfl, r1, b1⟩; have H1 := hide' (And.intro r1 b1); clear r1 b1)
  obtain ⟨b0, hb0⟩ : ∃ b, b = w.heap.size := ⟨_, rfl⟩
  have hWs : Wa.heap.size = w.heap.size + 1 := by rw [HWa.out]; simp
  have hWb : Below w.heap.size w Wa := by rw [HWa.out]; exact (Below.refl _ _).alloc (Nat.le_refl _) _
  have k0 : Tk w.heap.size (.int .i64 0) (.int .i64 0) (.int .i64 0) (.string ⟨#[]⟩) Wa := by rw [HWa.out]; exact Tk.of_cells (heap_alloc_new _ _)
  obtain ⟨r1, b1⟩ := H1.out
  have ba : Below w1.heap.size w1 (w1.alloc (.cells #[.int .i64 c, .int .i64 l, .int .i64 k, .string wo] 25)) := (Below.refl _ _).alloc (Nat.le_refl _) _
  have k1 := Tk.of_cells (heap_alloc_new w1 (.cells #[.int .i64 c, .int .i64 l, .int .i64 k, .string wo] 25))
  have k2 := (k0.below b1).below ba
  have r2 : (w1.alloc (.cells #[.int .i64 c, .int .i64 l, .int .i64 k, .string wo] 25)).ownsRow Wa.heap.size 52 4 sv rt.length (rt.flatMap cells4) := (turn_below (S := fun _ => False) ba).row r1 (fun _ _ q => q)
  have bel : Below w.heap.size w (w1.alloc (.cells #[.int .i64 c, .int .i64 l, .int .i64 k, .string wo] 25)) := (hWb.trans (b1.mono (by omega))).trans (ba.mono (by have := b1.size; omega))
  have hne : w.heap.size ≠ w1.heap.size := by have := b1.size; omega
  have hne' := hne.symm
  have hne0 : b0 ≠ w1.heap.size := by rw [hb0]; exact hne
  have hne0' := hne0.symm
  rw [← hb0] at k2
  have hrw : ∀ q, sv.ownBlock = some q → q ≠ b0 := fun q e => by have := (r1.lt q e).1; omega
  have hlo : w.heap.size ≤ b0 := by omega
  rw [← hb0]
  generalize w1.alloc (.cells #[.int .i64 c, .int .i64 l, .int .i64 k, .string wo] 25) = W at *
  generalize w1.heap.size = b6 at *
  obtain ⟨x0, x1, x2, x3, _⟩ := k1
  obtain ⟨y4, y5, y6, y7⟩ := k2.frz
  have y0 := k2.c0
  have y1 := k2.c1
  have y2 := k2.c2
  have y3 := k2.c3
  obtain ⟨os, cs, rfl⟩ := row_form r2
  have HH := hide' (And.intro k2 (And.intro r2 (And.intro bel (And.intro hrw (And.intro hlo hWs)))))
  have t4 : ∀ V : World, V = ((((W.setCell ⟨b0, 0, none⟩ (.int .i64 c)).setCell ⟨b0, 1, none⟩ (.int .i64 l)).setCell ⟨b0, 2, none⟩ (.int .i64 k)).setCell ⟨b0, 3, none⟩ (.string wo)) → Turn (fun k => k = b0) W V := by
    rintro _ rfl
    exact ((((Turn.refl (fun k => k = b0) W).setCell (p := ⟨b0, 0, none⟩) (fun _ => rfl) _).setCell (p := ⟨b0, 1, none⟩) (fun _ => rfl) _).setCell (p := ⟨b0, 2, none⟩) (fun _ => rfl) _).setCell (p := ⟨b0, 3, none⟩) (fun _ => rfl) _
  have T4 := hide' t4
  clear k2 r2 bel hrw hlo r1 b1 ba H1 hWs hWb k0 t4 hb0 hne hne'
  by_cases hc : c = 0
  · have ec : (c == 0) = true := by simpa using hc
    have hs : scanV (rt, rf) = rt := by
      unfold scanV
      cases rf with
      | none => rfl
      | some x => exact absurd hc (Hc.out.2.2 rfl)
    have Hs := hide' hs
    clear hc hs
    go_upto_region 4 with fail
    go_region
    go_wp2_with fail
    refine bodyPost_ret_by (results_tc rfl _ _ b0 _ _ _ _ rfl (HH.out.1.set _ _ _ _).drew) rfl ?_
    rw [Hs.out]
    exact ⟨_, rfl, row_down ((T4.out _ rfl).row HH.out.2.1 (fun q e h => HH.out.2.2.2.1 q e h)) (by have := HH.out.2.2.2.2.2; omega), (Below.set4' HH.out.2.2.1 HH.out.2.2.2.2.1 _ _ _ _).trans ((below_drew _).mono (Below.set4' HH.out.2.2.1 HH.out.2.2.2.2.1 _ _ _ _).size)⟩
  · have ec : (c == 0) = false := by simpa using hc
    have hs : scanV (rt, rf) = [] := by
      unfold scanV
      rw [if_pos (Hc.out.1 hc)]
    have Hs := hide' hs
    clear hc hs
    go_upto_region 3 with fail
    go_region
    go_wp2_with fail
    refine bodyPost_ret_by (results_tc rfl _ _ b0 _ _ _ _ rfl (HH.out.1.set _ _ _ _).drew) rfl ?_
    rw [Hs.out]
    exact ⟨_, rfl, World.ownsRow_nil _ _ _ _, (Below.set4' HH.out.2.2.1 HH.out.2.2.2.2.1 _ _ _ _).trans ((below_drew _).mono (Below.set4' HH.out.2.2.1 HH.out.2.2.2.2.1 _ _ _ _).size)⟩
end Go.Proofs.YtnlopepbcnegbaaGreatDoor
set_option linter.unusedVariables false
set_option linter.unusedSimpArgs false
namespace Go.Proofs.YtnlopepbcnegbaaGreatDoor
open Go.RowKit
attribute [local go_sem] Oper.semAt_some
theorem sl_last {pre : List El} {x : El} (h : SL (pre ++ [x])) : pre = [] ∧ ∃ fb, x = .flt fb 5 0 0 ⟨#[]⟩ := by
  obtain ⟨fb, h⟩ := h
  have h' : pre ++ [x] = [] ++ [.flt fb 5 0 0 ⟨#[]⟩] := h
  obtain ⟨rfl, hx⟩ := List.append_inj' h' rfl
  exact ⟨rfl, fb, by simpa using hx⟩
set_option maxHeartbeats 2000000 in
set_option maxRecDepth 100000 in
theorem scan_long (s : ByteArray) (w : World) (hs : 65536 < s.size) (hsm : s.size ≤ maxLen) :
    Calls Tryz.prog 9 #[.string s] w fun e w' => ∃ fb, e = .returned (.tuple #[.slice none 0 0, .iface 58 (.pointer (some ⟨fb, 0, none⟩))]) ∧ w.heap.size ≤ fb ∧ Flt fb 5 0 0 ⟨#[]⟩ w' ∧ Below w.heap.size w w' := by
  refine (callsIn_wide (n := 9)).1 ?_
  refine callsIn_of_wp_marks Tryz.func9 rfl trivial ?_ rfl
  refine wpIn_wide.2 ?_
  simp only [Tryz.ntmps9, List.size_toArray, List.length_cons, List.length_nil, Nat.reduceAdd, Nat.reduceSub, Array.replicate_succ, Array.replicate_zero, List.push_toArray, List.append_toArray, List.nil_append, List.cons_append]
  go_wp2_with (go_at_call 20; refine (each_long _ _ hs hsm).mono ?_; rintro e w1 ⟨rfl, hw1⟩; have b1 := below_eq hw1; clear hw1)
  obtain ⟨n1, hn1⟩ : ∃ n1, w1.heap.size = n1 := ⟨_, rfl⟩
  have hz := b1.size
  simp only [World.size_alloc'] at hz
  obtain ⟨tm, htm⟩ : ∃ tm : El → Nat → Act, tm = fun x bx => { tmps := #[.string s, undef, .pointer (some ⟨w.heap.size, 0, none⟩), .pointer (some ⟨w.heap.size + 1, 0, none⟩), .pointer (some ⟨w.heap.size + 1 + 1, 0, none⟩), .pointer (some ⟨bx, 0, none⟩), x.err, .string s, .func (.func 28) #[] #[], x.agg, x.err, undef, undef, undef, undef, undef, undef, undef, undef], defers := [] } := ⟨_, rfl⟩
  obtain ⟨i0, hi, hz0, hz1, hz2⟩ := info_parts info29
  refine (wpIn_wide (n := 9)).1 ?_
  refine range_ownL (F := Fence.wide) (n := 9) rfl (by omega) (gf := 28) (lb := #[]) rfl trivial (enters_of Tryz.func28 (by kernel_rfl) rfl)
    (each28_seq (9 - 1) (by omega) w1) (fun x => by cases x <;> rfl) ?hM (SI w n1) (SX w n1) (fun b pre x N0 a W => n1 + 2 ≤ b ∧ SL (pre ++ [x]) ∧ SA w n1 1 tm b pre x N0 a W) ?hI0
    (fun b pre W1 W2 hb h t => h.turn (by omega) (by rw [hn1] at t; exact t)) (fun c pre W1 W2 h t => h.turn (by rw [hn1] at t; exact t)) (fun b pre x N0 a' W1 W2 h t => ⟨h.1, h.2.1, h.2.2.turn h.1 (by rw [hn1] at t; exact t)⟩) ?assign ?body ?done ?stop
  case hM =>
    rintro b hb hM
    rcases hM with hM | hM
    · omega
    · exact hM.elim
  case hI0 =>
    intro b W' hb hbl hW
    have q2 : W'.heap[w.heap.size + 1 + 1]? = some (.cells #[.slice none 0 0] 22 (0, 0)) := by
      rw [hW.block _ (by omega), b1.block _ (by simp)]
      have := heap_alloc_new ((w.alloc (.cells #[.slice none 0 0] 22)).alloc (.cells #[.nilIface] 29)) (.cells #[.slice none 0 0] 22)
      simpa using this
    have q1 : W'.heap[w.heap.size + 1]? = some (.cells #[.nilIface] 29 (0, 0)) := by
      rw [hW.block _ (by omega), b1.block _ (by simp)]
      refine (Below.heap_alloc _ _ _ (by simp)).trans ?_
      have := heap_alloc_new (w.alloc (.cells #[.slice none 0 0] 22)) (.cells #[.nilIface] 29)
      simpa using this
    have q0 : W'.heap[w.heap.size]? = some (.cells #[.slice none 0 0] 22 (0, 0)) := by
      rw [hW.block _ (by omega), b1.block _ (by simp; omega)]
      refine (Below.heap_alloc _ _ _ (by simp; omega)).trans ((Below.heap_alloc _ _ _ (by simp)).trans (heap_alloc_new _ _))
    have bb : Below w.heap.size w (((w.alloc (.cells #[.slice none 0 0] 22)).alloc (.cells #[.nilIface] 29)).alloc (.cells #[.slice none 0 0] 22)) := (((Below.refl _ _).alloc (Nat.le_refl _) _).alloc (by simp) _).alloc (by simp; omega) _
    refine ⟨by simp, ⟨.slice none 0 0, by simp [World.cell?, q2], World.ownsRow_nil _ _ _ _, fun g hg => by simp [Value.ownBlock] at hg⟩, by simp [World.frozen?, q2], by simp [World.cell?, q0], by simp [World.frozen?, q0], by simp [World.cell?, q1], by simp [World.frozen?, q1], ?_, by omega, by omega, hbl⟩
    exact (bb.trans (b1.mono (by simp; omega))).trans (hW.mono (by omega))
  case assign =>
    intro l b pre x W0 Wy K hb hW0 hlen hsp hrec hI hby hhas hK
    have ba := hby
    have hyz := hby.size
    have fin : ∀ (cs : Array Value), cs = x.cells.toArray → SA w n1 1 tm b pre x W0.heap.size (tm x Wy.heap.size) (Wy.alloc (.cells cs 52)) := by
      rintro _ rfl
      have bb : Below Wy.heap.size Wy (Wy.alloc (.cells x.cells.toArray 52)) := (Below.refl _ _).alloc (Nat.le_refl _) _
      have b2 : Below W0.heap.size W0 (Wy.alloc (.cells x.cells.toArray 52)) := ba.trans (bb.mono ba.size)
      have hfb : ∀ fb code l c word, x = .flt fb code l c word → fb ≠ n1 + 1 ∧ w.heap.size ≤ fb := by
        rintro fb code l c word rfl
        obtain ⟨r, hr⟩ := hrec
        have hh : Wy.heap[fb]? = some (.cells #[.int .i64 code, .int .i64 l, .int .i64 c, .string word] 25 (0, 0)) := hhas.1
        refine ⟨fun e => ?_, ?_⟩
        · rw [hn1, ← e, hh] at hr; cases hr
        · have := hhas.2; omega
      refine ⟨hI.turn (by omega) (turn_below b2), hlen, ?_, ⟨by simp; omega, by omega⟩, ⟨Wy.heap.size, rfl, by omega, ?_⟩, ?_, hfb⟩
      · intro v g hv hg
        obtain ⟨v', e1, e2, _⟩ := hI.row
        rw [b2.cell (p := ⟨w.heap.size + 1 + 1, 0, none⟩) (by have := hI.lo; simp; omega), e1] at hv
        injection hv with hv
        subst hv
        exact (e2.lt g hg).2
      · have := heap_alloc_new Wy (.cells x.cells.toArray 52)
        simpa using this
      · cases x with
        | tok k t l c => trivial
        | flt fb code l c word => exact ⟨(bb.block fb (Array.getElem?_eq_some_iff.1 hhas.1).1).trans hhas.1, by have := hhas.2; omega⟩
    have hK2 := fun a' cs (ha : a' = tm x Wy.heap.size) (hc : cs = x.cells.toArray) => hK a' (Wy.alloc (.cells cs 52)) ((Below.refl _ _).alloc (Nat.le_refl _) _) ⟨by omega, hsp, ha ▸ fin cs hc⟩
    have HK := hide' hK2
    clear hK hK2 fin ba hI hrec hhas
    rw [htm] at HK
    cases x with
    | tok k t lx cx =>
      unfold El.encs tokV
      gi_wp2
      exact HK.out _ _ rfl rfl
    | flt fb code lx cx word =>
      unfold El.encs
      gi_wp2
      exact HK.out _ _ rfl rfl
  case body =>
    rintro l b pre x N0 a' W hb hrec ⟨hb2, hsl, hA⟩
    obtain ⟨rfl, fb0, rfl⟩ := sl_last hsl
    obtain ⟨si, len, row, n0, ⟨bx, hact, hbx, hblk⟩, has, hfb⟩ := hA
    subst hact
    rw [htm]
    have lo := si.lo
    have sz := si.sz
    obtain ⟨fb, hfb0⟩ : ∃ f, f = fb0 := ⟨_, rfl⟩
    subst hfb0
    have r0 := si.r0
    have r1 := si.r1
    have f0 := si.f0
    have f1 := si.f1
    have HH := hide' (And.intro si (And.intro has (hfb _ _ _ _ _ rfl)))
    obtain ⟨rc, hrc⟩ := hrec
    have Hrec := hide' hrc
    clear si row has hfb hrc
    simp only [El.err, El.agg, El.cells]
    gi_wp2
    have hset : ∀ k, k ≠ w.heap.size → k ≠ w.heap.size + 1 → ((W.setCell ⟨w.heap.size, 0, none⟩ (.slice none 0 0)).setCell ⟨w.heap.size + 1, 0, none⟩ (.iface 58 (.pointer (some ⟨fb, 0, none⟩)))).heap[k]? = W.heap[k]? := fun k h1 h2 => (Below.heap_setCell _ _ _ _ h2).trans (Below.heap_setCell _ _ _ _ h1)
    have hh := HH.out.2.1
    refine ⟨fun k hk => hset k (by omega) (by omega), rfl, ⟨[], fb, 5, 0, 0, ⟨#[]⟩, rfl, ?_, (hset fb (by have := hh.2; omega) (by have := hh.2; omega)).trans hh.1, HH.out.2.2.1, HH.out.2.2.2⟩, ?_, ?_, lo⟩
    · go_simp
    · go_simp
    · exact (HH.out.1.bel.setCell (p := ⟨w.heap.size, 0, none⟩) (Nat.le_refl _) _).setCell (p := ⟨w.heap.size + 1, 0, none⟩) (by simp) _
  case done =>
    intro b xs W hb hS hI hD
    obtain ⟨fb, rfl⟩ := hS
    have := hI.all _ (List.mem_cons_self ..)
    cases this
  case stop =>
    intro c pre W hSp hX hD
    have hc := hX.c
    subst hc
    refine wpIn_wide.2 ?_
    go_wp2
    obtain ⟨pre', fb, code, l, cx, word, h1, h2, h3, h4, h5⟩ := hX.last
    rw [h1] at hSp
    obtain ⟨_, fb1, hfx⟩ := sl_last hSp
    injection hfx with i1 i2 i3 i4 i5
    subst i2 i3 i4 i5
    have lo := hX.lo
    have y0 := hX.r0
    refine ⟨by simp, .inl ⟨_, _, rfl, run_takeDeferred hD, ?_⟩⟩
    have t2 : Turn (fun k => k = w1.heap.size) W (W.putObj w1.heap.size (.deferred none)) := turn_putObj _ _ _
    have z0 := (t2.cell (p := ⟨w.heap.size, 0, none⟩) (lt_of_cell y0) (by simp; omega)).trans y0
    have z1 := (t2.cell (p := ⟨w.heap.size + 1, 0, none⟩) (lt_of_cell h2) (by simp; omega)).trans h2
    have hne : ¬ fb = w1.heap.size := fun e => by
      unfold Flt at h3
      rw [e, hD] at h3; cases h3
    refine ⟨.tuple #[.slice none 0 0, .iface 58 (.pointer (some ⟨fb, 0, none⟩))], ?_, fb, rfl, h5, (t2.block fb (Array.getElem?_eq_some_iff.1 h3).1 hne).trans h3, ?_⟩
    · simp [results, Tryz.f9, go_sem, z0, z1]
    · exact hX.bel.trans (t2.below (fun k q => by omega) hX.bel.size)
end Go.Proofs.YtnlopepbcnegbaaGreatDoor
