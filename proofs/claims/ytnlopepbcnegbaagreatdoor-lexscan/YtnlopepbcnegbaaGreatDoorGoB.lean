import Derived.Test.YtnlopepbcnegbaaGreatDoorGoA
import Derived.Test.YtnlopepbcnegbaaGreatDoorGoD
set_option linter.unusedVariables false
set_option linter.unusedSimpArgs false
namespace Go.Proofs.YtnlopepbcnegbaaGreatDoor
open Go.RowKit
attribute [local go_sem] Oper.semAt_some
theorem below_eq {w w1 : World} (h : w1 = w) : Below w.heap.size w w1 := by rw [h]; exact Below.refl _ _
attribute [local go_sem] eq_func
set_option maxHeartbeats 20000000 in
set_option maxRecDepth 100000 in
theorem goes_long (s : ByteArray) (most : Int) (w : World) (hs : 65536 < s.size) (hsm : s.size ≤ maxLen) (hm : -9223372036854775808 ≤ most ∧ most ≤ 9223372036854775807) (hg0 : w.cell? ⟨0, 0, none⟩ = some (ty 29)) :
    Calls Tryz.prog 14 #[.string s, .int .i64 most] w fun e w' => ∃ va vb, e = .returned (.tuple #[wentV va (if 0 < most then took (scnL) most.toNat else ([], none)).2 false, wentV vb (scnL).2 false]) ∧
      Rd va (if 0 < most then took (scnL) most.toNat else ([], none)).1 w' ∧ Rd vb (scnL).1 w' ∧ Below w.heap.size w w' := by
  refine (callsIn_wide (n := 9)).1 ?_
  refine callsIn_of_wp_marks Tryz.func14 rfl trivial ?_ rfl
  refine wpIn_wide.2 ?_
  simp only [Tryz.ntmps14, List.size_toArray, List.length_cons, List.length_nil, Nat.reduceAdd, Nat.reduceSub, Array.replicate_succ, Array.replicate_zero, List.push_toArray, List.append_toArray, List.nil_append, List.cons_append]
  go_upto_region 5 with (go_at_call 20; refine (each_long _ _ hs hsm).mono ?_; rintro e w1 ⟨rfl, hw1⟩; have b1 := below_eq hw1; clear hw1)
  rename_i K1 hK1 K0 hK0
  obtain ⟨b0, hb0⟩ : ∃ b, b = w.heap.size := ⟨_, rfl⟩
  have Hb0 := hide' hb0
  clear hb0
  have hz := b1.size
  simp only [World.size_alloc'] at hz
  have Htl : Hid (Tellr SL SL scnL) := hide' tell_long
  have Hfew : Hid (0 ≤ 65536) := hide' (by decide)
  have Hin : Hid (∀ W : World, SeqOwnL Fence.wide 8 Tryz.prog 28 #[] El.encs (El.Has W.heap.size) ML SL SL 1 W) := hide' (fun W => each28_seq 8 (by omega) W)
  have Hfive : Hid (w1.heap[b0]? = some (.cells #[.int .i64 most] 3 (0, 0)) ∧ w1.heap[b0 + 1]? = some (.cells #[.slice none 0 0, .int .i64 0, .int .i64 0, .int .i64 0, .string ⟨#[]⟩, .bool false] 39 (0, 0)) ∧ w1.heap[b0 + 1 + 1]? = some (.cells #[.slice none 0 0, .int .i64 0, .int .i64 0, .int .i64 0, .string ⟨#[]⟩, .bool false] 39 (0, 0)) ∧ w1.heap[b0 + 1 + 1 + 1]? = some (.cells #[.slice none 0 0, .int .i64 0, .int .i64 0, .int .i64 0, .string ⟨#[]⟩, .bool false] 39 (0, 0)) ∧ w1.heap[b0 + 1 + 1 + 1 + 1]? = some (.cells #[.slice none 0 0, .int .i64 0, .int .i64 0, .int .i64 0, .string ⟨#[]⟩, .bool false] 39 (0, 0)) ∧ b0 + 5 ≤ w1.heap.size) := hide' (by
    obtain ⟨f0, f1, f2, f3, f4, f5⟩ := five_new w (.cells #[.int .i64 most] 3) (.cells #[.slice none 0 0, .int .i64 0, .int .i64 0, .int .i64 0, .string ⟨#[]⟩, .bool false] 39) (.cells #[.slice none 0 0, .int .i64 0, .int .i64 0, .int .i64 0, .string ⟨#[]⟩, .bool false] 39) (.cells #[.slice none 0 0, .int .i64 0, .int .i64 0, .int .i64 0, .string ⟨#[]⟩, .bool false] 39) (.cells #[.slice none 0 0, .int .i64 0, .int .i64 0, .int .i64 0, .string ⟨#[]⟩, .bool false] 39)
    rw [Hb0.out]
    refine ⟨(b1.block _ (by rw [f5]; omega)).trans f0, (b1.block _ (by rw [f5]; omega)).trans f1, (b1.block _ (by rw [f5]; omega)).trans f2, (b1.block _ (by rw [f5]; omega)).trans f3, (b1.block _ (by rw [f5]; omega)).trans f4, by have := b1.size; omega⟩)
  have Tw1 : Hid (Turn (fun k => w.heap.size ≤ k) w w1) := hide' (Turn.then (((((Turn.refl (fun k => w.heap.size ≤ k) w).alloc _).alloc _).alloc _).alloc _ |>.alloc _) (turn_below (S := fun _ => False) b1) (fun i hi q => q.elim))
  have Hg00 : Hid (0 < w.heap.size) := hide' (lt_of_cell hg0)
  have Hg0 : Hid (w1.cell? ⟨0, 0, none⟩ = some (ty 29)) := hide' (by
    have hl : 0 < w.heap.size := lt_of_cell hg0
    refine (b1.cell (p := ⟨0, 0, none⟩) (by show 0 < _; simp)).trans ?_
    rw [World.cell?_alloc_lt _ _ _ (by show 0 < _; simp), World.cell?_alloc_lt _ _ _ (by show 0 < _; simp), World.cell?_alloc_lt _ _ _ (by show 0 < _; simp), World.cell?_alloc_lt _ _ _ (by show 0 < _; simp), World.cell?_alloc_lt _ _ _ hl]
    exact hg0)
  have HB : ∀ (u9 u20 u21 u22 : Value) (d : List Deferred) (va : Value) (W : World), Mid w w1 b0 most (if 0 < most then took (scnL) most.toNat else ([], none)).1 (if 0 < most then took (scnL) most.toNat else ([], none)).2 va W →
      (d = [] ∨ ∃ n, d = [{ target := .collected n, args := #[] }] ∧ w1.heap.size ≤ n ∧ W.heap[n]? = some (.deferred (some []))) →
      K1 { tmps := #[.string s, .int .i64 most, undef, .pointer (some ⟨b0, 0, none⟩), .pointer (some ⟨b0 + 1, 0, none⟩), .pointer (some ⟨b0 + 1 + 1, 0, none⟩), .pointer (some ⟨b0 + 1 + 1 + 1, 0, none⟩), .pointer (some ⟨b0 + 1 + 1 + 1 + 1, 0, none⟩), .func (.func 28) #[] #[], u9, undef, undef, undef,
          undef, .string s, .func (.func 28) #[] #[], .func (.func 28) #[] #[], .bool false, undef, undef,
          u20, u21, u22, undef, undef, undef, undef, undef, undef, undef, undef, undef, undef, undef, undef, undef, undef, undef, undef, undef, undef, undef, undef], defers := d } W := by
    intro u9 u20 u21 u22 d va W hMid hd
    refine hK1 _ _ ?_
    clear hK1 hK0
    go_wp2
    refine (wpIn_wide (n := 9)).1 ?_
    obtain ⟨n1, hn1⟩ : ∃ n, n = W.heap.size := ⟨_, rfl⟩
    have hbl : b0 + 1 + 1 + 1 + 1 < W.heap.size := (Array.getElem?_eq_some_iff.1 hMid.c4).1
    obtain ⟨tm, htm⟩ : ∃ tm : El → Nat → Act, tm = fun x bx => { tmps := #[.string s, .int .i64 most, undef, .pointer (some ⟨b0, 0, none⟩), .pointer (some ⟨b0 + 1, 0, none⟩), .pointer (some ⟨b0 + 1 + 1, 0, none⟩), .pointer (some ⟨b0 + 1 + 1 + 1, 0, none⟩), .pointer (some ⟨b0 + 1 + 1 + 1 + 1, 0, none⟩), .func (.func 28) #[] #[], u9, undef, undef, .pointer (some ⟨bx, 0, none⟩),
          x.err, .string s, .func (.func 28) #[] #[], .func (.func 28) #[] #[], .bool false, undef, undef,
          u20, u21, u22, undef, undef, undef, undef, undef, undef, undef, undef, undef, undef, undef, .func (.func 28) #[] #[], x.agg, x.err, undef, undef, undef, undef, undef, undef], defers := [] } := ⟨_, rfl⟩
    refine range_ownL (F := Fence.wide) (n := 9) rfl (by omega) (gf := 28) (lb := #[]) rfl trivial (enters_of Tryz.func28 (by kernel_rfl) rfl)
      (Hin.out W) (fun x => by cases x <;> rfl) ?hM (GI W (b0 + 1 + 1 + 1 + 1) b0 (fun _ => most)) (fun _ _ _ => False) (fun b pre x N0 a W' => W.heap.size + 2 ≤ b ∧ GA W (b0 + 1 + 1 + 1 + 1) b0 (fun _ => most) tm b pre x N0 a W') ?hI0
      (fun b pre W1 W2 hb h t => h.turn hb hbl (by omega) t) (fun c pre W1 W2 h t => h) (fun b pre x N0 a' W1 W2 h t => ⟨h.1, h.2.turn h.1 hbl (by omega) t⟩) ?assign ?body ?done ?stop
    case hM =>
      rintro b hb hM
      rcases hM with hM | hM
      · omega
      · exact hM.elim
    case hI0 =>
      intro b W' hb hbl' hW
      exact GI.start hMid.c4 hMid.c0 hb hbl' hW
    case assign =>
      intro l b pre x W0 Wy K hb hW0 hlen hsp hrec hI hby hhas hK
      have ba := hby
      have hyz := hby.size
      have hpre := Htl.out.ahead pre x hsp
      have fin : ∀ (cs : Array Value), cs = x.cells.toArray → GA W (b0 + 1 + 1 + 1 + 1) b0 (fun _ => most) tm b pre x W0.heap.size (tm x Wy.heap.size) (Wy.alloc (.cells cs 52)) := by
        rintro _ rfl
        have bb : Below Wy.heap.size Wy (Wy.alloc (.cells x.cells.toArray 52)) := (Below.refl _ _).alloc (Nat.le_refl _) _
        have b2 : Below W0.heap.size W0 (Wy.alloc (.cells x.cells.toArray 52)) := ba.trans (bb.mono ba.size)
        have hgi := hI.turn hb hbl (by omega) (turn_below (S := fun k => k = b ∨ k = W.heap.size + 1) b2)
        refine ⟨hgi, hpre.1, ?_, ?_, by have := Hfew.out; omega, ⟨by simp; omega, by omega⟩, ⟨Wy.heap.size, rfl, by omega, ?_⟩⟩
        · rintro fb code l c word rfl
          obtain ⟨r, hr⟩ := hrec
          have hh : Wy.heap[fb]? = some (.cells #[.int .i64 code, .int .i64 l, .int .i64 c, .string word] 25 (0, 0)) := hhas.1
          refine ⟨hpre.2 fb code l c word rfl, (bb.block fb (Array.getElem?_eq_some_iff.1 hh).1).trans hh, fun e => ?_⟩
          rw [← e, hh] at hr; cases hr
        · intro v hv g hg
          obtain ⟨v', e1, e2, _⟩ := hI.cel
          rw [b2.block (b0 + 1 + 1 + 1 + 1) (by omega), e1, fltOf_all hpre.1] at hv
          have : v' = v := by
            injection hv with hv; injection hv with hv _ _
            simp [wcl] at hv
            exact hv
          subst this
          exact (e2.lt g hg).2
        · have := heap_alloc_new Wy (.cells x.cells.toArray 52)
          simpa using this
      have hK2 := fun a' cs (ha : a' = tm x Wy.heap.size) (hc : cs = x.cells.toArray) => hK a' (Wy.alloc (.cells cs 52)) ((Below.refl _ _).alloc (Nat.le_refl _) _) ⟨by omega, ha ▸ fin cs hc⟩
      have HK := hide' hK2
      clear hK hK2 fin ba hI hrec hhas hpre hsp
      rw [htm] at HK
      cases x with
      | tok k t lx cx =>
        unfold El.encs tokV
        gi_wp2
        exact HK.out _ _ rfl rfl
      | flt fb code lx cx word =>
        unfold El.encs
        gi_wp2
        exact HK.out _ _ rfl rfl
    case body =>
      rintro l b pre x N0 a' W2 hb hrec ⟨hb2, hA⟩
      obtain ⟨gi, tok, cod, row, few, n0, ⟨bx, hact, hbx, hblk⟩⟩ := hA
      subst hact
      rw [htm]
      obtain ⟨v, v1, v2, v3⟩ := gi.cel
      rw [fltOf_all tok] at v1
      have sz := gi.sz
      have htl : (toks pre).length ≤ 65536 := by rw [toks_all tok, List.length_map]; exact few
      have hMT : ∀ k, ML b k → k = b ∨ (b0 + 5 ≤ k ∧ k < w1.heap.size) := by
        rintro k (hk | hk)
        · exact Or.inl hk
        · exact hk.elim
      have hg2 : W2.cell? ⟨0, 0, none⟩ = some (ty 29) := by
        have h0 : 0 < w1.heap.size := lt_of_cell Hg0.out
        have hbw := hMid.sz
        have h1 := (hMid.tur.cell (p := ⟨0, 0, none⟩) h0 (by show ¬ (0 = _ ∨ _ ≤ 0); omega)).trans Hg0.out
        refine (gi.tur.cell (p := ⟨0, 0, none⟩) (lt_of_cell h1) ?_).trans h1
        have := Hb0.out
        have := Hg00.out
        have h3 : 0 < W.heap.size := by omega
        show ¬ (0 = _ ∨ 0 = _ ∨ _ ≤ 0)
        omega
      obtain ⟨so, scp, rfl⟩ := row_form v2
      obtain ⟨z0, z1, z2, z3, z4, z5, _⟩ := six_cells (show W2.heap[b0 + 1 + 1 + 1 + 1]? = some (.cells #[.slice so (toks pre).length scp, .int .i64 0, .int .i64 0, .int .i64 0, .string ⟨#[]⟩, .bool false] 39 (0, 0)) from v1)
      cases x with
      | tok k t lx cx =>
        obtain ⟨x0, x1, x2, x3, _⟩ := Tk.of_cells (show W2.heap[bx]? = some (.cells #[.int .i8 k, .string t, .int .i64 lx, .int .i64 cx] 52 (0, 0)) from hblk)
        have HC := hide' (with_tok _ (toks pre) (k, t, lx, cx) (W.heap.size + 2) W2 v2 sz (by omega))
        unfold wentV at HC
        simp only at HC
        rw [show (cells4 (k, t, lx, cx)).toArray = #[.int .i8 k, .string t, .int .i64 lx, .int .i64 cx] from rfl] at HC
        have HH := hide' (And.intro gi (And.intro v1 (And.intro v2 (And.intro v3 (And.intro (row _ v1) (And.intro n0 (And.intro hMT hMid.sz)))))))
        clear gi v1 v2 v3 row n0 hMT cod hblk hrec few htl sz hg2
        simp only [El.err, El.agg, El.cells]
        gi_wp2_with (refine ⟨trivial, ?_⟩; gi_at_call 25; refine (CallsIn.inRound l (callsIn_wide.2 HC.out)).mono ?_; rintro e w3 ⟨nv, rfl, r3, t3, o3⟩; obtain ⟨no, ncp, rfl⟩ := row_form r3; have k3 := (t3.block (b0 + 1 + 1 + 1 + 1) (Array.getElem?_eq_some_iff.1 HH.out.2.1).1 (fun q => by have := (HH.out.2.2.1.lt _ q).1; omega)).trans HH.out.2.1; obtain ⟨y0, y1, y2, y3, y4, y5, y6, y7, y8, y9, y10, y11⟩ := six_cells (show w3.heap[b0 + 1 + 1 + 1 + 1]? = some (.cells #[.slice so (toks pre).length scp, .int .i64 0, .int .i64 0, .int .i64 0, .string ⟨#[]⟩, .bool false] 39 (0, 0)) from k3); have H3 := hide' (And.intro r3 (And.intro t3 o3)); clear k3 r3 t3 o3)
        obtain ⟨gi, v1, v2, v3, row, n0, hMT, hsz⟩ := HH.out
        obtain ⟨r3, t3, o3⟩ := H3.out
        obtain ⟨P1, P2, P3⟩ := gi.put (pre' := pre ++ [.tok k t lx cx]) hb2 hbl (by omega) (by omega) v1 (fun g hg => ⟨v3 g hg, (v2.lt g hg).1⟩) t3 (by rw [toks_tok, List.length_append, List.flatMap_append]; simpa using r3) o3 (by rw [fltOf_snoc]; rfl) rfl
        refine ⟨fun k hk => P2 k (by have := gi.sz; omega) (by omega) (fun q => by have := (v2.lt _ q).1; omega), ⟨P3, fun k hk hl => P2 k hl ?_ ?_⟩, P1⟩
        · rcases hk with hk | hk
          · rcases hMT k hk with hk | hk <;> omega
          · omega
        · intro q
          have q1 := (v2.lt k q).1
          have q2 := v3 k q
          have q3 := row k q
          rcases hk with hk | hk
          · rcases hMT k hk with hk | hk <;> omega
          · omega
      | flt fb code lx cx word =>
        obtain ⟨x0, x1, x2, x3, _⟩ := Tk.of_cells (show W2.heap[bx]? = some (.cells #[.int .i8 0, .string ByteArray.empty, .int .i64 0, .int .i64 0] 52 (0, 0)) from hblk)
        obtain ⟨hc0, hF, hfl⟩ := cod fb code lx cx word rfl
        have HC := hide' (with_flt (.slice so (toks pre).length scp) fb code lx cx word W2 hF hg2 hc0 ⟨_, _, _, rfl⟩)
        unfold wentV at HC
        simp only at HC
        have HH := hide' (And.intro gi (And.intro v1 (And.intro v2 (And.intro v3 (And.intro (row _ v1) (And.intro n0 (And.intro hMT hMid.sz)))))))
        clear gi v1 v2 v3 row n0 hMT cod hblk hrec few htl sz hg2 hF hfl hc0
        simp only [El.err, El.agg, El.cells]
        gi_wp2_with (refine ⟨trivial, ?_⟩; gi_at_call 25; refine (CallsIn.inRound l (callsIn_wide.2 HC.out)).mono ?_; rintro e w3 ⟨rfl, bel3⟩; have k3 := (bel3.block (b0 + 1 + 1 + 1 + 1) (Array.getElem?_eq_some_iff.1 HH.out.2.1).1).trans HH.out.2.1; obtain ⟨y0, y1, y2, y3, y4, y5, y6, y7, y8, y9, y10, y11⟩ := six_cells (show w3.heap[b0 + 1 + 1 + 1 + 1]? = some (.cells #[.slice so (toks pre).length scp, .int .i64 0, .int .i64 0, .int .i64 0, .string ⟨#[]⟩, .bool false] 39 (0, 0)) from k3); have H3 := hide' bel3; clear k3 bel3)
        obtain ⟨gi, v1, v2, v3, row, n0, hMT, hsz⟩ := HH.out
        have bel3 := H3.out
        obtain ⟨P1, P2, P3⟩ := gi.put (pre' := pre ++ [.flt fb code lx cx word]) hb2 hbl (by omega) (by omega) v1 (fun g hg => ⟨v3 g hg, (v2.lt g hg).1⟩) (turn_below bel3) (by rw [toks_flt]; exact (turn_below (S := fun _ => False) bel3).row v2 (fun _ _ q => q)) (fun q e => .inl e) (by rw [fltOf_snoc]; rfl) rfl
        refine ⟨fun k hk => P2 k (by have := gi.sz; omega) (by omega) (fun q => by have := (v2.lt _ q).1; omega), ⟨P3, fun k hk hl => P2 k hl ?_ ?_⟩, P1⟩
        · rcases hk with hk | hk
          · rcases hMT k hk with hk | hk <;> omega
          · omega
        · intro q
          have q1 := (v2.lt k q).1
          have q2 := v3 k q
          have q3 := row k q
          rcases hk with hk | hk
          · rcases hMT k hk with hk | hk <;> omega
          · omega
    case done =>
      intro b xs W' hb hS hI hD
      obtain ⟨v, v1, v2, v3⟩ := hI.cel
      obtain ⟨f1, f2⟩ := Htl.out.full xs hS
      rw [f2] at v1
      rw [f1] at v2
      have hl3 := (Array.getElem?_eq_some_iff.1 hMid.c3).1
      have q1 := (hI.tur.block (b0 + 1) (by omega) (by omega)).trans hMid.c1
      have q2 := (hI.tur.block (b0 + 1 + 1) (by omega) (by omega)).trans hMid.c2
      have q3 := (hI.tur.block (b0 + 1 + 1 + 1) (by omega) (by omega)).trans hMid.c3
      have qr : W'.ownsRow w1.heap.size 52 4 va (if 0 < most then took (scnL) most.toNat else ([], none)).1.length ((if 0 < most then took (scnL) most.toNat else ([], none)).1.flatMap cells4) :=
        hI.tur.row hMid.row (fun g hg q => by have h1 := (hMid.row.lt g hg); have h2 := Hb0.out; omega)
      generalize hta : (if 0 < most then took (scnL) most.toNat else ([], none)).1 = ta at *
      generalize hfa : (if 0 < most then took (scnL) most.toNat else ([], none)).2 = fa at *
      generalize htb : (scnL).1 = tb at *
      generalize hfb : (scnL).2 = fb at *
      obtain ⟨sa1, sc1, rfl⟩ := row_form qr
      obtain ⟨sa2, sc2, rfl⟩ := row_form v2
      obtain ⟨i1, i2, i3, wo1, e1⟩ := wcl_form (.slice sa1 ta.length sc1) fa
      obtain ⟨j1, j2, j3, wo2, e2⟩ := wcl_form (.slice sa2 tb.length sc2) fb
      rw [e1] at q3
      rw [e2] at v1
      obtain ⟨x0, x1, x2, x3, x4, x5, x6, x7, x8, x9, x10, x11⟩ := six_cells q1
      obtain ⟨y0, y1, y2, y3, y4, y5, y6, y7, y8, y9, y10, y11⟩ := six_cells q2
      obtain ⟨z0, z1, z2, z3, z4, z5, _⟩ := six_cells q3
      obtain ⟨u0, u1, u2, u3, u4, u5, _⟩ := six_cells v1
      have HH := hide' (And.intro q1 (And.intro q2 (And.intro q3 (And.intro v1 (And.intro v2 (And.intro qr (And.intro hI.tur (And.intro hD (And.intro e1 e2)))))))))
      have HM := hide' (And.intro hMid.tur (And.intro hMid.sz hd))
      clear q1 q2 q3 v1 v2 v3 qr hI hD hMid hd e1 e2 hS f1 f2 hl3 hbl
      go_upto_region 17 with fail
      go_region
      obtain ⟨q1, q2, q3, v1, v2, qr, tI, hD, e1, e2⟩ := HH.out
      obtain ⟨Wf, hWf, k1, k2, t66⟩ := set66 W' (b0 + 1) (b0 + 1 + 1) (by omega) _ _ _ _ _ _ _ _ _ _ _ _ (.slice sa1 ta.length sc1) (.int .i64 i1) (.int .i64 i2) (.int .i64 i3) (.string wo1) (.bool false) (.slice sa2 tb.length sc2) (.int .i64 j1) (.int .i64 j2) (.int .i64 j3) (.string wo2) (.bool false) 39 39 q1 q2
      rw [← hWf]
      obtain ⟨tM, hsz, hd⟩ := HM.out
      have hb0 := Hb0.out
      have h1w := (Array.getElem?_eq_some_iff.1 q3).1
      have hzI := tI.size
      have rA : Wf.ownsRow w1.heap.size 52 4 (.slice sa1 ta.length sc1) ta.length (ta.flatMap cells4) := t66.row qr (fun g hg q => by have := qr.lt g hg; omega)
      have rB : Wf.ownsRow (W.heap.size + 2) 52 4 (.slice sa2 tb.length sc2) tb.length (tb.flatMap cells4) := t66.row v2 (fun g hg q => by have := v2.lt g hg; omega)
      have hDf : Wf.heap[W.heap.size]? = some (.deferred (some [])) := (t66.block _ (Array.getElem?_eq_some_iff.1 hD).1 (by omega)).trans hD
      have tAll : Turn (fun k => w.heap.size ≤ k) w Wf := ((Tw1.out.then tM (fun i hi q => by omega)).then tI (fun i hi q => by have := Tw1.out.size; omega)).then t66 (fun i hi q => by omega)
      have HF : ∀ Wz, Turn (fun k => w1.heap.size ≤ k ∧ ∃ o, Wf.heap[k]? = some (.deferred o)) Wf Wz → Wz.heap[b0 + 1]? = Wf.heap[b0 + 1]? ∧ Wz.heap[b0 + 1 + 1]? = Wf.heap[b0 + 1 + 1]? ∧ Rd (.slice sa1 ta.length sc1) ta Wz ∧ Rd (.slice sa2 tb.length sc2) tb Wz ∧ Below w.heap.size w Wz := by
        intro Wz tz
        refine ⟨tz.block _ (Array.getElem?_eq_some_iff.1 k1).1 (fun q => by obtain ⟨_, o, ho⟩ := q; rw [k1] at ho; cases ho), tz.block _ (Array.getElem?_eq_some_iff.1 k2).1 (fun q => by obtain ⟨_, o, ho⟩ := q; rw [k2] at ho; cases ho), rd_row (row_dead rA tz), rd_row (row_dead rB tz), ?_⟩
        exact (tAll.then tz (fun i hi q => by have := Tw1.out.size; omega)).below (fun k q => q) (Nat.le_refl _)
      have HF := hide' HF
      replace hd : d = [] ∨ ∃ n, d = [{ target := .collected n, args := #[] }] ∧ w1.heap.size ≤ n ∧ n < W.heap.size ∧ Wf.heap[n]? = some (.deferred (some [])) := by
        rcases hd with hd | ⟨n, h1, h2, h3⟩
        · exact .inl hd
        · have h4 := (Array.getElem?_eq_some_iff.1 h3).1
          exact .inr ⟨n, h1, h2, h4, (t66.block n (by omega) (by have := Tw1.out.size; omega)).trans ((tI.block n h4 (by omega)).trans h3)⟩
      have HD := hide' (And.intro hDf (And.intro k1 (And.intro k2 (And.intro hd (And.intro hzI (And.intro hsz t66.size))))))
      have HE := hide' (And.intro e1 e2)
      clear q1 q2 q3 v1 v2 qr tI hD e1 e2 hWf k1 k2 t66 tM hsz hd hb0 h1w hzI rA rB hDf tAll
      clear x0 x1 x2 x3 x4 x5 x6 x7 x8 x9 x10 x11 y0 y1 y2 y3 y4 y5 y6 y7 y8 y9 y10 y11 z0 z1 z2 z3 z4 z5 u0 u1 u2 u3 u4 u5
      go_wp2
      refine ⟨by simp, .inl ⟨_, _, rfl, run_takeDeferred HD.out.1, ?_⟩⟩
      have p1 : Turn (fun k => w1.heap.size ≤ k ∧ ∃ o, Wf.heap[k]? = some (.deferred o)) Wf (Wf.putObj W.heap.size (.deferred none)) := (turn_putObj _ _ _).mono fun k _ q => ⟨by have := HD.out.2.2.2.2.2.1; omega, some [], by rw [q]; exact HD.out.1⟩
      rcases HD.out.2.2.2.1 with rfl | ⟨n, rfl, hn, hnl, hdn⟩
      · obtain ⟨f1, f2, f3, f4, f5⟩ := HF.out _ p1
        refine ⟨_, resultsWW rfl _ _ (b0 + 1) (b0 + 1 + 1) _ _ _ _ _ _ _ _ _ _ _ _ 39 39 rfl (f1.trans HD.out.2.1) rfl (f2.trans HD.out.2.2.1), _, _, ?_, f3, f4, f5⟩
        rw [wentV_eq, wentV_eq, HE.out.1, HE.out.2]
      · have hd2 : (Wf.putObj W.heap.size (.deferred none)).heap[n]? = some (.deferred (some [])) := (World.putObj_heap_other (by omega)).trans hdn
        refine ⟨by simp, .inl ⟨_, _, rfl, run_takeDeferred hd2, ?_⟩⟩
        have p2 := p1.then (turn_putObj (Wf.putObj W.heap.size (.deferred none)) n (.deferred none)) (fun i hi q => ⟨by omega, some [], by rw [q]; exact hdn⟩)
        obtain ⟨f1, f2, f3, f4, f5⟩ := HF.out _ p2
        refine ⟨_, resultsWW rfl _ _ (b0 + 1) (b0 + 1 + 1) _ _ _ _ _ _ _ _ _ _ _ _ 39 39 rfl (f1.trans HD.out.2.1) rfl (f2.trans HD.out.2.2.1), _, _, ?_, f3, f4, f5⟩
        rw [wentV_eq, wentV_eq, HE.out.1, HE.out.2]
    case stop => intro c pre W' _ h _; exact h.elim
  have HB := hide' HB
  clear hK1
  have hb0 := Hb0.out
  subst hb0
  obtain ⟨c0, c1, c2, c3, c4, cz⟩ := Hfive.out
  by_cases hm0 : 0 < most
  · have e1 : decide (0 < most) = true := by simpa using hm0
    rw [if_pos hm0] at HB
    obtain ⟨Wn, hWn⟩ : ∃ Wn, Wn = w1.alloc (.cells #[.int .i64 0] 3) := ⟨_, rfl⟩
    have bn : Below w1.heap.size w1 Wn := by rw [hWn]; exact (Below.refl _ _).alloc (Nat.le_refl _) _
    have n9 : Wn.heap[w1.heap.size]? = some (.cells #[.int .i64 0] 3 (0, 0)) := by rw [hWn]; exact heap_alloc_new _ _
    have nz : Wn.heap.size = w1.heap.size + 1 := by rw [hWn]; simp
    have x0 : w1.cell? ⟨w.heap.size, 0, none⟩ = some (.int .i64 most) := by rw [Lib.cell_of_heap c0]; rfl
    have HN := hide' (And.intro bn (And.intro n9 nz))
    have HWn := hide' hWn
    clear hWn bn n9 nz hm0
    go_wp2
    rw [← HWn.out]
    obtain ⟨bn, n9, nz⟩ := HN.out
    obtain ⟨b9, hb9⟩ : ∃ b, b = w1.heap.size := ⟨_, rfl⟩
    rw [← hb9]
    rw [← hb9] at n9
    have h9w : w1.heap.size ≤ b9 ∧ b9 ≤ w1.heap.size := by omega
    have nzw : Wn.heap.size ≤ w1.heap.size + 1 ∧ w1.heap.size + 1 ≤ Wn.heap.size := by omega
    have d0 := (bn.block _ (by omega)).trans c0
    have d1 := (bn.block _ (by omega)).trans c1
    have d2 := (bn.block _ (by omega)).trans c2
    have d3 := (bn.block _ (by omega)).trans c3
    have d4 := (bn.block _ (by omega)).trans c4
    have tn : Turn (fun k => k = w.heap.size + 1 + 1 + 1 ∨ w1.heap.size ≤ k) w1 Wn := turn_below bn
    have hm1 : (0 : Int) < most := by simpa using e1
    clear hb9 nz
    have hbl : w.heap.size + 1 + 1 + 1 < Wn.heap.size := by omega
    have h9l : b9 < Wn.heap.size := by omega
    have hMid : ∀ (W' : World) (v : Value) (xs : List El), W'.heap[w.heap.size + 1 + 1 + 1]? = some (.cells (wcl v (fltOf xs)).toArray 39 (0, 0)) → W'.ownsRow (Wn.heap.size + 2) 52 4 v (toks xs).length ((toks xs).flatMap cells4) → Turn (fun k => k = w.heap.size + 1 + 1 + 1 ∨ k = b9 ∨ Wn.heap.size ≤ k) Wn W' →
        toks xs = (took (scnL) most.toNat).1 → fltOf xs = (took (scnL) most.toNat).2 → Mid w w1 w.heap.size most (took (scnL) most.toNat).1 (took (scnL) most.toNat).2 v W' := by
      intro W' v xs hv hr ht h1 h2
      rw [← h1, ← h2]
      exact ⟨(ht.block _ (by omega) (by omega)).trans d0, (ht.block _ (by omega) (by omega)).trans d1, (ht.block _ (by omega) (by omega)).trans d2, hv, (ht.block _ (by omega) (by omega)).trans d4, row_down hr (by omega), tn.then ht (fun i hi q => by omega), by have := ht.size; omega⟩
    refine (wpIn_wide (n := 9)).1 ?_
    obtain ⟨tm, htm⟩ : ∃ tm : El → Nat → Act, tm = fun x bx => { tmps := #[.string s, .int .i64 most, undef, .pointer (some ⟨w.heap.size, 0, none⟩), .pointer (some ⟨w.heap.size + 1, 0, none⟩), .pointer (some ⟨w.heap.size + 1 + 1, 0, none⟩), .pointer (some ⟨w.heap.size + 1 + 1 + 1, 0, none⟩), .pointer (some ⟨w.heap.size + 1 + 1 + 1 + 1, 0, none⟩), .func (.func 28) #[] #[], .pointer (some ⟨b9, 0, none⟩), .pointer (some ⟨bx, 0, none⟩), x.err, undef,
          undef, .string s, .func (.func 28) #[] #[], .func (.func 28) #[] #[], .bool false, undef, undef,
          .int .i64 most, .bool true, .func (.func 28) #[] #[], x.agg, x.err, undef, undef, undef, undef, undef, undef, undef, undef, undef, undef, undef, undef, undef, undef, undef, undef, undef, undef], defers := [] } := ⟨_, rfl⟩
    refine range_ownL (F := Fence.wide) (n := 9) rfl (by omega) (gf := 28) (lb := #[]) rfl trivial (enters_of Tryz.func28 (by kernel_rfl) rfl)
      (Hin.out Wn) (fun x => by cases x <;> rfl) ?hM (fun b pre W' => GI Wn (w.heap.size + 1 + 1 + 1) b9 (fun pre => (pre.length : Int)) b pre W' ∧ (pre.length : Int) < most) (GX Wn (w.heap.size + 1 + 1 + 1) b9 most.toNat) (fun b pre x N0 a W' => Wn.heap.size + 2 ≤ b ∧ GA Wn (w.heap.size + 1 + 1 + 1) b9 (fun pre => (pre.length : Int)) tm b pre x N0 a W' ∧ (pre.length : Int) < most) ?hI0
      (fun b pre W1 W2 hb h t => ⟨h.1.turn hb hbl h9l t, h.2⟩) (fun c pre W1 W2 h t => h.turn hbl t) (fun b pre x N0 a' W1 W2 h t => ⟨h.1, h.2.1.turn h.1 hbl h9l t, h.2.2⟩) ?assign ?body ?done ?stop
    case hM =>
      rintro b hb hM
      rcases hM with hM | hM
      · omega
      · exact hM.elim
    case hI0 =>
      intro b W' hb hbl' hW
      exact ⟨GI.start d3 n9 hb hbl' hW, by simpa using hm1⟩
    case assign =>
      rintro l b pre x W0 Wy K hb hW0 hlen hsp hrec ⟨hI, hlt⟩ hby hhas hK
      have ba := hby
      have hyz := hby.size
      have hpre := Htl.out.ahead pre x hsp
      have fin : ∀ (cs : Array Value), cs = x.cells.toArray → GA Wn (w.heap.size + 1 + 1 + 1) b9 (fun pre => (pre.length : Int)) tm b pre x W0.heap.size (tm x Wy.heap.size) (Wy.alloc (.cells cs 52)) := by
        rintro _ rfl
        have bb : Below Wy.heap.size Wy (Wy.alloc (.cells x.cells.toArray 52)) := (Below.refl _ _).alloc (Nat.le_refl _) _
        have b2 : Below W0.heap.size W0 (Wy.alloc (.cells x.cells.toArray 52)) := ba.trans (bb.mono ba.size)
        have hgi := hI.turn hb hbl h9l (turn_below (S := fun k => k = b ∨ k = Wn.heap.size + 1) b2)
        refine ⟨hgi, hpre.1, ?_, ?_, by have := Hfew.out; omega, ⟨by simp; omega, by omega⟩, ⟨Wy.heap.size, rfl, by omega, ?_⟩⟩
        · rintro fb code l c word rfl
          obtain ⟨r, hr⟩ := hrec
          have hh : Wy.heap[fb]? = some (.cells #[.int .i64 code, .int .i64 l, .int .i64 c, .string word] 25 (0, 0)) := hhas.1
          refine ⟨hpre.2 fb code l c word rfl, (bb.block fb (Array.getElem?_eq_some_iff.1 hh).1).trans hh, fun e => ?_⟩
          rw [← e, hh] at hr; cases hr
        · intro v hv g hg
          obtain ⟨v', e1, e2, _⟩ := hI.cel
          rw [b2.block (w.heap.size + 1 + 1 + 1) (by omega), e1, fltOf_all hpre.1] at hv
          have : v' = v := by
            injection hv with hv; injection hv with hv _ _
            simp [wcl] at hv
            exact hv
          subst this
          exact (e2.lt g hg).2
        · have := heap_alloc_new Wy (.cells x.cells.toArray 52)
          simpa using this
      have hK2 := fun a' cs (ha : a' = tm x Wy.heap.size) (hc : cs = x.cells.toArray) => hK a' (Wy.alloc (.cells cs 52)) ((Below.refl _ _).alloc (Nat.le_refl _) _) ⟨by omega, ha ▸ fin cs hc, hlt⟩
      have HK := hide' hK2
      clear hK hK2 fin ba hI hrec hhas hpre hsp hMid hlt
      rw [htm] at HK
      cases x with
      | tok k t lx cx =>
        unfold El.encs tokV
        gi_wp2
        exact HK.out _ _ rfl rfl
      | flt fb code lx cx word =>
        unfold El.encs
        gi_wp2
        exact HK.out _ _ rfl rfl
    case body =>
      rintro l b pre x N0 a' W2 hb hrec ⟨hb2, hA, hlt⟩
      obtain ⟨gi, tok, cod, row, few, n0, ⟨bx, hact, hbx, hblk⟩⟩ := hA
      subst hact
      rw [htm]
      obtain ⟨v, v1, v2, v3⟩ := gi.cel
      rw [fltOf_all tok] at v1
      have sz := gi.sz
      have htl : (toks pre).length ≤ 65536 := by rw [toks_all tok, List.length_map]; exact few
      have hMT : ∀ k, ML b k → k = b ∨ (w.heap.size + 5 ≤ k ∧ k < w1.heap.size) := by
        rintro k (hk | hk)
        · exact Or.inl hk
        · exact hk.elim
      have h0w := Hg00.out
      have hg2 : W2.cell? ⟨0, 0, none⟩ = some (ty 29) := by
        have h0 : 0 < w1.heap.size := lt_of_cell Hg0.out
        have h1 := (bn.cell (p := ⟨0, 0, none⟩) h0).trans Hg0.out
        refine (gi.tur.cell (p := ⟨0, 0, none⟩) (lt_of_cell h1) ?_).trans h1
        show ¬ (0 = _ ∨ 0 = _ ∨ _ ≤ 0)
        omega
      have g0 := (gi.tur.block w.heap.size (by omega) (by omega)).trans d0
      have y20 : W2.cell? ⟨w.heap.size, 0, none⟩ = some (.int .i64 most) := by rw [Lib.cell_of_heap g0]; rfl
      have y21 : W2.cell? ⟨b9, 0, none⟩ = some (.int .i64 (pre.length : Int)) := by rw [Lib.cell_of_heap gi.cnt]; rfl
      obtain ⟨so, scp, rfl⟩ := row_form v2
      obtain ⟨z0, z1, z2, z3, z4, z5, _⟩ := six_cells (show W2.heap[w.heap.size + 1 + 1 + 1]? = some (.cells #[.slice so (toks pre).length scp, .int .i64 0, .int .i64 0, .int .i64 0, .string ⟨#[]⟩, .bool false] 39 (0, 0)) from v1)
      have hn1 : w.heap.size + 1 + 1 + 1 ≠ b9 := by omega
      have hn1' := hn1.symm
      have hn2 : w.heap.size ≠ b9 := by omega
      have hn2' := hn2.symm
      have ewr : wrap64 ((pre.length : Int) + 1) = ((pre.length + 1 : Nat) : Int) := wk1' (by omega)
      have hpl : ((pre.length + 1 : Nat) : Int) = (pre.length : Int) + 1 := by omega
      obtain ⟨np, hnp⟩ : ∃ n, n = ((pre.length + 1 : Nat) : Int) := ⟨_, rfl⟩
      rw [← hnp] at ewr
      have Hnp := hide' (And.intro hnp hpl)
      clear hpl hnp
      obtain ⟨lp, hlp⟩ : ∃ n, n = (pre.length : Int) := ⟨_, rfl⟩
      have Hlp := hide' hlp
      rw [← hlp] at ewr y21
      clear hlp
      have hcase : (np == most) = decide (np = most) := by by_cases h : np = most <;> simp [h]
      cases x with
      | tok k t lx cx =>
        obtain ⟨x0, x1, x2, x3, _⟩ := Tk.of_cells (show W2.heap[bx]? = some (.cells #[.int .i8 k, .string t, .int .i64 lx, .int .i64 cx] 52 (0, 0)) from hblk)
        have HC := hide' (with_tok _ (toks pre) (k, t, lx, cx) (Wn.heap.size + 2) W2 v2 sz (by omega))
        unfold wentV at HC
        simp only at HC
        rw [show (cells4 (k, t, lx, cx)).toArray = #[.int .i8 k, .string t, .int .i64 lx, .int .i64 cx] from rfl] at HC
        have HH := hide' (And.intro gi (And.intro v1 (And.intro v2 (And.intro v3 (And.intro (row _ v1) (And.intro n0 (And.intro hMT (And.intro g0 hlt))))))))
        clear gi v1 v2 v3 row n0 hMT cod hblk hrec few htl sz hg2 g0 hlt
        simp only [El.err, El.agg, El.cells]
        by_cases hlast : np = most
        · have ec : (np == most) = true := by simpa using hlast
          have Hla := hide' hlast
          clear hcase hlast
          gi_wp2_with (refine ⟨trivial, ?_⟩; gi_at_call 25; refine (CallsIn.inRound l (callsIn_wide.2 HC.out)).mono ?_; rintro e w3 ⟨nv, rfl, r3, t3, o3⟩; obtain ⟨no, ncp, rfl⟩ := row_form r3; have k3 := (t3.block (w.heap.size + 1 + 1 + 1) (Array.getElem?_eq_some_iff.1 HH.out.2.1).1 (fun q => by have := (HH.out.2.2.1.lt _ q).1; omega)).trans HH.out.2.1; obtain ⟨y0, y1, y2, y3, y4, y5, y6, y7, y8, y9, y10, y11⟩ := six_cells (show w3.heap[w.heap.size + 1 + 1 + 1]? = some (.cells #[.slice so (toks pre).length scp, .int .i64 0, .int .i64 0, .int .i64 0, .string ⟨#[]⟩, .bool false] 39 (0, 0)) from k3); have m0 : w3.cell? ⟨w.heap.size, 0, none⟩ = some (.int .i64 most) := (t3.cell (p := ⟨w.heap.size, 0, none⟩) (lt_of_cell y20) (fun q => by have := (HH.out.2.2.1.lt _ q).1; simp at this; omega)).trans y20; have m1 : w3.cell? ⟨b9, 0, none⟩ = some (.int .i64 lp) := (t3.cell (p := ⟨b9, 0, none⟩) (lt_of_cell y21) (fun q => by have := (HH.out.2.2.1.lt _ q).1; simp at this; omega)).trans y21; have m2 : w3.frozen? ⟨b9, 0, none⟩ = false := (by have h9 := (t3.block b9 (Array.getElem?_eq_some_iff.1 HH.out.1.cnt).1 (fun q => by have := (HH.out.2.2.1.lt _ q).1; omega)).trans HH.out.1.cnt; exact Lib.frozen_of_heap h9 0); have H3 := hide' (And.intro r3 (And.intro t3 o3)); clear k3 r3 t3 o3)
          have hlast := Hla.out
          obtain ⟨gi, v1, v2, v3, row, n0, hMT, g0, hlt⟩ := HH.out
          obtain ⟨r3, t3, o3⟩ := H3.out
          have PP := gi.put (pre' := pre ++ [.tok k t lx cx]) hb2 hbl h9l (by omega) v1 (fun g hg => ⟨v3 g hg, (v2.lt g hg).1⟩) t3 (by rw [toks_tok, List.length_append, List.flatMap_append]; simpa using r3) o3 (by rw [fltOf_snoc]; rfl) rfl
          obtain ⟨hnp, hpl⟩ := Hnp.out
          obtain ⟨P4, Q2, P3⟩ := GI.counted (cn' := fun pre => (pre.length : Int)) PP hbl h9l (by omega) np (by rw [hnp]; simp)
          refine ⟨fun k hk => Q2 k (by have := gi.sz; omega) (by omega) (by omega) (fun q => by have := (v2.lt _ q).1; omega), P4.stop ?_⟩
          simp
          omega
        · have ec : (np == most) = false := by simpa using hlast
          have Hla := hide' hlast
          clear hcase hlast
          gi_wp2_with (refine ⟨trivial, ?_⟩; gi_at_call 25; refine (CallsIn.inRound l (callsIn_wide.2 HC.out)).mono ?_; rintro e w3 ⟨nv, rfl, r3, t3, o3⟩; obtain ⟨no, ncp, rfl⟩ := row_form r3; have k3 := (t3.block (w.heap.size + 1 + 1 + 1) (Array.getElem?_eq_some_iff.1 HH.out.2.1).1 (fun q => by have := (HH.out.2.2.1.lt _ q).1; omega)).trans HH.out.2.1; obtain ⟨y0, y1, y2, y3, y4, y5, y6, y7, y8, y9, y10, y11⟩ := six_cells (show w3.heap[w.heap.size + 1 + 1 + 1]? = some (.cells #[.slice so (toks pre).length scp, .int .i64 0, .int .i64 0, .int .i64 0, .string ⟨#[]⟩, .bool false] 39 (0, 0)) from k3); have m0 : w3.cell? ⟨w.heap.size, 0, none⟩ = some (.int .i64 most) := (t3.cell (p := ⟨w.heap.size, 0, none⟩) (lt_of_cell y20) (fun q => by have := (HH.out.2.2.1.lt _ q).1; simp at this; omega)).trans y20; have m1 : w3.cell? ⟨b9, 0, none⟩ = some (.int .i64 lp) := (t3.cell (p := ⟨b9, 0, none⟩) (lt_of_cell y21) (fun q => by have := (HH.out.2.2.1.lt _ q).1; simp at this; omega)).trans y21; have m2 : w3.frozen? ⟨b9, 0, none⟩ = false := (by have h9 := (t3.block b9 (Array.getElem?_eq_some_iff.1 HH.out.1.cnt).1 (fun q => by have := (HH.out.2.2.1.lt _ q).1; omega)).trans HH.out.1.cnt; exact Lib.frozen_of_heap h9 0); have H3 := hide' (And.intro r3 (And.intro t3 o3)); clear k3 r3 t3 o3)
          obtain ⟨gi, v1, v2, v3, row, n0, hMT, g0, hlt⟩ := HH.out
          obtain ⟨r3, t3, o3⟩ := H3.out
          have PP := gi.put (pre' := pre ++ [.tok k t lx cx]) hb2 hbl h9l (by omega) v1 (fun g hg => ⟨v3 g hg, (v2.lt g hg).1⟩) t3 (by rw [toks_tok, List.length_append, List.flatMap_append]; simpa using r3) o3 (by rw [fltOf_snoc]; rfl) rfl
          obtain ⟨hnp, hpl⟩ := Hnp.out
          obtain ⟨P4, Q2, P3⟩ := GI.counted (cn' := fun pre => (pre.length : Int)) PP hbl h9l (by omega) np (by rw [hnp]; simp)
          have hlast := Hla.out
          refine ⟨fun k hk => Q2 k (by have := gi.sz; omega) (by omega) (by omega) (fun q => by have := (v2.lt _ q).1; omega), ⟨P3, fun k hk hl => Q2 k hl ?_ ?_ ?_⟩, P4, by simp; omega⟩
          · rcases hk with hk | hk
            · rcases hMT k hk with hk | hk <;> omega
            · omega
          · rcases hk with hk | hk
            · rcases hMT k hk with hk | hk <;> omega
            · omega
          · intro q
            have q1 := (v2.lt k q).1
            have q2 := v3 k q
            have q3 := row k q
            rcases hk with hk | hk
            · rcases hMT k hk with hk | hk <;> omega
            · omega
      | flt fb code lx cx word =>
        obtain ⟨x0, x1, x2, x3, _⟩ := Tk.of_cells (show W2.heap[bx]? = some (.cells #[.int .i8 0, .string ByteArray.empty, .int .i64 0, .int .i64 0] 52 (0, 0)) from hblk)
        obtain ⟨hc0, hF, hfl⟩ := cod fb code lx cx word rfl
        have HC := hide' (with_flt (.slice so (toks pre).length scp) fb code lx cx word W2 hF hg2 hc0 ⟨_, _, _, rfl⟩)
        unfold wentV at HC
        simp only at HC
        have HH := hide' (And.intro gi (And.intro v1 (And.intro v2 (And.intro v3 (And.intro (row _ v1) (And.intro n0 (And.intro hMT (And.intro g0 hlt))))))))
        clear gi v1 v2 v3 row n0 hMT cod hblk hrec few htl sz hg2 hF hfl hc0 g0 hlt
        simp only [El.err, El.agg, El.cells]
        by_cases hlast : np = most
        · have ec : (np == most) = true := by simpa using hlast
          have Hla := hide' hlast
          clear hcase hlast
          gi_wp2_with (refine ⟨trivial, ?_⟩; gi_at_call 25; refine (CallsIn.inRound l (callsIn_wide.2 HC.out)).mono ?_; rintro e w3 ⟨rfl, bel3⟩; have k3 := (bel3.block (w.heap.size + 1 + 1 + 1) (Array.getElem?_eq_some_iff.1 HH.out.2.1).1).trans HH.out.2.1; obtain ⟨y0, y1, y2, y3, y4, y5, y6, y7, y8, y9, y10, y11⟩ := six_cells (show w3.heap[w.heap.size + 1 + 1 + 1]? = some (.cells #[.slice so (toks pre).length scp, .int .i64 0, .int .i64 0, .int .i64 0, .string ⟨#[]⟩, .bool false] 39 (0, 0)) from k3); have m0 : w3.cell? ⟨w.heap.size, 0, none⟩ = some (.int .i64 most) := (bel3.cell (p := ⟨w.heap.size, 0, none⟩) (lt_of_cell y20)).trans y20; have m1 : w3.cell? ⟨b9, 0, none⟩ = some (.int .i64 lp) := (bel3.cell (p := ⟨b9, 0, none⟩) (lt_of_cell y21)).trans y21; have m2 : w3.frozen? ⟨b9, 0, none⟩ = false := (by have h9 := (bel3.block b9 (Array.getElem?_eq_some_iff.1 HH.out.1.cnt).1).trans HH.out.1.cnt; exact Lib.frozen_of_heap h9 0); have H3 := hide' bel3; clear k3 bel3)
          have hlast := Hla.out
          obtain ⟨gi, v1, v2, v3, row, n0, hMT, g0, hlt⟩ := HH.out
          have bel3 := H3.out
          have PP := gi.put (pre' := pre ++ [.flt fb code lx cx word]) hb2 hbl h9l (by omega) v1 (fun g hg => ⟨v3 g hg, (v2.lt g hg).1⟩) (turn_below bel3) (by rw [toks_flt]; exact (turn_below (S := fun _ => False) bel3).row v2 (fun _ _ q => q)) (fun q e => .inl e) (by rw [fltOf_snoc]; rfl) rfl
          obtain ⟨hnp, hpl⟩ := Hnp.out
          obtain ⟨P4, Q2, P3⟩ := GI.counted (cn' := fun pre => (pre.length : Int)) PP hbl h9l (by omega) np (by rw [hnp]; simp)
          refine ⟨fun k hk => Q2 k (by have := gi.sz; omega) (by omega) (by omega) (fun q => by have := (v2.lt _ q).1; omega), P4.stop ?_⟩
          simp
          omega
        · have ec : (np == most) = false := by simpa using hlast
          have Hla := hide' hlast
          clear hcase hlast
          gi_wp2_with (refine ⟨trivial, ?_⟩; gi_at_call 25; refine (CallsIn.inRound l (callsIn_wide.2 HC.out)).mono ?_; rintro e w3 ⟨rfl, bel3⟩; have k3 := (bel3.block (w.heap.size + 1 + 1 + 1) (Array.getElem?_eq_some_iff.1 HH.out.2.1).1).trans HH.out.2.1; obtain ⟨y0, y1, y2, y3, y4, y5, y6, y7, y8, y9, y10, y11⟩ := six_cells (show w3.heap[w.heap.size + 1 + 1 + 1]? = some (.cells #[.slice so (toks pre).length scp, .int .i64 0, .int .i64 0, .int .i64 0, .string ⟨#[]⟩, .bool false] 39 (0, 0)) from k3); have m0 : w3.cell? ⟨w.heap.size, 0, none⟩ = some (.int .i64 most) := (bel3.cell (p := ⟨w.heap.size, 0, none⟩) (lt_of_cell y20)).trans y20; have m1 : w3.cell? ⟨b9, 0, none⟩ = some (.int .i64 lp) := (bel3.cell (p := ⟨b9, 0, none⟩) (lt_of_cell y21)).trans y21; have m2 : w3.frozen? ⟨b9, 0, none⟩ = false := (by have h9 := (bel3.block b9 (Array.getElem?_eq_some_iff.1 HH.out.1.cnt).1).trans HH.out.1.cnt; exact Lib.frozen_of_heap h9 0); have H3 := hide' bel3; clear k3 bel3)
          obtain ⟨gi, v1, v2, v3, row, n0, hMT, g0, hlt⟩ := HH.out
          have bel3 := H3.out
          have PP := gi.put (pre' := pre ++ [.flt fb code lx cx word]) hb2 hbl h9l (by omega) v1 (fun g hg => ⟨v3 g hg, (v2.lt g hg).1⟩) (turn_below bel3) (by rw [toks_flt]; exact (turn_below (S := fun _ => False) bel3).row v2 (fun _ _ q => q)) (fun q e => .inl e) (by rw [fltOf_snoc]; rfl) rfl
          obtain ⟨hnp, hpl⟩ := Hnp.out
          obtain ⟨P4, Q2, P3⟩ := GI.counted (cn' := fun pre => (pre.length : Int)) PP hbl h9l (by omega) np (by rw [hnp]; simp)
          have hlast := Hla.out
          refine ⟨fun k hk => Q2 k (by have := gi.sz; omega) (by omega) (by omega) (fun q => by have := (v2.lt _ q).1; omega), ⟨P3, fun k hk hl => Q2 k hl ?_ ?_ ?_⟩, P4, by simp; omega⟩
          · rcases hk with hk | hk
            · rcases hMT k hk with hk | hk <;> omega
            · omega
          · rcases hk with hk | hk
            · rcases hMT k hk with hk | hk <;> omega
            · omega
          · intro q
            have q1 := (v2.lt k q).1
            have q2 := v3 k q
            have q3 := row k q
            rcases hk with hk | hk
            · rcases hMT k hk with hk | hk <;> omega
            · omega
    case done =>
      rintro b xs W' hb hS ⟨hI, hlt⟩ hD
      obtain ⟨v, v1, v2, v3⟩ := hI.cel
      have htk : took (scnL) most.toNat = scnL := by
        unfold took
        have := Htl.out.len xs hS
        rw [if_pos (by omega)]
      have hM2 := hMid W' v xs v1 v2 hI.tur (by rw [htk]; exact (Htl.out.full xs hS).1) (by rw [htk]; exact (Htl.out.full xs hS).2)
      have HM2 := hide' hM2
      have HD := hide' hD
      clear hM2 hD hMid hI v1 v2 v3 htk
      go_wp2
      exact HB.out _ _ _ _ _ _ _ HM2.out (.inr ⟨_, rfl, by omega, HD.out⟩)
    case stop =>
      intro c pre W' hSp hX hD
      have hc := hX.c
      subst hc
      obtain ⟨v, v1, v2⟩ := hX.cel
      obtain ⟨p1, p2⟩ := Htl.out.part pre hSp
      rw [hX.len] at p1 p2
      have hM2 := hMid W' v pre v1 v2 hX.tur p1 p2
      have HM2 := hide' hM2
      have HD := hide' hD
      clear hM2 hD hMid hX v1 v2
      refine wpIn_wide.2 ?_
      go_wp2
      exact HB.out _ _ _ _ _ _ _ HM2.out (.inr ⟨_, rfl, by omega, HD.out⟩)
  · have e1 : decide (0 < most) = false := by simpa using hm0
    have hMid : Mid w w1 w.heap.size most (if 0 < most then took (scnL) most.toNat else ([], none)).1 (if 0 < most then took (scnL) most.toNat else ([], none)).2 (.slice none 0 0) w1 := by
      rw [if_neg hm0]
      exact ⟨c0, c1, c2, c3, c4, World.ownsRow_nil _ _ _ _, Turn.refl _ _, Nat.le_refl _⟩
    have x0 : w1.cell? ⟨w.heap.size, 0, none⟩ = some (.int .i64 most) := by rw [Lib.cell_of_heap c0]; rfl
    have HMid := hide' hMid
    clear hMid c0 c1 c2 c3 c4 hm0
    go_wp2
    exact HB.out _ _ _ _ [] _ _ HMid.out (.inl rfl)
end Go.Proofs.YtnlopepbcnegbaaGreatDoor
