import Derived.Test.YtnlopepbcnegbaaGreatDoorScW
import Derived.Test.YtnlopepbcnegbaaGreatDoorJF
set_option linter.unusedVariables false
set_option linter.unusedSimpArgs false
namespace Go.Proofs.YtnlopepbcnegbaaGreatDoor
open Go.RowKit
namespace Sx
/-- the error that stands for a fault -/
def ErrIs (ev : Value) (rf : Option Flw) (w : World) : Prop :=
  match rf with
  | none => ev = .nilIface
  | some f => ∃ fb, ev = .iface 58 (.pointer (some ⟨fb, 0, none⟩)) ∧ Flt fb f.1 f.2.1 f.2.2.1 f.2.2.2 w
theorem ErrIs.below {ev : Value} {rf : Option Flw} {w w' : World} (h : ErrIs ev rf w) (b : Below w.heap.size w w') : ErrIs ev rf w' := by
  cases rf with
  | none => exact h
  | some f =>
    obtain ⟨fb, h1, h2⟩ := h
    exact ⟨fb, h1, (b.block fb (Array.getElem?_eq_some_iff.1 h2).1).trans h2⟩
/-- what the program's Scan leaves -/
def Left (r : List Tkn × Option Flw) (w : World) (e : Ending) (w' : World) : Prop :=
  ∃ ao cap ev, e = .returned (.tuple #[.slice ao (scanV r).length cap, ev]) ∧ RowT w.heap.size ao cap (scanV r) w' ∧ ErrIs ev r.2 w' ∧ Below w.heap.size w w'
theorem scan_as (s : ByteArray) (w : World) (hz : s.size ≤ 65536) : Calls Tryz.prog 9 #[.string s] w (Left (L.scn s) w) := by
  refine (scan_fun s w hz).mono ?_
  rintro e w' ⟨h, b⟩
  unfold ScanIs at h
  unfold Left scanV ErrIs
  generalize L.scn s = r at *
  obtain ⟨rt, rf⟩ := r
  cases rf with
  | none =>
    obtain ⟨sv, rfl, h2⟩ := h
    obtain ⟨ao, cap, rfl⟩ := row_form h2
    exact ⟨ao, cap, _, rfl, h2, rfl, b⟩
  | some f =>
    obtain ⟨fb, rfl, h2, h3⟩ := h
    exact ⟨none, 0, _, rfl, World.ownsRow_nil _ _ _ _, ⟨fb, rfl, h3⟩, b⟩
theorem scan_as_long (s : ByteArray) (w : World) (hz : 65536 < s.size) (hm : s.size ≤ maxLen) : Calls Tryz.prog 9 #[.string s] w (Left scnL w) := by
  refine (scan_long s w hz hm).mono ?_
  rintro e w' ⟨fb, rfl, h2, h3, b⟩
  exact ⟨none, 0, _, rfl, World.ownsRow_nil _ _ _ _, ⟨fb, rfl, h3⟩, b⟩
theorem told_as (ev : Value) (rf : Option Flw) (w : World) (h : ErrIs ev rf w) (hg : w.cell? ⟨0, 0, none⟩ = some (ty 29)) :
    Calls Tryz.prog 10 #[ev] w fun e w' => e = .returned (.tuple #[fltV rf, .bool true]) ∧ Below w.heap.size w w' := by
  cases rf with
  | none =>
    have h' : ev = .nilIface := h
    subst h'
    exact told_nil w
  | some f =>
    obtain ⟨fb, rfl, h2⟩ := h
    exact told_flt fb _ _ _ _ w h2 hg
def six6 {α : Type} (a b c d e f : α) : Nat → α
  | 0 => a
  | 1 => b
  | 2 => c
  | 3 => d
  | 4 => e
  | _ => f
theorem six_all {P : Nat → Prop} (h0 : P 0) (h1 : P 1) (h2 : P 2) (h3 : P 3) (h4 : P 4) (h5 : P 5) : ∀ i, i < 6 → P i := by
  intro i hi
  match i, hi with
  | 0, _ => exact h0
  | 1, _ => exact h1
  | 2, _ => exact h2
  | 3, _ => exact h3
  | 4, _ => exact h4
  | 5, _ => exact h5
theorem dj_six {G : Nat → Rw} {l : Nat → Nat} (hl : ∀ i, i < 6 → l i ≤ l (i + 1)) (h : ∀ i, i < 6 → ∀ j, At (G i).ao j → l i ≤ j ∧ j < l (i + 1)) : Dj 6 G := by
  have h0 := hl 0 (by omega)
  have h1 := hl 1 (by omega)
  have h2 := hl 2 (by omega)
  have h3 := hl 3 (by omega)
  have h4 := hl 4 (by omega)
  have h5 := hl 5 (by omega)
  have up : ∀ i k, i < k → k < 6 → l (i + 1) ≤ l k := by
    intro i k hik
    induction k with
    | zero => omega
    | succ k ih =>
      intro hk
      by_cases e : i = k
      · subst e; exact Nat.le_refl _
      · exact Nat.le_trans (ih (by omega) (by omega)) (hl k (by omega))
  intro i hi k hk j a b
  have q1 := h i hi j a
  have q2 := h k hk j b
  rcases Nat.lt_trichotomy i k with e | e | e
  · have := up i k e hk; omega
  · exact e
  · have := up k i e hi; omega
theorem RowT.at_ {B : Nat} {ao : Option Addr} {cap : Nat} {S : List Tkn} {w : World} (h : RowT B ao cap S w) {j : Nat} (hj : At ao j) : B ≤ j ∧ j < w.heap.size := by
  obtain ⟨h1, _, cs, r, h2⟩ := row_kind h hj
  exact ⟨h1, lt_of_heap h2⟩
theorem RowT.down {B B' : Nat} {ao : Option Addr} {cap : Nat} {S : List Tkn} {w : World} (h : RowT B ao cap S w) (hB : B' ≤ B) : RowT B' ao cap S w := row_down h hB
theorem RowT.below {B : Nat} {ao : Option Addr} {cap : Nat} {S : List Tkn} {w w' : World} (h : RowT B ao cap S w) (b : Below w.heap.size w w') : RowT B ao cap S w' := h.kept (turn_below (S := fun _ => False) b) (fun _ _ q => q)
/-- two slices of six slices, made one behind the other -/
theorem two_six (V : World) (G U : Nat → Rw) :
    let W := (V.alloc (.cells #[(G 0).v, (G 1).v, (G 2).v, (G 3).v, (G 4).v, (G 5).v] 22)).alloc (.cells #[(U 0).v, (U 1).v, (U 2).v, (U 3).v, (U 4).v, (U 5).v] 22)
    Sl W (some ⟨V.heap.size, 0, none⟩) 6 (fun i => (G i).v) ∧ Sl W (some ⟨V.heap.size + 1, 0, none⟩) 6 (fun i => (U i).v) ∧ Below V.heap.size V W := by
  intro W
  obtain ⟨h1, h2, b⟩ := wents_new V (.cells #[(G 0).v, (G 1).v, (G 2).v, (G 3).v, (G 4).v, (G 5).v] 22) (.cells #[(U 0).v, (U 1).v, (U 2).v, (U 3).v, (U 4).v, (U 5).v] 22)
  refine ⟨.inr ⟨_, 0, _, _, rfl, h1, ?_⟩, .inr ⟨_, 0, _, _, rfl, h2, ?_⟩, b⟩
  · exact fun j hj => six_all (P := fun j => W.cell? ⟨V.heap.size, 0 + j, none⟩ = some (G j).v) (by rw [Lib.cell_of_heap h1]; rfl) (by rw [Lib.cell_of_heap h1]; rfl) (by rw [Lib.cell_of_heap h1]; rfl) (by rw [Lib.cell_of_heap h1]; rfl) (by rw [Lib.cell_of_heap h1]; rfl) (by rw [Lib.cell_of_heap h1]; rfl) j hj
  · exact fun j hj => six_all (P := fun j => W.cell? ⟨V.heap.size + 1, 0 + j, none⟩ = some (U j).v) (by rw [Lib.cell_of_heap h2]; rfl) (by rw [Lib.cell_of_heap h2]; rfl) (by rw [Lib.cell_of_heap h2]; rfl) (by rw [Lib.cell_of_heap h2]; rfl) (by rw [Lib.cell_of_heap h2]; rfl) (by rw [Lib.cell_of_heap h2]; rfl) j hj
end Sx
end Go.Proofs.YtnlopepbcnegbaaGreatDoor
set_option linter.unusedVariables false
set_option linter.unusedSimpArgs false
namespace Go.Proofs.YtnlopepbcnegbaaGreatDoor
open Go.RowKit
attribute [local go_sem] Oper.semAt_some
namespace Sx
set_option maxRecDepth 100000 in
set_option maxHeartbeats 20000000 in
theorem law_any (s t : ByteArray) (w : World) (r q : List Tkn × Option Flw) (ht : t = ⟨#[114, 111, 108, 101, 32, 114, 44, 32, 34, 116, 119, 111, 32, 119, 111, 114, 100, 115, 34, 59]⟩) (hg0 : w.cell? ⟨0, 0, none⟩ = some (ty 29)) (hl : r.1.length ≤ 69000) (hlq : q.1.length ≤ 69000)
    (hs8 : ∀ W, Calls Tryz.prog 8 #[.string s] W fun e w' => ∃ sv, e = .returned (.tuple #[sv, fltV r.2]) ∧ w'.ownsRow W.heap.size 52 4 sv (scanV r).length ((scanV r).flatMap cells4) ∧ Below W.heap.size W w')
    (ht8 : ∀ W, Calls Tryz.prog 8 #[.string t] W fun e w' => ∃ sv, e = .returned (.tuple #[sv, fltV q.2]) ∧ w'.ownsRow W.heap.size 52 4 sv (scanV q).length ((scanV q).flatMap cells4) ∧ Below W.heap.size W w')
    (hs9 : ∀ W, Calls Tryz.prog 9 #[.string s] W (Left r W)) (ht9 : ∀ W, Calls Tryz.prog 9 #[.string t] W (Left q W)) :
    Calls Tryz.prog 3 #[.string s] w fun e w' => e = .returned (.bool true) ∧ Below w.heap.size w w' := by
  obtain ⟨xs, hxs⟩ : ∃ xs, xs = scanV r := ⟨_, rfl⟩
  obtain ⟨ys, hys⟩ : ∃ ys, ys = scanV q := ⟨_, rfl⟩
  have hlx : xs.length ≤ 69000 := by rw [hxs]; unfold scanV; split <;> (first | exact hl | simp)
  have hly : ys.length ≤ 69000 := by rw [hys]; unfold scanV; split <;> (first | exact hlq | simp)
  have HL := hide' (And.intro hlx hly)
  unfold Left at hs9 ht9
  rw [← hxs] at hs8 hs9
  rw [← hys] at ht8 ht9
  obtain ⟨c, l, k, wo, f1, f2, f3, f4⟩ := flt_form r.2
  obtain ⟨c2, l2, k2, wo2, g1, g2, g3, g4⟩ := flt_form q.2
  rw [f1] at hs8
  rw [g1] at ht8
  have TA := hide' (fun ev W => told_as ev r.2 W)
  rw [f1] at TA
  have S8 := hide' hs8
  have T8 := hide' ht8
  have S9 := hide' hs9
  have T9 := hide' ht9
  have HG := hide' hg0
  generalize r.2 = rf at *
  generalize q.2 = qf at *
  clear hs8 ht8 hs9 ht9 hg0 hxs hys f1 f2 f3 f4 g1 g2 g3 g4 hl hlq hlx hly
  subst ht
  go_enter Tryz.func3, Tryz.ntmps3
  go_upto_region 1 with fail
  go_upto_region 2 with (go_at_call 8; refine (S8.out _).mono ?_; rintro e w1 ⟨sv, rfl, r1, b1⟩; obtain ⟨oa, ca, rfl⟩ := row_form r1; have H1 := hide' (And.intro r1 b1); clear r1 b1)
  obtain ⟨W1, hW1⟩ : ∃ W, W = w1.alloc (.cells #[.int .i64 c, .int .i64 l, .int .i64 k, .string wo] 25) := ⟨_, rfl⟩
  have k1 : Tk w1.heap.size (.int .i64 c) (.int .i64 l) (.int .i64 k) (.string wo) W1 := by rw [hW1]; exact Tk.of_cells (heap_alloc_new _ _)
  have c1 : Below w1.heap.size w1 W1 := by rw [hW1]; exact (Below.refl _ _).alloc (Nat.le_refl _) _
  rw [← hW1]
  obtain ⟨bf, hbf⟩ : ∃ b, b = w1.heap.size := ⟨_, rfl⟩
  rw [← hbf]
  rw [← hbf] at k1
  have K1 := hide' (And.intro k1 (And.intro c1 hbf))
  clear k1 c1 hbf hW1
  go_upto_region 3 with (go_at_call 8; refine (T8.out _).mono ?_; rintro e w2 ⟨sv2, rfl, r2, b2⟩; obtain ⟨ob, cb, rfl⟩ := row_form r2; have H2 := hide' (And.intro r2 b2); clear r2 b2)
  obtain ⟨W2, hW2⟩ : ∃ W, W = w2.alloc (.cells #[.int .i64 c2, .int .i64 l2, .int .i64 k2, .string wo2] 25) := ⟨_, rfl⟩
  have c2' : Below w2.heap.size w2 W2 := by rw [hW2]; exact (Below.refl _ _).alloc (Nat.le_refl _) _
  rw [← hW2]
  have K2 := hide' c2'
  clear c2' hW2
  have G2 := hide' (show W2.cell? ⟨0, 0, none⟩ = some (ty 29) from ((((H1.out.2.trans (K1.out.2.1.mono H1.out.2.size)).trans (H2.out.2.mono (Nat.le_trans H1.out.2.size K1.out.2.1.size))).trans (K2.out.mono (Nat.le_trans H1.out.2.size (Nat.le_trans K1.out.2.1.size H2.out.2.size)))).cell (p := ⟨0, 0, none⟩) (lt_of_cell HG.out)).trans HG.out)
  go_upto_region 4 with (go_at_call 9; refine (S9.out _).mono ?_; rintro e w3 ⟨o0, q0, ev, rfl, r3, e3, b3⟩; have H3 := hide' (And.intro r3 (And.intro e3 b3)); clear r3 e3 b3)
  have G3 := hide' ((H3.out.2.2.cell (p := ⟨0, 0, none⟩) (lt_of_cell G2.out)).trans G2.out)
  go_upto_region 5 with (go_at_call 10; refine (TA.out _ _ H3.out.2.1 G3.out).mono ?_; rintro e w4 ⟨rfl, b4⟩; have H4 := hide' b4; clear b4)
  obtain ⟨W4, hW4⟩ : ∃ W, W = w4.alloc (.cells #[.int .i64 c, .int .i64 l, .int .i64 k, .string wo] 25) := ⟨_, rfl⟩
  have k4 : Tk w4.heap.size (.int .i64 c) (.int .i64 l) (.int .i64 k) (.string wo) W4 ∧ ∃ cs r, W4.heap[w4.heap.size]? = some (.cells cs 25 r) := by rw [hW4]; exact ⟨Tk.of_cells (heap_alloc_new _ _), _, _, heap_alloc_new _ _⟩
  have c4 : Below w4.heap.size w4 W4 := by rw [hW4]; exact (Below.refl _ _).alloc (Nat.le_refl _) _
  rw [← hW4]
  obtain ⟨bg, hbg⟩ : ∃ b, b = w4.heap.size := ⟨_, rfl⟩
  rw [← hbg]
  rw [← hbg] at k4
  have K4 := hide' (And.intro k4 (And.intro c4 hbg))
  clear k4 c4 hbg hW4
  go_upto_region 6 with (go_at_call 9; refine (S9.out _).mono ?_; rintro e w5 ⟨o1, q1, ev1, rfl, r5, e5, b5⟩; have H5 := hide' (And.intro r5 b5); clear r5 e5 b5)
  go_upto_region 7 with (go_at_call 9; refine (T9.out _).mono ?_; rintro e w6 ⟨o2, q2, ev2, rfl, r6, e6, b6⟩; have H6 := hide' (And.intro r6 b6); clear r6 e6 b6)
  go_upto_region 8 with (go_at_call 9; refine (T9.out _).mono ?_; rintro e w7 ⟨o3, q3, ev3, rfl, r7, e7, b7⟩; have H7 := hide' (And.intro r7 b7); clear r7 e7 b7)
  go_upto_region 9 with (go_at_call 9; refine (S9.out _).mono ?_; rintro e w8 ⟨o4, q4, ev4, rfl, r8, e8, b8⟩; have H8 := hide' (And.intro r8 b8); clear r8 e8 b8)
  go_upto_region 10 with (go_at_call 9; refine (S9.out _).mono ?_; rintro e w9 ⟨o5, q5, ev5, rfl, r9, e9, b9⟩; have H9 := hide' (And.intro r9 b9); clear r9 e9 b9)
  obtain ⟨G, hG⟩ : ∃ G : Nat → Rw, G = six6 ⟨o0, xs.length, q0⟩ ⟨o1, xs.length, q1⟩ ⟨o2, ys.length, q2⟩ ⟨o3, ys.length, q3⟩ ⟨o4, xs.length, q4⟩ ⟨o5, xs.length, q5⟩ := ⟨_, rfl⟩
  obtain ⟨U, hU⟩ : ∃ U : Nat → Rw, U = six6 ⟨oa, xs.length, ca⟩ ⟨oa, xs.length, ca⟩ ⟨ob, ys.length, cb⟩ ⟨ob, ys.length, cb⟩ ⟨oa, xs.length, ca⟩ ⟨oa, xs.length, ca⟩ := ⟨_, rfl⟩
  obtain ⟨X, hX⟩ : ∃ X : Nat → List Tkn, X = six6 xs xs ys ys xs xs := ⟨_, rfl⟩
  have z1 := H1.out.2.size
  have z2 := K1.out.2.1.size
  have z3 := H2.out.2.size
  have z4 := K2.out.size
  have z5 := H3.out.2.2.size
  have z6 := H4.out.size
  have z7 := K4.out.2.1.size
  have z8 := H5.out.2.size
  have z9 := H6.out.2.size
  have z10 := H7.out.2.size
  have z11 := H8.out.2.size
  have z12 := H9.out.2.size
  have t6 := two_six w9 G U
  have b9W : Below W4.heap.size W4 w9 := (((H5.out.2.trans (H6.out.2.mono (by omega))).trans (H7.out.2.mono (by omega))).trans (H8.out.2.mono (by omega))).trans (H9.out.2.mono (by omega))
  have b9 : Below W2.heap.size W2 w9 := ((H3.out.2.2.trans (H4.out.mono (by omega))).trans (K4.out.2.1.mono (by omega))).trans (b9W.mono (by omega))
  have b91 : Below w1.heap.size w1 w9 := ((K1.out.2.1.trans (H2.out.2.mono (by omega))).trans (K2.out.mono (by omega))).trans (b9.mono (by omega))
  have bAll : Below w.heap.size w w9 := H1.out.2.trans (b91.mono (by omega))
  have kf : Tk bf (.int .i64 c) (.int .i64 l) (.int .i64 k) (.string wo) w9 := ((K1.out.1.below H2.out.2).below K2.out).below b9
  have kg : Tk bg (.int .i64 c) (.int .i64 l) (.int .i64 k) (.string wo) w9 := K4.out.1.1.below b9W
  have kgh : ∃ cs r, w9.heap[bg]? = some (.cells cs 25 r) := by
    obtain ⟨cs, r, h⟩ := K4.out.1.2
    exact ⟨cs, r, (b9W.block bg (Array.getElem?_eq_some_iff.1 h).1).trans h⟩
  have hIn : ∀ Wx, Below w9.heap.size w9 Wx → Sl Wx (some ⟨w9.heap.size, 0, none⟩) 6 (fun i => (G i).v) → Sl Wx (some ⟨w9.heap.size + 1, 0, none⟩) 6 (fun i => (U i).v) → In W2.heap.size 6 G U X (some ⟨w9.heap.size, 0, none⟩) (some ⟨w9.heap.size + 1, 0, none⟩) Wx := by
    intro Wx bx s1 s2
    have zx := bx.size
    have u1 : Rd (.slice oa xs.length ca) xs Wx := ((rd_row H1.out.1).below b91).below bx
    have u2 : Rd (.slice ob ys.length cb) ys Wx := (((rd_row H2.out.1).below K2.out).below b9).below bx
    have a1 : ∀ g, At oa g → g < W2.heap.size := fun g hg => by have := (RowT.at_ H1.out.1 hg).2; omega
    have a2 : ∀ g, At ob g → g < W2.heap.size := fun g hg => by have := (RowT.at_ H2.out.1 hg).2; omega
    refine ⟨by omega, s1, s2, ?_, ?_⟩
    · rw [hG, hX]
      exact six_all (P := fun i => (six6 xs xs ys ys xs xs i).length = (six6 (⟨o0, xs.length, q0⟩ : Rw) ⟨o1, xs.length, q1⟩ ⟨o2, ys.length, q2⟩ ⟨o3, ys.length, q3⟩ ⟨o4, xs.length, q4⟩ ⟨o5, xs.length, q5⟩ i).len ∧ RowT W2.heap.size (six6 (⟨o0, xs.length, q0⟩ : Rw) ⟨o1, xs.length, q1⟩ ⟨o2, ys.length, q2⟩ ⟨o3, ys.length, q3⟩ ⟨o4, xs.length, q4⟩ ⟨o5, xs.length, q5⟩ i).ao (six6 (⟨o0, xs.length, q0⟩ : Rw) ⟨o1, xs.length, q1⟩ ⟨o2, ys.length, q2⟩ ⟨o3, ys.length, q3⟩ ⟨o4, xs.length, q4⟩ ⟨o5, xs.length, q5⟩ i).cap (six6 xs xs ys ys xs xs i) Wx)
        ⟨rfl, (((H3.out.1.below H4.out).below K4.out.2.1).below b9W).below bx⟩
        ⟨rfl, (((((H5.out.1.below H6.out.2).below H7.out.2).below H8.out.2).below H9.out.2).below bx).down (by omega)⟩
        ⟨rfl, ((((H6.out.1.below H7.out.2).below H8.out.2).below H9.out.2).below bx).down (by omega)⟩
        ⟨rfl, (((H7.out.1.below H8.out.2).below H9.out.2).below bx).down (by omega)⟩
        ⟨rfl, ((H8.out.1.below H9.out.2).below bx).down (by omega)⟩
        ⟨rfl, (H9.out.1.below bx).down (by omega)⟩
    · rw [hU, hX]
      exact six_all (P := fun i => Rd (six6 (⟨oa, xs.length, ca⟩ : Rw) ⟨oa, xs.length, ca⟩ ⟨ob, ys.length, cb⟩ ⟨ob, ys.length, cb⟩ ⟨oa, xs.length, ca⟩ ⟨oa, xs.length, ca⟩ i).v (six6 xs xs ys ys xs xs i) Wx ∧ ∀ g, At (six6 (⟨oa, xs.length, ca⟩ : Rw) ⟨oa, xs.length, ca⟩ ⟨ob, ys.length, cb⟩ ⟨ob, ys.length, cb⟩ ⟨oa, xs.length, ca⟩ ⟨oa, xs.length, ca⟩ i).ao g → g < W2.heap.size)
        ⟨u1, a1⟩ ⟨u1, a1⟩ ⟨u2, a2⟩ ⟨u2, a2⟩ ⟨u1, a1⟩ ⟨u1, a1⟩
  have hD : Dj 6 G := by
    refine dj_six (l := fun i => match i with | 0 => W2.heap.size | 1 => W4.heap.size | 2 => w5.heap.size | 3 => w6.heap.size | 4 => w7.heap.size | 5 => w8.heap.size | _ => w9.heap.size) ?_ ?_
    · exact six_all (P := fun i => (match i with | 0 => W2.heap.size | 1 => W4.heap.size | 2 => w5.heap.size | 3 => w6.heap.size | 4 => w7.heap.size | 5 => w8.heap.size | _ => w9.heap.size) ≤ (match i + 1 with | 0 => W2.heap.size | 1 => W4.heap.size | 2 => w5.heap.size | 3 => w6.heap.size | 4 => w7.heap.size | 5 => w8.heap.size | _ => w9.heap.size)) (by show W2.heap.size ≤ W4.heap.size; omega) (by show W4.heap.size ≤ w5.heap.size; omega) (by show w5.heap.size ≤ w6.heap.size; omega) (by show w6.heap.size ≤ w7.heap.size; omega) (by show w7.heap.size ≤ w8.heap.size; omega) (by show w8.heap.size ≤ w9.heap.size; omega)
    · rw [hG]
      intro i hi j hj
      match i, hi with
      | 0, _ => have := RowT.at_ H3.out.1 hj; exact ⟨this.1, show j < W4.heap.size by omega⟩
      | 1, _ => exact RowT.at_ H5.out.1 hj
      | 2, _ => exact RowT.at_ H6.out.1 hj
      | 3, _ => exact RowT.at_ H7.out.1 hj
      | 4, _ => exact RowT.at_ H8.out.1 hj
      | 5, _ => exact RowT.at_ H9.out.1 hj
  have hL : ∀ i, i < 6 → (X i).length ≤ 70000 := by
    rw [hX]
    exact six_all (P := fun i => (six6 xs xs ys ys xs xs i).length ≤ 70000) (by have := HL.out.1; show xs.length ≤ _; omega) (by have := HL.out.1; show xs.length ≤ _; omega) (by have := HL.out.2; show ys.length ≤ _; omega) (by have := HL.out.2; show ys.length ≤ _; omega) (by have := HL.out.1; show xs.length ≤ _; omega) (by have := HL.out.1; show xs.length ≤ _; omega)
  obtain ⟨Wx, hWx⟩ : ∃ W, W = (w9.alloc (.cells #[.slice o0 xs.length q0, .slice o1 xs.length q1, .slice o2 ys.length q2, .slice o3 ys.length q3, .slice o4 xs.length q4, .slice o5 xs.length q5] 22)).alloc (.cells #[.slice oa xs.length ca, .slice oa xs.length ca, .slice ob ys.length cb, .slice ob ys.length cb, .slice oa xs.length ca, .slice oa xs.length ca] 22) := ⟨_, rfl⟩
  have t6' : Sl Wx (some ⟨w9.heap.size, 0, none⟩) 6 (fun i => (G i).v) ∧ Sl Wx (some ⟨w9.heap.size + 1, 0, none⟩) 6 (fun i => (U i).v) ∧ Below w9.heap.size w9 Wx := by
    rw [hWx]
    have h := t6
    rw [hG, hU] at h ⊢
    exact h
  have HI := hide' (hIn Wx t6'.2.2 t6'.1 t6'.2.1)
  have HX := hide' (And.intro t6'.2.2 hWx)
  have HA := hide' (apart_any (some ⟨w9.heap.size, 0, none⟩) (some ⟨w9.heap.size + 1, 0, none⟩) 6 6 G U X Wx (by omega) HI.out hD hL)
  have HF := hide' (And.intro kf (And.intro kg (And.intro kgh (And.intro b9 (And.intro b91 bAll)))))
  have Hz := hide' (And.intro z1 (And.intro z2 (And.intro z3 (And.intro z4 (And.intro z5 (And.intro z6 (And.intro z7 (And.intro z8 (And.intro z9 (And.intro z10 (And.intro z11 z12)))))))))))
  obtain ⟨x0, x1, x2, x3, _⟩ := kf
  obtain ⟨y0, y1, y2, y3, _⟩ := kg
  have HU := hide' (And.intro hU hX)
  clear z1 z2 z3 z4 z5 z6 z7 z8 z9 z10 z11 z12 t6 t6' hWx hG hU hX hIn hD hL kgh b9 b91 bAll b9W
  go_upto_region 12 with (go_at_call 11; rw [← HX.out.2]; refine HA.out.mono ?_; rintro e w10 ⟨rfl, t10⟩; have T10 := hide' t10; clear t10)
  have Z : Hid (W2.heap.size ≤ w9.heap.size ∧ w.heap.size ≤ W2.heap.size ∧ w9.heap.size ≤ Wx.heap.size ∧ Wx.heap.size ≤ w10.heap.size ∧ bg < w9.heap.size ∧ W2.heap.size ≤ bg ∧ bf < W2.heap.size ∧ w1.heap.size ≤ W2.heap.size ∧ w.heap.size ≤ bg) := hide' (by
    have h1 := HX.out.1.size
    have h2 := T10.out.size
    have h3 := lt_of_cell HF.out.2.1.c0
    have h4 := lt_of_cell K1.out.1.c0
    obtain ⟨a1, a2, a3, a4, a5, a6, a7, a8, a9, a10, a11, a12⟩ := Hz.out
    have h5 := K4.out.2.2
    simp only at h3 h4
    refine ⟨?_, ?_, h1, h2, h3, ?_, ?_, ?_, ?_⟩ <;> omega)
  have hDs : ∀ j, Ds 6 G j → W2.heap.size ≤ j := fun j hj => (HI.out.rows.kind hj).1
  have hf10 : ¬ Ds 6 G bf := fun q => by have := hDs _ q; have := Z.out.2.2.2.2.2.2.1; omega
  have hg10 : ¬ Ds 6 G bg := fun q => by
    obtain ⟨_, _, cs, r, h⟩ := HI.out.rows.kind q
    obtain ⟨cs', r', h'⟩ := HF.out.2.2.1
    have h2 := (HX.out.1.block bg (by have := Z.out; omega)).trans h'
    exact cells_ne h h2 (by decide) rfl
  have kf := hide' ((HF.out.1.below HX.out.1).turn T10.out hf10)
  have kg := hide' ((HF.out.2.1.below HX.out.1).turn T10.out hg10)
  have u1 : Hid (Rd (.slice oa xs.length ca) xs w10) := hide' (rd_turn (((rd_row H1.out.1).below HF.out.2.2.2.2.1).below HX.out.1) T10.out (fun g hg q => by have h1 := (RowT.at_ H1.out.1 (own_at hg)).2; have h2 := hDs _ q; have h3 := Z.out; omega))
  have hoa : Hid (∀ g, At oa g → g < w1.heap.size) := hide' (fun g hg => (RowT.at_ H1.out.1 hg).2)
  have G10 : Hid (w10.cell? ⟨0, 0, none⟩ = some (ty 29)) := hide' (by
    have h0 : 0 < w.heap.size := lt_of_cell HG.out
    have h1 := (HF.out.2.2.2.2.2.cell (p := ⟨0, 0, none⟩) (lt_of_cell HG.out)).trans HG.out
    have h2 := (HX.out.1.cell (p := ⟨0, 0, none⟩) (lt_of_cell h1)).trans h1
    exact (T10.out.cell (p := ⟨0, 0, none⟩) (lt_of_cell h2) (fun q => by have := hDs _ q; have := Z.out; simp only at *; omega)).trans h2)
  have b10 : Hid (Below w.heap.size w w10) := hide' ((HF.out.2.2.2.2.2.trans (HX.out.1.mono HF.out.2.2.2.2.2.size)).trans (T10.out.below (fun j hj => by have := hDs _ hj; have := Z.out; omega) (by have := Z.out; omega)))
  clear x0 x1 x2 x3 y0 y1 y2 y3 hDs hf10 hg10
  go_upto_region 13 with (go_at_call 9; refine (S9.out _).mono ?_; rintro e w11 ⟨o6, q6, ev6, rfl, r11, e11, b11⟩; have H11 := hide' (And.intro r11 (And.intro e11 b11)); clear r11 e11 b11)
  have G11 := hide' ((H11.out.2.2.cell (p := ⟨0, 0, none⟩) (lt_of_cell G10.out)).trans G10.out)
  have Hg11 := hide' (kg.out.below H11.out.2.2)
  have Hf11 := hide' (kf.out.below H11.out.2.2)
  go_upto_region 14 with (go_at_call 10; refine (TA.out _ _ H11.out.2.1 G11.out).mono ?_; rintro e w12 ⟨rfl, b12⟩; have H12 := hide' b12; have kk := Hg11.out.below b12; obtain ⟨y0, y1, y2, y3, _⟩ := kk; obtain ⟨y4, y5, y6, y7⟩ := (Hg11.out.below b12).frz; clear b12)
  obtain ⟨W13, hW13⟩ : ∃ W, W = (((w12.setCell ⟨bg, 0, none⟩ (.int .i64 c)).setCell ⟨bg, 1, none⟩ (.int .i64 l)).setCell ⟨bg, 2, none⟩ (.int .i64 k)).setCell ⟨bg, 3, none⟩ (.string wo) := ⟨_, rfl⟩
  have t13 : Turn (fun j => j = bg) w12 W13 := by
    rw [hW13]
    exact ((((Turn.refl (fun j => j = bg) w12).setCell (p := ⟨bg, 0, none⟩) (fun _ => rfl) _).setCell (p := ⟨bg, 1, none⟩) (fun _ => rfl) _).setCell (p := ⟨bg, 2, none⟩) (fun _ => rfl) _).setCell (p := ⟨bg, 3, none⟩) (fun _ => rfl) _
  have kg13 : Tk bg (.int .i64 c) (.int .i64 l) (.int .i64 k) (.string wo) W13 := by rw [hW13]; exact (Hg11.out.below H12.out).set _ _ _ _
  have kf13 : Tk bf (.int .i64 c) (.int .i64 l) (.int .i64 k) (.string wo) W13 := (Hf11.out.below H12.out).turn t13 (fun e => by have := Z.out; omega)
  have z11 := H11.out.2.2.size
  have z12 := H12.out.size
  have uz : Rd (.slice o6 xs.length q6) xs W13 := rd_turn ((rd_row H11.out.1).below H12.out) t13 (fun g hg e => by have h1 := (RowT.at_ H11.out.1 (own_at hg)).1; have h2 := Z.out; omega)
  have uw : Rd (.slice oa xs.length ca) xs W13 := rd_turn ((u1.out.below H11.out.2.2).below H12.out) t13 (fun g hg e => by have h1 := hoa.out g (own_at hg); have h2 := Z.out; omega)
  have HS := hide' (same_any uz uw (by have := HL.out.1; omega))
  have b13 : Hid (Below w.heap.size w W13) := hide' (((b10.out.trans (H11.out.2.2.mono b10.out.size)).trans (H12.out.mono (Nat.le_trans b10.out.size z11))).trans (t13.below (fun j hj => by have := Z.out; omega) (Nat.le_trans b10.out.size (Nat.le_trans z11 z12))))
  rw [← hW13]
  clear y0 y1 y2 y3 y4 y5 y6 y7 hW13 t13 uz uw z11 z12
  obtain ⟨x0, x1, x2, x3, _⟩ := kf13
  obtain ⟨y0, y1, y2, y3, _⟩ := kg13
  go_wp2_with (go_at_call 12; refine HS.out.mono ?_; rintro e w14 ⟨rfl, b14⟩)
  go_ret
  exact ⟨rfl, b13.out.trans (b14.mono b13.out.size)⟩
/-- the law, of every text -/
theorem scan_law (s : ByteArray) (w : World) (hs : s.size ≤ maxLen) (hg0 : w.cell? ⟨0, 0, none⟩ = some (ty 29)) :
    Calls Tryz.prog 3 #[.string s] w fun e w' => e = .returned (.bool true) ∧ Below w.heap.size w w' := by
  have ht : (⟨#[114, 111, 108, 101, 32, 114, 44, 32, 34, 116, 119, 111, 32, 119, 111, 114, 100, 115, 34, 59]⟩ : ByteArray).size ≤ 65536 := by decide
  have ft := scn_facts _ ht
  have c8 := fun W => rscan_of _ W (L.scn ⟨#[114, 111, 108, 101, 32, 114, 44, 32, 34, 116, 119, 111, 32, 119, 111, 114, 100, 115, 34, 59]⟩) ft.2 (fun W => rcut_any _ W ht)
  have c9 := fun W => scan_as _ W ht
  by_cases hz : s.size ≤ 65536
  · have fs := scn_facts s hz
    exact law_any s _ w (L.scn s) _ rfl hg0 fs.1 ft.1 (fun W => rscan_of s W _ fs.2 (fun W => rcut_any s W hz)) c8 (fun W => scan_as s W hz) c9
  · have hcode : ∀ x, scnL.2 = some x → x.1 ≠ 0 := fun x h => by
      have h' : some (5, 0, 0, (⟨#[]⟩ : ByteArray)) = some x := h
      simp only [Option.some.injEq] at h'
      rw [← h']; decide
    refine law_any s _ w scnL _ rfl hg0 (by decide) ft.1 (fun W => rscan_of s W _ hcode (fun W => ?_)) c8 (fun W => scan_as_long s W (by omega) hs) c9
    refine (rcut_long s W (by omega) hs).mono ?_
    rintro e w' ⟨rfl, b⟩
    exact ⟨_, rfl, World.ownsRow_nil _ _ _ _, b⟩
end Sx
end Go.Proofs.YtnlopepbcnegbaaGreatDoor
