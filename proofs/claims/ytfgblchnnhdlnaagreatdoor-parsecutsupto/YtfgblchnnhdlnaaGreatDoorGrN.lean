import Derived.Test.YtfgblchnnhdlnaaGreatDoorGrM
import Derived.Deep.RegionHeld3
import Derived.Deep.AppendLies
import Derived.Deep.RegionLaw
set_option linter.unusedVariables false
set_option linter.unusedSimpArgs false
namespace Go.Proofs.YtfgblchnnhdlnaaGreatDoor
open Go.RowKit
variable {B b : Nat} {ts : List R.Tok} {v v' v'' : Value} {ln cl q : Int} {w w' w'' : World}
/-- the row with a token more, in its place -/
theorem put_core {k : Int} {s : ByteArray} {sa : Option Addr} {sc gg cap : Nat} {w1 : World} {o : Obj} (h : Ld B b ts (.slice sa ts.length sc) ln cl q w) (hown1 : w1.ownsRow B 44 4 (.slice (some ⟨gg, 0, none⟩) (ts.length + 1) cap) (ts.length + 1) (ts.flatMap cellsT ++ cellsT (k, s, ln, cl)))
    (hgrow : (w.alloc o).drew.grownBy w1 (Value.slice sa ts.length sc).ownBlock) (hat : (Value.slice sa ts.length sc).ownBlock = some gg ∨ gg = w.heap.size + 1) :
    Ld B b (ts ++ [(k, s, ln, cl)]) (.slice (some ⟨gg, 0, none⟩) (ts.length + 1) cap) ln cl q (w1.setCell ⟨b, 0, none⟩ (.slice (some ⟨gg, 0, none⟩) (ts.length + 1) cap)) ∧
      Lst b w (.slice sa ts.length sc) (w1.setCell ⟨b, 0, none⟩ (.slice (some ⟨gg, 0, none⟩) (ts.length + 1) cap)) (.slice (some ⟨gg, 0, none⟩) (ts.length + 1) cap) := by
  have lt := h.lt
  have hb1 : w1.heap[b]? = some (.cells #[.slice sa ts.length sc, .int .i64 ln, .int .i64 cl, .int .i64 q] 50 (0, 0)) :=
    (hgrow.block b (by show b < (w.alloc o).heap.size; simp; omega) (Ne.symm h.ne)).trans ((Below.heap_alloc _ _ _ lt).trans h.hb)
  have hgb : gg ≠ b := by
    rcases hat with q | q
    · intro e; exact h.ne (by rw [q, e])
    · omega
  have t1 : Turn (fun k => k = b) w1 (w1.setCell ⟨b, 0, none⟩ (.slice (some ⟨gg, 0, none⟩) (ts.length + 1) cap)) := (Turn.refl (fun k => k = b) w1).setCell (p := ⟨b, 0, none⟩) (fun _ => rfl) _
  refine ⟨⟨h.lo, ?_, ?_⟩, ?_, ?_⟩
  · rw [setCell_eq_setRow w1 b 0 _ 50 (0, 0) _ hb1]
    exact setRow_heap w1 b _ _ 50 (0, 0) hb1
  · rw [List.length_append, List.flatMap_append]
    have := t1.row hown1 (fun g hg e => by
      have : gg = g := by simpa [Value.ownBlock] using hg
      omega)
    simpa using this
  · have t0 : Turn (fun k => k = b ∨ (Value.slice sa ts.length sc).ownBlock = some k) w w1 := (((Turn.refl _ w).alloc o).drew).grown hgrow (fun k hk _ => .inr hk)
    exact t0.trans (t1.mono (fun k _ e => .inl e))
  · intro g hg
    have : gg = g := by simpa [Value.ownBlock] using hg
    subst this
    rcases hat with q | q
    · exact .inl q
    · exact .inr (by omega)
set_option maxRecDepth 100000 in
set_option maxHeartbeats 4000000 in
/-- one token more -/
theorem put_any (k : Int) (s : ByteArray) (h : Ld B b ts v ln cl q w) (few : ts.length + 1 ≤ R.lim) :
    Calls Tryz.prog 39 #[.pointer (some ⟨b, 0, none⟩), .int .i8 k, .string s] w fun e w' => e = .returned (.tuple #[]) ∧ ∃ v' ln' cl', Ld B b (ts ++ [(k, s, ln, cl)]) v' ln' cl' q w' ∧ Lst b w v w' v' := by
  obtain ⟨i0, hi0, hz0, hz1, hz2⟩ := info_parts info29
  obtain ⟨sa, sc, rfl⟩ := row_form h.row
  have c0 := h.c0
  have c1 := h.c1
  have c2 := h.c2
  have f0 := h.f 0
  have f1 := h.f 1
  have f2 := h.f 2
  have lt := h.lt
  have ne := h.ne
  have row := h.row
  have n1 : Hid (ts.length + 1 ≤ maxLen) := (show ts.length + 1 ≤ maxLen by unfold R.lim at few; unfold maxLen; omega)
  have n2 : Hid ((ts.length + 1) * 40 ≤ 140737488355328) := (show (ts.length + 1) * 40 ≤ 140737488355328 by unfold R.lim at few; omega)
  have hB := h.le
  have new0 := World.new_ne w ⟨b, 0, none⟩ c0
  have new1 := World.new_ne w ⟨b, 1, none⟩ c1
  have new2 := World.new_ne w ⟨b, 2, none⟩ c2
  have H := hide' h
  have fal : ∀ o, (w.alloc o).drew.frozen? ⟨b, 0, none⟩ = false := fun o => (World.frozen?_of_block (w := w) (Below.heap_alloc _ _ _ lt)).trans f0
  have cal : ∀ o k x, w.cell? ⟨b, k, none⟩ = some x → (w.alloc o).drew.cell? ⟨b, k, none⟩ = some x := fun o k x hx => (World.cell?_of_block (w := w) (Below.heap_alloc _ _ _ lt)).trans hx
  clear few h
  go_enter Tryz.func39, Tryz.ntmps39
  go_wp2_with fail
  go_region_law ((refine step_append_lies _ (by rfl) _ _ _ (by rfl) B 44 i0 _ 4 40 Tryz.underlying40 hi0 hz0 hz1 hz2 rfl (by omega) (.slice sa ts.length sc) ts.length (ts.flatMap cellsT) (by rfl) ((row.alloc _).drew) ⟨w.heap.size, 0, none⟩ 1 1 (cellsT (k, s, ln, cl)) (by rfl) (by rfl) (World.news_of_block (cs := #[.int .i8 k, .string s, .int .i64 ln, .int .i64 cl]) (t := 44) (fr := (0, 0)) (heap_alloc_new w _)) (by simp [cellsT, Value.oneCell']) (by omega) n1.out n2.out (by simp; omega) (w.heap.size + 1) (by simp) ?_; intro gg cap w1 hown1 hgrow hat hlt; have a0 := (hgrow.cell_far ⟨b, 0, none⟩ (by simp; omega) (Ne.symm ne)).trans (cal _ _ _ c0); have a0f := (hgrow.frozen_far ⟨b, 0, none⟩ (by simp; omega) (Ne.symm ne)).trans (fal _)))
  all_goals
    obtain ⟨L1, S1⟩ := put_core H.out hown1 hgrow hat
    generalize (w1.setCell ⟨b, 0, none⟩ (.slice (some ⟨gg, 0, none⟩) (ts.length + 1) cap)) = W at *
    have e1 := L1.c1
    have e2 := L1.c2
    have g1 := L1.f 1
    have g2 := L1.f 2
    have K := hide' (And.intro L1 S1)
    clear L1 S1 a0 a0f hown1 hgrow hat hlt c0 c1 c2 f0 f1 f2 fal cal new0 new1 new2 row ne
    go_wp2
    go_end0
    have L2 := K.out.1.set (k := 2) (x := .int .i64 (wrap64 (cl + 3))) rfl
    have L3 := L2.set (k := 1) (x := .int .i64 (wrap64 (ln + 1))) rfl
    exact ⟨rfl, _, _, _, L3, (K.out.2.trans (Lst.set _ _ _ _ _)).trans (Lst.set _ _ _ _ _)⟩
end Go.Proofs.YtfgblchnnhdlnaaGreatDoor
set_option linter.unusedVariables false
set_option linter.unusedSimpArgs false
namespace Go.Proofs.YtfgblchnnhdlnaaGreatDoor
open Go.RowKit
variable {B b : Nat} {ts : List R.Tok} {v v' v'' : Value} {ln cl q : Int} {w w' w'' : World}
set_option maxRecDepth 100000 in
set_option maxHeartbeats 4000000 in
theorem nkey_any (s : ByteArray) (w : World) :
    Calls Tryz.prog 60 #[.string s] w fun e w' => e = .returned (.bool (R.isKey s.toList)) ∧ w' = w := by
  go_enter Tryz.func60, Tryz.ntmps60
  go_wp2
  all_goals first
    | (exfalso; simp_all; done)
    | (go_ret; exact ⟨ret_bool (by simp [R.isKey, R.kindOf, *]), rfl⟩)
set_option maxRecDepth 100000 in
set_option maxHeartbeats 4000000 in
/-- a name more, and its word -/
theorem lname_any (s : ByteArray) (h : Ld B b ts v ln cl q w) (few : ts.length + 1 ≤ R.lim) :
    Calls Tryz.prog 40 #[.pointer (some ⟨b, 0, none⟩), .string s] w fun e w' => ∃ (t : R.Tok) (v' : Value) (ln' cl' q' : Int), e = .returned (wv (R.wdOf t)) ∧ t.2.1 = s ∧ R.isNm t = true ∧ Ld B b (ts ++ [t]) v' ln' cl' q' w' ∧ Lst b w v w' v' := by
  have c1 := h.c1
  have c2 := h.c2
  have lt := h.lt
  have new1 := World.new_ne w ⟨b, 1, none⟩ c1
  have H := hide' (And.intro h few)
  have HK := hide' (nkey_any s)
  clear few h
  go_enter Tryz.func40, Tryz.ntmps40
  go_wp2_with fail
  go_region_held3 (fun w' => w'.cell? ⟨b, 1, none⟩ = some (.int .i64 ln) ∧ w'.cell? ⟨b, 2, none⟩ = some (.int .i64 cl)) (first | go_keep) (fail)
  rename_i hHeld
  have b0 : Below w.heap.size w ((w.alloc (.cells #[.string ⟨#[]⟩, .int .i64 0, .int .i64 0] 55)).alloc (.cells #[.string s, .int .i64 ln, .int .i64 cl] 55)).drew := (((Below.refl _ _).alloc (Nat.le_refl _) _).alloc (by simp) _).drew
  have L0 := H.out.1.quiet b0
  have S0 := Lst.quiet (b := b) v b0
  have k0 : ((w.alloc (.cells #[.string ⟨#[]⟩, .int .i64 0, .int .i64 0] 55)).alloc (.cells #[.string s, .int .i64 ln, .int .i64 cl] 55)).drew.heap[w.heap.size]? = some (.cells #[.string ⟨#[]⟩, .int .i64 0, .int .i64 0] 55 (0, 0)) := (Below.heap_alloc _ _ _ (by simp)).trans (heap_alloc_new _ _)
  have k1 : ((w.alloc (.cells #[.string ⟨#[]⟩, .int .i64 0, .int .i64 0] 55)).alloc (.cells #[.string s, .int .i64 ln, .int .i64 cl] 55)).drew.heap[w.heap.size + 1]? = some (.cells #[.string s, .int .i64 ln, .int .i64 cl] 55 (0, 0)) := by
    have := heap_alloc_new (w.alloc (.cells #[.string ⟨#[]⟩, .int .i64 0, .int .i64 0] 55)) (.cells #[.string s, .int .i64 ln, .int .i64 cl] 55)
    rw [World.size_alloc] at this
    exact this
  clear hHeld
  generalize ((w.alloc (.cells #[.string ⟨#[]⟩, .int .i64 0, .int .i64 0] 55)).alloc (.cells #[.string s, .int .i64 ln, .int .i64 cl] 55)).drew = W0 at *
  have c3 := L0.c3
  have f3 := L0.f 3
  have K := hide' (And.intro L0 (And.intro S0 (And.intro k0 k1)))
  clear L0 S0 k0 k1 c1 c2 b0 new1
  go_wp2_with fail
  · refine (HK.out _).mono ?_
    rintro e w1 ⟨rfl, hw1⟩
    replace hw1 := hw1.symm
    subst hw1
    cases hky : R.isKey s.toList
    · go_wp2_with fail
      have LB := K.out.1.set (k := 3) (x := .int .i64 (wrap64 (q.tdiv 2))) rfl
      refine (put_any 1 s LB H.out.2).mono ?_
      rintro e w2 ⟨rfl, v2, l2, d2, L2, S2⟩
      have n0 : w.heap.size ≠ b := by omega
      have n1 : w.heap.size + 1 ≠ b := by omega
      have m0 := LB.block S2 ((Below.heap_setCell _ ⟨b, 3, none⟩ _ _ n0).trans K.out.2.2.1) (by decide) (by decide)
      have m1 := LB.block S2 ((Below.heap_setCell _ ⟨b, 3, none⟩ _ _ n1).trans K.out.2.2.2) (by decide) (by decide)
      have S02 := (K.out.2.1.trans (Lst.set b W0 v 3 (.int .i64 (wrap64 (q.tdiv 2))))).trans S2
      have t0 := Tri.of_cells m0
      have t1 := Tri.of_cells m1
      have y0 := t1.c0
      have y1 := t1.c1
      have y2 := t1.c2
      have z0 := t0.c0
      have z1 := t0.c1
      have z2 := t0.c2
      obtain ⟨u0, u1, u2⟩ := t0.frz
      have K2 := hide' (And.intro L2 (And.intro S02 (And.intro t0 m0)))
      clear L2 S02 t0 m0 m1 t1 LB S2 c3 f3 HK K
      go_wp2
      refine bodyPost_ret_by (results55 rfl _ _ w.heap.size _ _ _ rfl (K2.out.2.2.1.set _ _ _)) rfl ?_
      have tr := turn3 w2 w.heap.size (.string s) (.int .i64 ln) (.int .i64 cl)
      exact ⟨(1, s, ln, cl), v2, l2, d2, _, rfl, rfl, (by simp [R.isNm, hky]), K2.out.1.far K2.out.2.2.2 (by decide) (by decide) tr, K2.out.2.1.new (Nat.le_refl _) tr⟩
    · go_wp2_with fail
      have LB := K.out.1.set (k := 3) (x := .int .i64 (wrap64 (q.tdiv 2))) rfl
      refine (put_any 2 s LB H.out.2).mono ?_
      rintro e w2 ⟨rfl, v2, l2, d2, L2, S2⟩
      have n0 : w.heap.size ≠ b := by omega
      have n1 : w.heap.size + 1 ≠ b := by omega
      have m0 := LB.block S2 ((Below.heap_setCell _ ⟨b, 3, none⟩ _ _ n0).trans K.out.2.2.1) (by decide) (by decide)
      have m1 := LB.block S2 ((Below.heap_setCell _ ⟨b, 3, none⟩ _ _ n1).trans K.out.2.2.2) (by decide) (by decide)
      have S02 := (K.out.2.1.trans (Lst.set b W0 v 3 (.int .i64 (wrap64 (q.tdiv 2))))).trans S2
      have t0 := Tri.of_cells m0
      have t1 := Tri.of_cells m1
      have y0 := t1.c0
      have y1 := t1.c1
      have y2 := t1.c2
      have z0 := t0.c0
      have z1 := t0.c1
      have z2 := t0.c2
      obtain ⟨u0, u1, u2⟩ := t0.frz
      have K2 := hide' (And.intro L2 (And.intro S02 (And.intro t0 m0)))
      clear L2 S02 t0 m0 m1 t1 LB S2 c3 f3 HK K
      go_wp2
      refine bodyPost_ret_by (results55 rfl _ _ w.heap.size _ _ _ rfl (K2.out.2.2.1.set _ _ _)) rfl ?_
      have tr := turn3 w2 w.heap.size (.string s) (.int .i64 ln) (.int .i64 cl)
      exact ⟨(2, s, ln, cl), v2, l2, d2, _, rfl, rfl, rfl, K2.out.1.far K2.out.2.2.2 (by decide) (by decide) tr, K2.out.2.1.new (Nat.le_refl _) tr⟩
  · skip
    have LB := K.out.1.set (k := 3) (x := .int .i64 (wrap64 (q.tdiv 2))) rfl
    refine (put_any 2 s LB H.out.2).mono ?_
    rintro e w2 ⟨rfl, v2, l2, d2, L2, S2⟩
    have n0 : w.heap.size ≠ b := by omega
    have n1 : w.heap.size + 1 ≠ b := by omega
    have m0 := LB.block S2 ((Below.heap_setCell _ ⟨b, 3, none⟩ _ _ n0).trans K.out.2.2.1) (by decide) (by decide)
    have m1 := LB.block S2 ((Below.heap_setCell _ ⟨b, 3, none⟩ _ _ n1).trans K.out.2.2.2) (by decide) (by decide)
    have S02 := (K.out.2.1.trans (Lst.set b W0 v 3 (.int .i64 (wrap64 (q.tdiv 2))))).trans S2
    have t0 := Tri.of_cells m0
    have t1 := Tri.of_cells m1
    have y0 := t1.c0
    have y1 := t1.c1
    have y2 := t1.c2
    have z0 := t0.c0
    have z1 := t0.c1
    have z2 := t0.c2
    obtain ⟨u0, u1, u2⟩ := t0.frz
    have K2 := hide' (And.intro L2 (And.intro S02 (And.intro t0 m0)))
    clear L2 S02 t0 m0 m1 t1 LB S2 c3 f3 HK K
    go_wp2
    refine bodyPost_ret_by (results55 rfl _ _ w.heap.size _ _ _ rfl (K2.out.2.2.1.set _ _ _)) rfl ?_
    have tr := turn3 w2 w.heap.size (.string s) (.int .i64 ln) (.int .i64 cl)
    exact ⟨(2, s, ln, cl), v2, l2, d2, _, rfl, rfl, rfl, K2.out.1.far K2.out.2.2.2 (by decide) (by decide) tr, K2.out.2.1.new (Nat.le_refl _) tr⟩
end Go.Proofs.YtfgblchnnhdlnaaGreatDoor
set_option linter.unusedVariables false
set_option linter.unusedSimpArgs false
namespace Go.Proofs.YtfgblchnnhdlnaaGreatDoor
open Go.RowKit
variable {B b : Nat} {ts : List R.Tok} {v v' v'' : Value} {ln cl q : Int} {w w' w'' : World}
namespace R
namespace Lay
theorem is_of (k : Int) (t : ByteArray) (s : List UInt8) (l c : Int) (h : t.data.toList = s) : is k s (k, t, l, c) = true := by
  simp [is, ByteArray.toList_eq, h]
theorem Nms.snoc {T : List Tok} {ws : List Wd} (h : Nms T ws) (c t : Tok) (hc : is 4 [44] c = true) (ht : isNm t = true) : Nms (T ++ [c, t]) (ws ++ [wdOf t]) := by
  induction h with
  | one t' h' => exact .more t' c [t] [wdOf t] h' hc (.one t ht)
  | more t' c' T' ws' h' hc' hT ih => exact .more t' c' _ _ h' hc' ih
end Lay
end R
def firstOf (l : List ByteArray) : ByteArray := match l with | [] => ⟨#[120]⟩ | t :: _ => t
set_option maxRecDepth 100000 in
set_option maxHeartbeats 4000000 in
theorem lfirst_any (names : List ByteArray) (na : Option Addr) (nc : Nat) (w : World) (hx : Txs B na names w) (hc : names.length ≤ nc) :
    Calls Tryz.prog 61 #[.slice na names.length nc] w fun e w' => e = .returned (.string (firstOf names)) ∧ w' = w := by
  cases names with
  | nil =>
    go_enter Tryz.func61, Tryz.ntmps61
    go_wp2
    go_ret
    exact ⟨rfl, rfl⟩
  | cons t l =>
    obtain ⟨nb, no, rfl, _, hcell⟩ := hx 0 t rfl
    simp only [firstOf, List.length_cons] at hc ⊢
    clear hx
    obtain ⟨n, hn⟩ : ∃ n, l.length + 1 = n := ⟨_, rfl⟩
    rw [hn] at hc ⊢
    have h0 : (n == 0) = false := by simp; omega
    have h1 : ((n : Int) == 0) = false := by simp; omega
    have h2 : (0 : Int) < (n : Int) := by omega
    have h3 : 0 < n := by omega
    rw [Nat.add_zero] at hcell
    clear hn
    go_enter Tryz.func61, Tryz.ntmps61
    go_wp2
    all_goals go_ret
    all_goals exact ⟨rfl, rfl⟩
def ListIs (B b : Nat) (ts : List R.Tok) (v : Value) (names : List ByteArray) (w : World) (e : Ending) (w' : World) : Prop :=
  ∃ (N : List R.Tok) (ws : List R.Wd) (vv v' : Value) (ln' cl' q' : Int), e = .returned vv ∧ w'.ownsRow w.heap.size 55 3 vv ws.length (ws.flatMap wcells) ∧ R.Lay.Nms N ws ∧ N.length ≤ 2 * names.length + 1 ∧ (∀ t ∈ N, t.2.1 ∈ names ∨ t.2.1.size ≤ 1) ∧ Ld B b (ts ++ N) v' ln' cl' q' w' ∧ Lst b w v w' v'
/-- another row's block is neither the tokens' nor their holder's -/
theorem Ld.apart (h : Ld B b ts v ln cl q w) {B' e n size : Nat} {u : Value} {xs : List Value} (r : w.ownsRow B' e size u n xs) (he : e ≠ 44) (he2 : e ≠ 50) : ∀ g, u.ownBlock = some g → g ≠ b ∧ v.ownBlock ≠ some g := by
  intro g hg
  rcases r.2 with ⟨rfl, _⟩ | ⟨a, cp, cur, rfl, _, ha, _⟩
  · cases hg
  · have e1 : a = g := by simpa [Value.ownBlock] using hg
    subst e1
    refine ⟨fun e' => ?_, fun e' => ?_⟩
    · have := h.hb
      rw [← e', show w.heap[a]? = _ from ha] at this
      cases this
      exact he2 rfl
    · rcases h.row.2 with ⟨rfl, _⟩ | ⟨a', cp', cur', rfl, _, ha', _⟩
      · cases e'
      · have e2 : a' = a := by simpa [Value.ownBlock] using e'
        subst e2
        rw [show w.heap[a']? = _ from ha] at ha'
        cases ha'
        exact he rfl
theorem Ld.turn (h : Ld B b ts v ln cl q w) {S : Nat → Prop} (t : Turn S w w') (hS : ∀ k, S k → k ≠ b ∧ v.ownBlock ≠ some k) : Ld B b ts v ln cl q w' :=
  ⟨h.lo, (t.block b h.lt (fun e => (hS b e).1 rfl)).trans h.hb, t.row h.row (fun g hg e => (hS g e).2 hg)⟩
/-- a row of another sort grows -/
theorem Ld.grown (h : Ld B b ts v ln cl q w) {B' e n size : Nat} {u : Value} {xs : List Value} (r : w.ownsRow B' e size u n xs) (he : e ≠ 44) (he2 : e ≠ 50) {o : Obj} (hg : (w.alloc o).grownBy w' u.ownBlock) : Ld B b ts v ln cl q w' ∧ Turn (fun k => u.ownBlock = some k) w w' := by
  have t : Turn (fun k => u.ownBlock = some k) w w' := ((Turn.refl _ w).alloc o).grown hg (fun k hk _ => hk)
  exact ⟨h.turn t (fun k hk => h.apart r he he2 k hk), t⟩
set_option maxRecDepth 100000 in
set_option maxHeartbeats 8000000 in
/-- names with commas between -/
theorem llist_any (names : List ByteArray) (na : Option Addr) (nc : Nat) (h : Ld B b ts v ln cl q w) (hx : Txs B na names w) (hc : names.length ≤ nc) (few : ts.length + 2 * names.length + 1 ≤ R.lim) :
    Calls Tryz.prog 41 #[.pointer (some ⟨b, 0, none⟩), .slice na names.length nc] w fun e w' => ListIs B b ts v names w e w' := by
  have HF := hide' (lfirst_any names na nc w hx hc)
  have hl : (names.length : Int) < 1099511627777 := by unfold R.lim at few; omega
  have H := hide' (And.intro h (And.intro hx few))
  clear h hx few
  have hi55 := info55
  cases hq55 : Tryz.prog.info? 55 with
  | none => simp [hq55] at hi55
  | some i0 =>
  obtain ⟨hz0, hz1, hz2⟩ : i0.zero = some (.agg #[.string ByteArray.empty, .int .i64 0, .int .i64 0]) ∧ i0.size = 3 ∧ i0.bytes = 32 := by simpa [hq55] using hi55
  have Hz := hide' (And.intro hq55 (And.intro hz0 (And.intro hz1 hz2)))
  clear hi55 hq55 hz0 hz1 hz2
  go_enter Tryz.func41, Tryz.ntmps41
  go_wp2_with fail
  refine HF.out.mono ?_
  rintro e w1 ⟨rfl, hw1⟩
  replace hw1 := hw1.symm
  subst hw1
  clear HF
  go_wp2_with fail
  refine (lname_any (firstOf names) H.out.1 (by have := H.out.2.2; omega)).mono ?_
  rintro e w1 ⟨⟨tk, tt, tl, tc⟩, v1, l1, c1, q1, rfl, ht, hn, L1, S1⟩
  unfold wv R.wdOf
  simp only at ht ⊢
  have K1 := hide' (And.intro ht (And.intro hn (And.intro L1 S1)))
  clear ht hn L1 S1
  go_wp2_with fail
  go_loopw [5, 6] (fun vo vi wx => ∃ (k : Nat) (N : List R.Tok) (ws : List R.Wd) (v2 : Value) (l2 c2 q2 : Int), vi = .int .i64 (k : Int) ∧ 1 ≤ k ∧ (k ≤ names.length ∨ k = 1) ∧ wx.ownsRow w.heap.size 55 3 vo ws.length (ws.flatMap wcells) ∧ R.Lay.Nms N ws ∧ N.length + 1 = 2 * k ∧ ws.length = k ∧ (∀ t ∈ N, t.2.1 ∈ names ∨ t.2.1.size ≤ 1) ∧ Ld B b (ts ++ N) v2 l2 c2 q2 wx ∧ Lst b w v wx v2) (fun _ vi _ => names.length - idxOf vi)
  case atStart =>
    obtain ⟨ht, hn, L1, S1⟩ := K1.out
    have ba : Below w1.heap.size w1 (w1.alloc (.cells #[.string tt, .int .i64 tl, .int .i64 tc] 55)) := (Below.refl _ _).alloc (Nat.le_refl _) _
    refine ⟨1, [(tk, tt, tl, tc)], [(tt, tl, tc)], v1, l1, c1, q1, rfl, Nat.le_refl _, .inr rfl, ?_, .one (tk, tt, tl, tc) hn, rfl, rfl, ?_, L1.quiet ba, S1.trans (Lst.quiet v1 ba)⟩
    · have := row_one (w := w1) (B := w.heap.size) (x := (tt, tl, tc)) S1.turn.size
      simpa using this
    · intro t h
      simp at h
      subst h
      simp only
      rw [ht]
      cases names with
      | nil => right; decide
      | cons a l => left; simp [firstOf]
  case round =>
    obtain ⟨k, N, ws, v2, l2, c2, q2, rfl, hk1, hk2, hrow, hN, hNl, hwl, htx, L2, S2⟩ := hrel
    clear K1
    by_cases hkl : k < names.length
    · obtain ⟨t, ht⟩ : ∃ t, names[k]? = some t := ⟨_, List.getElem?_eq_getElem hkl⟩
      obtain ⟨nb, no, rfl, hnb, hcell⟩ := H.out.2.1 k t ht
      have hkw : IntKind.i64.wrap ((k : Int) + 1) = (k : Int) + 1 := by
        rw [IntKind.wrap_i64]; omega
      have few := H.out.2.2
      have n1 : Hid (ws.length + 1 ≤ maxLen) := (show ws.length + 1 ≤ maxLen by unfold R.lim at few; unfold maxLen; omega)
      have n2 : Hid ((ws.length + 1) * 32 ≤ 140737488355328) := (show (ws.length + 1) * 32 ≤ 140737488355328 by unfold R.lim at few; omega)
      have f1 : Hid ((ts ++ N).length + 1 ≤ R.lim) := (show (ts ++ N).length + 1 ≤ R.lim by rw [List.length_append]; omega)
      have f2 : Hid ((ts ++ N).length + 2 ≤ R.lim) := (show (ts ++ N).length + 2 ≤ R.lim by rw [List.length_append]; omega)
      have hki : (k : Int) < (names.length : Int) := by omega
      have hk0 : (0 : Int) ≤ (k : Int) := by omega
      have KK := hide' (And.intro hk1 (And.intro hrow (And.intro hN (And.intro (And.intro hNl hwl) (And.intro (And.intro htx (List.mem_of_getElem? ht)) (And.intro L2 S2))))))
      clear hrow hN hNl hwl htx L2 S2 hk1 hk2 ht few
      go_wp2_with fail
      refine (put_any 4 ⟨#[44]⟩ KK.out.2.2.2.2.2.1 f1.out).mono ?_
      rintro e w2 ⟨rfl, v3, l3, c3, L3, S3⟩
      have S23 := KK.out.2.2.2.2.2.2.trans S3
      have cw := (H.out.1.old S23 (p := ⟨nb, no + k, none⟩) hnb).trans hcell
      have r3 := KK.out.2.2.2.2.2.1.other S3 KK.out.2.1 (by decide) (by decide)
      have K3 := hide' (And.intro L3 (And.intro S23 r3))
      clear L3 S3 S23 r3
      go_wp2_with fail
      refine (lname_any t K3.out.1 (by have := f2.out; simp at this ⊢; omega)).mono ?_
      rintro e w3 ⟨⟨mk, mt, ml, mc⟩, v4, l4, c4, q4, rfl, ht, hn, L4, S4⟩
      unfold wv R.wdOf
      simp only at ht ⊢
      subst ht
      have r4 := K3.out.1.other S4 K3.out.2.2 (by decide) (by decide)
      have S04 := K3.out.2.1.trans S4
      have K4 := hide' (And.intro hn (And.intro L4 (And.intro S04 r4)))
      clear hn L4 S4 S04 r4 cw K3
      have hsz : Hid (w.heap.size ≤ w3.heap.size) := K4.out.2.2.1.turn.size
      go_wp2_with (at_builtin; refine wpList_append_lies _ rfl _ _ 56 rfl w.heap.size 55 i0 _ 3 32 Tryz.underlying56 Hz.out.1 Hz.out.2.1 Hz.out.2.2.1 Hz.out.2.2.2 rfl (by decide) _ _ _ rfl (K4.out.2.2.2.alloc _) ⟨w3.heap.size, 0, none⟩ 1 1 (wcells (mt, ml, mc)) rfl rfl (three_new _ _ _ _ _) (by simp [wcells, Value.oneCell']) (by decide) n1.out n2.out (by have := hsz.out; simp; omega) _ rfl ?_; intro g cp w4 hrow4 hgrow4 hat4 hlt4)
      clear hat4
      obtain ⟨hn, L4, S04, r4⟩ := K4.out
      obtain ⟨hk1, hrow, hN, ⟨hNl, hwl⟩, ⟨htx, hmem⟩, L2, S2⟩ := KK.out
      obtain ⟨L5, T5⟩ := L4.grown r4 (by decide) (by decide) hgrow4
      refine ⟨⟨k + 1, N ++ [(4, ⟨#[44]⟩, l2, c2), (mk, mt, ml, mc)], ws ++ [(mt, ml, mc)], v4, l4, c4, q4, by simp, by omega, .inl (by omega), ?_, hN.snoc _ _ (R.Lay.is_of 4 _ _ _ _ rfl) hn, by simp; omega, by simp; omega, ?_, ?_, ?_⟩, by simp [idxOf]; omega⟩
      · rw [List.length_append, List.flatMap_append]
        simpa using hrow4
      · intro x hx
        rcases List.mem_append.1 hx with q | q
        · exact htx x q
        · simp at q
          rcases q with rfl | rfl
          · right; exact Nat.le_refl 1
          · left; exact hmem
      · have e : ts ++ (N ++ [(4, ⟨#[44]⟩, l2, c2), (mk, mt, ml, mc)]) = ts ++ N ++ [(4, ⟨#[44]⟩, l2, c2)] ++ [(mk, mt, ml, mc)] := by simp
        rw [e]; exact L5
      · exact ⟨S04.turn.then T5 (fun i hi q => by have := (r4.lt i q).1; omega), S04.own⟩
    · have KK := hide' (And.intro hrow (And.intro hN (And.intro hNl (And.intro htx (And.intro L2 S2)))))
      clear hrow hN hNl hwl htx L2 S2
      have hkn : ¬ (k : Int) < (names.length : Int) := by omega
      go_wp2
      go_ret
      unfold ListIs
      exact ⟨N, ws, _, v2, l2, c2, q2, rfl, KK.out.1, KK.out.2.1, by have := KK.out.2.2.1; omega, KK.out.2.2.2.1, KK.out.2.2.2.2.1, KK.out.2.2.2.2.2⟩
end Go.Proofs.YtfgblchnnhdlnaaGreatDoor
