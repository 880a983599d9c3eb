import Derived.Test.YtppcofopnelgjaaGreatDoorGrD
import Derived.Laws.Tables
set_option linter.unusedVariables false
set_option linter.unusedSimpArgs false
namespace Go.Proofs.YtppcofopnelgjaaGreatDoor
open Go.RowKit
/-- a declaration's block -/
def Bk (g : Nat) (l : List Value) (w : World) : Prop := w.heap[g]? = some (.cells l.toArray 59 (0, 0))
theorem Bk.lt {g : Nat} {l : List Value} {w : World} (h : Bk g l w) : g < w.heap.size := (Array.getElem?_eq_some_iff.1 h).1
theorem Bk.turn {g : Nat} {l : List Value} {w w' : World} {S : Nat → Prop} (h : Bk g l w) (t : Turn S w w') (hg : ¬ S g) : Bk g l w' := (t.block g h.lt hg).trans h
theorem Bk.cell {g : Nat} {l : List Value} {w : World} (h : Bk g l w) (k : Nat) (v : Value) (hv : l[k]? = some v) : w.cell? ⟨g, k, none⟩ = some v := by
  unfold Bk at h
  simp [World.cell?, h, hv]
theorem Bk.frz {g : Nat} {l : List Value} {w : World} (h : Bk g l w) (k : Nat) : w.frozen? ⟨g, k, none⟩ = false := by
  unfold Bk at h
  simp [World.frozen?, h]
theorem Bk.row {g : Nat} {l l' : List Value} {w : World} (h : Bk g l w) : Bk g l' (w.setRow g l'.toArray) := setRow_heap w g _ _ 59 _ h
theorem Bk.set {g : Nat} {l : List Value} {w : World} (h : Bk g l w) (k : Nat) (v : Value) : Bk g (l.set k v) (w.setCell ⟨g, k, none⟩ v) := by
  rw [setCell_eq_setRow w g k l.toArray 59 (0, 0) v h]
  have := setRow_heap w g l.toArray (l.toArray.setIfInBounds k v) 59 (0, 0) h
  unfold Bk
  rw [this]
  simp
theorem turn_row (w : World) (g : Nat) (cs : Array Value) : Turn (fun k => k = g) w (w.setRow g cs) := by
  refine ⟨rfl, rfl, rfl, ?_, fun k hk hn => ?_⟩
  · simp [World.setRow]
  · simp only [World.setRow]
    rw [Array.getElem?_modify, if_neg (fun e => hn e.symm)]
/-- a declaration as thirteen cells -/
def dl (d : R.Dc) (sv : Value) : List Value := [.int .i8 d.kind, .int .i64 d.line, .int .i64 d.col, .string d.head.1, .int .i64 d.head.2.1, .int .i64 d.head.2.2, .string d.on.1, .int .i64 d.on.2.1, .int .i64 d.on.2.2, sv, .bool d.all, .int .i8 d.cond, .float .f64 d.level]
def dv (d : R.Dc) (sv : Value) : Value := .agg (dl d sv).toArray
def dz : List Value := [.int .i8 0, .int .i64 0, .int .i64 0, .string ⟨#[]⟩, .int .i64 0, .int .i64 0, .string ⟨#[]⟩, .int .i64 0, .int .i64 0, .slice none 0 0, .bool false, .int .i8 0, .float .f64 0]
def encB : R.Dc → World → Value → Prop := fun d _ v => v = dv d (.slice none 0 0)
set_option maxRecDepth 100000 in
set_option maxHeartbeats 4000000 in
theorem begin_any {I : R.Src} {ao : Option Addr} {cap b i : Nat} {w : World} (h : Rdr I ao cap b i w) :
    Calls Tryz.prog 77 #[.pointer (some ⟨b, 0, none⟩)] w fun e w' => RdIs I ao cap b (I.begin i) encB w e w' := by
  have H := hide' h
  have lt := h.lt
  have HP := hide' fun w (h : Rdr I ao cap b i w) => rpeek_any h
  have HK := hide' (kindOf_any (I.at i).2.1)
  have hlen : i < R.lim + 1 := by have := h.ok.few; have := h.le; omega
  have hw : IntKind.i64.wrap ((i : Int) + 1) = (i : Int) + 1 := by
    unfold R.lim at hlen
    rw [IntKind.wrap_i64]; omega
  have hon : Hid ((I.at i).1 = 1 → i < I.l.length) := fun q => h.at_on (by rw [q]; decide)
  have HR := hide' fun w c (h : Rdr I ao cap b i w) => refuse_any h c
  unfold R.Src.begin
  clear h hlen
  generalize hx : I.at i = t at *
  have Hx := hide' hx
  clear hx
  obtain ⟨tk, tt, tl, tc⟩ := t
  unfold tv at HP
  simp only at HP HK hon ⊢
  generalize hkd : R.kindOf tt.toList = kd at *
  clear hkd
  cases hk0 : (kd != 0)
  · rw [hk0] at HK
    rw [Bool.and_false]
    unfold RdIs
    simp only [Bool.false_eq_true, if_false]
    rw [Hx.out]
    go_enter Tryz.func77, Tryz.ntmps77
    go_wp2_with (first | (go_at_call 106; refine (HP.out _ (H.out.alloc _)).mono ?_; rintro e w1 ⟨rfl, b1⟩; have r1 := hide' (And.intro (((H.out.alloc _).below b1).alloc (.cells #[.int .i8 tk, .string tt, .int .i64 tl, .int .i64 tc] 44)) (old_kept b1)); clear b1) | (go_at_call 107; refine (HK.out _).mono ?_; rintro e w2 ⟨rfl, hw2⟩; replace hw2 := hw2.symm; subst hw2) | (go_at_call 108; refine (HR.out _ _ r1.out.1).mono ?_; rintro e w3 ⟨rfl, b3⟩))
    exact ⟨rfl, rfl, (turn_below (r1.out.2.trans ((Below.refl _ _).alloc r1.out.2.size _))).trans (turn_below b3)⟩
  · rw [hk0] at HK
    rw [Bool.and_true]
    by_cases hk : tk = 1
    · subst hk
      have hi := hon.out rfl
      unfold RdIs encB dv dl R.noWd
      simp only [beq_self_eq_true, if_true]
      go_enter Tryz.func77, Tryz.ntmps77
      go_wp2_with (first | (go_at_call 106; refine (HP.out _ (H.out.alloc _)).mono ?_; rintro e w1 ⟨rfl, b1⟩; have q1 := ((H.out.alloc _).below b1).alloc (.cells #[.int .i8 1, .string tt, .int .i64 tl, .int .i64 tc] 44); have c5 := q1.c5; have f5 := q1.f; have z1 := (old_kept b1).size; have z1' : w.heap.size < w1.heap.size := (by have := b1.size; simp at this; omega); have n2 : ¬ w1.heap.size = b := (by omega); have k0 : Bk w.heap.size dz (w1.alloc (.cells #[.int .i8 1, .string tt, .int .i64 tl, .int .i64 tc] 44)) := ((Below.heap_alloc _ _ _ z1').trans (new_kept b1)); have r1 := hide' (And.intro (q1.step hi) (And.intro (k0.turn (q1.step hi).2 (by omega)) ((turn_below ((old_kept b1).trans ((Below.refl _ _).alloc z1 (.cells #[.int .i8 1, .string tt, .int .i64 tl, .int .i64 tc] 44)))).trans (q1.step hi).2))); clear q1 k0 b1) | (go_at_call 107; refine (HK.out _).mono ?_; rintro e w2 ⟨rfl, hw2⟩; replace hw2 := hw2.symm; subst hw2) | (refine wpList_store_row rfl 59 _ _ rfl w.heap.size #[.int .i8 kd, .int .i64 tl, .int .i64 tc, .string ⟨#[]⟩, .int .i64 0, .int .i64 0, .string ⟨#[]⟩, .int .i64 0, .int .i64 0, .slice none 0 0, .bool false, .int .i8 0, .float .f64 0] rfl rfl 59 _ r1.out.2.1 (by kernel_rfl) rfl (by simp [Value.oneCell']) ?_))
      refine bodyPost_ret_by (results_cell_row rfl _ _ w.heap.size 59 _ _ _ rfl (r1.out.2.1.row (l' := [.int .i8 kd, .int .i64 tl, .int .i64 tc, .string ⟨#[]⟩, .int .i64 0, .int .i64 0, .string ⟨#[]⟩, .int .i64 0, .int .i64 0, .slice none 0 0, .bool false, .int .i8 0, .float .f64 0])) Tryz.underlying59 rfl (by kernel_rfl)) rfl ?_
      have tr := turn_row ((w1.alloc (.cells #[.int .i8 1, .string tt, .int .i64 tl, .int .i64 tc] 44)).setCell ⟨b, 5, none⟩ (.int .i64 ((i : Int) + 1))) w.heap.size #[.int .i8 kd, .int .i64 tl, .int .i64 tc, .string ⟨#[]⟩, .int .i64 0, .int .i64 0, .string ⟨#[]⟩, .int .i64 0, .int .i64 0, .slice none 0 0, .bool false, .int .i8 0, .float .f64 0]
      exact ⟨⟨_, rfl, rfl⟩, r1.out.1.1.newj H.out (Nat.le_refl _) tr, r1.out.2.2.then tr (fun k hk e => by omega)⟩
    · have hk' : (tk == 1) = false := by simpa using hk
      unfold RdIs
      rw [hk']
      simp only [Bool.false_eq_true, if_false]
      rw [Hx.out]
      go_enter Tryz.func77, Tryz.ntmps77
      go_wp2_with (first | (go_at_call 106; refine (HP.out _ (H.out.alloc _)).mono ?_; rintro e w1 ⟨rfl, b1⟩; have r1 := hide' (And.intro (((H.out.alloc _).below b1).alloc (.cells #[.int .i8 tk, .string tt, .int .i64 tl, .int .i64 tc] 44)) (old_kept b1)); clear b1) | (go_at_call 107; refine (HK.out _).mono ?_; rintro e w2 ⟨rfl, hw2⟩; replace hw2 := hw2.symm; subst hw2) | (go_at_call 108; refine (HR.out _ _ r1.out.1).mono ?_; rintro e w3 ⟨rfl, b3⟩))
      exact ⟨rfl, rfl, (turn_below (r1.out.2.trans ((Below.refl _ _).alloc r1.out.2.size _))).trans (turn_below b3)⟩
end Go.Proofs.YtppcofopnelgjaaGreatDoor
set_option linter.unusedVariables false
set_option linter.unusedSimpArgs false
namespace Go.Proofs.YtppcofopnelgjaaGreatDoor
open Go.RowKit
/-- WHAT STANDS WHILE A DECLARATION IS READ -/
structure DS (I : R.Src) (ao : Option Addr) (cap b : Nat) (w : World) (g3 i : Nat) (l : List Value) (sv : Value) (L : List R.Wd) (W : World) : Prop where
  rdr : Rdr I ao cap b i W
  tr : Turn (fun k => k = b) w W
  res : Bk w.heap.size dz W
  cur : Bk g3 l W
  lo : w.heap.size < g3
  bl : b < w.heap.size
  old : ∀ tb to, ao = some ⟨tb, to, none⟩ → 0 < I.l.length → tb < w.heap.size
  row : W.ownsRow w.heap.size 55 3 sv L.length (L.flatMap wcells)
variable {I : R.Src} {ao : Option Addr} {cap b i j : Nat} {w W W' : World} {g3 : Nat} {l : List Value} {sv : Value} {L : List R.Wd}
theorem Bk.no_row {g : Nat} {l : List Value} {W : World} (h : Bk g l W) {B : Nat} {v : Value} {n : Nat} {xs : List Value} (r : W.ownsRow B 55 3 v n xs) : ∀ k, v.ownBlock = some k → k ≠ g := by
  intro k hk e
  subst e
  rcases r.2 with ⟨rfl, _⟩ | ⟨g', cp, cur, rfl, _, hg, _⟩
  · cases hk
  · have : g' = k := by simpa [Value.ownBlock] using hk
    subst this
    unfold Bk at h
    rw [h] at hg
    cases hg
theorem DS.call (h : DS I ao cap b w g3 i l sv L W) (hr : Rdr I ao cap b j W') (t : Turn (fun k => k = b) W W') : DS I ao cap b w g3 j l sv L W' := by
  have bl := h.bl
  have lo := h.lo
  refine ⟨hr, h.tr.trans t, h.res.turn t (by omega), h.cur.turn t (by omega), lo, bl, h.old, t.row h.row (fun g hg => ?_)⟩
  have := (h.row.lt g hg).1
  omega
theorem DS.set (h : DS I ao cap b w g3 i l sv L W) (k : Nat) (v : Value) : DS I ao cap b w g3 i (l.set k v) sv L (W.setCell ⟨g3, k, none⟩ v) := by
  have lo := h.lo
  have bl := h.bl
  have t : Turn (fun k => k = g3) W (W.setCell ⟨g3, k, none⟩ v) := (Turn.refl (fun k => k = g3) W).setCell (p := ⟨g3, k, none⟩) (fun _ => rfl) v
  refine ⟨h.rdr.turn1 t (by omega) (fun tb to e hl => by have := h.old tb to e hl; omega), h.tr.then t (fun k hk e => by omega), h.res.turn t (by omega), h.cur.set k v, lo, bl, h.old, t.row h.row (h.cur.no_row h.row)⟩
theorem DS.names (h : DS I ao cap b w g3 i l sv L W) (hr : Rdr I ao cap b j W') (t : Turn (fun k => k = b) W W') {sv' : Value} {L' : List R.Wd} (hv : W'.ownsRow W.heap.size 55 3 sv' L'.length (L'.flatMap wcells)) : DS I ao cap b w g3 j l sv' L' W' := by
  have q := h.call hr t
  exact ⟨q.rdr, q.tr, q.res, q.cur, q.lo, q.bl, q.old, row_mono hv h.tr.size⟩
theorem Rdr.olds {w : World} (h : Rdr I ao cap b i w) : ∀ tb to, ao = some ⟨tb, to, none⟩ → 0 < I.l.length → tb < w.heap.size := by
  intro tb to e hl
  obtain ⟨tb', to', e', _, hlt, _⟩ := h.tok 0 _ (List.getElem?_eq_getElem hl)
  rw [e] at e'; cases e'
  exact hlt
/-- the declaration's block is made -/
theorem DS.new {w1 : World} (h0 : Rdr I ao cap b i w) (hr : Rdr I ao cap b j w1) (t : Turn (fun k => k = b) (w.alloc (.cells dz.toArray 59)) w1) (l : List Value) :
    DS I ao cap b w w1.heap.size j l (.slice none 0 0) [] (w1.alloc (.cells l.toArray 59)) := by
  have lt := h0.lt
  have ts := t.size
  rw [World.size_alloc'] at ts
  have k2 : Bk w.heap.size dz w1 := (t.block w.heap.size (by simp) (by omega)).trans (heap_alloc_new _ _)
  refine ⟨hr.alloc _, (((Turn.refl _ _).alloc _).trans t).alloc _, (Below.heap_alloc _ _ _ (by omega)).trans k2, heap_alloc_new _ _, by omega, lt, h0.olds, rfl, Or.inl ⟨rfl, rfl⟩⟩
/-- the declaration's block is written whole -/
theorem DS.wr (h : DS I ao cap b w g3 i l sv L W) (l' : List Value) : DS I ao cap b w g3 i l' sv L (W.setRow g3 l'.toArray) := by
  have lo := h.lo
  have bl := h.bl
  have t := turn_row W g3 l'.toArray
  exact ⟨h.rdr.turn1 t (by omega) (fun tb to e hl => by have := h.old tb to e hl; omega), h.tr.then t (fun k hk e => by omega), h.res.turn t (by omega), h.cur.row, lo, bl, h.old, t.row h.row (h.cur.no_row h.row)⟩
theorem store_one {w : World} {a : Addr} {u v : Value} (hc : w.cell? a = some u) (hf : w.frozen? a = false) (h1 : v.oneCell' = true) : (store a v).run Tryz.prog w = .ok () (w.setCell a v) := by
  rw [run_store Tryz.prog w _ v _ h1, hc]
  simp [hf]
theorem row_form {w : World} {B : Nat} {e : TypeId} {size : Nat} {v : Value} {n : Nat} {xs : List Value} (h : w.ownsRow B e size v n xs) : ∃ sa sc, v = .slice sa n sc := by
  rcases h.2 with ⟨rfl, rfl⟩ | ⟨g, cp, cur, rfl, _⟩
  · exact ⟨_, _, rfl⟩
  · exact ⟨_, _, rfl⟩
def encD (B : Nat) : R.Dc → World → Value → Prop := fun d w v => ∃ sv, v = .agg (dl d sv).toArray ∧ w.ownsRow B 55 3 sv d.names.length (d.names.flatMap wcells)
/-- the end of a declaration -/
theorem DS.fin (h : DS I ao cap b w g3 i l sv L W) : Bk w.heap.size l (W.setRow w.heap.size l.toArray) ∧ Rdr I ao cap b i (W.setRow w.heap.size l.toArray) ∧ Turn (fun k => k = b) w (W.setRow w.heap.size l.toArray) ∧ (W.setRow w.heap.size l.toArray).ownsRow w.heap.size 55 3 sv L.length (L.flatMap wcells) := by
  have bl := h.bl
  have t := turn_row W w.heap.size l.toArray
  exact ⟨h.res.row, h.rdr.turn1 t (by omega) (fun tb to e hl => by have := h.old tb to e hl; omega), h.tr.then t (fun k hk e => by omega), t.row h.row (h.res.no_row h.row)⟩
theorem DS.cell (h : DS I ao cap b w g3 i l sv L W) (k : Nat) (v : Value) (hv : l[k]? = some v) : W.cell? ⟨g3, k, none⟩ = some v := h.cur.cell k v hv
theorem DS.frz (h : DS I ao cap b w g3 i l sv L W) (k : Nat) : W.frozen? ⟨g3, k, none⟩ = false := h.cur.frz k
end Go.Proofs.YtppcofopnelgjaaGreatDoor
