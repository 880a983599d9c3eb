import Derived.Test.YtjmkofdnlhfaiaaRa7
set_option linter.unusedVariables false
set_option linter.unusedSimpArgs false
namespace Go.Proofs.Ytjmkofdnlhfaiaa
open Go.RowKit
namespace C
variable {n v : Nat} {s : St} {L : List Dc} {B r hb : Nat} {lo : Option Addr} {lc : Nat} {w w' : World}
/-- a box with a decision -/
def Db (y i p : Nat) (t : Tr) (tag : Int) (al : Bool) (w : World) : Prop := w.heap[y]? = some (.cells #[.int .i64 (i : Nat), .int .i64 (p : Nat), .int .i64 t.s, .int .i64 t.o, .int .i64 t.a, .int .i64 tag, .bool al, .bool false] 82 (0, 0))
/-- where Put looks for a free place -/
structure Rg (B r hb n v : Nat) (s : St) (L : List Dc) (lo : Option Addr) (lc y p : Nat) (t : Tr) (tag : Int) (al : Bool) (w w' : World) : Prop where
  rf : Rf B r hb n v s L lo lc w'
  db : Db y (spt n t) p t tag al w'
  ny : ∀ j, RO r hb lo j → j ≠ y
  low : w.heap.size ≤ y
  tu : Turn (RO r hb lo) w w'
theorem Rg.pset {y p : Nat} {t : Tr} {tag : Int} {al : Bool} (h : Rg B r hb n v s L lo lc y p t tag al w w') (q : Nat) : Rg B r hb n v s L lo lc y q t tag al w (w'.setCell ⟨y, 1, none⟩ (.int .i64 (q : Nat))) := by
  have tt := turn_b y 1 (.int .i64 (q : Nat)) w'
  refine ⟨h.rf.kept tt (fun j hj e => h.ny j hj e), set_block (off := 1) h.db, h.ny, h.low, h.tu.then tt (fun i hi e => ?_)⟩
  have := h.low
  omega
theorem rput_pre2 (t : Tr) (tag : Int) (al : Bool) {x : Nat} {w1 : World} (h : Rf B r hb n v s L lo lc w1) (hx : Tb x t w1) (hq : Below w.heap.size w w1) (hlow : ∀ j, RO r hb lo j → j < w.heap.size) : Calls Try.prog 26 #[.pointer (some ⟨r, 0, none⟩), .int .i64 t.s, .int .i64 t.o, .int .i64 t.a] w1 fun e w' => e = .returned (.int .i64 (spt n t : Nat)) ∧ Hid (Tb x t w' ∧ Rg B r hb n v s L lo lc w'.heap.size 0 t tag al w (w'.alloc (.cells #[.int .i64 (spt n t : Nat), .int .i64 0, .int .i64 t.s, .int .i64 t.o, .int .i64 t.a, .int .i64 tag, .bool al, .bool false] 82))) := by
  refine (rspot_any t h).mono fun e w' ⟨he, k, hk⟩ => ⟨he, hide' ?_⟩
  subst hk
  have b1 := below_drewN w1 k
  have b2 : Below w1.heap.size w1 ((w1.drewN k).alloc (.cells #[.int .i64 (spt n t : Nat), .int .i64 0, .int .i64 t.s, .int .i64 t.o, .int .i64 t.a, .int .i64 tag, .bool al, .bool false] 82)) := b1.alloc (Nat.le_refl _) _
  refine ⟨hx.below b1, h.below b2, heap_alloc_new _ _, fun j hj e => ?_, hq.size, turn_below (hq.trans (b2.mono hq.size))⟩
  have := hlow j hj
  have := hq.size
  have : (w1.drewN k).heap.size = w1.heap.size := rfl
  omega
/-- the list with a decision more, in its place -/
theorem app_core {z : Dc} {gg cap' : Nat} {w0 w1 : World} (h : Rf B r hb n v s L lo lc w) (hb0 : Below w.heap.size w w0) (hown1 : w1.ownsRow B 82 8 (.slice (some ⟨gg, 0, none⟩) (L.length + 1) cap') (L.length + 1) (dcl L ++ z.cells))
    (hgrow : w0.grownBy w1 (Value.slice lo L.length lc).ownBlock) (hat : (Value.slice lo L.length lc).ownBlock = some gg ∨ gg = w0.heap.size) {s' : St} (h1 : s'.h = s.h) (h2 : s'.hi = s.hi ∧ s'.mi = s.mi ∧ s'.ev = s.ev) (hlr : Lr n v s' (L ++ [z])) :
    Rf B r hb n v s' (L ++ [z]) (some ⟨gg, 0, none⟩) cap' (w1.setCell ⟨r, 3, none⟩ (.slice (some ⟨gg, 0, none⟩) (L.length + 1) cap')) ∧ Turn (RO r hb lo) w (w1.setCell ⟨r, 3, none⟩ (.slice (some ⟨gg, 0, none⟩) (L.length + 1) cap')) ∧ (At lo gg ∨ w.heap.size ≤ gg) := by
  have hgb : At lo gg ∨ w.heap.size ≤ gg := by
    rcases hat with q | q
    · exact .inl (own_at q)
    · exact .inr (by rw [q]; exact hb0.size)
  have hne : gg ≠ r := by
    rcases hgb with q | q
    · exact (h.nat q).1
    · have := lt_of_heap h.hr; omega
  have t0 : Turn (At lo) w w1 := ((turn_below hb0)).grown hgrow (fun k hk _ => own_at hk)
  have hr1 := (t0.block r (lt_of_heap h.hr) (fun q => (h.nat q).1 rfl)).trans h.hr
  have hh1 := (t0.block hb (lt_of_heap h.hh) (fun q => (h.nat q).2 rfl)).trans h.hh
  have t1 := turn_b r 3 (.slice (some ⟨gg, 0, none⟩) (L.length + 1) cap') w1
  refine ⟨⟨?_, ?_, ?_, h.lb, h.nv, by rw [h1]; exact h.hv, hlr⟩, (t0.mono (fun k _ q => .inr (.inr q))).trans (t1.mono (fun k _ e => .inl e)), hgb⟩
  · have := set_block (off := 3) (v := .slice (some ⟨gg, 0, none⟩) (L.length + 1) cap') hr1
    rw [List.length_append, List.length_singleton, h2.1, h2.2.1, h2.2.2]
    exact this
  · rw [h1]; exact (t1.block hb (lt_of_heap hh1) (fun e => h.ne e.symm)).trans hh1
  · rw [List.length_append, List.length_singleton, dcl_add]
    exact t1.row hown1 (fun j hj e => by
      have : gg = j := by simpa [Value.ownBlock] using hj
      omega)
set_option maxRecDepth 100000 in
set_option maxHeartbeats 4000000 in
theorem rput_room (tag : Int) (t : Tr) (al : Bool) (h : Rf B r hb n v s L lo lc w) (hf : fst (has (s.f (spt n t)) t) v = none) {j : Nat} (hr : fst (fre (s.f (spt n t))) v = some j) : Calls Try.prog 24 #[.pointer (some ⟨r, 0, none⟩), .int .i64 tag, .int .i64 t.s, .int .i64 t.o, .int .i64 t.a, .bool al] w fun e w' => e = .returned (.tuple #[]) ∧ RT B r hb n v (pta n v s tag t al) lo w w' := by
  rw [pta_room hf hr]
  obtain ⟨hj, hfj, hlt⟩ := fst_some hr
  have hfree : s.f (spt n t) j = none := by unfold fre at hfj; cases q : s.f (spt n t) j with | none => rfl | some d => rw [q] at hfj; cases hfj
  have Hfull : Hid (∀ q, q < j → ∃ d, s.f (spt n t) q = some d) := hide' (fun q hq => by
    have := hlt q hq
    unfold fre at this
    cases e : s.f (spt n t) q with
    | none => rw [e] at this; cases this
    | some d => exact ⟨d, rfl⟩)
  have hi := spt_lt h.nv.1.1 t
  have Hq : Hid (Lr n v ⟨fup2 s.f (spt n t) j (some ⟨t, tag, al, false⟩), s.h, s.hi, s.mi, s.ev⟩ (L ++ [⟨spt n t, j, ⟨t, tag, al, false⟩⟩])) := hide' (h.lr.add hi hj hfree ⟨t, tag, al, false⟩ rfl (fun j' d' hj' hd' e => by
    have := fst_none hf j' hj'
    rw [has_of hd' e] at this
    cases this) (fun i' j' _ _ => fup2_at ..))
  have ho := h.lr.of_none h.nv.1.1 hf
  obtain ⟨w0, x, hw0, hx, HF⟩ := rput_pre t h
  rw [ho] at HF
  unfold idx at HF
  replace HF := hide' HF
  have Hlow : Hid (∀ j, RO r hb lo j → j < w.heap.size) := hide' (fun j hj => (h.low hj).2)
  have Hfew := hide' (h.lr.few h.nv.1.2 h.nv.2.2)
  have Hv := hide' h.nv.2.2
  have Hjv := hide' hj
  have Hlr := hide' (And.intro h.lr (And.intro hi hfree))
  have Hx := hide' hx
  have Hw0 := hide' hw0
  clear h hf hr hj hfj hlt hfree hi ho hx hw0
  obtain ⟨i0, hi0, hz0, hz1, hz2⟩ := info_parts info82
  go_enter Try.func24, Try.ntmps24
  go_wp2_with fail
  rw [← Hw0.out, ← Hx.out]
  refine HF.out.mono ?_
  rintro e w2 ⟨rfl, H2⟩
  clear HF Hw0 Hx
  have HS := hide' (rput_pre2 t tag al H2.out.1 H2.out.2.1 H2.out.2.2 Hlow.out)
  clear H2
  go_wp2_with fail
  refine HS.out.mono ?_
  rintro e w3 ⟨rfl, H3⟩
  clear HS
  have x0 : w3.cell? ⟨x, 0, none⟩ = some (.int .i64 t.s) := by rw [Lib.cell_of_heap H3.out.1]; rfl
  have x1 : w3.cell? ⟨x, 1, none⟩ = some (.int .i64 t.o) := by rw [Lib.cell_of_heap H3.out.1]; rfl
  have x2 : w3.cell? ⟨x, 2, none⟩ = some (.int .i64 t.a) := by rw [Lib.cell_of_heap H3.out.1]; rfl
  generalize hI : spt n t = I at *
  obtain ⟨w4, hw4⟩ : ∃ w4, w4 = w3.alloc (.cells #[.int .i64 (I : Nat), .int .i64 0, .int .i64 t.s, .int .i64 t.o, .int .i64 t.a, .int .i64 tag, .bool al, .bool false] 82) := ⟨_, rfl⟩
  obtain ⟨y, hy⟩ : ∃ y, y = w3.heap.size := ⟨_, rfl⟩
  have H4 : Hid (Rg B r hb n v s L lo lc y 0 t tag al w w4) := hide' (by rw [hy, hw4]; exact H3.out.2)
  have Hy := hide' hy
  have Hw4 := hide' hw4
  clear hy hw4 H3
  go_wp2_with fail
  rw [← Hy.out, ← Hw4.out]
  clear Hy Hw4 x0 x1 x2
  go_loopw [16] (fun p wx => wx = w4 ∧ ∃ k : Nat, k ≤ j ∧ p = .int .i64 (k : Int)) (fun p _ => v - (intOf p).toNat)
  case atStart => exact ⟨rfl, 0, by omega, rfl⟩
  case round =>
    obtain ⟨rfl, k, hk, rfl⟩ := hrel
    have c1 := H4.out.rf.c1
    have hkv : k < v := by have := Hjv.out; omega
    have hkv' : (k : Int) < (v : Int) := by omega
    have HC := hide' (rin_any I k H4.out.rf)
    by_cases e : k = j
    · obtain rfl : k = j := e
      have hn := Hlr.out.1.in_none Hlr.out.2.1 Hjv.out Hlr.out.2.2
      rw [hn] at HC
      unfold idx at HC
      clear hn
      go_wp2_with fail
      refine HC.out.mono ?_
      rintro e wa ⟨rfl, hwa⟩
      replace hwa := hwa.symm
      subst hwa
      clear HC
      have d1 : wr.cell? ⟨y, 1, none⟩ = some (.int .i64 0) := by rw [Lib.cell_of_heap H4.out.db]; rfl
      have df : wr.frozen? ⟨y, 1, none⟩ = false := Lib.frozen_of_heap H4.out.db 1
      obtain ⟨w5, hw5⟩ : ∃ w5, w5 = wr.setCell ⟨y, 1, none⟩ (.int .i64 (k : Nat)) := ⟨_, rfl⟩
      have H5 : Hid (Rg B r hb n v s L lo lc y k t tag al w w5) := hide' (by rw [hw5]; exact H4.out.pset k)
      have Hw5 := hide' hw5
      clear hw5
      go_wp2_with fail
      rw [← Hw5.out]
      clear Hw5 d1 df H4 c1
      have h5 := H5.out.rf
      have c1 := h5.c3
      have f1 := h5.fr 3
      have lt : r < w5.heap.size := lt_of_heap h5.hr
      have row := h5.row
      have hBs : B ≤ w5.heap.size := Nat.le_trans h5.lb.1 (Nat.le_of_lt lt)
      have n1 : Hid (L.length + 1 ≤ maxLen) := (show L.length + 1 ≤ maxLen by have := Hfew.out; unfold maxLen; omega)
      have n2 : Hid ((L.length + 1) * 56 ≤ 140737488355328) := (show (L.length + 1) * 56 ≤ 140737488355328 by have := Hfew.out; omega)
      have ne : some r ≠ (Value.slice lo L.length lc).ownBlock := fun q => (h5.nat (own_at q.symm)).1 rfl
      have new2 : ∀ o, (w5.alloc o).drew.heap[w5.heap.size]? = some o := fun o => heap_alloc_new w5 o
      have new1 := World.new_ne w5 ⟨r, 3, none⟩ c1
      have d0 : w5.cell? ⟨y, 0, none⟩ = some (.int .i64 (spt n t : Nat)) := by rw [Lib.cell_of_heap H5.out.db]; rfl
      have d1 : w5.cell? ⟨y, 1, none⟩ = some (.int .i64 (k : Nat)) := by rw [Lib.cell_of_heap H5.out.db]; rfl
      have d2 : w5.cell? ⟨y, 2, none⟩ = some (.int .i64 t.s) := by rw [Lib.cell_of_heap H5.out.db]; rfl
      have d3 : w5.cell? ⟨y, 3, none⟩ = some (.int .i64 t.o) := by rw [Lib.cell_of_heap H5.out.db]; rfl
      have d4 : w5.cell? ⟨y, 4, none⟩ = some (.int .i64 t.a) := by rw [Lib.cell_of_heap H5.out.db]; rfl
      have d5 : w5.cell? ⟨y, 5, none⟩ = some (.int .i64 tag) := by rw [Lib.cell_of_heap H5.out.db]; rfl
      have d6 : w5.cell? ⟨y, 6, none⟩ = some (.bool al) := by rw [Lib.cell_of_heap H5.out.db]; rfl
      have d7 : w5.cell? ⟨y, 7, none⟩ = some (.bool false) := by rw [Lib.cell_of_heap H5.out.db]; rfl
      rw [hI] at d0
      have fal : ∀ o, (w5.alloc o).drew.frozen? ⟨r, 3, none⟩ = false := fun o => (World.frozen?_of_block (w := w5) (Below.heap_alloc _ _ _ lt)).trans f1
      have cal : ∀ o, (w5.alloc o).drew.cell? ⟨r, 3, none⟩ = some (.slice lo L.length lc) := fun o => (World.cell?_of_block (w := w5) (Below.heap_alloc _ _ _ lt)).trans c1
      clear h5
      go_region_law ((refine step_append_lies _ (by rfl) _ _ _ (by rfl) B 82 i0 _ 8 56 Try.underlying58 hi0 hz0 hz1 hz2 rfl (by omega) (.slice lo L.length lc) L.length (dcl L) (by rfl) ((row.alloc _).drew) ⟨w5.heap.size, 0, none⟩ 1 1 (Dc.cells ⟨I, k, ⟨t, tag, al, false⟩⟩) (by rfl) (by rfl) (World.news_of_block (cs := #[.int .i64 (I : Nat), .int .i64 (k : Nat), .int .i64 t.s, .int .i64 t.o, .int .i64 t.a, .int .i64 tag, .bool al, .bool false]) (t := 82) (fr := (0, 0)) (new2 _)) (by simp [Dc.cells, Value.oneCell']) (by omega) n1.out n2.out (by simp; omega) (w5.heap.size + 1) (by simp) ?_; intro gg cap' w6 hown1 hgrow hat hlt; have a0 := (hgrow.cell_far ⟨r, 3, none⟩ (by simp; omega) ne).trans (cal _); have a0f := (hgrow.frozen_far ⟨r, 3, none⟩ (by simp; omega) ne).trans (fal _)))
      all_goals
        have hb0 : Below w5.heap.size w5 (w5.alloc (.cells #[.int .i64 (I : Nat), .int .i64 (k : Nat), .int .i64 t.s, .int .i64 t.o, .int .i64 t.a, .int .i64 tag, .bool al, .bool false] 82)).drew := ((Below.refl _ _).alloc (Nat.le_refl _) _).drew
        obtain ⟨L1, S1, S2⟩ := app_core H5.out.rf hb0 hown1 hgrow (by simpa using hat) (s' := ⟨fup2 s.f I k (some ⟨t, tag, al, false⟩), s.h, s.hi, s.mi, s.ev⟩) rfl ⟨rfl, rfl, rfl⟩ Hq.out
        generalize (w6.setCell ⟨r, 3, none⟩ (.slice (some ⟨gg, 0, none⟩) (L.length + 1) cap')) = W at *
        have K : Hid (RT B r hb n v ⟨fup2 s.f I k (some ⟨t, tag, al, false⟩), s.h, s.hi, s.mi, s.ev⟩ lo w W) := hide' ⟨_, _, _, L1, H5.out.tu.trans S1, fun j hj => by
          obtain ⟨_, e1, e2⟩ := hj
          cases e1
          rw [e2]
          exact S2.imp id (fun q => Nat.le_trans H5.out.tu.size q)⟩
        clear L1 S1 S2 a0 a0f hown1 hgrow hat hlt c1 f1 fal cal new1 row ne new2 hb0 d0 d1 d2 d3 d4 d5 d6 d7
        go_wp2
        refine bodyPost_ret (results_none rfl _ _ _) rfl ?_
        exact ⟨rfl, by rw [hI]; exact K.out⟩
    · have hlt : k < j := by omega
      obtain ⟨d, hd⟩ := Hfull.out k hlt
      obtain ⟨m, hm, _⟩ := Hlr.out.1.in_some Hlr.out.2.1 hkv hd
      rw [hm] at HC
      unfold idx at HC
      have Hw := hide' (wsucN k (by have := Hv.out; omega))
      have hm0 : ¬ (m : Int) < 0 := by omega
      clear e hm hd
      go_wp2_with fail
      refine HC.out.mono ?_
      rintro e wa ⟨rfl, hwa⟩
      replace hwa := hwa.symm
      subst hwa
      clear HC
      go_wp2
      exact ⟨⟨by trivial, k + 1, by omega, by rw [Hw.out]⟩, msr' hkv _ (Hw.out.trans (by omega))⟩
end C
end Go.Proofs.Ytjmkofdnlhfaiaa
