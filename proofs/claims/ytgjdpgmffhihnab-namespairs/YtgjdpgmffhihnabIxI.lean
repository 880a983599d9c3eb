import Derived.Test.YtgjdpgmffhihnabTurn
import Derived.Test.YtgjdpgmffhihnabProg
import Derived.WalkKit
import Derived.WalkLawsBesides
import Derived.WalkSpells
import Derived.Outline
import Derived.Deep.RegionHeld3
import Derived.BigQuiet
import Derived.OwnWalk
set_option linter.unusedVariables false
set_option linter.unusedSimpArgs false
namespace Go.Proofs.Ytgjdpgmffhihnab
open Go.RowKit Go.Maps

namespace I
theorem ret_int {k : IntKind} {a b : Int} (h : a = b) : Ending.returned (.int k a) = .returned (.int k b) := by rw [h]
theorem ret_two {a b c d : Value} (h : a = b) (k : c = d) : Ending.returned (.tuple #[a, c]) = .returned (.tuple #[b, d]) := by rw [h, k]
theorem lit_int {q : IntKind} {a b : Int} (h : (DataW.lit (.int q a) : DataW Unit) = .lit (.int q b)) : a = b := by simpa using h
theorem zeroE (w : World) : (zeroValue 3).run Try.prog w = .ok (.int .i64 0) w := by kernel_rfl
theorem infoE : (Try.prog.info? 3).map (fun i => (i.zero, i.size, i.bytes)) = some (some (.int .i64 0), 1, 8) := by kernel_rfl
def okk (k : Int) : Prop := (Lit.int .i64 k).wf = true
def lit (k : Int) : Lit := .int .i64 k
def cells (k : Int) : List Value := [.int .i64 k]
abbrev IxI (B x bm : Nat) (ao : Option Addr) (cap : Nat) (zs : List Int) (w : World) : Prop := Ix Try.prog 64 3 3 3 1 cells lit okk B x bm ao cap zs w
theorem law : Keyed Try.prog 3 := int_keyed Try.underlying3
theorem hkey {k : Int} (h : okk k) : keyOf Try.prog 3 (.int .i64 k) = some (lit k) := keyOf_int_mk Try.underlying3 h
theorem inj (j k : Int) (hj : okk j) (hk : okk k) (h : lit j = lit k) : j = k := by
  have a := hkey hj
  rw [h] at a
  have := law.inj a (hkey hk)
  simpa using this
theorem isKey {k : Int} (h : okk k) : WideAt.IsKeyLit (lit k) := law.key (hkey h)
theorem flat_len (zs : List Int) : (zs.flatMap cells).length = zs.length := by
  induction zs with
  | nil => rfl
  | cons a r ih => simp [cells, ih]
theorem flat_at (zs : List Int) (j : Nat) : (zs.flatMap cells)[j]? = (zs[j]?).map (fun k => .int .i64 k) := by
  induction zs generalizing j with
  | nil => simp
  | cons a r ih => cases j with
    | zero => simp [cells]
    | succ j => simpa [cells] using ih j

theorem hide' {p : Prop} (h : p) : Hid p := h
theorem alloc_cell {w w1 : World} {ob : Obj} {row : Option Nat} (hg : (w.alloc ob).grownBy w1 row) {x o : Nat} (hx : x < w.heap.size) (hr : some x ≠ row) : w1.cell? ⟨x, o, none⟩ = w.cell? ⟨x, o, none⟩ :=
  World.cell?_of_block (w := w) ((hg.block x (by simp; omega) hr).trans (Below.heap_alloc _ _ _ hx))
theorem alloc_frozen {w w1 : World} {ob : Obj} {row : Option Nat} (hg : (w.alloc ob).grownBy w1 row) {x o : Nat} (hx : x < w.heap.size) (hr : some x ≠ row) : w1.frozen? ⟨x, o, none⟩ = w.frozen? ⟨x, o, none⟩ :=
  World.frozen?_of_block (w := w) ((hg.block x (by simp; omega) hr).trans (Below.heap_alloc _ _ _ hx))

set_option maxRecDepth 100000 in
set_option maxHeartbeats 1000000 in
theorem of_old (B x bm : Nat) (ao : Option Addr) (cap : Nat) (zs : List Int) (k : Int) (w : World) (h : IxI B x bm ao cap zs w) (hk : okk k) (hin : k ∈ zs) :
    Calls Try.prog 19 #[.pointer (some ⟨x, 0, none⟩), .int .i64 k] w fun e w' => e = .returned (.int .i64 (num zs k : Nat)) ∧ w' = w := by
  obtain ⟨n, D, hn, hown, hh⟩ := h.map
  have c1 := h.c1
  obtain ⟨h1, h2⟩ := hh k hk
  have h1' : Maps.has D (lit k) = true := by rw [h1]; exact isIn_yes hin
  have H2 : Hid (D.atKey (lit k) (.lit (.int .i64 0)) = .lit (.int .i64 (num zs k : Nat))) := h2
  clear h1 h2 hh
  go_enter Try.func19, Try.ntmps19
  go_wp2_with (at_lookup; refine wpList_lookup_own_ok_int _ rfl _ _ 62 rfl 3 3 .i64 law Try.underlying62 Try.underlying3 (zeroE _) bm n D rfl hown _ _ rfl (hkey hk) ?_; intro c hat hwc; rw [H2.out] at hat; rw [h1'])
  go_ret
  exact ⟨ret_int (lit_int hat).symm, rfl⟩

set_option maxRecDepth 100000 in
set_option maxHeartbeats 1000000 in
theorem of_full (B x bm : Nat) (ao : Option Addr) (cap : Nat) (zs : List Int) (k : Int) (w : World) (h : IxI B x bm ao cap zs w) (hk : okk k) (hin : k ∉ zs) (hf : (1048576 : Int) ≤ (zs.length : Int)) :
    Calls Try.prog 19 #[.pointer (some ⟨x, 0, none⟩), .int .i64 k] w fun e w' => e = .returned (.int .i64 0) ∧ w' = w := by
  obtain ⟨n, D, hn, hown, hh⟩ := h.map
  have c1 := h.c1
  have c0 := h.c0
  obtain ⟨h1, h2⟩ := hh k hk
  have h1' : Maps.has D (lit k) = false := by rw [h1]; exact isIn_no hin
  have hge : decide ((1048576 : Int) ≤ (zs.length : Int)) = true := by simpa using hf
  clear h1 h2 hh hf
  go_enter Try.func19, Try.ntmps19
  go_wp2_with (at_lookup; refine wpList_lookup_own_ok_int _ rfl _ _ 62 rfl 3 3 .i64 law Try.underlying62 Try.underlying3 (zeroE _) bm n D rfl hown _ _ rfl (hkey hk) ?_; intro c hat hwc; clear hat; rw [h1'])
  go_ret
  exact ⟨rfl, rfl⟩

/-- what a new thing's coming may turn: the index's head, its map, its row -/
def Own (x bm : Nat) (ao : Option Addr) (j : Nat) : Prop := j = x ∨ j = bm ∨ ∃ a, ao = some a ∧ j = a.block

set_option maxRecDepth 100000 in
set_option maxHeartbeats 2000000 in
theorem of_new (B x bm : Nat) (ao : Option Addr) (cap : Nat) (zs : List Int) (k : Int) (w : World) (h : IxI B x bm ao cap zs w) (hk : okk k) (hin : k ∉ zs) (hf : (zs.length : Int) < (1048576 : Int)) :
    Calls Try.prog 19 #[.pointer (some ⟨x, 0, none⟩), .int .i64 k] w fun e w' => e = .returned (.int .i64 (zs.length + 1 : Nat)) ∧ ∃ g cap', IxI B x bm (some ⟨g, 0, none⟩) cap' (zs ++ [k]) w' ∧ Turn (Own x bm ao) w w' ∧ (ao = some ⟨g, 0, none⟩ ∨ w.heap.size ≤ g) := by
  obtain ⟨n, D, hn, hown, hh⟩ := h.map
  have c1 := h.c1
  have c0 := h.c0
  have f0 := h.f0
  have hlx := h.lt
  have hlm := h.ltm
  have hBx := h.hx
  have hrow := h.row
  have hnot := h.apart (by decide)
  obtain ⟨h1, h2⟩ := hh k hk
  have h1' : Maps.has D (lit k) = false := by rw [h1]; exact isIn_no hin
  obtain ⟨i0, hi, hz0, hz1, hz2⟩ := info_parts infoE
  have hxr : some x ≠ (Value.slice ao zs.length cap).ownBlock := by
    intro q; cases ao with
    | none => cases q
    | some a => exact (hnot a rfl).1 (by simpa [Value.ownBlock] using q.symm)
  have hmr : some bm ≠ (Value.slice ao zs.length cap).ownBlock := by
    intro q; cases ao with
    | none => cases q
    | some a => exact (hnot a rfl).2.1 (by simpa [Value.ownBlock] using q.symm)
  have hge : decide ((1048576 : Int) ≤ (zs.length : Int)) = false := by simpa using hf
  have hfl : zs.length ≤ 1048576 := by omega
  have b1 : zs.length + 1 ≤ maxLen := by unfold maxLen; omega
  have b2 : (zs.length + 1) * 8 ≤ 140737488355328 := by omega
  have B1 : Hid (zs.length + 1 ≤ maxLen) := b1
  have B2 : Hid ((zs.length + 1) * 8 ≤ 140737488355328) := b2
  have hBw : B ≤ w.heap.size := by omega
  clear h1 h2 hf hfl b1 b2
  go_enter Try.func19, Try.ntmps19
  go_wp2_with (first
    | (at_lookup; refine wpList_lookup_own_ok_int _ rfl _ _ 62 rfl 3 3 .i64 law Try.underlying62 Try.underlying3 (zeroE _) bm n D rfl hown _ _ rfl (hkey hk) ?_; intro c hat hwc; clear hat; rw [h1'])
    | (at_builtin; refine wpList_append_lies _ rfl _ _ 44 rfl B 3 i0 (.int .i64 0) 1 8 Try.underlying44 hi hz0 hz1 hz2 rfl (by decide) _ _ _ rfl (hrow.alloc _) ⟨w.heap.size, 0, none⟩ 1 1 [.int .i64 k] rfl rfl (cell_one_new _ _ _) (by simp [Value.oneCell']) (by decide) B1.out B2.out (by simp; omega) (w.heap.size + 1) (by simp) ?_; intro g cap' w1 hrow1 hgrow hat1 hlt1; have c0' := (alloc_cell hgrow hlx hxr).trans c0; have c1' := (alloc_cell (o := 1) hgrow hlx hxr).trans c1; have f0' := (alloc_frozen hgrow hlx hxr).trans f0; clear c0 c1 f0))
  have hat2 : (Value.slice ao zs.length cap).ownBlock = some g ∨ g = w.heap.size + 1 := hat1
  clear hat1
  have hxg : x ≠ g := by
    rcases hat2 with q | q
    · intro e; exact hxr (by rw [e]; exact q.symm)
    · omega
  have hmg : bm ≠ g := by
    rcases hat2 with q | q
    · intro e; exact hmr (by rw [e]; exact q.symm)
    · omega
  have hgo : ao = some ⟨g, 0, none⟩ ∨ w.heap.size ≤ g := by
    rcases hat2 with q | q
    · cases ao with
      | none => cases q
      | some a =>
        left
        rcases hrow.2 with ⟨hv, _⟩ | ⟨g', cap'', cur, hv, _⟩
        · cases hv
        · simp only [Value.slice.injEq, Option.some.injEq] at hv
          obtain ⟨rfl, _, _⟩ := hv
          simp only [Value.ownBlock, Option.some.injEq] at q
          rw [q]
    · right; omega
  have hsz1 : w.heap.size + 1 ≤ w1.heap.size := by have := hgrow.size; simpa using this
  have hown2 : (w1.setCell ⟨x, 0, none⟩ (.slice (some ⟨g, 0, none⟩) (zs.length + 1) cap')).ownsMap Try.prog 3 (plainElem Try.prog 3) bm n D := ((hown.alloc _).kept hgrow hmr).setCell (fun q => h.ne q.symm) _
  have hrow2 : (w1.setCell ⟨x, 0, none⟩ (.slice (some ⟨g, 0, none⟩) (zs.length + 1) cap')).ownsRow B 3 1 (.slice (some ⟨g, 0, none⟩) (zs.length + 1) cap') (zs.length + 1) (zs.flatMap cells ++ [.int .i64 k]) := (Turn.refl (fun j => j = x) w1).setCell (p := ⟨x, 0, none⟩) (fun _ => rfl) _ |>.row hrow1 (fun g' hg' => by cases hg'; exact fun e => hxg e.symm)
  have t2 : Turn (Own x bm ao) w (w1.setCell ⟨x, 0, none⟩ (.slice (some ⟨g, 0, none⟩) (zs.length + 1) cap')) :=
    (((Turn.refl _ w).alloc _).grown hgrow (fun j hj _ => by cases ao with
      | none => cases hj
      | some a => cases hj; exact .inr (.inr ⟨a, rfl, rfl⟩))).setCell (p := ⟨x, 0, none⟩) (fun _ => .inl rfl) _
  have hb1 : w1.heap[x]? = some (.cells #[.slice ao zs.length cap, .map (some bm)] 64 (0, 0)) := (hgrow.block x (by simp; omega) hxr).trans ((Below.heap_alloc _ _ _ hlx).trans h.hb)
  have hb2 : (w1.setCell ⟨x, 0, none⟩ (.slice (some ⟨g, 0, none⟩) (zs.length + 1) cap')).heap[x]? = some (.cells #[.slice (some ⟨g, 0, none⟩) (zs.length + 1) cap', .map (some bm)] 64 (0, 0)) := by
    simp [World.setCell, Array.getElem?_modify, hb1]
  generalize (w1.setCell ⟨x, 0, none⟩ (.slice (some ⟨g, 0, none⟩) (zs.length + 1) cap')) = w2 at *
  have d0 : w2.cell? ⟨x, 0, none⟩ = some (.slice (some ⟨g, 0, none⟩) (zs.length + 1) cap') := by rw [Lib.cell_of_heap hb2]; rfl
  have d1 : w2.cell? ⟨x, 1, none⟩ = some (.map (some bm)) := by rw [Lib.cell_of_heap hb2]; rfl
  clear c0' c1' f0' hb1 hrow1 hown hrow hgrow
  have hnm : n < maxLen := by have := B1.out; omega
  have hup := Classical.axiomOfChoice (fun q : Nat => (show (w2.drewN q).ownsMap Try.prog 3 (plainElem Try.prog 3) bm n D from hown2).update law Try.underlying62 hnm (hkey hk) (plainElem_int Try.underlying3 (a := (zs.length : Int) + 1) (q := .i64) (by have := B1.out; unfold maxLen at this; exact WalkArith.wf_i64 (by omega))))
  obtain ⟨F, hF⟩ := hup
  have hr1 : (Instr.mapUpdate 62 (.map (some bm)) (.int .i64 k) (.int .i64 ((zs.length : Int) + 1))).run Try.prog w2.drew = .ok () (F 1) := (hF 1).1
  have ho3 : (F 1).ownsMap Try.prog 3 (plainElem Try.prog 3) bm (n + 1) (D.put (lit k) (.lit (.int .i64 ((zs.length : Int) + 1)))) := (hF 1).2.1
  have hg3 : (w2.drewN 1).grownBy (F 1) (some bm) := (hF 1).2.2
  clear hF
  generalize F 1 = w3 at *
  have t3 : Turn (Own x bm ao) w w3 := (t2.drewN 1).grown hg3 (fun j hj _ => by cases hj; exact .inr (.inl rfl))
  have s2 : Turn (fun j => j = bm) w2 w3 := ((Turn.refl _ w2).drewN 1).grown hg3 (fun j hj _ => by cases hj; rfl)
  have hlx2 : x < w2.heap.size := (Array.getElem?_eq_some_iff.1 hb2).1
  have hb3 : w3.heap[x]? = some (.cells #[.slice (some ⟨g, 0, none⟩) (zs.length + 1) cap', .map (some bm)] 64 (0, 0)) := (s2.block x hlx2 h.ne).trans hb2
  have hrow3 := s2.row hrow2 (fun g' hg' => by cases hg'; exact fun e => hmg e.symm)
  have k0 : w3.cell? ⟨x, 0, none⟩ = some (.slice (some ⟨g, 0, none⟩) (zs.length + 1) cap') := by rw [Lib.cell_of_heap hb3]; rfl
  have hfin : IxI B x bm (some ⟨g, 0, none⟩) cap' (zs ++ [k]) w3 := by
    refine ⟨h.hx, h.hm, h.ne, ?_, ?_, ?_, n + 1, _, ?_, ho3, ?_⟩
    · rw [List.length_append]; exact hb3
    · rw [List.length_append, List.flatMap_append]; simpa [cells] using hrow3
    · intro z hz
      rcases List.mem_append.1 hz with q | q
      · exact h.oks z q
      · simp at q; rw [q]; exact hk
    · simp; omega
    · have := hh.put hown2.isMap hin hk (isKey hk) (fun j hj e => inj j k hj hk e)
      simpa using this
  clear hown2 hrow2 t2 hb2 ho3 hg3 s2 hb3 hrow3 hh hnot h
  go_region
  go_wp2
  go_ret
  exact ⟨ret_int (by simp), g, cap', hfin, t3, hgo⟩

set_option maxRecDepth 100000 in
set_option maxHeartbeats 1000000 in
theorem find_any (B x bm : Nat) (ao : Option Addr) (cap : Nat) (zs : List Int) (k : Int) (w : World) (h : IxI B x bm ao cap zs w) (hk : okk k) :
    Calls Try.prog 20 #[.pointer (some ⟨x, 0, none⟩), .int .i64 k] w fun e w' => e = .returned (.tuple #[.int .i64 (num zs k : Nat), .bool (isIn zs k)]) ∧ w' = w := by
  obtain ⟨n, D, hn, hown, hh⟩ := h.map
  have c1 := h.c1
  obtain ⟨h1, h2⟩ := hh k hk
  have H1 : Hid (Maps.has D (lit k) = isIn zs k) := h1
  have H2 : Hid (D.atKey (lit k) (.lit (.int .i64 0)) = .lit (.int .i64 (num zs k : Nat))) := h2
  clear h1 h2 hh
  generalize hd : isIn zs k = d at *
  have Hd := hide' hd
  clear hd
  go_enter Try.func20, Try.ntmps20
  go_wp2_with (at_lookup; refine wpList_lookup_own_ok_int _ rfl _ _ 62 rfl 3 3 .i64 law Try.underlying62 Try.underlying3 (zeroE _) bm n D rfl hown _ _ rfl (hkey hk) ?_; intro c hat hwc; rw [H2.out] at hat; rw [H1.out])
  go_ret2
  exact ⟨ret_two (by have := lit_int hat; rw [this]; rfl) rfl, rfl⟩

theorem row_at {B : Nat} {a : Addr} {cap : Nat} {zs : List Int} {w : World} (h : w.ownsRow B 3 1 (.slice (some a) zs.length cap) zs.length (zs.flatMap cells)) (j : Nat) (k : Int) (hj : zs[j]? = some k) : a = ⟨a.block, 0, none⟩ ∧ w.cell? ⟨a.block, j, none⟩ = some (.int .i64 k) := by
  rcases h.2 with ⟨hv, _⟩ | ⟨g, cap', cur, hv, hb, hg, h1, h2, h3, h4⟩
  · cases hv
  · simp only [Value.slice.injEq, Option.some.injEq] at hv
    obtain ⟨rfl, _, rfl⟩ := hv
    refine ⟨rfl, ?_⟩
    rw [Lib.cell_of_heap hg]
    have hl : j < zs.length := by
      rcases Nat.lt_or_ge j zs.length with q | q
      · exact q
      · rw [List.getElem?_eq_none q] at hj; cases hj
    have e1 := flat_at zs j
    rw [hj, ← h4, List.getElem?_take_of_lt (by omega), Array.getElem?_toList] at e1
    exact e1

set_option maxRecDepth 100000 in
set_option maxHeartbeats 1000000 in
theorem at_yes (B x bm : Nat) (ao : Option Addr) (cap : Nat) (zs : List Int) (n : Int) (k : Int) (w : World) (h : IxI B x bm ao cap zs w) (h1 : 1 ≤ n) (h2 : n ≤ (zs.length : Int)) (hm : (zs.length : Int) ≤ 1048576) (hk : zs[(n - 1).toNat]? = some k) :
    Calls Try.prog 21 #[.pointer (some ⟨x, 0, none⟩), .int .i64 n] w fun e w' => e = .returned (.tuple #[.int .i64 k, .bool true]) ∧ w' = w := by
  have c0 := h.c0
  have hrow := h.row
  cases ao with
  | none =>
    rcases hrow.2 with ⟨_, h0⟩ | ⟨g, cap', cur, hv, _⟩
    · omega
    · cases hv
  | some a =>
    obtain ⟨ha, hc⟩ := row_at hrow _ k hk
    rw [ha] at c0
    obtain ⟨m, rfl⟩ : ∃ m : Nat, n = (m : Int) + 1 := ⟨(n - 1).toNat, by omega⟩
    have e1 : ((m : Int) + 1 - 1).toNat = m := by omega
    rw [e1] at hc
    have hcap : zs.length ≤ cap := by
      rcases hrow.2 with ⟨_, h0⟩ | ⟨g, cap', cur, hv, _, _, h1, _⟩
      · omega
      · simp only [Value.slice.injEq] at hv; omega
    have g1 : decide ((m : Int) + 1 < 1) = false := by simp; omega
    have g2 : decide ((zs.length : Int) < (m : Int) + 1) = false := by simp; omega
    clear e1 hk ha hrow h h1
    go_enter Try.func21, Try.ntmps21
    go_wp2
    go_ret2
    exact ⟨ret_two rfl rfl, rfl⟩

set_option maxRecDepth 100000 in
set_option maxHeartbeats 1000000 in
theorem at_no (B x bm : Nat) (ao : Option Addr) (cap : Nat) (zs : List Int) (n : Int) (w : World) (h : IxI B x bm ao cap zs w) (h1 : n < 1 ∨ (zs.length : Int) < n) :
    Calls Try.prog 21 #[.pointer (some ⟨x, 0, none⟩), .int .i64 n] w fun e w' => e = .returned (.tuple #[.int .i64 0, .bool false]) ∧ w' = w := by
  have c0 := h.c0
  clear h
  by_cases q : n < 1
  · go_enter Try.func21, Try.ntmps21
    go_wp2
    go_ret2
    exact ⟨ret_two rfl rfl, rfl⟩
  · have q2 : (zs.length : Int) < n := by omega
    have g1 : decide (n < 1) = false := by simpa using q
    have g2 : decide ((zs.length : Int) < n) = true := by simpa using q2
    clear h1 q q2
    go_enter Try.func21, Try.ntmps21
    go_wp2
    go_ret2
    exact ⟨ret_two rfl rfl, rfl⟩

set_option maxRecDepth 100000 in
set_option maxHeartbeats 1000000 in
theorem len_any (B x bm : Nat) (ao : Option Addr) (cap : Nat) (zs : List Int) (w : World) (h : IxI B x bm ao cap zs w) :
    Calls Try.prog 22 #[.pointer (some ⟨x, 0, none⟩)] w fun e w' => e = .returned (.int .i64 zs.length) ∧ w' = w := by
  have c0 := h.c0
  clear h
  go_enter Try.func22, Try.ntmps22
  go_wp2
  go_ret
  exact ⟨rfl, rfl⟩

set_option maxRecDepth 100000 in
set_option maxHeartbeats 1000000 in
theorem new_any (w : World) :
    Calls Try.prog 18 #[] w fun e w' => e = .returned (.pointer (some ⟨w.heap.size + 1, 0, none⟩)) ∧ IxI w.heap.size (w.heap.size + 1) w.heap.size none 0 [] w' ∧ Below w.heap.size w w' ∧ w'.heap.size = w.heap.size + 2 := by
  have hmm := @run_makeMap Try.prog
  go_enter Try.func18, Try.ntmps18
  go_wp2
  go_ret
  refine ⟨rfl, ⟨by omega, by omega, by omega, ?_, World.ownsRow_nil _ _ _ _, by simp, 0, .map [], by simp, ?_, Holds.empty _ _⟩, ((Below.refl _ _).alloc (Nat.le_refl _) _).alloc (by simp) _, by simp⟩
  · have := heap_alloc_new (w.alloc (.map #[] 0)) (.cells #[.slice none 0 0, .map (some w.heap.size)] 64)
    simpa using this
  · exact (World.ownsMap_made w Try.prog 3 _).alloc _
end I
end Go.Proofs.Ytgjdpgmffhihnab
