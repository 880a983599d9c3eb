import Derived.Test.YtdhmommfmmiieaaRB
import Derived.Test.YtdhmommfmmiieaaKN
import Derived.Test.YtdhmommfmmiieaaRA
import Derived.Deep.RegionLaw
import Derived.Deep.RegionHeld3
set_option linter.unusedVariables false
set_option linter.unusedSimpArgs false
namespace Go.Proofs.Ytdhmommfmmiieaa
open Go.RowKit Go.Maps
namespace W
section
variable {κ : Type} [DecidableEq κ]
/-- a thing's place among the things -/
def ix (zs : List κ) (k : κ) : Nat := zs.idxOf k
theorem ix_new {zs : List κ} {k : κ} (h : k ∉ zs) : ix (zs ++ [k]) k = zs.length := by simp [ix, List.idxOf_append, h]
theorem ix_old {zs ys : List κ} {k : κ} (h : k ∈ zs) : ix (zs ++ ys) k = ix zs k := by simp [ix, List.idxOf_append, h]
theorem ix_lt {zs : List κ} {k : κ} (h : k ∈ zs) : ix zs k < zs.length := List.idxOf_lt_length_of_mem h
theorem ix_at {zs : List κ} {k : κ} (h : k ∈ zs) : zs[ix zs k]? = some k := by
  have hl := List.idxOf_lt_length_of_mem h
  unfold ix
  rw [List.getElem?_eq_getElem hl, List.getElem_idxOf]
theorem ix_of {zs : List κ} (hn : zs.Nodup) {i : Nat} {k : κ} (h : zs[i]? = some k) : ix zs k = i := by
  have hk : k ∈ zs := List.mem_of_getElem? h
  have h1 := ix_at hk
  have hl := ix_lt hk
  have hi := (List.getElem?_eq_some_iff.1 h).1
  have e : zs[ix zs k] = zs[i] := by
    have a := (List.getElem?_eq_some_iff.1 h1).2
    have b := (List.getElem?_eq_some_iff.1 h).2
    rw [a, b]
  have hp := List.pairwise_iff_getElem.1 hn
  rcases Nat.lt_trichotomy (ix zs k) i with q | q | q
  · exact absurd e (hp _ _ hl hi q)
  · exact q
  · exact absurd e.symm (hp _ _ hi hl q)
end
/-- one name's row of numbers: where it lies, its room, its numbers -/
abbrev R3 := Option Addr × Nat × List Int
def val (r : R3) : Value := .slice r.1 r.2.2.length r.2.1
def At (ao : Option Addr) (j : Nat) : Prop := ∃ a, ao = some a ∧ j = a.block
/-- what the map of numbers holds -/
def Holds (D : DataW Unit) (zs : List ByteArray) : Prop := ∀ k, S.okk k → Maps.has D (S.lit k) = isIn zs k ∧ (k ∈ zs → D.atKey (S.lit k) (.lit (.int .i64 0)) = .lit (.int .i64 (ix zs k : Nat)))
/-- BLOCK x IS A WEB: its names zs, each with its row rs -/
structure Wb (B x bm : Nat) (no : Option Addr) (ncap : Nat) (xo : Option Addr) (xcap : Nat) (zs : List ByteArray) (rs : List R3) (w : World) : Prop where
  hx : B ≤ x
  hm : B ≤ bm
  hb : w.heap[x]? = some (.cells #[.slice no zs.length ncap, .map (some bm), .slice xo zs.length xcap] 121 (0, 0))
  len : rs.length = zs.length
  names : S.RowI B no ncap zs w
  row : w.ownsRow B 76 1 (.slice xo zs.length xcap) zs.length (rs.map val)
  map : ∃ m D, m ≤ zs.length ∧ w.ownsMap Try.prog 9 (plainElem Try.prog 3) bm m D ∧ Holds D zs
  each : ∀ (i : Nat) (r : R3), rs[i]? = some r → I.RowI B r.1 r.2.1 r.2.2 w
  rr : ∀ (i j : Nat) (r s : R3), rs[i]? = some r → rs[j]? = some s → i ≠ j → ∀ g, At r.1 g → ¬ At s.1 g
  oks : ∀ z ∈ zs, S.okk z
/-- the blocks of a web -/
def Own (x bm : Nat) (no xo : Option Addr) (rs : List R3) (j : Nat) : Prop := j = x ∨ j = bm ∨ At no j ∨ At xo j ∨ ∃ (i : Nat) (r : R3), rs[i]? = some r ∧ At r.1 j
section
variable {B x bm : Nat} {no xo : Option Addr} {ncap xcap : Nat} {zs : List ByteArray} {rs : List R3} {w w' : World}
theorem kindN (h : S.RowI B no ncap zs w) {j : Nat} (q : At no j) : ∃ cur, w.heap[j]? = some (.cells cur 9 (0, 0)) := by
  obtain ⟨a, e, rfl⟩ := q
  rcases h.2 with ⟨hv, _⟩ | ⟨g, c, cur, hv, _, hg, _⟩
  · rw [e] at hv; cases hv
  · simp only [Value.slice.injEq] at hv; rw [hv.1] at e; cases e; exact ⟨cur, hg⟩
theorem kindX {n : Nat} {vs : List Value} (h : w.ownsRow B 76 1 (.slice xo n xcap) n vs) {j : Nat} (q : At xo j) : (∃ cur, w.heap[j]? = some (.cells cur 76 (0, 0))) ∧ B ≤ j := by
  obtain ⟨a, e, rfl⟩ := q
  rcases h.2 with ⟨hv, _⟩ | ⟨g, c, cur, hv, hb, hg, _⟩
  · rw [e] at hv; cases hv
  · simp only [Value.slice.injEq] at hv; rw [hv.1] at e; cases e; exact ⟨⟨cur, hg⟩, hb⟩
theorem kindR {ao : Option Addr} {cap : Nat} {l : List Int} (h : I.RowI B ao cap l w) {j : Nat} (q : At ao j) : ∃ cur, w.heap[j]? = some (.cells cur 3 (0, 0)) := by
  obtain ⟨a, e, rfl⟩ := q
  rcases h.2 with ⟨hv, _⟩ | ⟨g, c, cur, hv, _, hg, _⟩
  · rw [e] at hv; cases hv
  · simp only [Value.slice.injEq] at hv; rw [hv.1] at e; cases e; exact ⟨cur, hg⟩
theorem Wb.ne (h : Wb B x bm no ncap xo xcap zs rs w) : x ≠ bm := by
  obtain ⟨m, D, _, hown, _⟩ := h.map
  obtain ⟨es, clock, hb, _⟩ := hown
  intro e; rw [← e, h.hb] at hb; cases hb
theorem Wb.nN (h : Wb B x bm no ncap xo xcap zs rs w) : ¬ At no x ∧ ¬ At no bm ∧ ∀ j, At no j → ¬ At xo j := by
  obtain ⟨m, D, _, hown, _⟩ := h.map
  obtain ⟨es, clock, hb, _⟩ := hown
  refine ⟨fun q => ?_, fun q => ?_, fun j q r => ?_⟩
  · obtain ⟨cur, e⟩ := kindN h.names q; rw [h.hb] at e; cases e
  · obtain ⟨cur, e⟩ := kindN h.names q; rw [hb] at e; cases e
  · obtain ⟨cur, e⟩ := kindN h.names q; obtain ⟨⟨cur2, e2⟩, _⟩ := kindX h.row r; rw [e] at e2; cases e2
theorem Wb.nX (h : Wb B x bm no ncap xo xcap zs rs w) : ¬ At xo x ∧ ¬ At xo bm := by
  obtain ⟨m, D, _, hown, _⟩ := h.map
  obtain ⟨es, clock, hb, _⟩ := hown
  refine ⟨fun q => ?_, fun q => ?_⟩
  · obtain ⟨⟨cur, e⟩, _⟩ := kindX h.row q; rw [h.hb] at e; cases e
  · obtain ⟨⟨cur, e⟩, _⟩ := kindX h.row q; rw [hb] at e; cases e
theorem Wb.nR (h : Wb B x bm no ncap xo xcap zs rs w) {i : Nat} {r : R3} (hr : rs[i]? = some r) : ¬ At r.1 x ∧ ¬ At r.1 bm ∧ (∀ j, At r.1 j → ¬ At no j) ∧ ∀ j, At r.1 j → ¬ At xo j := by
  obtain ⟨m, D, _, hown, _⟩ := h.map
  obtain ⟨es, clock, hb, _⟩ := hown
  refine ⟨fun q => ?_, fun q => ?_, fun j q s => ?_, fun j q s => ?_⟩
  · obtain ⟨cur, e⟩ := kindR (h.each i r hr) q; rw [h.hb] at e; cases e
  · obtain ⟨cur, e⟩ := kindR (h.each i r hr) q; rw [hb] at e; cases e
  · obtain ⟨cur, e⟩ := kindR (h.each i r hr) q; obtain ⟨cur2, e2⟩ := kindN h.names s; rw [e] at e2; cases e2
  · obtain ⟨cur, e⟩ := kindR (h.each i r hr) q; obtain ⟨⟨cur2, e2⟩, _⟩ := kindX h.row s; rw [e] at e2; cases e2
theorem Wb.own (h : Wb B x bm no ncap xo xcap zs rs w) : ∀ j, Own x bm no xo rs j → B ≤ j ∧ j < w.heap.size := by
  obtain ⟨m, D, _, hown, _⟩ := h.map
  rintro j (q | q | q | q | ⟨i, r, hr, q⟩)
  · rw [q]; exact ⟨h.hx, lt_of_heap h.hb⟩
  · rw [q]; exact ⟨h.hm, hown.lt⟩
  · obtain ⟨a, e, rfl⟩ := q; exact h.names.lt _ ⟨a, e, rfl⟩
  · obtain ⟨⟨cur, e⟩, hb⟩ := kindX h.row q; exact ⟨hb, lt_of_heap e⟩
  · obtain ⟨a, e, rfl⟩ := q; exact (h.each i r hr).lt _ ⟨a, e, rfl⟩
theorem Wb.turn {T : Nat → Prop} (h : Wb B x bm no ncap xo xcap zs rs w) (t : Turn T w w') (hS : ∀ j, Own x bm no xo rs j → ¬ T j) : Wb B x bm no ncap xo xcap zs rs w' := by
  obtain ⟨m, D, hm, hown, hh⟩ := h.map
  refine ⟨h.hx, h.hm, (t.block x (lt_of_heap h.hb) (hS x (.inl rfl))).trans h.hb, h.len, h.names.turn t (fun j q => hS j (.inr (.inr (.inl ?_)))), t.row h.row (fun g hg => hS g (.inr (.inr (.inr (.inl ?_))))), ⟨m, D, hm, t.map hown (hS bm (.inr (.inl rfl))), hh⟩, fun i r hr => (h.each i r hr).turn t (fun j q => hS j (.inr (.inr (.inr (.inr ⟨i, r, hr, ?_⟩))))), h.rr, h.oks⟩
  · obtain ⟨a, e, q⟩ := q; exact ⟨a, e, q⟩
  · cases xo with
    | none => cases hg
    | some a => exact ⟨a, rfl, by simpa [Value.ownBlock] using hg.symm⟩
  · obtain ⟨a, e, q⟩ := q; exact ⟨a, e, q⟩
theorem Wb.below (h : Wb B x bm no ncap xo xcap zs rs w) (b : Below w.heap.size w w') : Wb B x bm no ncap xo xcap zs rs w' := h.turn (turn_below (S := fun _ => False) b) (fun _ _ => id)
theorem Wb.c0 (h : Wb B x bm no ncap xo xcap zs rs w) : w.cell? ⟨x, 0, none⟩ = some (.slice no zs.length ncap) := by rw [Lib.cell_of_heap h.hb]; rfl
theorem Wb.c1 (h : Wb B x bm no ncap xo xcap zs rs w) : w.cell? ⟨x, 1, none⟩ = some (.map (some bm)) := by rw [Lib.cell_of_heap h.hb]; rfl
theorem Wb.c2 (h : Wb B x bm no ncap xo xcap zs rs w) : w.cell? ⟨x, 2, none⟩ = some (.slice xo zs.length xcap) := by rw [Lib.cell_of_heap h.hb]; rfl
theorem Wb.fz (h : Wb B x bm no ncap xo xcap zs rs w) (i : Nat) : w.frozen? ⟨x, i, none⟩ = false := Lib.frozen_of_heap h.hb i
end
theorem zeroE (w : World) : (zeroValue 3).run Try.prog w = .ok (.int .i64 0) w := by kernel_rfl
theorem lit_int {q : IntKind} {a b : Int} (h : (DataW.lit (.int q a) : DataW Unit) = .lit (.int q b)) : a = b := by simpa using h
theorem ret_int {k : IntKind} {a b : Int} (h : a = b) : Ending.returned (.int k a) = .returned (.int k b) := by rw [h]
set_option maxRecDepth 100000 in
set_option maxHeartbeats 1000000 in
theorem number_old (B x bm : Nat) (no : Option Addr) (ncap : Nat) (xo : Option Addr) (xcap : Nat) (zs : List ByteArray) (rs : List R3) (k : ByteArray) (w : World) (h : Wb B x bm no ncap xo xcap zs rs w) (hk : S.okk k) (hin : k ∈ zs) :
    Calls Try.prog 75 #[.pointer (some ⟨x, 0, none⟩), .string k] w fun e w' => e = .returned (.int .i64 (ix zs k : Nat)) ∧ w' = w := by
  obtain ⟨n, D, hn, hown, hh⟩ := h.map
  have c1 := h.c1
  obtain ⟨h1, h2⟩ := hh k hk
  have h1' : Maps.has D (S.lit k) = true := by rw [h1]; exact isIn_yes hin
  have H2 := hide' (h2 hin)
  clear h1 h2 hh h hn
  go_enter Try.func75, Try.ntmps75
  go_wp2_with (at_lookup; refine wpList_lookup_own_ok_int _ rfl _ _ 118 rfl 9 3 .i64 S.law Try.underlying118 Try.underlying3 (zeroE _) bm n D rfl hown _ _ rfl (S.hkey hk) ?_; intro c hat hwc; rw [H2.out] at hat; rw [h1'])
  go_ret
  exact ⟨ret_int (lit_int hat).symm, rfl⟩
theorem Holds.put {D : DataW Unit} {zs : List ByteArray} (h : Holds D zs) (hm : IsMap D) {k : ByteArray} (hk : k ∉ zs) (hok : S.okk k) : Holds (D.put (S.lit k) (.lit (.int .i64 (zs.length : Nat)))) (zs ++ [k]) := by
  intro j hj
  by_cases e : j = k
  · subst e
    refine ⟨by rw [has_put_same hm (S.isKey hok)]; simp [isIn], fun _ => ?_⟩
    rw [atKey_put_same hm (S.isKey hok)]
    rw [ix_new hk]
  · have hne : S.lit j ≠ S.lit k := fun q => e (S.inj j k hj hok q)
    obtain ⟨h1, h2⟩ := h j hj
    refine ⟨by rw [has_put_other hne, h1]; simp [isIn, e], fun q => ?_⟩
    have hj' : j ∈ zs := by
      rcases List.mem_append.1 q with q | q
      · exact q
      · simp at q; exact absurd q e
    rw [atKey_put_other hne, h2 hj', ix_old hj']
end W
end Go.Proofs.Ytdhmommfmmiieaa
set_option linter.unusedVariables false
set_option linter.unusedSimpArgs false
namespace Go.Proofs.Ytdhmommfmmiieaa
open Go.RowKit Go.Maps
namespace W
/-- what a new name leaves -/
def Newer (B x bm : Nat) (no xo : Option Addr) (zs : List ByteArray) (rs : List R3) (k : ByteArray) (w w' : World) : Prop := ∃ no' ncap' xo' xcap', Wb B x bm no' ncap' xo' xcap' (zs ++ [k]) (rs ++ [(none, 0, [])]) w' ∧ Turn (Own x bm no xo rs) w w' ∧ (∀ j, Own x bm no' xo' (rs ++ [(none, 0, [])]) j → Own x bm no xo rs j ∨ w.heap.size ≤ j)
def Stay (p : Prop) : Prop := p
theorem stay_app {P : Program} {ops : Array Oper} {Q : Exit → Act → World → Prop} {rest : List Oper} {o : Oper} {a : Act} {w : World} {s x : Operand} {t u : TypeId} (ho : o.op = .call { callee := .builtin .append, args := #[s, x], argTypes := #[t, u] }) (h : Stay (wpList P ops Q (o :: rest) a w)) : wpList P ops Q (o :: rest) a w := h
/-- behind the names' append and store -/
theorem mid {B x bm : Nat} {no : Option Addr} {ncap : Nat} {xo : Option Addr} {xcap : Nat} {zs : List ByteArray} {rs : List R3} {k : ByteArray} {w w1 w2 : World} {g cap2 : Nat} (h : Wb B x bm no ncap xo xcap zs rs w) (hN : (¬ At no x ∧ ¬ At no bm ∧ ∀ j, At no j → ¬ At xo j) ∧ ¬ At xo x ∧ ¬ At xo bm)
    (hb1 : w1.heap[x]? = some (.cells #[.slice no zs.length ncap, .map (some bm), .slice xo zs.length xcap] 121 (0, 0))) (t1 : Turn (fun j => j = bm) w w1) (r2 : S.RowI B (some ⟨g, 0, none⟩) cap2 (zs ++ [k]) w2) (t2 : Turn (S.At no) w1 w2) (hg2 : no = some ⟨g, 0, none⟩ ∨ w1.heap.size ≤ g) (hl2 : g < w2.heap.size) :
    ((w2.setCell ⟨x, 0, none⟩ (.slice (some ⟨g, 0, none⟩) (zs.length + 1) cap2)).heap[x]? = some (.cells #[.slice (some ⟨g, 0, none⟩) (zs.length + 1) cap2, .map (some bm), .slice xo zs.length xcap] 121 (0, 0)) ∧ x < (w2.setCell ⟨x, 0, none⟩ (.slice (some ⟨g, 0, none⟩) (zs.length + 1) cap2)).heap.size) ∧
    (Turn (fun j => j = x ∨ j = bm ∨ At no j) w (w2.setCell ⟨x, 0, none⟩ (.slice (some ⟨g, 0, none⟩) (zs.length + 1) cap2)) ∧ S.RowI B (some ⟨g, 0, none⟩) cap2 (zs ++ [k]) (w2.setCell ⟨x, 0, none⟩ (.slice (some ⟨g, 0, none⟩) (zs.length + 1) cap2)) ∧ (no = some ⟨g, 0, none⟩ ∨ w.heap.size ≤ g) ∧ Turn (fun j => j = x ∨ At no j) w1 (w2.setCell ⟨x, 0, none⟩ (.slice (some ⟨g, 0, none⟩) (zs.length + 1) cap2))) ∧
    (w2.setCell ⟨x, 0, none⟩ (.slice (some ⟨g, 0, none⟩) (zs.length + 1) cap2)).ownsRow B 76 1 (.slice xo zs.length xcap) zs.length (rs.map val) ∧ (w2.setCell ⟨x, 0, none⟩ (.slice (some ⟨g, 0, none⟩) (zs.length + 1) cap2)).cell? ⟨x, 2, none⟩ = some (.slice xo zs.length xcap) ∧ (w2.setCell ⟨x, 0, none⟩ (.slice (some ⟨g, 0, none⟩) (zs.length + 1) cap2)).frozen? ⟨x, 2, none⟩ = false := by
  have hxl := lt_of_heap hb1
  have hb2 := (t2.block x hxl hN.1.1).trans hb1
  have hb3 : (w2.setCell ⟨x, 0, none⟩ (.slice (some ⟨g, 0, none⟩) (zs.length + 1) cap2)).heap[x]? = some (.cells #[.slice (some ⟨g, 0, none⟩) (zs.length + 1) cap2, .map (some bm), .slice xo zs.length xcap] 121 (0, 0)) := by simp [World.setCell, Array.getElem?_modify, hb2]
  have tA : Turn (fun j => j = x ∨ j = bm ∨ At no j) w w2 := (t1.mono (fun j _ q => .inr (.inl q))).then t2 (fun j _ q => .inr (.inr q))
  have t3 : Turn (fun j => j = x ∨ j = bm ∨ At no j) w (w2.setCell ⟨x, 0, none⟩ (.slice (some ⟨g, 0, none⟩) (zs.length + 1) cap2)) := tA.setCell (p := ⟨x, 0, none⟩) (fun _ => .inl rfl) _
  have hgx : g ≠ x := by
    rcases hg2 with e | e
    · exact fun q => hN.1.1 ⟨_, e, q.symm⟩
    · omega
  refine ⟨⟨hb3, lt_of_heap hb3⟩, ⟨t3, r2.turn ((Turn.refl (fun j => j = x) w2).setCell (p := ⟨x, 0, none⟩) (fun _ => rfl) _) (fun j q e => ?_), ?_, (t2.mono (fun j _ q => .inr q)).setCell (p := ⟨x, 0, none⟩) (fun _ => .inl rfl) _⟩, t3.row h.row (fun j hj q => ?_), by rw [Lib.cell_of_heap hb3]; rfl, Lib.frozen_of_heap hb3 2⟩
  · obtain ⟨a, e', rfl⟩ := q; cases e'; exact hgx e
  · rcases hg2 with e | e
    · exact .inl e
    · exact .inr (by have := t1.size; omega)
  · have hj' : At xo j := by
      cases xo with
      | none => cases hj
      | some a => exact ⟨a, rfl, by simpa [Value.ownBlock] using hj.symm⟩
    rcases q with q | q | q
    · subst q; exact hN.2.1 hj'
    · subst q; exact hN.2.2 hj'
    · exact hN.1.2.2 j q hj'
theorem fin {B x bm : Nat} {no : Option Addr} {ncap : Nat} {xo : Option Addr} {xcap : Nat} {zs : List ByteArray} {rs : List R3} {k : ByteArray} {w w1 W w3 : World} {m : Nat} {D : DataW Unit} {g2 cap2 g3 cap3 : Nat} (h : Wb B x bm no ncap xo xcap zs rs w) (hN : (¬ At no x ∧ ¬ At no bm ∧ ∀ j, At no j → ¬ At xo j) ∧ ¬ At xo x ∧ ¬ At xo bm)
    (ho1 : w1.ownsMap Try.prog 9 (plainElem Try.prog 3) bm m D) (hm : m ≤ zs.length + 1) (hh : Holds D (zs ++ [k])) (hk : S.okk k) (hbW : W.heap[x]? = some (.cells #[.slice (some ⟨g2, 0, none⟩) (zs.length + 1) cap2, .map (some bm), .slice xo zs.length xcap] 121 (0, 0))) (tW : Turn (fun j => j = x ∨ j = bm ∨ At no j) w W) (rN : S.RowI B (some ⟨g2, 0, none⟩) cap2 (zs ++ [k]) W) (hg2 : no = some ⟨g2, 0, none⟩ ∨ w.heap.size ≤ g2) (t1W : Turn (fun j => j = x ∨ At no j) w1 W)
    (r3 : w3.ownsRow B 76 1 (.slice (some ⟨g3, 0, none⟩) (zs.length + 1) cap3) (zs.length + 1) (rs.map val ++ [.slice none 0 0])) (t3 : Turn (I.At xo) W w3) (hg3 : xo = some ⟨g3, 0, none⟩ ∨ W.heap.size ≤ g3) :
    Newer B x bm no xo zs rs k w (w3.setCell ⟨x, 2, none⟩ (.slice (some ⟨g3, 0, none⟩) (zs.length + 1) cap3)) := by
  have nexb := h.ne
  have ts : Turn (fun j => j = x) w3 (w3.setCell ⟨x, 2, none⟩ (.slice (some ⟨g3, 0, none⟩) (zs.length + 1) cap3)) := (Turn.refl (fun j => j = x) w3).setCell (p := ⟨x, 2, none⟩) (fun _ => rfl) _
  have t3' : Turn (fun j => j = x ∨ At xo j) W (w3.setCell ⟨x, 2, none⟩ (.slice (some ⟨g3, 0, none⟩) (zs.length + 1) cap3)) := (t3.mono (fun j _ q => .inr q)).then ts (fun j _ q => .inl q)
  have hlx := lt_of_heap hbW
  have hb3 := (t3.block x hlx hN.2.1).trans hbW
  have hg3x : g3 ≠ x := by
    rcases hg3 with e | e
    · exact fun q => hN.2.1 ⟨_, e, q.symm⟩
    · omega
  have sW := tW.size
  have tB : Turn (fun j => j = x ∨ j = bm ∨ At no j ∨ At xo j) w (w3.setCell ⟨x, 2, none⟩ (.slice (some ⟨g3, 0, none⟩) (zs.length + 1) cap3)) := (tW.mono (fun j _ q => by
      rcases q with q | q | q
      · exact .inl q
      · exact .inr (.inl q)
      · exact .inr (.inr (.inl q)))).then t3' (fun j _ q => by
      rcases q with q | q
      · exact .inl q
      · exact .inr (.inr (.inr q)))
  have tA : Turn (Own x bm no xo rs) w (w3.setCell ⟨x, 2, none⟩ (.slice (some ⟨g3, 0, none⟩) (zs.length + 1) cap3)) := tB.mono (fun j _ q => by
      rcases q with q | q | q | q
      · exact .inl q
      · exact .inr (.inl q)
      · exact .inr (.inr (.inl q))
      · exact .inr (.inr (.inr (.inl q))))
  have tM : Turn (fun j => j = x ∨ At no j ∨ At xo j) w1 (w3.setCell ⟨x, 2, none⟩ (.slice (some ⟨g3, 0, none⟩) (zs.length + 1) cap3)) := (t1W.mono (fun j _ q => by
      rcases q with q | q
      · exact .inl q
      · exact .inr (.inl q))).then t3' (fun j _ q => by
      rcases q with q | q
      · exact .inl q
      · exact .inr (.inr q))
  have hlm : bm < w1.heap.size := ho1.lt
  refine ⟨some ⟨g2, 0, none⟩, cap2, some ⟨g3, 0, none⟩, cap3, ⟨h.hx, h.hm, ?_, by simp [h.len], ?_, ?_, ?_, ?_, ?_, ?_⟩, tA, ?_⟩
  · rw [List.length_append]; simp [World.setCell, Array.getElem?_modify, hb3]
  · refine rN.turn t3' (fun j q r => ?_)
    rcases r with r | r
    · subst r
      obtain ⟨cur, e⟩ := kindN rN q
      rw [hbW] at e; cases e
    · obtain ⟨cur, e⟩ := kindN rN q
      obtain ⟨a, e', rfl⟩ := q; cases e'
      rcases hg2 with e2 | e2
      · exact hN.1.2.2 _ ⟨_, e2, rfl⟩ r
      · obtain ⟨⟨cur2, e3⟩, _⟩ := kindX h.row r
        have := lt_of_heap e3; simp at this; omega
  · rw [List.length_append, List.map_append]
    exact ts.row r3 (fun g hg => by cases hg; exact hg3x)
  · refine ⟨m, D, by simp; omega, tM.map ho1 (fun q => ?_), hh⟩
    rcases q with q | q | q
    · exact nexb q.symm
    · exact hN.1.2.1 q
    · exact hN.2.2 q
  · intro i r hr
    rcases Nat.lt_or_ge i rs.length with q | q
    · rw [List.getElem?_append_left q] at hr
      have nr := h.nR hr
      refine (h.each i r hr).turn tB (fun j hj ho => ?_)
      obtain ⟨a, e, rfl⟩ := hj
      rcases ho with ho | ho | ho | ho
      · exact nr.1 ⟨a, e, by rw [ho]⟩
      · exact nr.2.1 ⟨a, e, by rw [ho]⟩
      · exact nr.2.2.1 _ ⟨a, e, rfl⟩ ho
      · exact nr.2.2.2 _ ⟨a, e, rfl⟩ ho
    · have e : r = (none, 0, []) := by
        have := (List.getElem?_eq_some_iff.1 hr).1
        have hi : i = rs.length := by simp at this; omega
        subst hi; simpa using hr.symm
      rw [e]; exact I.RowI.nil _ _
  · intro i j r s hr hs hij g q1 q2
    rcases Nat.lt_or_ge i rs.length with qi | qi
    · rcases Nat.lt_or_ge j rs.length with qj | qj
      · rw [List.getElem?_append_left qi] at hr
        rw [List.getElem?_append_left qj] at hs
        exact h.rr i j r s hr hs hij g q1 q2
      · have e : s = (none, 0, []) := by
          have := (List.getElem?_eq_some_iff.1 hs).1
          have hi : j = rs.length := by simp at this; omega
          subst hi; simpa using hs.symm
        rw [e] at q2; obtain ⟨a, e', _⟩ := q2; cases e'
    · have e : r = (none, 0, []) := by
        have := (List.getElem?_eq_some_iff.1 hr).1
        have hi : i = rs.length := by simp at this; omega
        subst hi; simpa using hr.symm
      rw [e] at q1; obtain ⟨a, e', _⟩ := q1; cases e'
  · intro z hz
    rcases List.mem_append.1 hz with q | q
    · exact h.oks z q
    · simp at q; rw [q]; exact hk
  · rintro j (q | q | q | q | ⟨i, r, hr, q⟩)
    · exact .inl (.inl q)
    · exact .inl (.inr (.inl q))
    · obtain ⟨a, e, rfl⟩ := q; cases e
      rcases hg2 with e | e
      · exact .inl (.inr (.inr (.inl ⟨_, e, rfl⟩)))
      · exact .inr e
    · obtain ⟨a, e, rfl⟩ := q; cases e
      rcases hg3 with e | e
      · exact .inl (.inr (.inr (.inr (.inl ⟨_, e, rfl⟩))))
      · exact .inr (by show w.heap.size ≤ g3; omega)
    · rcases Nat.lt_or_ge i rs.length with qi | qi
      · rw [List.getElem?_append_left qi] at hr
        exact .inl (.inr (.inr (.inr (.inr ⟨i, r, hr, q⟩))))
      · have e : r = (none, 0, []) := by
          have := (List.getElem?_eq_some_iff.1 hr).1
          have hi : i = rs.length := by simp at this; omega
          subst hi; simpa using hr.symm
        rw [e] at q; obtain ⟨a, e', _⟩ := q; cases e'
set_option maxRecDepth 100000 in
set_option maxHeartbeats 8000000 in
theorem number_new (B x bm : Nat) (no : Option Addr) (ncap : Nat) (xo : Option Addr) (xcap : Nat) (zs : List ByteArray) (rs : List R3) (k : ByteArray) (w : World) (h : Wb B x bm no ncap xo xcap zs rs w) (hk : S.okk k) (hin : k ∉ zs) (hlen : Hid (zs.length < 1073741824)) :
    Calls Try.prog 75 #[.pointer (some ⟨x, 0, none⟩), .string k] w fun e w' => e = .returned (.int .i64 (zs.length : Nat)) ∧ Newer B x bm no xo zs rs k w w' := by
  obtain ⟨n, D, hn, hown, hh⟩ := h.map
  have c0 := h.c0
  have c1 := h.c1
  have c2 := h.c2
  obtain ⟨h1, _⟩ := hh k hk
  have h1' : Maps.has D (S.lit k) = false := by rw [h1]; exact isIn_no hin
  have hnm : Hid (n < maxLen) := by have := hlen.out; show n < maxLen; unfold maxLen; omega
  have hz64 : (zs.length : Int) < 1073741824 := by have := hlen.out; omega
  have hwf : Hid ((Lit.int .i64 (zs.length : Int)).wf = true) := WalkArith.wf_i64 (by have := hlen.out; omega)
  have hlx := lt_of_heap h.hb
  have hlm := hown.lt
  have hne := h.ne
  have HN := hide' (And.intro h.nN h.nX)
  have H := hide' h
  have Hh := hide' (hh.put hown.isMap hin hk)
  have hin' := hide' hin
  clear h h1 hh hin
  go_enter Try.func75, Try.ntmps75
  go_wp2_with (first
    | (at_lookup; refine wpList_lookup_own_ok_int _ rfl _ _ 118 rfl 9 3 .i64 S.law Try.underlying118 Try.underlying3 (zeroE _) bm n D rfl hown _ _ rfl (S.hkey hk) ?_; intro c hat hwc; clear hat; rw [h1'])
    | (at_mapUpdate; refine wpList_mapUpdate_own _ rfl _ _ _ 118 rfl 9 3 S.law Try.underlying118 (plainElem Try.prog 3) bm n D rfl hown hnm.out _ _ _ rfl rfl (S.hkey hk) _ _ (plainElem_int (a := (zs.length : Int)) (q := .i64) Try.underlying3 hwf.out) ?_; intro w1 ho1 hg1; have M1 := hide' (And.intro ho1 hg1); have hb1 : w1.heap[x]? = some (.cells #[.slice no zs.length ncap, .map (some bm), .slice xo zs.length xcap] 121 (0, 0)) := (hg1.block x hlx (by simp; omega)).trans H.out.hb; have d0 : w1.cell? ⟨x, 0, none⟩ = some (.slice no zs.length ncap) := (by rw [Lib.cell_of_heap hb1]; rfl); have d2 : w1.cell? ⟨x, 2, none⟩ = some (.slice xo zs.length xcap) := (by rw [Lib.cell_of_heap hb1]; rfl); have f0 := Lib.frozen_of_heap hb1; have t1 : Turn (fun j => j = bm) w w1 := (Turn.refl _ w).grown hg1 (fun j hj _ => by cases hj; rfl); have hN1 : S.RowI B no ncap zs w1 := H.out.names.turn t1 (fun j q e => HN.out.1.2.1 (e ▸ q)); have X1 := hide' (And.intro hb1 t1); have s1 := t1.size; clear ho1 hg1 hb1 t1 c0 c1 c2)
    | (at_builtin; refine stay_app rfl ?_))
  unfold Stay
  refine S.wpList_app1 _ rfl _ _ rfl B no ncap zs k _ _ rfl hN1 rfl (by have := hlen.out; show _ < _; omega) (by have := H.out.hx; omega) ?_
  intro g2 cap2 w2 r2 t2 hg2 hl2
  have k0 : w2.cell? ⟨x, 0, none⟩ = some (.slice no zs.length ncap) := (t2.cell (p := ⟨x, 0, none⟩) (by show x < _; omega) HN.out.1.1).trans d0
  have k2 : w2.cell? ⟨x, 2, none⟩ = some (.slice xo zs.length xcap) := (t2.cell (p := ⟨x, 2, none⟩) (by show x < _; omega) HN.out.1.1).trans d2
  have q0 : w2.frozen? ⟨x, 0, none⟩ = false := (World.frozen?_of_block (t2.block x (by omega) HN.out.1.1)).trans (f0 0)
  have E1 := hide' (mid H.out HN.out X1.out.1 X1.out.2 r2 t2 hg2 hl2)
  clear r2 t2 hg2 hl2 d0 d2 f0 hN1
  go_wp2_with (at_builtin; refine stay_app rfl ?_)
  unfold Stay
  have l2 := E1.out.1.2
  have e2 := E1.out.2.2.1
  have e3 := E1.out.2.2.2.1
  have e4 := E1.out.2.2.2.2
  have sW := E1.out.2.1.1.size
  have hWs : (w2.setCell ⟨x, 0, none⟩ (.slice (some ⟨g2, 0, none⟩) (zs.length + 1) cap2)).heap.size = w2.heap.size := by simp [World.setCell]
  generalize w2.setCell ⟨x, 0, none⟩ (.slice (some ⟨g2, 0, none⟩) (zs.length + 1) cap2) = W at *
  refine I.wpList_appR _ rfl _ _ rfl B xo xcap zs.length (rs.map val) none 0 0 _ _ rfl e2 (by rw [hWs]; rfl) (by have := hlen.out; show _ < _; omega) (by have := H.out.hx; omega) ?_
  intro g3 cap3 w3 r3 t3 hg3 hl3
  have m2 : w3.cell? ⟨x, 2, none⟩ = some (.slice xo zs.length xcap) := (t3.cell (p := ⟨x, 2, none⟩) l2 HN.out.2.1).trans e3
  have q2 : w3.frozen? ⟨x, 2, none⟩ = false := (World.frozen?_of_block (t3.block x l2 HN.out.2.1)).trans e4
  have E2 := hide' (And.intro r3 (And.intro t3 (And.intro hg3 hl3)))
  clear r3 t3 hg3 hl3 e2 e3 e4
  go_wp2_with fail
  go_ret
  refine ⟨rfl, ?_⟩
  exact fin H.out HN.out M1.out.1 (by omega) Hh.out hk E1.out.1.1 E1.out.2.1.1 E1.out.2.1.2.1 E1.out.2.1.2.2.1 E1.out.2.1.2.2.2 E2.out.1 E2.out.2.1 E2.out.2.2.1
end W
end Go.Proofs.Ytdhmommfmmiieaa
set_option linter.unusedVariables false
set_option linter.unusedSimpArgs false
namespace Go.Proofs.Ytdhmommfmmiieaa
open Go.RowKit Go.Maps
namespace W
abbrev K2 := ByteArray × ByteArray
/-- the rows say the pairs -/
def Adj (ps : List K2) (zs : List ByteArray) (rs : List R3) : Prop := zs.Nodup ∧ rs.length = zs.length ∧ (∀ p ∈ ps, p.1 ∈ zs ∧ p.2 ∈ zs) ∧ ∀ (i : Nat) (z : ByteArray) (r : R3), zs[i]? = some z → rs[i]? = some r → r.2.2 = (N.nxt ps z).map (fun y => (ix zs y : Int))
theorem Adj.nil : Adj [] [] [] := ⟨by simp, rfl, by simp, fun i z r h => by simp at h⟩
theorem ix_add {zs xs : List ByteArray} {k : ByteArray} (h : k ∈ zs) : ix (Bf.add zs xs) k = ix zs k := by
  obtain ⟨r, e⟩ := Bf.add_prefix zs xs
  rw [← e]; exact ix_old h
theorem Adj.name {ps : List K2} {zs : List ByteArray} {rs : List R3} (h : Adj ps zs rs) {k : ByteArray} (hk : k ∉ zs) : Adj ps (zs ++ [k]) (rs ++ [(none, 0, [])]) := by
  obtain ⟨h1, h2, h3, h4⟩ := h
  refine ⟨?_, by simp [h2], fun p hp => ⟨List.mem_append_left _ (h3 p hp).1, List.mem_append_left _ (h3 p hp).2⟩, fun i z r hz hr => ?_⟩
  · rw [List.nodup_append]
    exact ⟨h1, by simp, fun x hx y hy => by simp at hy; subst hy; exact fun e => hk (e ▸ hx)⟩
  · rcases Nat.lt_or_ge i zs.length with q | q
    · rw [List.getElem?_append_left q] at hz
      rw [List.getElem?_append_left (by omega)] at hr
      rw [h4 i z r hz hr]
      refine List.map_congr_left (fun y hy => ?_)
      obtain ⟨p, hp, _, rfl⟩ := N.nxt_mem hy
      rw [ix_old (h3 p hp).2]
    · have hi : i = zs.length := by have := (List.getElem?_eq_some_iff.1 hz).1; simp at this; omega
      subst hi
      have ez : z = k := by simpa using hz.symm
      have er : r = (none, 0, []) := by rw [← h2] at hr; simpa using hr.symm
      subst ez
      rw [er]
      have : N.nxt ps z = [] := by
        cases hq : N.nxt ps z with
        | nil => rfl
        | cons y l =>
          obtain ⟨p, hp, e, _⟩ := N.nxt_mem (show y ∈ N.nxt ps z by rw [hq]; simp)
          exact absurd (e ▸ (h3 p hp).1) hk
      rw [this]; rfl
theorem Adj.pair {ps : List K2} {zs : List ByteArray} {rs rs' : List R3} {p : K2} (h : Adj ps zs rs) (h1 : p.1 ∈ zs) (h2 : p.2 ∈ zs) (hl : rs'.length = rs.length) (hi : ∀ r r', rs[ix zs p.1]? = some r → rs'[ix zs p.1]? = some r' → r'.2.2 = r.2.2 ++ [(ix zs p.2 : Int)]) (ho : ∀ i, i ≠ ix zs p.1 → rs'[i]? = rs[i]?) : Adj (ps ++ [p]) zs rs' := by
  obtain ⟨a1, a2, a3, a4⟩ := h
  refine ⟨a1, by omega, fun q hq => ?_, fun i z r hz hr => ?_⟩
  · rcases List.mem_append.1 hq with hq | hq
    · exact a3 q hq
    · simp at hq; subst hq; exact ⟨h1, h2⟩
  · have hil : i < rs.length := by have := (List.getElem?_eq_some_iff.1 hz).1; omega
    obtain ⟨s, hs⟩ : ∃ s, rs[i]? = some s := ⟨_, List.getElem?_eq_getElem hil⟩
    have e4 := a4 i z s hz hs
    by_cases e : i = ix zs p.1
    · subst e
      have ez : p.1 = z := by have := ix_at h1; rw [hz] at this; exact (Option.some.inj this).symm
      rw [hi s r hs hr, e4, N.nxt_snoc_yes ez, List.map_append]; rfl
    · rw [ho i e, hs] at hr
      cases hr
      have ez : p.1 ≠ z := fun q => e (by rw [q]; exact (ix_of a1 hz).symm)
      rw [e4, N.nxt_snoc_no ez]
/-- what number tells -/
def NumIs (ps : List K2) (B x bm : Nat) (no xo : Option Addr) (zs : List ByteArray) (rs : List R3) (k : ByteArray) (w : World) (e : Ending) (w' : World) : Prop :=
  e = .returned (.int .i64 (ix (Bf.add zs [k]) k : Nat)) ∧ ∃ no' ncap' xo' xcap' rs', Wb B x bm no' ncap' xo' xcap' (Bf.add zs [k]) rs' w' ∧ Adj ps (Bf.add zs [k]) rs' ∧ Turn (Own x bm no xo rs) w w' ∧ (∀ j, Own x bm no' xo' rs' j → Own x bm no xo rs j ∨ w.heap.size ≤ j)
theorem number_any (ps : List K2) (B x bm : Nat) (no : Option Addr) (ncap : Nat) (xo : Option Addr) (xcap : Nat) (zs : List ByteArray) (rs : List R3) (k : ByteArray) (w : World) (h : Wb B x bm no ncap xo xcap zs rs w) (ha : Adj ps zs rs) (hk : S.okk k) (hlen : Hid (zs.length < 1073741824)) :
    Calls Try.prog 75 #[.pointer (some ⟨x, 0, none⟩), .string k] w fun e w' => NumIs ps B x bm no xo zs rs k w e w' := by
  by_cases hin : k ∈ zs
  · refine (number_old B x bm no ncap xo xcap zs rs k w h hk hin).mono ?_
    rintro e w' ⟨rfl, rfl⟩
    unfold NumIs
    rw [Bf.add_old hin, Bf.add_nil]
    exact ⟨rfl, no, ncap, xo, xcap, rs, h, ha, Turn.refl _ _, fun j q => .inl q⟩
  · refine (number_new B x bm no ncap xo xcap zs rs k w h hk hin hlen).mono ?_
    rintro e w' ⟨rfl, no', ncap', xo', xcap', hw, ht, ho⟩
    unfold NumIs
    rw [Bf.add_new hin, Bf.add_nil, ix_new hin]
    exact ⟨rfl, no', ncap', xo', xcap', _, hw, ha.name hin, ht, ho⟩
/-- all names, as they stand first -/
def nm (ps : List K2) : List ByteArray := Bf.add [] (ps.flatMap (fun p => [p.1, p.2]))
theorem nm_snoc (ps : List K2) (p : K2) : nm (ps ++ [p]) = Bf.add (Bf.add (nm ps) [p.1]) [p.2] := by
  unfold nm
  rw [List.flatMap_append, Bf.add_append, show ([p].flatMap fun p => [p.1, p.2]) = [p.1] ++ [p.2] from rfl, Bf.add_append]
theorem flat2 (ps : List K2) : (ps.flatMap (fun p => [p.1, p.2])).length = 2 * ps.length := by
  induction ps with
  | nil => rfl
  | cons a r ih => rw [List.flatMap_cons, List.length_append, ih, List.length_cons]; simp; omega
theorem nm_len (ps : List K2) : (nm ps).length ≤ 2 * ps.length := by
  have h := Bf.add_len_le ([] : List ByteArray) (ps.flatMap (fun p => [p.1, p.2]))
  rw [flat2] at h
  unfold nm
  rw [List.length_nil] at h
  omega
end W
end Go.Proofs.Ytdhmommfmmiieaa
set_option linter.unusedVariables false
set_option linter.unusedSimpArgs false
namespace Go.Proofs.Ytdhmommfmmiieaa
open Go.RowKit Go.Maps
namespace W
theorem row43_put {B xg cap n : Nat} {vs : List Value} {w : World} (h : w.ownsRow B 76 1 (.slice (some ⟨xg, 0, none⟩) n cap) n vs) (i : Nat) (v : Value) (hi : i < n) : (w.setCell ⟨xg, i, none⟩ v).ownsRow B 76 1 (.slice (some ⟨xg, 0, none⟩) n cap) n (vs.set i v) := by
  rcases h.2 with ⟨hv, h0⟩ | ⟨g', cap', cur, hv, hb, hg, h1, h2, h3, h4⟩
  · cases hv
  simp only [Value.slice.injEq, Option.some.injEq] at hv
  obtain ⟨he, _, rfl⟩ := hv
  cases he
  refine ⟨by rw [List.length_set]; exact h.1, .inr ⟨xg, cap, cur.setIfInBounds i v, rfl, hb, ?_, h1, h2, by simpa using h3, ?_⟩⟩
  · simp [World.setCell, Array.getElem?_modify, hg]
  · rw [← h4, Array.toList_setIfInBounds, List.take_set]
theorem row43_at {B n cap : Nat} {xo : Option Addr} {vs : List Value} {w : World} (h : w.ownsRow B 76 1 (.slice xo n cap) n vs) {i : Nat} {v : Value} (hv : vs[i]? = some v) (hl : vs.length = n) : ∃ g, xo = some ⟨g, 0, none⟩ ∧ w.cell? ⟨g, i, none⟩ = some v ∧ n ≤ cap ∧ B ≤ g ∧ g < w.heap.size ∧ w.frozen? ⟨g, i, none⟩ = false := by
  have hil := (List.getElem?_eq_some_iff.1 hv).1
  rcases h.2 with ⟨_, h0⟩ | ⟨g, cap', cur, e, hb, hg, h1, h2, h3, h4⟩
  · omega
  · simp only [Value.slice.injEq] at e
    obtain ⟨rfl, _, rfl⟩ := e
    refine ⟨g, rfl, ?_, h1, hb, lt_of_heap hg, Lib.frozen_of_heap hg i⟩
    rw [Lib.cell_of_heap hg]
    rw [← h4, List.getElem?_take_of_lt (by omega), Array.getElem?_toList] at hv
    exact hv
/-- a line more in a name's row -/
theorem Wb.link {B x bm : Nat} {no : Option Addr} {ncap : Nat} {xg xcap : Nat} {zs : List ByteArray} {rs : List R3} {i0 : Nat} {r : R3} {n1 : Int} {w w1 : World} {g cap' : Nat} (h : Wb B x bm no ncap (some ⟨xg, 0, none⟩) xcap zs rs w) (hr : rs[i0]? = some r) (r1 : I.RowI B (some ⟨g, 0, none⟩) cap' (r.2.2 ++ [n1]) w1) (t : Turn (I.At r.1) w w1) (hg : r.1 = some ⟨g, 0, none⟩ ∨ w.heap.size ≤ g) :
    Wb B x bm no ncap (some ⟨xg, 0, none⟩) xcap zs (rs.set i0 (some ⟨g, 0, none⟩, cap', r.2.2 ++ [n1])) (w1.setCell ⟨xg, i0, none⟩ (.slice (some ⟨g, 0, none⟩) (r.2.2.length + 1) cap')) ∧ Turn (Own x bm no (some ⟨xg, 0, none⟩) rs) w (w1.setCell ⟨xg, i0, none⟩ (.slice (some ⟨g, 0, none⟩) (r.2.2.length + 1) cap')) := by
  have nN := h.nN
  have nX := h.nX
  have nR := h.nR hr
  have hil := (List.getElem?_eq_some_iff.1 hr).1
  obtain ⟨⟨cx, ex⟩, hBx⟩ := kindX h.row (j := xg) ⟨_, rfl, rfl⟩
  have hlx := lt_of_heap ex
  have ts : Turn (fun j => j = xg) w1 (w1.setCell ⟨xg, i0, none⟩ (.slice (some ⟨g, 0, none⟩) (r.2.2.length + 1) cap')) := (Turn.refl (fun j => j = xg) w1).setCell (p := ⟨xg, i0, none⟩) (fun _ => rfl) _
  have tB : Turn (fun j => j = xg ∨ At r.1 j) w (w1.setCell ⟨xg, i0, none⟩ (.slice (some ⟨g, 0, none⟩) (r.2.2.length + 1) cap')) := (t.mono (fun j _ q => .inr q)).then ts (fun j _ q => .inl q)
  obtain ⟨m, D, hm, hown, hh⟩ := h.map
  have hgx : g ≠ xg := by
    rcases hg with e | e
    · exact fun q => nR.2.2.2 g ⟨_, e, rfl⟩ ⟨_, rfl, q⟩
    · omega
  refine ⟨⟨h.hx, h.hm, (tB.block x (lt_of_heap h.hb) (fun q => ?_)).trans h.hb, by simp [h.len], h.names.turn tB (fun j q s => ?_), ?_, ⟨m, D, hm, tB.map hown (fun q => ?_), hh⟩, fun i s hs => ?_, fun i j a b ha hb hij k q1 q2 => ?_, h.oks⟩, tB.mono (fun j _ q => ?_)⟩
  · rcases q with q | q
    · exact nX.1 ⟨_, rfl, q⟩
    · exact nR.1 q
  · rcases s with s | s
    · exact nN.2.2 j q ⟨_, rfl, s⟩
    · exact nR.2.2.1 j s q
  · have hrow1 : w1.ownsRow B 76 1 (.slice (some ⟨xg, 0, none⟩) zs.length xcap) zs.length (rs.map val) := t.row h.row (fun j hj q => by cases hj; exact nR.2.2.2 _ q ⟨_, rfl, rfl⟩)
    have := row43_put hrow1 i0 (.slice (some ⟨g, 0, none⟩) (r.2.2.length + 1) cap') (by have := h.len; omega)
    rw [List.map_set]
    simpa [val] using this
  · rcases q with q | q
    · exact nX.2 ⟨_, rfl, q⟩
    · exact nR.2.1 q
  · by_cases e : i = i0
    · subst e
      rw [List.getElem?_set_self hil] at hs
      cases hs
      exact r1.turn ts (fun j q => by obtain ⟨a, e', rfl⟩ := q; cases e'; exact hgx)
    · rw [List.getElem?_set_ne (fun q => e q.symm)] at hs
      have nS := h.nR hs
      exact (h.each i s hs).turn tB (fun j q ho => by
        have q' : At s.1 j := q
        rcases ho with ho | ho
        · exact nS.2.2.2 j q' ⟨_, rfl, ho⟩
        · exact h.rr i i0 s r hs hr e j q' ho)
  · by_cases ei : i = i0
    · subst ei
      rw [List.getElem?_set_self hil] at ha
      cases ha
      rw [List.getElem?_set_ne hij] at hb
      obtain ⟨a', e', rfl⟩ := q1; cases e'
      rcases hg with e | e
      · exact h.rr i j r b hr hb hij g ⟨_, e, rfl⟩ q2
      · obtain ⟨a'', e'', q⟩ := q2
        have := ((h.each j b hb).lt _ ⟨a'', e'', q⟩).2
        simp at this; omega
    · rw [List.getElem?_set_ne (fun q => ei q.symm)] at ha
      by_cases ej : j = i0
      · subst ej
        rw [List.getElem?_set_self hil] at hb
        cases hb
        obtain ⟨a', e', q⟩ := q2; cases e'
        simp at q; subst q
        rcases hg with e | e
        · exact h.rr i j a r ha hr hij k q1 ⟨_, e, rfl⟩
        · obtain ⟨a'', e'', q⟩ := q1
          have := ((h.each i a ha).lt _ ⟨a'', e'', q⟩).2
          omega
      · rw [List.getElem?_set_ne (fun q => ej q.symm)] at hb
        exact h.rr i j a b ha hb hij k q1 q2
  · rcases q with q | q
    · exact .inr (.inr (.inr (.inl ⟨_, rfl, q⟩)))
    · exact .inr (.inr (.inr (.inr ⟨i0, r, hr, q⟩)))
end W
end Go.Proofs.Ytdhmommfmmiieaa
set_option linter.unusedVariables false
set_option linter.unusedSimpArgs false
namespace Go.Proofs.Ytdhmommfmmiieaa
open Go.RowKit Go.Maps
namespace W
theorem balloc2 (w : World) (o : Obj) : Below w.heap.size w (w.alloc o) := (Below.refl _ _).alloc (Nat.le_refl _) _
theorem made (w : World) : Wb w.heap.size (w.heap.size + 1) w.heap.size none 0 none 0 [] [] ((w.alloc (.map #[] 0)).alloc (.cells #[.slice none 0 0, .map (some w.heap.size), .slice none 0 0] 121)) := by
  have hb := heap_alloc_new (w.alloc (.map #[] 0)) (.cells #[.slice none 0 0, .map (some w.heap.size), .slice none 0 0] 121)
  refine ⟨by omega, by omega, by simpa using hb, rfl, S.RowI.nil _ _, World.ownsRow_nil _ _ _ _, ⟨0, .map [], by simp, (World.ownsMap_made w Try.prog 9 _).alloc _, fun k _ => ⟨by simp [Maps.has, isIn], fun h => by cases h⟩⟩, fun i r h => by simp at h, fun i j r s h => by simp at h, by simp⟩
theorem below3 {B : Nat} {w w' : World} {T : Nat → Prop} (t : Turn T w w') (h : ∀ j, T j → B ≤ j) (hB : B ≤ w.heap.size) : Below B w w' := ⟨t.os, t.tape, t.output, t.size, fun k hk => t.block k (by omega) (fun q => by have := h k q; omega)⟩
theorem rowgrown {B : Nat} {ao : Option Addr} {cap : Nat} {zs : List Int} {k : Int} {w0 w1 : World} {ob : Obj} {g cap' : Nat} (h : I.RowI B ao cap zs w0) (hrow1 : w1.ownsRow B 3 1 (.slice (some ⟨g, 0, none⟩) (zs.length + 1) cap') (zs.length + 1) (zs.flatMap I.cells ++ [.int .i64 k])) (hgrow : (w0.alloc ob).grownBy w1 (Value.slice ao zs.length cap).ownBlock) (hat : (Value.slice ao zs.length cap).ownBlock = some g ∨ g = w0.heap.size + 1) :
    I.RowI B (some ⟨g, 0, none⟩) cap' (zs ++ [k]) w1 ∧ Turn (I.At ao) w0 w1 ∧ (ao = some ⟨g, 0, none⟩ ∨ w0.heap.size ≤ g) := by
  refine ⟨by unfold I.RowI; rw [List.length_append, List.flatMap_append]; simpa [I.cells] using hrow1, ((Turn.refl _ w0).alloc _).grown hgrow (fun j hj _ => by
    cases ao with
    | none => cases hj
    | some ad => exact ⟨ad, rfl, by simpa [Value.ownBlock] using hj.symm⟩), ?_⟩
  rcases hat with q | q
  · cases ao with
    | none => cases q
    | some ad =>
      left
      rcases h.form with ⟨e, _⟩ | ⟨g', e, _⟩
      · cases e
      · cases e; simp only [Value.ownBlock, Option.some.injEq] at q; rw [q]
  · right; omega
theorem link_adj {ps : List K2} {zs : List ByteArray} {rs : List R3} {p : K2} {i0 i1 : Nat} {ra : Option Addr} {rcap : Nat} {rl : List Int} {go : Option Addr} {cap' : Nat} (h : Adj ps zs rs) (h1 : p.1 ∈ zs) (h2 : p.2 ∈ zs) (e0 : ix zs p.1 = i0) (e1 : ix zs p.2 = i1) (hr : rs[i0]? = some (ra, rcap, rl)) : Adj (ps ++ [p]) zs (rs.set i0 (go, cap', rl ++ [(i1 : Int)])) := by
  subst e0 e1
  have hil := (List.getElem?_eq_some_iff.1 hr).1
  refine h.pair h1 h2 (by simp) (fun r r' a b => ?_) (fun i hi => List.getElem?_set_ne (fun q => hi q.symm))
  rw [hr] at a; cases a
  rw [List.getElem?_set_self hil] at b; cases b
  rfl
/-- what newWeb tells -/
def WebIs (ps : List K2) (w : World) (e : Ending) (w' : World) : Prop := ∃ x bm no ncap xo xcap rs, e = .returned (.pointer (some ⟨x, 0, none⟩)) ∧ Wb w.heap.size x bm no ncap xo xcap (nm ps) rs w' ∧ Adj ps (nm ps) rs ∧ Below w.heap.size w w'
set_option maxHeartbeats 8000000 in
set_option maxRecDepth 100000 in
theorem newWeb_any (po : Option Addr) (pcap : Nat) (ps : List K2) (w : World) (hx : Q.Ints po ps w) (hc : ps.length ≤ pcap) (hok : ∀ p ∈ ps, S.okk p.1 ∧ S.okk p.2) (hlen : Hid (ps.length ≤ 1048576)) :
    Calls Try.prog 72 #[.slice po ps.length pcap] w fun e w' => WebIs ps w e w' := by
  have hmm := @run_makeMap Try.prog
  have Hx := hide' hx
  have Hok := hide' hok
  have H0 := hide' (made w)
  have b0 : Hid (Below w.heap.size w ((w.alloc (.map #[] 0)).alloc (.cells #[.slice none 0 0, .map (some w.heap.size), .slice none 0 0] 121))) := ((Below.refl _ _).alloc (Nat.le_refl _) _).alloc (by simp) _
  have hp64 : (ps.length : Int) ≤ 1048576 := by have := hlen.out; omega
  clear hx hok
  go_enter Try.func72, Try.ntmps72
  go_wp2_with fail
  generalize (w.alloc (.map #[] 0)).alloc (.cells #[.slice none 0 0, .map (some w.heap.size), .slice none 0 0] 121) = W0 at *
  generalize hxx : w.heap.size + 1 = x at *
  have Hxx := hide' hxx
  clear hxx
  go_loopw [13] (fun i wx => ∃ j : Nat, i = .int .i64 (j : Int) ∧ j ≤ ps.length ∧ ∃ no ncap xo xcap rs, Wb w.heap.size x w.heap.size no ncap xo xcap (nm (ps.take j)) rs wx ∧ Adj (ps.take j) (nm (ps.take j)) rs ∧ Below w.heap.size w wx) (fun i _ => ps.length - (intOf i).toNat)
  case atStart => exact ⟨0, rfl, by omega, none, 0, none, 0, [], H0.out, Adj.nil, b0.out⟩
  case round =>
    obtain ⟨j, rfl, hjl, no, ncap, xo, xcap, rs, hW, hA, hB⟩ := hrel
    by_cases hlt : j < ps.length
    · have hlt' : (j : Int) < (ps.length : Int) := by omega
      obtain ⟨p, hp⟩ : ∃ p, ps[j]? = some p := ⟨_, List.getElem?_eq_getElem hlt⟩
      obtain ⟨pb, off, rfl, hpb, p0, p1⟩ := (Hx.out.below hB).at hp
      have hpk := Hok.out p (List.mem_of_getElem? hp)
      have htk : Hid (ps.take (j + 1) = ps.take j ++ [p]) := by
        show _ = _
        rw [List.take_add_one, hp]; rfl
      have hnl := nm_len (ps.take j)
      have hnl2 : (nm (ps.take j)).length ≤ 2097152 := by simp at hnl; omega
      have Hnl := hide' hnl2
      have H1 := hide' (And.intro hW (And.intro hA hB))
      clear hW hA hB hp hnl hnl2
      go_wp2_with fail
      have H2 : Hid (Wb w.heap.size x w.heap.size no ncap xo xcap (nm (ps.take j)) rs (wr.alloc (.cells #[.string p.1, .string p.2] 98)).drew) := H1.out.1.turn (((Turn.refl (fun _ => False) wr).alloc _).drew) (fun _ _ => id)
      have bx : (wr.alloc (.cells #[.string p.1, .string p.2] 98)).heap[wr.heap.size]? = some (.cells #[.string p.1, .string p.2] 98 (0, 0)) := heap_alloc_new wr _
      have hno : Hid (¬ Own x w.heap.size no xo rs wr.heap.size) := fun q => by have := (H1.out.1.own _ q).2; omega
      have hBV : Hid (Below w.heap.size w (wr.alloc (.cells #[.string p.1, .string p.2] 98)).drew) := (H1.out.2.2.alloc H1.out.2.2.size _).drew
      have hvs : (wr.alloc (.cells #[.string p.1, .string p.2] 98)).heap.size = wr.heap.size + 1 := by simp
      have HA := hide' H1.out.2.1
      have hlw : Hid (w.heap.size ≤ wr.heap.size) := H1.out.2.2.size
      clear H1 p0 p1 hpb
      generalize wr.alloc (.cells #[.string p.1, .string p.2] 98) = V at *
      generalize wr.heap.size = vb at *
      have c0 : V.cell? ⟨vb, 0, none⟩ = some (.string p.1) := by rw [Lib.cell_of_heap bx]; rfl
      have c1 : V.cell? ⟨vb, 1, none⟩ = some (.string p.2) := by rw [Lib.cell_of_heap bx]; rfl
      have C1 := hide' (number_any (ps.take j) w.heap.size x w.heap.size no ncap xo xcap (nm (ps.take j)) rs p.1 V.drew H2.out HA.out hpk.1 (by have := Hnl.out; show _ < _; omega))
      have hvb : vb < V.heap.size := lt_of_heap bx
      go_region_held3 (fun w' => w'.cell? ⟨vb, 0, none⟩ = some (.string p.1) ∧ w'.cell? ⟨vb, 1, none⟩ = some (.string p.2)) (first | go_keep | exact ⟨k20, k21⟩ | exact ⟨k10, k11⟩) (first
        | (have G := F1; go_at_call 75; refine (number_any (ps.take j) w.heap.size x w.heap.size no1 ncap1 xo1 xcap1 (Bf.add (nm (ps.take j)) [p.1]) rs1 p.2 W1 F1.out.1 F1.out.2.1 hpk.2 (by have := Hnl.out; have := Bf.add_len_le (nm (ps.take j)) [p.1]; show _ < _; simp at this; omega)).mono ?_; rintro e W2 ⟨rfl, no2, ncap2, xo2, xcap2, rs2, hW2, hA2, t2, ho2⟩; have k20 : W2.cell? ⟨vb, 0, none⟩ = some (.string p.1) := (t2.cell (p := ⟨vb, 0, none⟩) F1.out.2.2.2.2.1 F1.out.2.2.2.2.2).trans k10; have k21 : W2.cell? ⟨vb, 1, none⟩ = some (.string p.2) := (t2.cell (p := ⟨vb, 1, none⟩) F1.out.2.2.2.2.1 F1.out.2.2.2.2.2).trans k11; have F2 := hide' (And.intro hW2 (And.intro hA2 (And.intro t2 ho2))); clear hW2 hA2 t2 ho2)
        | ((fail_if_success (have G := F1)); go_at_call 75; refine C1.out.mono ?_; rintro e W1 ⟨rfl, no1, ncap1, xo1, xcap1, rs1, hW1, hA1, t1, ho1⟩; have k10 : W1.cell? ⟨vb, 0, none⟩ = some (.string p.1) := (t1.cell (p := ⟨vb, 0, none⟩) hvb hno.out).trans c0; have k11 : W1.cell? ⟨vb, 1, none⟩ = some (.string p.2) := (t1.cell (p := ⟨vb, 1, none⟩) hvb hno.out).trans c1; have F1 := hide' (And.intro hW1 (And.intro hA1 (And.intro t1 (And.intro ho1 (And.intro (Nat.lt_of_lt_of_le hvb t1.size) (fun q => by rcases ho1 _ q with r | r; exact hno.out r; exact absurd r (Nat.not_le.2 hvb))))))); clear hW1 hA1 t1 ho1))
      have e0 : ix (Bf.add (nm (ps.take j)) [p.1]) p.1 = ix (Bf.add (Bf.add (nm (ps.take j)) [p.1]) [p.2]) p.1 := (ix_add (Bf.mem_add.2 (.inr (by simp)))).symm
      rw [e0]
      have m1 : Hid (p.1 ∈ Bf.add (Bf.add (nm (ps.take j)) [p.1]) [p.2]) := Bf.mem_add.2 (.inl (Bf.mem_add.2 (.inr (by simp))))
      have m2 : Hid (p.2 ∈ Bf.add (Bf.add (nm (ps.take j)) [p.1]) [p.2]) := Bf.mem_add.2 (.inr (by simp))
      have hz2 : Hid (nm (ps.take (j + 1)) = Bf.add (Bf.add (nm (ps.take j)) [p.1]) [p.2]) := by show _ = _; rw [htk.out]; exact nm_snoc _ _
      have hzl : Hid ((Bf.add (Bf.add (nm (ps.take j)) [p.1]) [p.2]).length ≤ 2097154) := by
        have h1 := Hnl.out
        have h2 := Bf.add_len_le (nm (ps.take j)) [p.1]
        have h3 := Bf.add_len_le (Bf.add (nm (ps.take j)) [p.1]) [p.2]
        show _ ≤ _
        simp at h2 h3; omega
      have hB2 : Hid (Below w.heap.size w W2) := by
        refine (hBV.out.trans (below3 F1.out.2.2.1 (fun q hq => (H2.out.own q hq).1) hBV.out.size)).trans (below3 F2.out.2.2.1 (fun q hq => (F1.out.1.own q hq).1) ?_)
        exact Nat.le_trans hBV.out.size F1.out.2.2.1.size
      have hW2 := F2.out.1
      have hA2 := F2.out.2.1
      clear F1 F2 C1 H2 HA hno bx c0 c1 k10 k11 k20 k21 hvb hvs e0 hBV
      generalize Bf.add (Bf.add (nm (ps.take j)) [p.1]) [p.2] = zs at *
      have hi1 := ix_lt m1.out
      obtain ⟨r, hr⟩ : ∃ r, rs2[ix zs p.1]? = some r := ⟨_, List.getElem?_eq_getElem (by rw [hW2.len]; exact hi1)⟩
      obtain ⟨xg, rfl, xcell, hxc, hxB, hxl, xfz⟩ := row43_at hW2.row (i := ix zs p.1) (v := val r) (by rw [List.getElem?_map, hr]; rfl) (by simp [hW2.len])
      have c2 := hW2.c2
      have hxw := lt_of_heap hW2.hb
      have hzl' : (zs.length : Int) ≤ 2097154 := by have := hzl.out; omega
      have hi1' : ((ix zs p.1 : Nat) : Int) < (zs.length : Int) := by omega
      have hrr := hW2.each _ r hr
      have hrl : Hid (r.2.2.length ≤ 1048576) := by
        have e := hA2.2.2.2 _ p.1 r (ix_at m1.out) hr
        show _ ≤ _
        rw [e, List.length_map]
        have := N.nxt_len (ps.take j) p.1
        simp at this; omega
      have nR := hide' (hW2.nR hr)
      have nX := hide' hW2.nX
      have HW := hide' (And.intro hW2 (And.intro hA2 hr))
      clear hW2 hA2 hr
      unfold val at xcell
      have hrow : W2.ownsRow w.heap.size 3 1 (.slice r.1 r.2.2.length r.2.1) r.2.2.length (r.2.2.flatMap I.cells) := hrr
      have HR := hide' hrr
      clear hrr
      have B1 : Hid (r.2.2.length + 1 ≤ maxLen) := by have := hrl.out; show _ ≤ _; unfold maxLen; omega
      have B2 : Hid ((r.2.2.length + 1) * 8 ≤ 140737488355328) := by have := hrl.out; show _ ≤ _; omega
      have hBw := hB2.out.size
      have c2a : ∀ o, (W2.alloc o).cell? ⟨x, 2, none⟩ = some (.slice (some ⟨xg, 0, none⟩) zs.length xcap2) := fun o => (World.cell?_of_block (w := W2) (Below.heap_alloc _ _ _ hxw)).trans c2
      have xca : ∀ o, (W2.alloc o).cell? ⟨xg, ix zs p.1, none⟩ = some (.slice r.1 r.2.2.length r.2.1) := fun o => (World.cell?_of_block (w := W2) (Below.heap_alloc _ _ _ hxl)).trans xcell
      obtain ⟨q0, hi, hz0, hz1, hz2'⟩ := info_parts I.infoE
      generalize hii : ix zs p.1 = i0 at *
      generalize hjj : ix zs p.2 = i1 at *
      have HII := hide' (And.intro hii hjj)
      clear hii hjj
      obtain ⟨ra, rcap, rl⟩ := r
      simp only at xcell hrow nR HR B1 B2 xca hrl
      go_wp2_with fail
      go_region_law ((refine step_append_lies _ (by rfl) _ _ 76 (by rfl) w.heap.size 3 q0 (.int .i64 0) 1 8 Try.underlying76 hi hz0 hz1 hz2' rfl (by decide) _ rl.length (rl.flatMap I.cells) (by rfl) (by exact (World.ownsRow.alloc hrow _)) ⟨W2.heap.size, 0, none⟩ 1 1 [.int .i64 (i1 : Int)] (by rfl) (by rfl) (by exact cell_one_new _ _ _) (by simp [Value.oneCell']) (by decide) B1.out B2.out (by simp; omega) (W2.heap.size + 1) (by simp) ?_; intro g cap2 w3 hrow1 hgrow0 hat1 hlt1; have hgrow : (W2.alloc (.cells #[.int .i64 (i1 : Int)] 3)).grownBy w3 (Value.slice ra rl.length rcap).ownBlock := ⟨hgrow0.os, hgrow0.tape, hgrow0.output, hgrow0.size, hgrow0.block⟩; clear hgrow0; have R3 := hide' (rowgrown HR.out hrow1 hgrow hat1); have t3 := R3.out.2.1; have y0 : w3.cell? ⟨xg, i0, none⟩ = some (.slice ra rl.length rcap) := (t3.cell (p := ⟨xg, i0, none⟩) hxl (fun q => nR.out.2.2.2 _ q ⟨_, rfl, rfl⟩)).trans xcell; have y1 : w3.frozen? ⟨xg, i0, none⟩ = false := (World.frozen?_of_block (t3.block xg hxl (fun q => nR.out.2.2.2 _ q ⟨_, rfl, rfl⟩))).trans xfz; have y2 : w3.cell? ⟨x, 2, none⟩ = some (.slice (some ⟨xg, 0, none⟩) zs.length xcap2) := (t3.cell (p := ⟨x, 2, none⟩) hxw (fun q => nR.out.1 q)).trans c2; clear hrow1 hgrow hat1 hlt1 t3))
      all_goals go_wp2_with fail
      all_goals
        obtain ⟨lk1, lk2⟩ := Wb.link HW.out.1 HW.out.2.2 R3.out.1 R3.out.2.1 R3.out.2.2
        have adj : Adj (ps.take j ++ [p]) zs (rs2.set i0 (some ⟨g, 0, none⟩, cap2, rl ++ [(i1 : Int)])) := link_adj HW.out.2.1 m1.out m2.out HII.out.1 HII.out.2 HW.out.2.2
        exact ⟨⟨j + 1, by go_num, by omega, no2, ncap2, some ⟨xg, 0, none⟩, xcap2, _, by rw [hz2.out]; exact lk1, by rw [hz2.out, htk.out]; exact adj, hB2.out.trans (below3 lk2 (fun q hq => (HW.out.1.own q hq).1) hBw)⟩, by simp [intOf]; omega⟩
    · have hjn : ps.length = j := by omega
      subst hjn
      have hlt' : ¬ (ps.length : Int) < (ps.length : Int) := by omega
      rw [List.take_length] at hW hA
      have K : Hid (WebIs ps w (.returned (.pointer (some ⟨x, 0, none⟩))) wr) := ⟨x, w.heap.size, no, ncap, xo, xcap, rs, rfl, hW, hA, hB⟩
      clear hW hA hB
      go_wp2_with fail
      go_ret
      exact K.out
end W
end Go.Proofs.Ytdhmommfmmiieaa
