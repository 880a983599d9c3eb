import Derived.Test.YtmdkgiglibfihaaBrd
import Derived.Test.YtmdkgiglibfihaaSRw
import Derived.Test.YtmdkgiglibfihaaRws
import Derived.Deep.RegionLaw
set_option linter.unusedVariables false
set_option linter.unusedSimpArgs false
namespace Go.Proofs.Ytmdkgiglibfihaa
open Go.RowKit Go.Maps
namespace W
section
variable {κ : Type} [DecidableEq κ]
/-- a thing's place among the things -/
def ix (zs : List κ) (k : κ) : Nat := zs.idxOf k
theorem ix_new {zs : List κ} {k : κ} (h : k ∉ zs) : ix (zs ++ [k]) k = zs.length := by simp [ix, List.idxOf_append, h]
theorem ix_old {zs ys : List κ} {k : κ} (h : k ∈ zs) : ix (zs ++ ys) k = ix zs k := by simp [ix, List.idxOf_append, h]
theorem ix_lt {zs : List κ} {k : κ} (h : k ∈ zs) : ix zs k < zs.length := List.idxOf_lt_length_of_mem h
theorem ix_at {zs : List κ} {k : κ} (h : k ∈ zs) : zs[ix zs k]? = some k := by
  have hl := List.idxOf_lt_length_of_mem h
  unfold ix
  rw [List.getElem?_eq_getElem hl, List.getElem_idxOf]
theorem ix_of {zs : List κ} (hn : zs.Nodup) {i : Nat} {k : κ} (h : zs[i]? = some k) : ix zs k = i := by
  have hk : k ∈ zs := List.mem_of_getElem? h
  have h1 := ix_at hk
  have hl := ix_lt hk
  have hi := (List.getElem?_eq_some_iff.1 h).1
  have e : zs[ix zs k] = zs[i] := by
    have a := (List.getElem?_eq_some_iff.1 h1).2
    have b := (List.getElem?_eq_some_iff.1 h).2
    rw [a, b]
  have hp := List.pairwise_iff_getElem.1 hn
  rcases Nat.lt_trichotomy (ix zs k) i with q | q | q
  · exact absurd e (hp _ _ hl hi q)
  · exact q
  · exact absurd e.symm (hp _ _ hi hl q)
end
/-- one name's row of numbers: where it lies, its room, its numbers -/
abbrev R3 := Option Addr × Nat × List Int
def val (r : R3) : Value := .slice r.1 r.2.2.length r.2.1
def At (ao : Option Addr) (j : Nat) : Prop := ∃ a, ao = some a ∧ j = a.block
/-- what the map of numbers holds -/
def Holds (D : DataW Unit) (zs : List ByteArray) : Prop := ∀ k, S.okk k → Maps.has D (S.lit k) = isIn zs k ∧ (k ∈ zs → D.atKey (S.lit k) (.lit (.int .i64 0)) = .lit (.int .i64 (ix zs k : Nat)))
/-- BLOCK x IS A WEB: its names zs, each with its row rs -/
structure Wb (B x bm : Nat) (no : Option Addr) (ncap : Nat) (xo : Option Addr) (xcap : Nat) (zs : List ByteArray) (rs : List R3) (w : World) : Prop where
  hx : B ≤ x
  hm : B ≤ bm
  hb : w.heap[x]? = some (.cells #[.slice no zs.length ncap, .map (some bm), .slice xo zs.length xcap] 78 (0, 0))
  len : rs.length = zs.length
  names : S.RowI B no ncap zs w
  row : w.ownsRow B 43 1 (.slice xo zs.length xcap) zs.length (rs.map val)
  map : ∃ m D, m ≤ zs.length ∧ w.ownsMap Try.prog 9 (plainElem Try.prog 3) bm m D ∧ Holds D zs
  each : ∀ (i : Nat) (r : R3), rs[i]? = some r → I.RowI B r.1 r.2.1 r.2.2 w
  rr : ∀ (i j : Nat) (r s : R3), rs[i]? = some r → rs[j]? = some s → i ≠ j → ∀ g, At r.1 g → ¬ At s.1 g
  oks : ∀ z ∈ zs, S.okk z
/-- the blocks of a web -/
def Own (x bm : Nat) (no xo : Option Addr) (rs : List R3) (j : Nat) : Prop := j = x ∨ j = bm ∨ At no j ∨ At xo j ∨ ∃ (i : Nat) (r : R3), rs[i]? = some r ∧ At r.1 j
section
variable {B x bm : Nat} {no xo : Option Addr} {ncap xcap : Nat} {zs : List ByteArray} {rs : List R3} {w w' : World}
theorem kindN (h : S.RowI B no ncap zs w) {j : Nat} (q : At no j) : ∃ cur, w.heap[j]? = some (.cells cur 9 (0, 0)) := by
  obtain ⟨a, e, rfl⟩ := q
  rcases h.2 with ⟨hv, _⟩ | ⟨g, c, cur, hv, _, hg, _⟩
  · rw [e] at hv; cases hv
  · simp only [Value.slice.injEq] at hv; rw [hv.1] at e; cases e; exact ⟨cur, hg⟩
theorem kindX {n : Nat} {vs : List Value} (h : w.ownsRow B 43 1 (.slice xo n xcap) n vs) {j : Nat} (q : At xo j) : (∃ cur, w.heap[j]? = some (.cells cur 43 (0, 0))) ∧ B ≤ j := by
  obtain ⟨a, e, rfl⟩ := q
  rcases h.2 with ⟨hv, _⟩ | ⟨g, c, cur, hv, hb, hg, _⟩
  · rw [e] at hv; cases hv
  · simp only [Value.slice.injEq] at hv; rw [hv.1] at e; cases e; exact ⟨⟨cur, hg⟩, hb⟩
theorem kindR {ao : Option Addr} {cap : Nat} {l : List Int} (h : I.RowI B ao cap l w) {j : Nat} (q : At ao j) : ∃ cur, w.heap[j]? = some (.cells cur 3 (0, 0)) := by
  obtain ⟨a, e, rfl⟩ := q
  rcases h.2 with ⟨hv, _⟩ | ⟨g, c, cur, hv, _, hg, _⟩
  · rw [e] at hv; cases hv
  · simp only [Value.slice.injEq] at hv; rw [hv.1] at e; cases e; exact ⟨cur, hg⟩
theorem Wb.ne (h : Wb B x bm no ncap xo xcap zs rs w) : x ≠ bm := by
  obtain ⟨m, D, _, hown, _⟩ := h.map
  obtain ⟨es, clock, hb, _⟩ := hown
  intro e; rw [← e, h.hb] at hb; cases hb
theorem Wb.nN (h : Wb B x bm no ncap xo xcap zs rs w) : ¬ At no x ∧ ¬ At no bm ∧ ∀ j, At no j → ¬ At xo j := by
  obtain ⟨m, D, _, hown, _⟩ := h.map
  obtain ⟨es, clock, hb, _⟩ := hown
  refine ⟨fun q => ?_, fun q => ?_, fun j q r => ?_⟩
  · obtain ⟨cur, e⟩ := kindN h.names q; rw [h.hb] at e; cases e
  · obtain ⟨cur, e⟩ := kindN h.names q; rw [hb] at e; cases e
  · obtain ⟨cur, e⟩ := kindN h.names q; obtain ⟨⟨cur2, e2⟩, _⟩ := kindX h.row r; rw [e] at e2; cases e2
theorem Wb.nX (h : Wb B x bm no ncap xo xcap zs rs w) : ¬ At xo x ∧ ¬ At xo bm := by
  obtain ⟨m, D, _, hown, _⟩ := h.map
  obtain ⟨es, clock, hb, _⟩ := hown
  refine ⟨fun q => ?_, fun q => ?_⟩
  · obtain ⟨⟨cur, e⟩, _⟩ := kindX h.row q; rw [h.hb] at e; cases e
  · obtain ⟨⟨cur, e⟩, _⟩ := kindX h.row q; rw [hb] at e; cases e
theorem Wb.nR (h : Wb B x bm no ncap xo xcap zs rs w) {i : Nat} {r : R3} (hr : rs[i]? = some r) : ¬ At r.1 x ∧ ¬ At r.1 bm ∧ (∀ j, At r.1 j → ¬ At no j) ∧ ∀ j, At r.1 j → ¬ At xo j := by
  obtain ⟨m, D, _, hown, _⟩ := h.map
  obtain ⟨es, clock, hb, _⟩ := hown
  refine ⟨fun q => ?_, fun q => ?_, fun j q s => ?_, fun j q s => ?_⟩
  · obtain ⟨cur, e⟩ := kindR (h.each i r hr) q; rw [h.hb] at e; cases e
  · obtain ⟨cur, e⟩ := kindR (h.each i r hr) q; rw [hb] at e; cases e
  · obtain ⟨cur, e⟩ := kindR (h.each i r hr) q; obtain ⟨cur2, e2⟩ := kindN h.names s; rw [e] at e2; cases e2
  · obtain ⟨cur, e⟩ := kindR (h.each i r hr) q; obtain ⟨⟨cur2, e2⟩, _⟩ := kindX h.row s; rw [e] at e2; cases e2
theorem Wb.own (h : Wb B x bm no ncap xo xcap zs rs w) : ∀ j, Own x bm no xo rs j → B ≤ j ∧ j < w.heap.size := by
  obtain ⟨m, D, _, hown, _⟩ := h.map
  rintro j (q | q | q | q | ⟨i, r, hr, q⟩)
  · rw [q]; exact ⟨h.hx, lt_of_heap h.hb⟩
  · rw [q]; exact ⟨h.hm, hown.lt⟩
  · obtain ⟨a, e, rfl⟩ := q; exact h.names.lt _ ⟨a, e, rfl⟩
  · obtain ⟨⟨cur, e⟩, hb⟩ := kindX h.row q; exact ⟨hb, lt_of_heap e⟩
  · obtain ⟨a, e, rfl⟩ := q; exact (h.each i r hr).lt _ ⟨a, e, rfl⟩
theorem Wb.turn {T : Nat → Prop} (h : Wb B x bm no ncap xo xcap zs rs w) (t : Turn T w w') (hS : ∀ j, Own x bm no xo rs j → ¬ T j) : Wb B x bm no ncap xo xcap zs rs w' := by
  obtain ⟨m, D, hm, hown, hh⟩ := h.map
  refine ⟨h.hx, h.hm, (t.block x (lt_of_heap h.hb) (hS x (.inl rfl))).trans h.hb, h.len, h.names.turn t (fun j q => hS j (.inr (.inr (.inl ?_)))), t.row h.row (fun g hg => hS g (.inr (.inr (.inr (.inl ?_))))), ⟨m, D, hm, t.map hown (hS bm (.inr (.inl rfl))), hh⟩, fun i r hr => (h.each i r hr).turn t (fun j q => hS j (.inr (.inr (.inr (.inr ⟨i, r, hr, ?_⟩))))), h.rr, h.oks⟩
  · obtain ⟨a, e, q⟩ := q; exact ⟨a, e, q⟩
  · cases xo with
    | none => cases hg
    | some a => exact ⟨a, rfl, by simpa [Value.ownBlock] using hg.symm⟩
  · obtain ⟨a, e, q⟩ := q; exact ⟨a, e, q⟩
theorem Wb.below (h : Wb B x bm no ncap xo xcap zs rs w) (b : Below w.heap.size w w') : Wb B x bm no ncap xo xcap zs rs w' := h.turn (turn_below (S := fun _ => False) b) (fun _ _ => id)
theorem Wb.c0 (h : Wb B x bm no ncap xo xcap zs rs w) : w.cell? ⟨x, 0, none⟩ = some (.slice no zs.length ncap) := by rw [Lib.cell_of_heap h.hb]; rfl
theorem Wb.c1 (h : Wb B x bm no ncap xo xcap zs rs w) : w.cell? ⟨x, 1, none⟩ = some (.map (some bm)) := by rw [Lib.cell_of_heap h.hb]; rfl
theorem Wb.c2 (h : Wb B x bm no ncap xo xcap zs rs w) : w.cell? ⟨x, 2, none⟩ = some (.slice xo zs.length xcap) := by rw [Lib.cell_of_heap h.hb]; rfl
theorem Wb.fz (h : Wb B x bm no ncap xo xcap zs rs w) (i : Nat) : w.frozen? ⟨x, i, none⟩ = false := Lib.frozen_of_heap h.hb i
end
theorem zeroE (w : World) : (zeroValue 3).run Try.prog w = .ok (.int .i64 0) w := by kernel_rfl
theorem lit_int {q : IntKind} {a b : Int} (h : (DataW.lit (.int q a) : DataW Unit) = .lit (.int q b)) : a = b := by simpa using h
theorem ret_int {k : IntKind} {a b : Int} (h : a = b) : Ending.returned (.int k a) = .returned (.int k b) := by rw [h]
set_option maxRecDepth 100000 in
set_option maxHeartbeats 1000000 in
theorem number_old (B x bm : Nat) (no : Option Addr) (ncap : Nat) (xo : Option Addr) (xcap : Nat) (zs : List ByteArray) (rs : List R3) (k : ByteArray) (w : World) (h : Wb B x bm no ncap xo xcap zs rs w) (hk : S.okk k) (hin : k ∈ zs) :
    Calls Try.prog 48 #[.pointer (some ⟨x, 0, none⟩), .string k] w fun e w' => e = .returned (.int .i64 (ix zs k : Nat)) ∧ w' = w := by
  obtain ⟨n, D, hn, hown, hh⟩ := h.map
  have c1 := h.c1
  obtain ⟨h1, h2⟩ := hh k hk
  have h1' : Maps.has D (S.lit k) = true := by rw [h1]; exact isIn_yes hin
  have H2 := hide' (h2 hin)
  clear h1 h2 hh h hn
  go_enter Try.func48, Try.ntmps48
  go_wp2_with (at_lookup; refine wpList_lookup_own_ok_int _ rfl _ _ 76 rfl 9 3 .i64 S.law Try.underlying76 Try.underlying3 (zeroE _) bm n D rfl hown _ _ rfl (S.hkey hk) ?_; intro c hat hwc; rw [H2.out] at hat; rw [h1'])
  go_ret
  exact ⟨ret_int (lit_int hat).symm, rfl⟩
theorem Holds.put {D : DataW Unit} {zs : List ByteArray} (h : Holds D zs) (hm : IsMap D) {k : ByteArray} (hk : k ∉ zs) (hok : S.okk k) : Holds (D.put (S.lit k) (.lit (.int .i64 (zs.length : Nat)))) (zs ++ [k]) := by
  intro j hj
  by_cases e : j = k
  · subst e
    refine ⟨by rw [has_put_same hm (S.isKey hok)]; simp [isIn], fun _ => ?_⟩
    rw [atKey_put_same hm (S.isKey hok)]
    rw [ix_new hk]
  · have hne : S.lit j ≠ S.lit k := fun q => e (S.inj j k hj hok q)
    obtain ⟨h1, h2⟩ := h j hj
    refine ⟨by rw [has_put_other hne, h1]; simp [isIn, e], fun q => ?_⟩
    have hj' : j ∈ zs := by
      rcases List.mem_append.1 q with q | q
      · exact q
      · simp at q; exact absurd q e
    rw [atKey_put_other hne, h2 hj', ix_old hj']
end W
end Go.Proofs.Ytmdkgiglibfihaa
