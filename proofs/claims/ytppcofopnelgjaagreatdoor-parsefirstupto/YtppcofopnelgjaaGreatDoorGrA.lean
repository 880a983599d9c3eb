import Derived.Test.YtppcofopnelgjaaGreatDoorGrSa
import Derived.Test.YtppcofopnelgjaaGreatDoorGrV
import GoSem.Core.Float
import Derived.Deep.RegionHeld3
set_option linter.unusedVariables false
set_option linter.unusedSimpArgs false
namespace Go.Proofs.YtppcofopnelgjaaGreatDoor
open Go.RowKit
namespace R
/-! the reading of tokens as declarations -/
abbrev Tok := Int × ByteArray × Int × Int
abbrev Wd := ByteArray × Int × Int
def wdOf (t : Tok) : Wd := (t.2.1, t.2.2.1, t.2.2.2)
structure Dc where
  kind : Int
  line : Int
  col : Int
  head : Wd
  on : Wd
  names : List Wd
  all : Bool
  cond : Int
  level : Nat
def noWd : Wd := (ByteArray.empty, 0, 0)
def kindOf (l : List UInt8) : Int :=
  if l == [97, 99, 116, 105, 111, 110] then 1 else
  if l == [115, 117, 98, 106, 101, 99, 116] then 2 else
  if l == [114, 111, 108, 101] then 3 else
  if l == [111, 98, 106, 101, 99, 116] then 4 else
  if l == [103, 114, 111, 117, 112] then 5 else
  if l == [109, 101, 109, 98, 101, 114] then 6 else
  if l == [105, 110, 104, 101, 114, 105, 116] then 7 else
  if l == [112, 97, 114, 116] then 8 else
  if l == [119, 105, 116, 104, 105, 110] then 9 else
  if l == [97, 108, 108, 111, 119] then 10 else
  if l == [100, 101, 110, 121] then 11 else
  if l == [101, 120, 99, 101, 112, 116] then 12 else 0
def isKey (l : List UInt8) : Bool := (l == [116, 114, 117, 115, 116]) || ((l == [111, 110]) || ((l == [97, 98, 111, 118, 101]) || ((l == [98, 101, 108, 111, 119]) || (kindOf l != 0))))
def isNm (t : Tok) : Bool := (t.1 == 2) || ((t.1 == 1) && !isKey t.2.1.toList)
/-- is a token this sign or this keyword? -/
def is (k : Int) (s : List UInt8) (t : Tok) : Bool := (t.1 == k) && (t.2.1.toList == s)
/-- the digits behind the point as a number -/
def digs (s : List UInt8) : Nat := s.foldl (fun n c => 10 * n + (c.toNat - 48)) 0
def val (t : ByteArray) : Nat :=
  if t.toList == [48] then 0 else
  if t.toList == [49] then FloatKind.f64.nearest 1 else
    (FloatKind.f64.format.div (FloatKind.f64.nearest (digs (t.data.toList.drop 2) : Nat)) (FloatKind.f64.nearest (10 ^ (t.size - 2) : Nat))).getD 0
/-- what a part of the reading comes to: something and the place behind it, or the place of the misfit and its code -/
inductive Rd (α : Type) where
  | ok (a : α) (i : Nat)
  | bad (i : Nat) (code : Int)
def Rd.bind {α β : Type} (x : Rd α) (f : α → Nat → Rd β) : Rd β :=
  match x with
  | .ok a i => f a i
  | .bad i c => .bad i c
/-- the tokens that count, and the end -/
structure Src where
  l : List Tok
  e : Tok
def Src.at (I : Src) (i : Nat) : Tok := I.l.getD i I.e
def Src.name (I : Src) (i : Nat) : Rd Wd := if isNm (I.at i) then .ok (wdOf (I.at i)) (i + 1) else .bad i 40
def Src.one (I : Src) (k : Int) (s : List UInt8) (i : Nat) : Rd Unit := if is k s (I.at i) then .ok () (i + 1) else .bad i 40
def Src.more (I : Src) : Nat → List Wd → Nat → Rd (List Wd)
  | 0, acc, i => .ok acc i
  | f + 1, acc, i => if is 4 [44] (I.at i) then (I.name (i + 1)).bind fun w j => I.more f (acc ++ [w]) j else .ok acc i
def Src.names (I : Src) (i : Nat) : Rd (List Wd) := (I.name i).bind fun w j => I.more I.l.length [w] j
def Src.number (I : Src) (i : Nat) : Rd Nat := if (I.at i).1 == 3 then (if L.isNum (I.at i).2.1 then .ok (val (I.at i).2.1) (i + 1) else .bad i 23) else .bad i 40
def Src.trust (I : Src) (i : Nat) : Rd Nat := if is 1 [116, 114, 117, 115, 116] (I.at i) then I.number (i + 1) else .ok 4607182418800017408 i
def Src.who (I : Src) (i : Nat) : Rd (Wd × Wd) := (I.name i).bind fun a i => (I.one 1 [111, 110] i).bind fun _ i => (I.name i).bind fun b i => (I.one 4 [58] i).bind fun _ i => .ok (a, b) i
def Src.actions (I : Src) (i : Nat) : Rd (List Wd × Bool) := if is 4 [42] (I.at i) then .ok ([], true) (i + 1) else (I.names i).bind fun l i => .ok (l, false) i
def Src.cond (I : Src) (i : Nat) : Rd (Int × Nat) :=
  if is 1 [97, 98, 111, 118, 101] (I.at i) then (I.number (i + 1)).bind fun x i => .ok (1, x) i else
  if is 1 [98, 101, 108, 111, 119] (I.at i) then (I.number (i + 1)).bind fun x i => .ok (2, x) i else .ok (0, 0) i
def Src.begin (I : Src) (i : Nat) : Rd Dc :=
  if (I.at i).1 == 1 && kindOf (I.at i).2.1.toList != 0 then .ok ⟨kindOf (I.at i).2.1.toList, (I.at i).2.2.1, (I.at i).2.2.2, noWd, noWd, [], false, 0, 0⟩ (i + 1) else .bad i 40
def Src.rest (I : Src) (d : Dc) (i : Nat) : Rd Dc :=
  if d.kind = 2 then (I.names i).bind fun l i => (I.trust i).bind fun x i => .ok { d with names := l, level := x } i
  else if d.kind = 6 ∨ d.kind = 7 ∨ d.kind = 8 ∨ d.kind = 9 then (I.name i).bind fun h i => (I.one 4 [58] i).bind fun _ i => (I.names i).bind fun l i => .ok { d with head := h, names := l } i
  else if d.kind = 10 ∨ d.kind = 11 then (I.who i).bind fun h i => (I.actions i).bind fun l i => (I.cond i).bind fun c i => .ok { d with head := h.1, on := h.2, names := l.1, all := l.2, cond := c.1, level := c.2 } i
  else if d.kind = 12 then (I.who i).bind fun h i => (I.names i).bind fun l i => .ok { d with head := h.1, on := h.2, names := l } i
  else (I.names i).bind fun l i => .ok { d with names := l } i
def Src.decl (I : Src) (i : Nat) : Rd Dc := (I.begin i).bind fun d i => (I.rest d i).bind fun d i => (I.one 4 [59] i).bind fun _ i => .ok d i
def Src.text (I : Src) : Nat → List Dc → Nat → Rd (List Dc)
  | 0, acc, i => .ok acc i
  | f + 1, acc, i => if i < I.l.length then (I.decl i).bind fun d j => I.text f (acc ++ [d]) j else .ok acc i
/-- the tokens that count of a list, and its end -/
def src : List Tok → Src
  | [] => ⟨[], (5, ByteArray.empty, 0, 0)⟩
  | t :: l => if t.1 == 5 then ⟨[], (5, ByteArray.empty, t.2.2.1, t.2.2.2)⟩ else ⟨t :: (src l).l, (src l).e⟩
/-- what Decls tells -/
def decls (l : List Tok) : Rd (List Dc) := (src l).text (l.length + 1) [] 0
end R
end Go.Proofs.YtppcofopnelgjaaGreatDoor
set_option linter.unusedVariables false
set_option linter.unusedSimpArgs false
namespace Go.Proofs.YtppcofopnelgjaaGreatDoor
open Go.RowKit
def tv (t : R.Tok) : Value := .agg #[.int .i8 t.1, .string t.2.1, .int .i64 t.2.2.1, .int .i64 t.2.2.2]
def wv (t : R.Wd) : Value := .agg #[.string t.1, .int .i64 t.2.1, .int .i64 t.2.2]
/-- tokens lie at an address, in a block of which a class holds none -/
def Toks (l : List R.Tok) (ao : Option Addr) (S : Nat → Prop) (w : World) : Prop :=
  ∀ j t, l[j]? = some t → ∃ tb to, ao = some ⟨tb, to, none⟩ ∧ ¬ S tb ∧ tb < w.heap.size ∧ w.cell? ⟨tb, to + j * 4, none⟩ = some (.int .i8 t.1) ∧ w.cell? ⟨tb, to + j * 4 + 1, none⟩ = some (.string t.2.1) ∧ w.cell? ⟨tb, to + j * 4 + 2, none⟩ = some (.int .i64 t.2.2.1) ∧ w.cell? ⟨tb, to + j * 4 + 3, none⟩ = some (.int .i64 t.2.2.2)
theorem Toks.turn {l : List R.Tok} {ao : Option Addr} {S : Nat → Prop} {w w' : World} (h : Toks l ao S w) (t : Turn S w w') : Toks l ao S w' := by
  intro j x hx
  obtain ⟨tb, to, e, hS, hl, q0, q1, q2, q3⟩ := h j x hx
  exact ⟨tb, to, e, hS, Nat.lt_of_lt_of_le hl t.size, (t.cell (p := ⟨tb, _, none⟩) hl hS).trans q0, (t.cell (p := ⟨tb, _, none⟩) hl hS).trans q1, (t.cell (p := ⟨tb, _, none⟩) hl hS).trans q2, (t.cell (p := ⟨tb, _, none⟩) hl hS).trans q3⟩
theorem Toks.mono {l : List R.Tok} {ao : Option Addr} {S S' : Nat → Prop} {w : World} (h : Toks l ao S w) (hS : ∀ k, k < w.heap.size → S' k → S k) : Toks l ao S' w := by
  intro j x hx
  obtain ⟨tb, to, e, q, hl, rest⟩ := h j x hx
  exact ⟨tb, to, e, fun k => q (hS _ hl k), hl, rest⟩
def R.lim : Nat := 1099511627776
/-- the tokens that count are few, and their texts small -/
structure SrcOk (I : R.Src) : Prop where
  ending : I.e.1 = 5 ∧ I.e.2.1 = ⟨#[]⟩
  few : I.l.length ≤ R.lim
  small : ∀ j, (I.at j).2.1.size ≤ R.lim
/-- THE READER AT BLOCK b STANDS IN FRONT OF TOKEN i -/
structure Rdr (I : R.Src) (ao : Option Addr) (cap b i : Nat) (w : World) : Prop where
  ok : SrcOk I
  le : i ≤ I.l.length
  lt : b < w.heap.size
  c0 : w.cell? ⟨b, 0, none⟩ = some (.slice ao I.l.length cap)
  c1 : w.cell? ⟨b, 1, none⟩ = some (.int .i8 5)
  c2 : w.cell? ⟨b, 2, none⟩ = some (.string ⟨#[]⟩)
  c3 : w.cell? ⟨b, 3, none⟩ = some (.int .i64 I.e.2.2.1)
  c4 : w.cell? ⟨b, 4, none⟩ = some (.int .i64 I.e.2.2.2)
  c5 : w.cell? ⟨b, 5, none⟩ = some (.int .i64 (i : Int))
  f : w.frozen? ⟨b, 5, none⟩ = false
  tok : Toks I.l ao (fun k => k = b) w
theorem Rdr.far {I : R.Src} {ao : Option Addr} {cap b i : Nat} {w w' : World} (h : Rdr I ao cap b i w) {S : Nat → Prop} (t : Turn S w w') (hS : ∀ k, k < w.heap.size → ¬ S k) : Rdr I ao cap b i w' := by
  have t' : Turn (fun _ => False) w w' := t.mono fun k hk q => hS k hk q
  have hb : ¬ False := id
  refine ⟨h.ok, h.le, Nat.lt_of_lt_of_le h.lt t.size, (t'.cell h.lt hb).trans h.c0, (t'.cell h.lt hb).trans h.c1, (t'.cell h.lt hb).trans h.c2, (t'.cell h.lt hb).trans h.c3, (t'.cell h.lt hb).trans h.c4, (t'.cell h.lt hb).trans h.c5, ?_, h.tok.turn (t'.mono fun k hk q => q.elim)⟩
  exact (World.frozen?_of_block (w := w) (t'.block b h.lt hb)).trans h.f
theorem Rdr.below {I : R.Src} {ao : Option Addr} {cap b i : Nat} {w w' : World} (h : Rdr I ao cap b i w) (t : Below w.heap.size w w') : Rdr I ao cap b i w' :=
  h.far (S := fun _ => False) ⟨t.os, t.tape, t.output, t.size, fun k hk _ => t.block k hk⟩ (fun _ _ q => q)
theorem Rdr.alloc {I : R.Src} {ao : Option Addr} {cap b i : Nat} {w : World} (h : Rdr I ao cap b i w) (o : Obj) : Rdr I ao cap b i (w.alloc o) := h.below ((Below.refl _ _).alloc (Nat.le_refl _) _)
theorem Rdr.drew {I : R.Src} {ao : Option Addr} {cap b i : Nat} {w : World} (h : Rdr I ao cap b i w) : Rdr I ao cap b i w.drew := h.below ((Below.refl _ _).drew)
/-- what stands at an old block stays while one other is turned -/
theorem Rdr.turn1 {I : R.Src} {ao : Option Addr} {cap b i : Nat} {w w' : World} (h : Rdr I ao cap b i w) {g : Nat} (t : Turn (fun k => k = g) w w') (hg : ¬ b = g) (ht : ∀ tb to, ao = some ⟨tb, to, none⟩ → 0 < I.l.length → ¬ tb = g) : Rdr I ao cap b i w' := by
  refine ⟨h.ok, h.le, Nat.lt_of_lt_of_le h.lt t.size, (t.cell h.lt hg).trans h.c0, (t.cell h.lt hg).trans h.c1, (t.cell h.lt hg).trans h.c2, (t.cell h.lt hg).trans h.c3, (t.cell h.lt hg).trans h.c4, (t.cell h.lt hg).trans h.c5, (World.frozen?_of_block (w := w) (t.block b h.lt hg)).trans h.f, ?_⟩
  intro j x hx
  have hlen : 0 < I.l.length := by have := (List.getElem?_eq_some_iff.1 hx).1; omega
  obtain ⟨tb, to, e, hS, hl, q0, q1, q2, q3⟩ := h.tok j x hx
  have hn := ht tb to e hlen
  exact ⟨tb, to, e, hS, Nat.lt_of_lt_of_le hl t.size, (t.cell (p := ⟨tb, _, none⟩) hl hn).trans q0, (t.cell (p := ⟨tb, _, none⟩) hl hn).trans q1, (t.cell (p := ⟨tb, _, none⟩) hl hn).trans q2, (t.cell (p := ⟨tb, _, none⟩) hl hn).trans q3⟩
/-- new blocks are neither the reader's nor the tokens' -/
theorem Rdr.new {I : R.Src} {ao : Option Addr} {cap b i : Nat} {w w' w2 : World} (h : Rdr I ao cap b i w') (h0 : Rdr I ao cap b i w2) {g : Nat} (hg : w2.heap.size ≤ g) (t : Turn (fun k => k = g) w' w) : Rdr I ao cap b i w := by
  refine h.turn1 t (fun e => by have := h0.lt; omega) (fun tb to e hl q => ?_)
  obtain ⟨tb', to', e', _, hlt, _⟩ := h0.tok 0 _ (List.getElem?_eq_getElem hl)
  rw [e] at e'; cases e'
  omega
theorem Rdr.step {I : R.Src} {ao : Option Addr} {cap b i : Nat} {w : World} (h : Rdr I ao cap b i w) (hi : i < I.l.length) :
    Rdr I ao cap b (i + 1) (w.setCell ⟨b, 5, none⟩ (.int .i64 ((i : Int) + 1))) ∧ Turn (fun k => k = b) w (w.setCell ⟨b, 5, none⟩ (.int .i64 ((i : Int) + 1))) := by
  have t2 : Turn (fun k => k = b) w (w.setCell ⟨b, 5, none⟩ (.int .i64 ((i : Int) + 1))) := (Turn.refl (fun k => k = b) _).setCell (p := ⟨b, 5, none⟩) (fun _ => rfl) _
  obtain ⟨ok, le, lt, c0, c1, c2, c3, c4, c5, f, tok⟩ := h
  refine ⟨⟨ok, hi, Nat.lt_of_lt_of_le lt t2.size, ?_, ?_, ?_, ?_, ?_, ?_, ?_, tok.turn t2⟩, t2⟩
  · go_simp
  · go_simp
  · go_simp
  · go_simp
  · go_simp
  · go_simp
  · simp only [World.frozen?_setCell]; exact f
theorem R.at_lt {I : R.Src} {i : Nat} (h : i < I.l.length) : I.l[i]? = some (I.at i) := by
  simp [R.Src.at, List.getD, List.getElem?_eq_getElem h]
theorem R.at_end {I : R.Src} {i : Nat} (h : ¬ i < I.l.length) : I.at i = I.e := by
  simp [R.Src.at, List.getD, List.getElem?_eq_none (by omega : I.l.length ≤ i)]
/-- a token other than the end stands ahead of it -/
theorem Rdr.at_on {I : R.Src} {ao : Option Addr} {cap b i : Nat} {w : World} (h : Rdr I ao cap b i w) (hk : (I.at i).1 ≠ 5) : i < I.l.length := by
  by_cases q : i < I.l.length
  · exact q
  · exact absurd (by rw [R.at_end q]; exact h.ok.ending.1) hk

set_option maxRecDepth 100000 in
set_option maxHeartbeats 1000000 in
theorem atEnd_any {I : R.Src} {ao : Option Addr} {cap b i : Nat} {w : World} (h : Rdr I ao cap b i w) :
    Calls Tryz.prog 58 #[.pointer (some ⟨b, 0, none⟩)] w fun e w' => e = .returned (.bool ((i : Int) == (I.l.length : Int))) ∧ Below w.heap.size w w' := by
  have c0 := h.c0
  have c5 := h.c5
  generalize I.l.length = n at *
  clear h
  go_enter Tryz.func58, Tryz.ntmps58
  go_wp2
  go_quiet (fail)
  go_wp2
  go_ret
  exact ⟨rfl, below_drewN _ _ _⟩

theorem addr_off (g off j : Nat) : (⟨g, off, none⟩ : Addr).add j = ⟨g, off + j, none⟩ := by
  unfold Addr.add; split <;> simp_all
/-- a struct out of its cells -/
theorem load_cells (w : World) (ty : TypeId) (d : TypeDesc) (l : List Value) (g off : Nat) (hu : Tryz.prog.underlying ty = some d) (hd : (match d with | .struct _ | .array _ _ => true | _ => false) = true) (hi : (Tryz.prog.info? ty).map (·.size) = some l.length)
    (hc : ∀ j v, l[j]? = some v → w.cell? ⟨g, off + j, none⟩ = some v) : (loadVar ty ⟨g, off, none⟩).run Tryz.prog w = .ok (.agg l.toArray) w := by
  have hl : (loadCells ⟨g, off, none⟩ l.length).run Tryz.prog w = .ok l.toArray w :=
    run_loadCells_list (P := Tryz.prog) w ⟨g, off, none⟩ l (fun j v hv => by
      rw [addr_off]; exact hc j v hv)
  cases hq : Tryz.prog.info? ty with
  | none => simp [hq] at hi
  | some i =>
    have hs : i.size = l.length := by simpa [hq] using hi
    have hagg : (isAgg ty).run Tryz.prog w = .ok true w := by
      unfold isAgg
      rw [Sem.run_bind, run_underlying hu w]
      cases d <;> first | rfl | cases hd
    simp [loadVar, Sem.run_bind, hagg, sizeOf, typeInfo, hq, hs, hl]
theorem results_cells {fn : Func} {p : Tmp} {ty : TypeId} (h : fn.results = #[.cell p ty]) (tmps : Array Value) (w : World) (g : Nat) (d : TypeDesc) (l : List Value) (hp : tmps.getD p undef = .pointer (some ⟨g, 0, none⟩)) (hu : Tryz.prog.underlying ty = some d) (hd : (match d with | .struct _ | .array _ _ => true | _ => false) = true) (hi : (Tryz.prog.info? ty).map (·.size) = some l.length)
    (hc : ∀ j v, l[j]? = some v → w.cell? ⟨g, j, none⟩ = some v) : (results fn tmps).run Tryz.prog w = .ok (.agg l.toArray) w := by
  have hp' : tmps[p]?.getD undef = .pointer (some ⟨g, 0, none⟩) := by simpa using hp
  simp [results, h, hp', asAddr, load_cells w ty d l g 0 hu hd hi (by simpa using hc)]
theorem cells3 {w : World} {g : Nat} {a b c : Value} (h0 : w.cell? ⟨g, 0, none⟩ = some a) (h1 : w.cell? ⟨g, 1, none⟩ = some b) (h2 : w.cell? ⟨g, 2, none⟩ = some c) : ∀ j v, [a, b, c][j]? = some v → w.cell? ⟨g, j, none⟩ = some v := by
  intro j v hv
  match j, hv with
  | 0, hv => simp at hv; subst hv; exact h0
  | 1, hv => simp at hv; subst hv; exact h1
  | 2, hv => simp at hv; subst hv; exact h2
  | _ + 3, hv => simp at hv
theorem cells4' {w : World} {g : Nat} {a b c d : Value} (h0 : w.cell? ⟨g, 0, none⟩ = some a) (h1 : w.cell? ⟨g, 1, none⟩ = some b) (h2 : w.cell? ⟨g, 2, none⟩ = some c) (h3 : w.cell? ⟨g, 3, none⟩ = some d) : ∀ j v, [a, b, c, d][j]? = some v → w.cell? ⟨g, j, none⟩ = some v := by
  intro j v hv
  match j, hv with
  | 0, hv => simp at hv; subst hv; exact h0
  | 1, hv => simp at hv; subst hv; exact h1
  | 2, hv => simp at hv; subst hv; exact h2
  | 3, hv => simp at hv; subst hv; exact h3
  | _ + 4, hv => simp at hv

/-- a new block, and behind it what makes new ones alone -/
theorem new_kept {w w1 : World} {o : Obj} (b : Below (w.alloc o).heap.size (w.alloc o) w1) : w1.heap[w.heap.size]? = some o := (b.block _ (by simp)).trans (heap_alloc_new _ _)
theorem old_kept {w w1 : World} {o : Obj} (b : Below (w.alloc o).heap.size (w.alloc o) w1) : Below w.heap.size w w1 := ((Below.refl _ _).alloc (Nat.le_refl _) o).trans (b.mono (by simp))
end Go.Proofs.YtppcofopnelgjaaGreatDoor
