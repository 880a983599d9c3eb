import Derived.Test.YtfgblchnnhdlnaaGreatDoorGrC
import Derived.Test.YtfgblchnnhdlnaaGreatDoorGrL
import Derived.Test.YtfgblchnnhdlnaaGreatDoorGrK
set_option linter.unusedVariables false
set_option linter.unusedSimpArgs false
namespace Go.Proofs.YtfgblchnnhdlnaaGreatDoor
open Go.RowKit
namespace R
namespace Lay
theorem allD_all (s : ByteArray) (h : ∀ j, j < s.size → 48 ≤ L.bt s j ∧ L.bt s j ≤ 57) : ∀ f i, L.allD s f i = true := by
  intro f
  induction f with
  | zero => intro i; rfl
  | succ f ih =>
    intro i
    by_cases hi : i < s.size
    · have hb := h i hi
      obtain ⟨e1, e2⟩ := L.rn_lt s i (by omega)
      have hd : L.isDigit (L.rn s i) = true := by
        rw [e1]; unfold L.isDigit
        simp; omega
      simp [L.allD, hi, hd, ih]
    · exact L.allD_end s _ i hi
theorem bt_list (s : ByteArray) (j : Nat) (c : UInt8) (h : s.data.toList[j]? = some c) : L.bt s j = c.toNat := by
  have hj : j < s.data.toList.length := (List.getElem?_eq_some_iff.1 h).1
  have hj2 : j < s.size := by rw [size_list]; exact hj
  have q := get_list s j hj2 c h
  unfold L.bt
  have : s.get! j = c := by
    rw [← q]
    unfold ByteArray.get!
    show s.data[j]! = _
    rw [getElem!_pos _ j (by exact hj2)]
    simp [ByteArray.getElem_eq_getElem_data]
  rw [this]
theorem drop2 (t : ByteArray) (ds : List UInt8) (e : t.data.toList = 48 :: 46 :: ds) : (t.extract 2 t.size).data.toList = ds ∧ t.size = ds.length + 2 := by
  have hlen : t.size = ds.length + 2 := by rw [size_list, e]; rfl
  refine ⟨?_, hlen⟩
  rw [ByteArray.data_extract, Array.toList_extract, e]
  simp [List.extract]
  exact List.take_of_length_le (by omega)
theorem isNum_of (t : ByteArray) (ds : List UInt8) (e : t.data.toList = 48 :: 46 :: ds) (h1 : 1 ≤ ds.length) (h9 : ds.length ≤ 9) (hd : ∀ c ∈ ds, 48 ≤ c.toNat ∧ c.toNat ≤ 57) : L.isNum t = true := by
  obtain ⟨hex, hlen⟩ := drop2 t ds e
  have hexs : (t.extract 2 t.size).size = ds.length := by rw [size_list, hex]
  have hall : L.allD (t.extract 2 t.size) (t.size - 2) 0 = true := by
    refine allD_all _ (fun j hj => ?_) _ _
    rw [hexs] at hj
    rw [bt_list _ j (ds[j]'hj) (by rw [hex, List.getElem?_eq_getElem hj])]
    exact hd _ (List.getElem_mem hj)
  unfold L.isNum
  rw [hall]
  have hp : Lib.hasPrefix t.data.toList [48, 46] = true := List.isPrefixOf_iff_prefix.2 ⟨ds, e.symm⟩
  rw [hp]
  have a : decide (3 ≤ t.size) = true := by simp; omega
  have b : decide (t.size ≤ 11) = true := by simp; omega
  rw [a, b]
  simp
theorem val_of (t : ByteArray) (ds : List UInt8) (e : t.data.toList = 48 :: 46 :: ds) : R.val t = (FloatKind.f64.format.div (FloatKind.f64.nearest (digs ds : Nat)) (FloatKind.f64.nearest (10 ^ ds.length : Nat))).getD 0 := by
  obtain ⟨_, hlen⟩ := drop2 t ds e
  unfold R.val
  rw [ByteArray.toList_eq, show t.size - 2 = ds.length by omega, e]
  have n1 : ((48 :: 46 :: ds : List UInt8) == [48]) = false := by simp
  have n2 : ((48 :: 46 :: ds : List UInt8) == [49]) = false := by simp
  rw [n1, n2]; rfl
/-- a digit out of any byte -/
def dg (c : UInt8) : UInt8 := UInt8.ofNat (48 + c.toNat % 10)
theorem dg_is (c : UInt8) : 48 ≤ (dg c).toNat ∧ (dg c).toNat ≤ 57 ∧ (dg c).toNat - 48 = c.toNat % 10 := by
  have h : c.toNat % 10 < 10 := Nat.mod_lt _ (by decide)
  unfold dg
  have : (UInt8.ofNat (48 + c.toNat % 10)).toNat = 48 + c.toNat % 10 := by
    rw [UInt8.toNat_ofNat']; omega
  omega
theorem digs_app (l : List UInt8) (c : UInt8) : digs (l ++ [c]) = 10 * digs l + (c.toNat - 48) := by
  unfold digs; rw [List.foldl_append]; rfl
theorem digs_lt (ds : List UInt8) (hd : ∀ c ∈ ds, 48 ≤ c.toNat ∧ c.toNat ≤ 57) : digs ds < 10 ^ ds.length := by
  have := F.digs_lt ds hd 0 0 (by decide)
  rw [Nat.zero_add] at this
  exact this
end Lay
end R
end Go.Proofs.YtfgblchnnhdlnaaGreatDoor
set_option linter.unusedVariables false
set_option linter.unusedSimpArgs false
namespace Go.Proofs.YtfgblchnnhdlnaaGreatDoor
open Go.RowKit
/-- TOKENS IN THE MAKING: block b holds the row of tokens v, a place and a number -/
structure Ld (B b : Nat) (ts : List R.Tok) (v : Value) (ln cl q : Int) (w : World) : Prop where
  lo : B ≤ b
  hb : w.heap[b]? = some (.cells #[v, .int .i64 ln, .int .i64 cl, .int .i64 q] 50 (0, 0))
  row : w.ownsRow B 44 4 v ts.length (ts.flatMap cellsT)
variable {B b : Nat} {ts : List R.Tok} {v v' v'' : Value} {ln cl q : Int} {w w' w'' : World}
theorem Ld.lt (h : Ld B b ts v ln cl q w) : b < w.heap.size := (Array.getElem?_eq_some_iff.1 h.hb).1
theorem Ld.le (h : Ld B b ts v ln cl q w) : B ≤ w.heap.size := Nat.le_trans h.lo (Nat.le_of_lt h.lt)
theorem Ld.c0 (h : Ld B b ts v ln cl q w) : w.cell? ⟨b, 0, none⟩ = some v := by rw [Lib.cell_of_heap h.hb]; rfl
theorem Ld.c1 (h : Ld B b ts v ln cl q w) : w.cell? ⟨b, 1, none⟩ = some (.int .i64 ln) := by rw [Lib.cell_of_heap h.hb]; rfl
theorem Ld.c2 (h : Ld B b ts v ln cl q w) : w.cell? ⟨b, 2, none⟩ = some (.int .i64 cl) := by rw [Lib.cell_of_heap h.hb]; rfl
theorem Ld.c3 (h : Ld B b ts v ln cl q w) : w.cell? ⟨b, 3, none⟩ = some (.int .i64 q) := by rw [Lib.cell_of_heap h.hb]; rfl
theorem Ld.f (h : Ld B b ts v ln cl q w) (k : Nat) : w.frozen? ⟨b, k, none⟩ = false := Lib.frozen_of_heap h.hb k
/-- the row of tokens is not the block itself -/
theorem Ld.ne (h : Ld B b ts v ln cl q w) : v.ownBlock ≠ some b := by
  intro e
  rcases h.row.2 with ⟨rfl, _⟩ | ⟨g, cp, cur, rfl, _, hg, _⟩
  · cases e
  · have : g = b := by simpa [Value.ownBlock] using e
    subst this
    have := h.hb
    rw [show w.heap[g]? = _ from hg] at this
    cases this
/-- what a step on the tokens may turn, and where the row lies behind it -/
structure Lst (b : Nat) (w : World) (v : Value) (w' : World) (v' : Value) : Prop where
  turn : Turn (fun k => k = b ∨ v.ownBlock = some k) w w'
  own : ∀ g, v'.ownBlock = some g → v.ownBlock = some g ∨ w.heap.size ≤ g
theorem Lst.refl (b : Nat) (w : World) (v : Value) : Lst b w v w v := ⟨Turn.refl _ _, fun g h => .inl h⟩
theorem Lst.trans (h : Lst b w v w' v') (k : Lst b w' v' w'' v'') : Lst b w v w'' v'' := by
  refine ⟨h.turn.then k.turn (fun i hi q => ?_), fun g hg => ?_⟩
  · rcases q with q | q
    · exact .inl q
    · rcases h.own i q with e | e
      · exact .inr e
      · omega
  · rcases k.own g hg with e | e
    · exact h.own g e
    · exact .inr (Nat.le_trans h.turn.size e)
/-- a step that turns new blocks alone -/
theorem Lst.quiet {b : Nat} {w w' : World} (v : Value) (t : Below w.heap.size w w') : Lst b w v w' v := ⟨(turn_below (S := fun _ => False) t).mono (fun _ _ q => q.elim), fun g h => .inl h⟩
theorem Ld.quiet (h : Ld B b ts v ln cl q w) (t : Below w.heap.size w w') : Ld B b ts v ln cl q w' := by
  refine ⟨h.lo, (t.block b h.lt).trans h.hb, (turn_below (S := fun _ => False) t).row h.row (fun _ _ q => q)⟩
/-- a row of another sort is not turned -/
theorem Ld.other (h : Ld B b ts v ln cl q w) (s : Lst b w v w' v') {B' e n size : Nat} {u : Value} {xs : List Value} (r : w.ownsRow B' e size u n xs) (he : e ≠ 44) (he2 : e ≠ 50) : w'.ownsRow B' e size u n xs := by
  refine s.turn.row r (fun g hg q => ?_)
  rcases r.2 with ⟨rfl, _⟩ | ⟨a, cp, cur, rfl, _, ha, _⟩
  · cases hg
  · have e1 : a = g := by simpa [Value.ownBlock] using hg
    subst e1
    rcases q with rfl | q
    · have := h.hb
      rw [show w.heap[a]? = _ from ha] at this
      cases this
      exact he2 rfl
    · rcases h.row.2 with ⟨rfl, _⟩ | ⟨a', cp', cur', rfl, _, ha', _⟩
      · cases q
      · have e2 : a' = a := by simpa [Value.ownBlock] using q
        subst e2
        rw [show w.heap[a']? = _ from ha] at ha'
        cases ha'
        exact he rfl
/-- nor is a block of another sort -/
theorem Ld.block (h : Ld B b ts v ln cl q w) (s : Lst b w v w' v') {g e : Nat} {cs : Array Value} {fr : Nat × Nat} (r : w.heap[g]? = some (.cells cs e fr)) (he : e ≠ 44) (he2 : e ≠ 50) : w'.heap[g]? = some (.cells cs e fr) := by
  have hg : g < w.heap.size := (Array.getElem?_eq_some_iff.1 r).1
  refine (s.turn.block g hg (fun q => ?_)).trans r
  rcases q with rfl | q
  · have := h.hb
    rw [r] at this
    cases this
    exact he2 rfl
  · rcases h.row.2 with ⟨rfl, _⟩ | ⟨a', cp', cur', rfl, _, ha', _⟩
    · cases q
    · have e2 : a' = g := by simpa [Value.ownBlock] using q
      subst e2
      rw [r] at ha'
      cases ha'
      exact he rfl
/-- what lay there ahead of all tokens stays -/
theorem Ld.old (h : Ld B b ts v ln cl q w) (s : Lst b w v w' v') {p : Addr} (hp : p.block < B) : w'.cell? p = w.cell? p := by
  refine s.turn.cell (Nat.lt_of_lt_of_le hp h.le) (fun q => ?_)
  rcases q with q | q
  · have := h.lo; omega
  · have := (h.row.lt _ q).1; omega
theorem Ld.set (h : Ld B b ts v ln cl q w) {k : Nat} {x : Value} {ln' cl' q' : Int} (e : (#[v, .int .i64 ln, .int .i64 cl, .int .i64 q] : Array Value).setIfInBounds k x = #[v, .int .i64 ln', .int .i64 cl', .int .i64 q']) : Ld B b ts v ln' cl' q' (w.setCell ⟨b, k, none⟩ x) := by
  refine ⟨h.lo, ?_, ?_⟩
  · rw [setCell_eq_setRow w b k _ 50 (0, 0) x h.hb, e]
    exact setRow_heap w b _ _ 50 (0, 0) h.hb
  · have t : Turn (fun k => k = b) w (w.setCell ⟨b, k, none⟩ x) := (Turn.refl (fun k => k = b) w).setCell (p := ⟨b, k, none⟩) (fun _ => rfl) x
    exact t.row h.row (fun g hg e => h.ne (by rw [hg, e]))
/-- another block is written -/
theorem Ld.far (h : Ld B b ts v ln cl q w) {j e : Nat} {cs : Array Value} {fr : Nat × Nat} (hb : w.heap[j]? = some (.cells cs e fr)) (he : e ≠ 44) (he2 : e ≠ 50) (t : Turn (fun k => k = j) w w') : Ld B b ts v ln cl q w' := by
  have n1 : b ≠ j := fun e' => by
    have := h.hb; rw [e', hb] at this; cases this; exact he2 rfl
  refine ⟨h.lo, (t.block b h.lt n1).trans h.hb, t.row h.row (fun g hg e' => ?_)⟩
  subst e'
  rcases h.row.2 with ⟨rfl, _⟩ | ⟨a, cp, cur, rfl, _, ha, _⟩
  · cases hg
  · have : a = g := by simpa [Value.ownBlock] using hg
    subst this
    rw [show w.heap[a]? = _ from hb] at ha; cases ha; exact he rfl
theorem Lst.new (h : Lst b w v w' v') {j : Nat} (hj : w.heap.size ≤ j) (t : Turn (fun k => k = j) w' w'') : Lst b w v w'' v' := ⟨h.turn.then t (fun i hi e => by omega), h.own⟩
theorem Lst.set (b : Nat) (w : World) (v : Value) (k : Nat) (x : Value) : Lst b w v (w.setCell ⟨b, k, none⟩ x) v := ⟨(Turn.refl _ w).setCell (p := ⟨b, k, none⟩) (fun _ => .inl rfl) x, fun g h => .inl h⟩
end Go.Proofs.YtfgblchnnhdlnaaGreatDoor
set_option linter.unusedVariables false
set_option linter.unusedSimpArgs false
namespace Go.Proofs.YtfgblchnnhdlnaaGreatDoor
open Go.RowKit
/-- a shape that came in; na, nc: where its names lie -/
structure Sh where
  kind : Int
  head : ByteArray
  on : ByteArray
  na : Option Addr
  names : List ByteArray
  nc : Nat
  all : Bool
  cond : Int
  num : ByteArray
  quo : Int
  line : Int
  col : Int
def Sh.cells (s : Sh) : List Value := [.int .i64 s.kind, .string s.head, .string s.on, .slice s.na s.names.length s.nc, .bool s.all, .int .i64 s.cond, .string s.num, .int .i64 s.quo, .int .i64 s.line, .int .i64 s.col]
/-- its names lie there, below B -/
def Txs (B : Nat) (na : Option Addr) (l : List ByteArray) (w : World) : Prop := ∀ i t, l[i]? = some t → ∃ nb no, na = some ⟨nb, no, none⟩ ∧ nb < B ∧ w.cell? ⟨nb, no + i, none⟩ = some (.string t)
def Sh.In (s : Sh) (B : Nat) (w : World) : Prop := s.names.length ≤ s.nc ∧ Txs B s.na s.names w
def Shs (B : Nat) (l : List Sh) (ao : Option Addr) (w : World) : Prop := ∀ j s, l[j]? = some s → ∃ b o, ao = some ⟨b, o, none⟩ ∧ b < B ∧ (∀ c u, s.cells[c]? = some u → w.cell? ⟨b, o + j * 10 + c, none⟩ = some u) ∧ s.In B w
theorem Txs.old {B : Nat} {na : Option Addr} {l : List ByteArray} {w w' : World} (h : Txs B na l w) (k : ∀ p : Addr, p.block < B → w'.cell? p = w.cell? p) : Txs B na l w' := by
  intro i t hi
  obtain ⟨nb, no, e, hb, hc⟩ := h i t hi
  exact ⟨nb, no, e, hb, (k _ hb).trans hc⟩
theorem Shs.old {B : Nat} {ao : Option Addr} {l : List Sh} {w w' : World} (h : Shs B l ao w) (k : ∀ p : Addr, p.block < B → w'.cell? p = w.cell? p) : Shs B l ao w' := by
  intro i t hi
  obtain ⟨b, o, e, hb, hc, hn, hx⟩ := h i t hi
  exact ⟨b, o, e, hb, fun c u hu => (k ⟨b, o + i * 10 + c, none⟩ hb).trans (hc c u hu), hn, hx.old k⟩
/-- how much a list of shapes makes -/
def wt (l : List Sh) : Nat := (l.map fun s => s.names.length + 1).sum
theorem wt_take (l : List Sh) (k : Nat) (s : Sh) (h : l[k]? = some s) : wt (l.take (k + 1)) = wt (l.take k) + (s.names.length + 1) := by
  unfold wt
  rw [List.take_add_one, h]
  simp
theorem wt_le (l : List Sh) : ∀ k, wt (l.take k) ≤ wt l := by
  intro k
  have : wt l = wt (l.take k) + wt (l.drop k) := by
    unfold wt
    rw [← List.sum_append, ← List.map_append, List.take_append_drop]
  omega
/-- what may be asked of a shape's texts -/
def Sh.Small (s : Sh) : Prop := s.head.size ≤ 1048576 ∧ s.on.size ≤ 1048576 ∧ s.num.size ≤ 1048576 ∧ s.names.length ≤ 1048576 ∧ ∀ t ∈ s.names, t.size ≤ 1048576
end Go.Proofs.YtfgblchnnhdlnaaGreatDoor
set_option linter.unusedVariables false
set_option linter.unusedSimpArgs false
namespace Go.Proofs.YtfgblchnnhdlnaaGreatDoor
open Go.RowKit
def kws : List Value := [.string ⟨#[97, 99, 116, 105, 111, 110]⟩, .string ⟨#[115, 117, 98, 106, 101, 99, 116]⟩, .string ⟨#[114, 111, 108, 101]⟩, .string ⟨#[111, 98, 106, 101, 99, 116]⟩, .string ⟨#[103, 114, 111, 117, 112]⟩, .string ⟨#[109, 101, 109, 98, 101, 114]⟩, .string ⟨#[105, 110, 104, 101, 114, 105, 116]⟩, .string ⟨#[112, 97, 114, 116]⟩, .string ⟨#[119, 105, 116, 104, 105, 110]⟩, .string ⟨#[97, 108, 108, 111, 119]⟩, .string ⟨#[100, 101, 110, 121]⟩, .string ⟨#[101, 120, 99, 101, 112, 116]⟩]
/-- WHAT STANDS WHILE A SHAPE IS LAID -/
structure LS (B b : Nat) (w : World) (v : Value) (sh : Sh) (g : Nat) (l : List Value) (sv : Value) (ws : List R.Wd) (ts : List R.Tok) (v' : Value) (ln cl q : Int) (W : World) : Prop where
  ld : Ld B b ts v' ln cl q W
  st : Lst b w v W v'
  box : W.heap[w.heap.size]? = some (.cells sh.cells.toArray 53 (0, 0))
  res : Bk (w.heap.size + 1) dz W
  wrd : W.heap[w.heap.size + 1 + 1]? = some (.cells kws.toArray 9 (0, 0))
  cur : Bk g l W
  lo : w.heap.size + 2 < g
  bw : B ≤ w.heap.size
  old : ∀ p : Addr, p.block < B → W.cell? p = w.cell? p
  row : W.ownsRow w.heap.size 55 3 sv ws.length (ws.flatMap wcells)
variable {B b : Nat} {w W W' : World} {v v' v'' : Value} {sh : Sh} {g : Nat} {l : List Value} {sv : Value} {ws : List R.Wd} {ts ts' : List R.Tok} {ln cl q ln' cl' q' : Int}
theorem LS.call (h : LS B b w v sh g l sv ws ts v' ln cl q W) (hd : Ld B b ts' v'' ln' cl' q' W') (s : Lst b W v' W' v'') : LS B b w v sh g l sv ws ts' v'' ln' cl' q' W' :=
  ⟨hd, h.st.trans s, h.ld.block s h.box (by decide) (by decide), h.ld.block s h.res (by decide) (by decide), h.ld.block s h.wrd (by decide) (by decide), h.ld.block s h.cur (by decide) (by decide), h.lo, h.bw,
    fun p hp => (h.ld.old s hp).trans (h.old p hp), h.ld.other s h.row (by decide) (by decide)⟩
theorem LS.names {sv' : Value} {ws' : List R.Wd} (h : LS B b w v sh g l sv ws ts v' ln cl q W) (hd : Ld B b ts' v'' ln' cl' q' W') (s : Lst b W v' W' v'') (hr : W'.ownsRow W.heap.size 55 3 sv' ws'.length (ws'.flatMap wcells)) : LS B b w v sh g l sv' ws' ts' v'' ln' cl' q' W' := by
  have k := h.call hd s
  exact ⟨k.ld, k.st, k.box, k.res, k.wrd, k.cur, k.lo, k.bw, k.old, row_mono hr h.st.turn.size⟩
theorem LS.glt (h : LS B b w v sh g l sv ws ts v' ln cl q W) : g < W.heap.size := h.cur.lt
theorem LS.far (h : LS B b w v sh g l sv ws ts v' ln cl q W) {j : Nat} (hj : j < W.heap.size) {t : TypeId} {cs : Array Value} {fr : Nat × Nat} (hb : W.heap[j]? = some (.cells cs t fr)) (ht : t = 59 ∨ t = 9) (hne : w.heap.size < j) (t' : Turn (fun k => k = j) W W') :
    Ld B b ts v' ln cl q W' ∧ Lst b w v W' v' := by
  have n1 : j ≠ b := fun e => by
    have := h.ld.hb; rw [← e, hb] at this; cases this; rcases ht with q | q <;> cases q
  have n2 : v'.ownBlock ≠ some j := fun e => by
    rcases h.ld.row.2 with ⟨rfl, _⟩ | ⟨a, cp, cur, rfl, _, ha, _⟩
    · cases e
    · have : a = j := by simpa [Value.ownBlock] using e
      subst this
      rw [show W.heap[a]? = _ from hb] at ha; cases ha; rcases ht with q | q <;> cases q
  refine ⟨⟨h.ld.lo, (t'.block b h.ld.lt (fun e => n1 e.symm)).trans h.ld.hb, t'.row h.ld.row (fun g hg e => n2 (by rw [hg, e]))⟩, h.st.turn.then t' (fun i hi e => by omega), fun g hg => h.st.own g hg⟩
theorem LS.set (h : LS B b w v sh g l sv ws ts v' ln cl q W) (k : Nat) (x : Value) : LS B b w v sh g (l.set k x) sv ws ts v' ln cl q (W.setCell ⟨g, k, none⟩ x) := by
  have t : Turn (fun k => k = g) W (W.setCell ⟨g, k, none⟩ x) := (Turn.refl (fun k => k = g) W).setCell (p := ⟨g, k, none⟩) (fun _ => rfl) x
  have lo := h.lo
  obtain ⟨k1, k2⟩ := h.far h.glt h.cur (.inl rfl) (by omega) t
  have z := h.st.turn.size
  have gl := h.glt
  refine ⟨k1, k2, (t.block _ (by omega) (by omega)).trans h.box, h.res.turn t (by omega), (t.block _ (by omega) (by omega)).trans h.wrd, h.cur.set k x, h.lo, h.bw, fun p hp => ?_, t.row h.row (h.cur.no_row h.row)⟩
  have : p.block < W.heap.size := Nat.lt_of_lt_of_le hp h.ld.le
  by_cases e : p.block = g
  · -- p lies below B, the block is new
    exfalso
    have := h.bw
    omega
  · exact (t.cell (by exact this) e).trans (h.old p hp)
/-- a block that is new -/
theorem LS.quiet (h : LS B b w v sh g l sv ws ts v' ln cl q W) (t : Below W.heap.size W W') : LS B b w v sh g l sv ws ts v' ln cl q W' := h.call (h.ld.quiet t) (Lst.quiet v' t)
theorem LS.c (h : LS B b w v sh g l sv ws ts v' ln cl q W) (k : Nat) (x : Value) (hx : sh.cells[k]? = some x) : W.cell? ⟨w.heap.size, k, none⟩ = some x := by
  rw [Lib.cell_of_heap h.box]; simpa using hx
theorem LS.k (h : LS B b w v sh g l sv ws ts v' ln cl q W) (k : Nat) (x : Value) (hx : kws[k]? = some x) : W.cell? ⟨w.heap.size + 1 + 1, k, none⟩ = some x := by
  rw [Lib.cell_of_heap h.wrd]; simpa using hx
/-- the end: the declaration is put where the result lies -/
theorem LS.fin (h : LS B b w v sh g l sv ws ts v' ln cl q W) : Bk (w.heap.size + 1) l (W.setRow (w.heap.size + 1) l.toArray) ∧ Ld B b ts v' ln cl q (W.setRow (w.heap.size + 1) l.toArray) ∧ Lst b w v (W.setRow (w.heap.size + 1) l.toArray) v' ∧ (W.setRow (w.heap.size + 1) l.toArray).ownsRow w.heap.size 55 3 sv ws.length (ws.flatMap wcells) := by
  have t := turn_row W (w.heap.size + 1) l.toArray
  obtain ⟨k1, k2⟩ := h.far h.res.lt h.res (.inl rfl) (by omega) t
  exact ⟨h.res.row, k1, k2, t.row h.row (h.res.no_row h.row)⟩
theorem LS.d (h : LS B b w v sh g l sv ws ts v' ln cl q W) (k : Nat) (x : Value) (hx : l[k]? = some x) : W.cell? ⟨g, k, none⟩ = some x := h.cur.cell k x hx
theorem LS.f (h : LS B b w v sh g l sv ws ts v' ln cl q W) (k : Nat) : W.frozen? ⟨g, k, none⟩ = false := h.cur.frz k
/-- ahead of the declaration's own block -/
structure L0 (B b : Nat) (w : World) (v : Value) (sh : Sh) (ts : List R.Tok) (ln cl : Int) (X : World) : Prop where
  ld : Ld B b ts v ln cl sh.quo X
  st : Lst b w v X v
  box : X.heap[w.heap.size]? = some (.cells sh.cells.toArray 53 (0, 0))
  res : Bk (w.heap.size + 1) dz X
  wrd : X.heap[w.heap.size + 1 + 1]? = some (.cells kws.toArray 9 (0, 0))
  lo : w.heap.size + 2 < X.heap.size
  bw : B ≤ w.heap.size
theorem L0.start (h : Ld B b ts v ln cl q w) (sh : Sh) : L0 B b w v sh ts ln cl ((((w.setCell ⟨b, 3, none⟩ (.int .i64 sh.quo)).alloc (.cells sh.cells.toArray 53)).alloc (.cells dz.toArray 59)).alloc (.cells kws.toArray 9)) := by
  have h1 := h.set (k := 3) (x := .int .i64 sh.quo) rfl
  have s1 := Lst.set b w v 3 (.int .i64 sh.quo)
  have hz : (w.setCell ⟨b, 3, none⟩ (.int .i64 sh.quo)).heap.size = w.heap.size := by simp [World.setCell]
  have hbw := h.le
  generalize (w.setCell ⟨b, 3, none⟩ (.int .i64 sh.quo)) = Y at *
  have b1 : Below Y.heap.size Y (((Y.alloc (.cells sh.cells.toArray 53)).alloc (.cells dz.toArray 59)).alloc (.cells kws.toArray 9)) := (((Below.refl _ _).alloc (Nat.le_refl _) _).alloc (by simp) _).alloc (by simp; omega) _
  refine ⟨h1.quiet b1, s1.trans (Lst.quiet v b1), ?_, ?_, ?_, by simp; omega, hbw⟩
  · rw [← hz]
    exact (Below.heap_alloc _ _ _ (by simp; omega)).trans ((Below.heap_alloc _ _ _ (by simp)).trans (heap_alloc_new _ _))
  · have e : (Y.alloc (.cells sh.cells.toArray 53)).heap.size = w.heap.size + 1 := by simp [hz]
    have := heap_alloc_new (Y.alloc (.cells sh.cells.toArray 53)) (.cells dz.toArray 59)
    rw [e] at this
    exact (Below.heap_alloc _ _ _ (by simp; omega)).trans this
  · have e : ((Y.alloc (.cells sh.cells.toArray 53)).alloc (.cells dz.toArray 59)).heap.size = w.heap.size + 1 + 1 := by simp [hz]
    have := heap_alloc_new ((Y.alloc (.cells sh.cells.toArray 53)).alloc (.cells dz.toArray 59)) (.cells kws.toArray 9)
    rw [e] at this
    exact this
theorem L0.go {X : World} (h : L0 B b w v sh ts ln cl X) (h0 : Ld B b ts v ln cl q w) (l : List Value) : LS B b w v sh X.heap.size l (.slice none 0 0) [] ts v ln cl sh.quo (X.alloc (.cells l.toArray 59)).drew := by
  have b1 : Below X.heap.size X (X.alloc (.cells l.toArray 59)).drew := ((Below.refl _ _).alloc (Nat.le_refl _) _).drew
  have lo := h.lo
  have s := h.st.trans (Lst.quiet v b1)
  refine ⟨h.ld.quiet b1, s, (b1.block _ (by omega)).trans h.box, (b1.block _ (by omega)).trans h.res, (b1.block _ (by omega)).trans h.wrd, heap_alloc_new _ _, lo, h.bw, fun p hp => h0.old s hp, rfl, Or.inl ⟨rfl, rfl⟩⟩
end Go.Proofs.YtfgblchnnhdlnaaGreatDoor
