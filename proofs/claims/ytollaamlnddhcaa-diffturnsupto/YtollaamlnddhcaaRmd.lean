import Derived.Test.YtollaamlnddhcaaGrw
import Derived.Test.YtollaamlnddhcaaRmt
set_option linter.unusedVariables false
set_option linter.unusedSimpArgs false
namespace Go.Proofs.Ytollaamlnddhcaa
open Go.RowKit Go.Maps
namespace U
/-- things that can be read, of m cells each -/
def Lies (m : Nat) (ao : Option Addr) (zs : List (List Value)) (w : World) : Prop := zs = [] ∨ ∃ b off, ao = some ⟨b, off, none⟩ ∧ b < w.heap.size ∧ ∀ i r k u, zs[i]? = some k → k[r]? = some u → w.cell? ⟨b, off + i * m + r, none⟩ = some u
theorem Lies.below {m : Nat} {ao : Option Addr} {zs : List (List Value)} {w w' : World} (h : Lies m ao zs w) (t : Below w.heap.size w w') : Lies m ao zs w' := by
  rcases h with h | ⟨b, off, h1, h2, h3⟩
  · exact .inl h
  · exact .inr ⟨b, off, h1, Nat.lt_of_lt_of_le h2 t.size, fun i r k u q s => (t.cell (p := ⟨b, off + i * m + r, none⟩) h2).trans (h3 i r k u q s)⟩
theorem Lies.at {m : Nat} {ao : Option Addr} {zs : List (List Value)} {w : World} (h : Lies m ao zs w) {i : Nat} {k : List Value} (q : zs[i]? = some k) : ∃ b off, ao = some ⟨b, off, none⟩ ∧ b < w.heap.size ∧ ∀ r u, k[r]? = some u → w.cell? ⟨b, off + i * m + r, none⟩ = some u := by
  rcases h with rfl | ⟨b, off, h1, h2, h3⟩
  · simp at q
  · exact ⟨b, off, h1, h2, fun r u s => h3 i r k u q s⟩
theorem lies_row {e m B : Nat} {ao : Option Addr} {cap : Nat} {zs : List (List Value)} {w : World} (h : G.RowI e m B ao cap zs w) (ha : ∀ k ∈ zs, k.length = m) : Lies m ao zs w := by
  rcases h.form with ⟨_, rfl, _⟩ | ⟨g, rfl, _, hl, _⟩
  · exact .inl rfl
  · refine .inr ⟨g, 0, rfl, hl, fun i r k u q s => ?_⟩
    obtain ⟨g', e, hc, _⟩ := h.at ha q s
    cases e
    rw [Nat.zero_add]; exact hc
abbrev X3 (α : Type) := Option Addr × Nat × List α
def Ru.cells (R : Ru) : List Value := [R.d, .string R.who, .string R.what, .slice R.ro R.rl.length R.rc, .int .i8 R.cd, .float .f64 R.lv]
def Ok3 {α : Type} (I : Option Addr → List α → World → Prop) (x : X3 α) (w : World) : Prop := I x.1 x.2.2 w ∧ x.2.2.length ≤ x.2.1 ∧ (x.1 = none → x.2.1 = 0)
def Rus (uo : Option Addr) (us : List Ru) (w : World) : Prop := Lies 6 uo (us.map Ru.cells) w ∧ ∀ R ∈ us, Ok3 S.Ints (R.ro, R.rc, R.rl) w ∧ (∃ b, R.d = .bool b) ∧ R.rl.length ≤ 1048576
theorem Ok3.below {α : Type} {I : Option Addr → List α → World → Prop} {x : X3 α} {w w' : World} (h : Ok3 I x w) (hI : I x.1 x.2.2 w → I x.1 x.2.2 w') : Ok3 I x w' := ⟨hI h.1, h.2⟩
theorem Rus.below {uo : Option Addr} {us : List Ru} {w w' : World} (h : Rus uo us w) (t : Below w.heap.size w w') : Rus uo us w' := ⟨h.1.below t, fun R hR => ⟨(h.2 R hR).1.below (fun q => q.below t), (h.2 R hR).2⟩⟩
/-- a policy whole -/
structure Pf where
  a : X3 ByteArray
  s : X3 (ByteArray × Nat)
  r : X3 ByteArray
  o : X3 ByteArray
  g : X3 ByteArray
  m : P3
  i : P3
  p : P3
  w : P3
  u : X3 Ru
  x : X3 X.K3
def Pf.po (F : Pf) : Po := ⟨F.a.1, F.a.2.1, F.a.2.2, F.s.1, F.s.2.1, F.s.2.2, .slice F.r.1 F.r.2.2.length F.r.2.1, F.o.1, F.o.2.1, F.o.2.2, .slice F.g.1 F.g.2.2.length F.g.2.1, F.m, F.i, F.p, F.w, .slice F.u.1 F.u.2.2.length F.u.2.1, .slice F.x.1 F.x.2.2.length F.x.2.1⟩
def Pf.arr (F : Pf) : Array Value := #[.slice F.a.1 F.a.2.2.length F.a.2.1, .slice F.s.1 F.s.2.2.length F.s.2.1, .slice F.r.1 F.r.2.2.length F.r.2.1, .slice F.o.1 F.o.2.2.length F.o.2.1, .slice F.g.1 F.g.2.2.length F.g.2.1, .slice F.m.1 F.m.2.2.length F.m.2.1, .slice F.i.1 F.i.2.2.length F.i.2.1, .slice F.p.1 F.p.2.2.length F.p.2.1, .slice F.w.1 F.w.2.2.length F.w.2.1, .slice F.u.1 F.u.2.2.length F.u.2.1, .slice F.x.1 F.x.2.2.length F.x.2.1]
theorem Pf.val (F : Pf) : F.po.val = .agg F.arr := rfl
structure Pf.In (F : Pf) (W : World) : Prop where
  a : Ok3 S.Ints F.a W
  s : Ok3 Subs F.s W
  r : Ok3 S.Ints F.r W
  o : Ok3 S.Ints F.o W
  g : Ok3 S.Ints F.g W
  m : Ok3 Q.Ints F.m W
  i : Ok3 Q.Ints F.i W
  p : Ok3 Q.Ints F.p W
  w : Ok3 Q.Ints F.w W
  u : Ok3 Rus F.u W
  x : Ok3 X.Ints F.x W
theorem Pf.In.below {F : Pf} {w w' : World} (h : F.In w) (t : Below w.heap.size w w') : F.In w' := ⟨h.a.below (·.below t), h.s.below (·.below t), h.r.below (·.below t), h.o.below (·.below t), h.g.below (·.below t), h.m.below (·.below t), h.i.below (·.below t), h.p.below (·.below t), h.w.below (·.below t), h.u.below (·.below t), h.x.below (·.below t)⟩
theorem Pf.In.po {F : Pf} {w : World} (h : F.In w) : F.po.In w := ⟨h.a.1, h.a.2.1, h.s.1, h.s.2.1, h.o.1, h.o.2.1, ⟨h.m.1, h.m.2.1⟩, ⟨h.i.1, h.i.2.1⟩, ⟨h.p.1, h.p.2.1⟩, ⟨h.w.1, h.w.2.1⟩⟩
structure Pf.Small (F : Pf) : Prop where
  a : F.a.2.2.length ≤ 1048576
  s : F.s.2.2.length ≤ 1048576
  r : F.r.2.2.length ≤ 1048576
  o : F.o.2.2.length ≤ 1048576
  g : F.g.2.2.length ≤ 1048576
  m : F.m.2.2.length ≤ 1048576
  i : F.i.2.2.length ≤ 1048576
  p : F.p.2.2.length ≤ 1048576
  w : F.w.2.2.length ≤ 1048576
  u : F.u.2.2.length ≤ 1048576
  x : F.x.2.2.length ≤ 1048576
def tsharp : ByteArray × Nat := (S.sharp, 0)
def xsharp : X.K3 := (S.sharp, ByteArray.empty, ByteArray.empty)
/-- a rule whose actions lie elsewhere -/
def Ru.moved (x : Ru × Nat × Nat) : Ru := { x.1 with ro := some ⟨x.2.1, 0, none⟩, rc := x.2.2 }
def usharp : Ru := ⟨.bool false, S.sharp, ByteArray.empty, none, 0, [], 0, 0⟩
def lcells (x : Ru × Nat × Nat) : List Value := [.slice (some ⟨x.2.1, 0, none⟩) (x.1.rl.length + 1) x.2.2]
/-- a policy with a mark behind each of its lists -/
structure Rm (F F' : Pf) (lo : Option Addr) (lc : Nat) (ls : List (Ru × Nat × Nat)) (W : World) : Prop where
  ea : F'.a.2.2 = F.a.2.2 ++ [S.sharp]
  es : F'.s.2.2 = F.s.2.2 ++ [tsharp]
  er : F'.r.2.2 = F.r.2.2 ++ [S.sharp]
  eo : F'.o.2.2 = F.o.2.2 ++ [S.sharp]
  eg : F'.g.2.2 = F.g.2.2 ++ [S.sharp]
  em : F'.m.2.2 = F.m.2.2 ++ [Q.sharp]
  ei : F'.i.2.2 = F.i.2.2 ++ [Q.sharp]
  ep : F'.p.2.2 = F.p.2.2 ++ [Q.sharp]
  ew : F'.w.2.2 = F.w.2.2 ++ [Q.sharp]
  eu : F'.u.2.2 = ls.map Ru.moved ++ [usharp]
  el : ls.map (·.1) = F.u.2.2
  ex : F'.x.2.2 = F.x.2.2 ++ [xsharp]
  a : S.Ints F'.a.1 F'.a.2.2 W ∧ F'.a.2.2.length ≤ F'.a.2.1
  s : Subs F'.s.1 F'.s.2.2 W ∧ F'.s.2.2.length ≤ F'.s.2.1
  r : S.Ints F'.r.1 F'.r.2.2 W ∧ F'.r.2.2.length ≤ F'.r.2.1
  o : S.Ints F'.o.1 F'.o.2.2 W ∧ F'.o.2.2.length ≤ F'.o.2.1
  g : S.Ints F'.g.1 F'.g.2.2 W ∧ F'.g.2.2.length ≤ F'.g.2.1
  m : Q.Ints F'.m.1 F'.m.2.2 W ∧ F'.m.2.2.length ≤ F'.m.2.1
  i : Q.Ints F'.i.1 F'.i.2.2 W ∧ F'.i.2.2.length ≤ F'.i.2.1
  p : Q.Ints F'.p.1 F'.p.2.2 W ∧ F'.p.2.2.length ≤ F'.p.2.1
  w : Q.Ints F'.w.1 F'.w.2.2 W ∧ F'.w.2.2.length ≤ F'.w.2.1
  u : Lies 6 F'.u.1 (F'.u.2.2.map Ru.cells) W ∧ F'.u.2.2.length ≤ F'.u.2.1
  x : X.Ints F'.x.1 F'.x.2.2 W ∧ F'.x.2.2.length ≤ F'.x.2.1
  l : Lies 1 lo (ls.map lcells) W ∧ ls.length ≤ lc
  la : ∀ x ∈ ls, S.Ints (some ⟨x.2.1, 0, none⟩) (x.1.rl ++ [S.sharp]) W ∧ x.1.rl.length + 1 ≤ x.2.2
theorem Rm.below {F F' : Pf} {lo : Option Addr} {lc : Nat} {ls : List (Ru × Nat × Nat)} {w w' : World} (h : Rm F F' lo lc ls w) (t : Below w.heap.size w w') : Rm F F' lo lc ls w' where
  ea := h.ea
  es := h.es
  er := h.er
  eo := h.eo
  eg := h.eg
  em := h.em
  ei := h.ei
  ep := h.ep
  ew := h.ew
  eu := h.eu
  el := h.el
  ex := h.ex
  a := ⟨h.a.1.below t, h.a.2⟩
  s := ⟨h.s.1.below t, h.s.2⟩
  r := ⟨h.r.1.below t, h.r.2⟩
  o := ⟨h.o.1.below t, h.o.2⟩
  g := ⟨h.g.1.below t, h.g.2⟩
  m := ⟨h.m.1.below t, h.m.2⟩
  i := ⟨h.i.1.below t, h.i.2⟩
  p := ⟨h.p.1.below t, h.p.2⟩
  w := ⟨h.w.1.below t, h.w.2⟩
  u := ⟨h.u.1.below t, h.u.2⟩
  x := ⟨h.x.1.below t, h.x.2⟩
  l := ⟨h.l.1.below t, h.l.2⟩
  la := fun x hx => ⟨(h.la x hx).1.below t, (h.la x hx).2⟩
/-- what is handed out: the full lists without their marks -/
def Pf.cut (F F' : Pf) : Pf := ⟨(F'.a.1, F'.a.2.1, F.a.2.2), (F'.s.1, F'.s.2.1, F.s.2.2), (F'.r.1, F'.r.2.1, F.r.2.2), (F'.o.1, F'.o.2.1, F.o.2.2), (F'.g.1, F'.g.2.1, F.g.2.2), (F'.m.1, F'.m.2.1, F.m.2.2), (F'.i.1, F'.i.2.1, F.i.2.2), (F'.p.1, F'.p.2.1, F.p.2.2), (F'.w.1, F'.w.2.1, F.w.2.2), (F'.u.1, F'.u.2.1, F.u.2.2), (F'.x.1, F'.x.2.1, F.x.2.2)⟩
def RoomIs (F : Pf) (w : World) (e : Ending) (w' : World) : Prop := ∃ F' lo lc ls, e = .returned (.agg ((F.cut F').arr ++ F'.arr ++ #[.slice lo ls.length lc])) ∧ Rm F F' lo lc ls w' ∧ Below w.heap.size w w'
theorem ints_cut {ao : Option Addr} {xs ys : List ByteArray} {w : World} (h : S.Ints ao (xs ++ ys) w) : S.Ints ao xs w := by
  rcases h with h | ⟨b, off, h1, h2, h3⟩
  · exact .inl (List.append_eq_nil_iff.1 h).1
  · exact .inr ⟨b, off, h1, h2, fun i k q => h3 i k (by rw [List.getElem?_append_left (List.getElem?_eq_some_iff.1 q).1]; exact q)⟩
theorem qints_cut {ao : Option Addr} {xs ys : List K2} {w : World} (h : Q.Ints ao (xs ++ ys) w) : Q.Ints ao xs w := by
  rcases h with h | ⟨b, off, h1, h2, h3⟩
  · exact .inl (List.append_eq_nil_iff.1 h).1
  · exact .inr ⟨b, off, h1, h2, fun i k q => h3 i k (by rw [List.getElem?_append_left (List.getElem?_eq_some_iff.1 q).1]; exact q)⟩
theorem subs_cut {ao : Option Addr} {xs ys : List (ByteArray × Nat)} {w : World} (h : Subs ao (xs ++ ys) w) : Subs ao xs w := by
  rcases h with h | ⟨b, off, h1, h2, h3⟩
  · exact .inl (List.append_eq_nil_iff.1 h).1
  · exact .inr ⟨b, off, h1, h2, fun i k q => h3 i k (by rw [List.getElem?_append_left (List.getElem?_eq_some_iff.1 q).1]; exact q)⟩
theorem len_cut {α : Type} {xs ys zs : List α} {n : Nat} (e : zs = xs ++ ys) (h : zs.length ≤ n) : xs.length ≤ n := by rw [e, List.length_append] at h; omega
theorem Rm.given {F F' : Pf} {lo : Option Addr} {lc : Nat} {ls : List (Ru × Nat × Nat)} {w : World} (h : Rm F F' lo lc ls w) : (F.cut F').po.In w where
  a := ints_cut (h.ea ▸ h.a.1)
  ac := len_cut h.ea h.a.2
  s := subs_cut (h.es ▸ h.s.1)
  sc := len_cut h.es h.s.2
  o := ints_cut (h.eo ▸ h.o.1)
  oc := len_cut h.eo h.o.2
  m := ⟨qints_cut (h.em ▸ h.m.1), len_cut h.em h.m.2⟩
  i := ⟨qints_cut (h.ei ▸ h.i.1), len_cut h.ei h.i.2⟩
  p := ⟨qints_cut (h.ep ▸ h.p.1), len_cut h.ep h.p.2⟩
  w := ⟨qints_cut (h.ew ▸ h.w.1), len_cut h.ew h.w.2⟩
end U
end Go.Proofs.Ytollaamlnddhcaa
