import Derived.Test.YtgbhcfephhbalaaRml
set_option linter.unusedVariables false
set_option linter.unusedSimpArgs false
namespace Go.Proofs.Ytgbhcfephhbalaa
open Go.RowKit Go.Maps
namespace U
/-- the answer's block, before it is written -/
def Blank (b2 : Nat) (Y : World) : Prop := ∃ z, Y.heap[b2]? = some (.cells z 39 (0, 0)) ∧ ∀ (i : Nat) v, z[i]? = some v → v = .slice none 0 0
theorem Blank.ne {b2 g i : Nat} {Y : World} {v : Value} (h : Blank b2 Y) (hc : Y.cell? ⟨g, i, none⟩ = some v) (hv : v ≠ .slice none 0 0) : g ≠ b2 := fun e => by
  obtain ⟨z, h1, h2⟩ := h
  subst e
  rw [Lib.cell_of_heap h1] at hc
  exact hv (h2 i v hc)
theorem last_at {α : Type} (xs : List α) (k : α) : (xs ++ [k])[xs.length]? = some k := by simp
variable {b2 g : Nat} {Y W : World}
theorem move_s {xs : List ByteArray} {k : ByteArray} (hb : Blank b2 Y) (t : Turn (fun j => j = b2) Y W) (h : S.Ints (some ⟨g, 0, none⟩) (xs ++ [k]) Y) : S.Ints (some ⟨g, 0, none⟩) (xs ++ [k]) W := by
  obtain ⟨b, off, e, hl, hc⟩ := h.at (last_at xs k)
  cases e
  exact stab_s hl (hb.ne hc (fun q => by cases q)) Y W h (t.mono (fun j _ q => .inl q))
theorem move_q {xs : List K2} {k : K2} (hb : Blank b2 Y) (t : Turn (fun j => j = b2) Y W) (h : Q.Ints (some ⟨g, 0, none⟩) (xs ++ [k]) Y) : Q.Ints (some ⟨g, 0, none⟩) (xs ++ [k]) W := by
  obtain ⟨b, off, e, hl, hc, _⟩ := h.at (last_at xs k)
  cases e
  exact stab_q hl (hb.ne hc (fun q => by cases q)) Y W h (t.mono (fun j _ q => .inl q))
theorem move_t {xs : List (ByteArray × Nat)} {k : ByteArray × Nat} (hb : Blank b2 Y) (t : Turn (fun j => j = b2) Y W) (h : Subs (some ⟨g, 0, none⟩) (xs ++ [k]) Y) : Subs (some ⟨g, 0, none⟩) (xs ++ [k]) W := by
  obtain ⟨b, off, e, hl, hc, _⟩ := h.at (last_at xs k)
  cases e
  exact stab_t hl (hb.ne hc (fun q => by cases q)) Y W h (t.mono (fun j _ q => .inl q))
theorem move_x {xs : List X.K3} {k : X.K3} (hb : Blank b2 Y) (t : Turn (fun j => j = b2) Y W) (h : X.Ints (some ⟨g, 0, none⟩) (xs ++ [k]) Y) : X.Ints (some ⟨g, 0, none⟩) (xs ++ [k]) W := by
  obtain ⟨b, off, e, hl, hc, _⟩ := h.at (last_at xs k)
  cases e
  exact stab_x hl (hb.ne hc (fun q => by cases q)) Y W h (t.mono (fun j _ q => .inl q))
theorem move_l {m : Nat} {ao : Option Addr} {zs : List (List Value)} {k : List Value} {v : Value} {i r : Nat} (hb : Blank b2 Y) (t : Turn (fun j => j = b2) Y W) (h : Lies m ao zs Y) (hk : zs[i]? = some k) (hv : k[r]? = some v) (hn : v ≠ .slice none 0 0) : Lies m ao zs W := by
  obtain ⟨b, off, e, hl, hc⟩ := h.at hk
  exact stab_l (b3 := b2) (B := Y.heap.size) (fun a q => by rw [e] at q; cases q; exact ⟨hl, hb.ne (hc r v hv) hn⟩) Y W h (t.mono (fun j _ q => .inl q))
theorem move_j {lo : Option Addr} {g7 : Nat} {ls : List (Ru × Nat × Nat)} (hb : Blank b2 Y) (t : Turn (fun j => j = b2) Y W) (h : Jr lo g7 ls Y) : Jr lo g7 ls W := by
  refine ⟨?_, ?_, fun x hx => move_s hb t (h.2.2 x hx)⟩
  · cases ls with
    | nil => exact .inl rfl
    | cons x r => exact move_l hb t h.1 (i := 0) (r := 0) rfl rfl (fun q => by cases q)
  · exact move_l hb t h.2.1 (i := ls.length) (k := usharp.cells) (r := 1) (by rw [List.map_append, List.getElem?_append_right (by simp)]; simp) rfl (fun q => by cases q)
theorem stay_fa {P : Program} {ops : Array Oper} {rest : List Oper} {o : Oper} {a : Act} {Q : Exit → Act → World → Prop} {w : World} (k : Nat) (ho : o.op = .fieldAddr 34 (.tmp 3) k) (h : Stay (wpList P ops Q (o :: rest) a w)) : wpList P ops Q (o :: rest) a w := h
theorem stay_ld {P : Program} {ops : Array Oper} {rest : List Oper} {o : Oper} {a : Act} {Q : Exit → Act → World → Prop} {w : World} (ho : o.op = .load 34 (.tmp 8)) (h : Stay (wpList P ops Q (o :: rest) a w)) : wpList P ops Q (o :: rest) a w := h
theorem stay_st39 {P : Program} {ops : Array Oper} {rest : List Oper} {o : Oper} {a : Act} {Q : Exit → Act → World → Prop} {w : World} (x y : Operand) (ho : o.op = .store 39 x y) (h : Stay (wpList P ops Q (o :: rest) a w)) : wpList P ops Q (o :: rest) a w := h
/-- the full policy -/
def full (F : Pf) (ls : List (Ru × Nat × Nat)) (g1 c1 g6 c6 g2 c2 g3 c3 g4 c4 gm cm gi ci gp cp gw cw g7 c7 g9 c9 : Nat) : Pf := ⟨(some ⟨g1, 0, none⟩, c1, F.a.2.2 ++ [S.sharp]), (some ⟨g6, 0, none⟩, c6, F.s.2.2 ++ [tsharp]), (some ⟨g2, 0, none⟩, c2, F.r.2.2 ++ [S.sharp]), (some ⟨g3, 0, none⟩, c3, F.o.2.2 ++ [S.sharp]), (some ⟨g4, 0, none⟩, c4, F.g.2.2 ++ [S.sharp]), (some ⟨gm, 0, none⟩, cm, F.m.2.2 ++ [Q.sharp]), (some ⟨gi, 0, none⟩, ci, F.i.2.2 ++ [Q.sharp]), (some ⟨gp, 0, none⟩, cp, F.p.2.2 ++ [Q.sharp]), (some ⟨gw, 0, none⟩, cw, F.w.2.2 ++ [Q.sharp]), (some ⟨g7, 0, none⟩, c7, ls.map Ru.moved ++ [usharp]), (some ⟨g9, 0, none⟩, c9, F.x.2.2 ++ [xsharp])⟩
theorem room_is {F : Pf} {ls : List (Ru × Nat × Nat)} {g1 c1 g6 c6 g2 c2 g3 c3 g4 c4 gm cm gi ci gp cp gw cw g7 c7 g9 c9 : Nat} {lo : Option Addr} {lc : Nat} {b1 : Nat} {z : Array Value} {w : World} (hk : Ks F b1 b2 z w Y) (hb2 : b2 = w.heap.size + 1) (hz : ∀ (i : Nat) v, z[i]? = some v → v = .slice none 0 0) (cs : Array Value)
    (ia : S.Ints (some ⟨g1, 0, none⟩) (F.a.2.2 ++ [S.sharp]) Y) (is : Subs (some ⟨g6, 0, none⟩) (F.s.2.2 ++ [tsharp]) Y) (ir : S.Ints (some ⟨g2, 0, none⟩) (F.r.2.2 ++ [S.sharp]) Y) (io : S.Ints (some ⟨g3, 0, none⟩) (F.o.2.2 ++ [S.sharp]) Y) (ig : S.Ints (some ⟨g4, 0, none⟩) (F.g.2.2 ++ [S.sharp]) Y)
    (im : Q.Ints (some ⟨gm, 0, none⟩) (F.m.2.2 ++ [Q.sharp]) Y) (ii : Q.Ints (some ⟨gi, 0, none⟩) (F.i.2.2 ++ [Q.sharp]) Y) (ip : Q.Ints (some ⟨gp, 0, none⟩) (F.p.2.2 ++ [Q.sharp]) Y) (iw : Q.Ints (some ⟨gw, 0, none⟩) (F.w.2.2 ++ [Q.sharp]) Y) (ij : Jr lo g7 ls Y) (ix : X.Ints (some ⟨g9, 0, none⟩) (F.x.2.2 ++ [xsharp]) Y)
    (ca : ((F.a.2.2 ++ [S.sharp]).length ≤ c1 ∧ (F.r.2.2 ++ [S.sharp]).length ≤ c2) ∧ ((F.o.2.2 ++ [S.sharp]).length ≤ c3 ∧ (F.g.2.2 ++ [S.sharp]).length ≤ c4)) (cS : (F.s.2.2 ++ [tsharp]).length ≤ c6) (cm' : (F.m.2.2 ++ [Q.sharp]).length ≤ cm) (ci' : (F.i.2.2 ++ [Q.sharp]).length ≤ ci) (cp' : (F.p.2.2 ++ [Q.sharp]).length ≤ cp) (cw' : (F.w.2.2 ++ [Q.sharp]).length ≤ cw) (cx : (F.x.2.2 ++ [xsharp]).length ≤ c9) (cu : ls.length ≤ lc ∧ ls.length + 1 ≤ c7 ∧ ∀ x ∈ ls, x.1.rl.length + 1 ≤ x.2.2)
    (el : ls.map (·.1) = F.u.2.2.take F.u.2.2.length) :
    Rm F (full F ls g1 c1 g6 c6 g2 c2 g3 c3 g4 c4 gm cm gi ci gp cp gw cw g7 c7 g9 c9) lo lc ls (Y.setRow b2 cs) ∧ Below w.heap.size w (Y.setRow b2 cs) := by
  have hb : Blank b2 Y := ⟨z, hk.2.2, hz⟩
  have t : Turn (fun j => j = b2) Y (Y.setRow b2 cs) := Turn.setRow (Turn.refl (fun j => j = b2) Y) (fun _ => rfl) cs
  have j := move_j hb t ij
  refine ⟨⟨rfl, rfl, rfl, rfl, rfl, rfl, rfl, rfl, rfl, rfl, by rw [el, List.take_length], rfl, ⟨move_s hb t ia, ca.1.1⟩, ⟨move_t hb t is, cS⟩, ⟨move_s hb t ir, ca.1.2⟩, ⟨move_s hb t io, ca.2.1⟩, ⟨move_s hb t ig, ca.2.2⟩, ⟨move_q hb t im, cm'⟩, ⟨move_q hb t ii, ci'⟩, ⟨move_q hb t ip, cp'⟩, ⟨move_q hb t iw, cw'⟩, ⟨j.2.1, ?_⟩, ⟨move_x hb t ix, cx⟩, ⟨j.1, cu.1⟩, fun x hx => ⟨j.2.2 x hx, cu.2.2 x hx⟩⟩, hk.1.trans (below_own t (fun k q => by omega) hk.1.size)⟩
  show (ls.map Ru.moved ++ [usharp]).length ≤ c7
  simpa using cu.2.1
end U
end Go.Proofs.Ytgbhcfephhbalaa
