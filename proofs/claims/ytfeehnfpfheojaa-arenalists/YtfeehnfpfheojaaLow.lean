import Derived.Test.YtfeehnfpfheojaaFrP
import Derived.Test.YtfeehnfpfheojaaHpR
set_option linter.unusedVariables false
set_option linter.unusedSimpArgs false
namespace Go.Proofs.Ytfeehnfpfheojaa
open Go.RowKit Go.Sort
namespace Fr
def cz (p : Bk) : Array Value := #[.int .i64 p.addr, .int .i64 p.size, .bool p.free]
def z0 : Bk := ⟨0, 0, false⟩
/-- a piece with all that lie beside it, and those that are left -/
def grp : Bk → List Bk → Bk × List Bk
  | b, [] => (b, [])
  | b, c :: r => if c.addr = b.addr + b.size then grp ⟨b.addr, b.size + c.size, b.free⟩ r else (b, c :: r)
/-- a free piece as it may be -/
def Okb (b : Bk) : Prop := 0 ≤ b.addr ∧ 0 < b.size ∧ b.addr + b.size ≤ 65536 ∧ b.free = true
/-- how many are in the heap, as the world has it -/
def hlen (h : Nat) (w : World) : Nat := match w.cell? ⟨h, 1, none⟩ with | some (.slice _ n _) => n | _ => 0
variable {D : Nat → Prop} {B h : Nat} {F : List Bk} {cnt : Nat} {w w' : World}
theorem hlen_of (H : Fr D B h F cnt w) : hlen h w = F.length := by
  obtain ⟨zs, ⟨ao, cap, hm, hd⟩, h2, _⟩ := H
  unfold hlen
  rw [hm.c1]
  have := h2.length_eq
  simpa using this
theorem hlen_to (H : FTo D B h F cnt w w') : hlen h w' = F.length := by
  obtain ⟨D', h1, _⟩ := H
  exact hlen_of h1
theorem row3 {b : Nat} {p : Bk} (hb : w.heap[b]? = some (.cells (cz p) 110 (0, 0))) : w.cell? ⟨b, 0, none⟩ = some (.int .i64 p.addr) ∧ w.cell? ⟨b, 1, none⟩ = some (.int .i64 p.size) ∧ w.cell? ⟨b, 2, none⟩ = some (.bool p.free) ∧ ∀ j, w.frozen? ⟨b, j, none⟩ = false :=
  ⟨by rw [Lib.cell_of_heap hb]; rfl, by rw [Lib.cell_of_heap hb]; rfl, by rw [Lib.cell_of_heap hb]; rfl, fun j => Lib.frozen_of_heap hb j⟩
def set3 (w : World) (b : Nat) (p : Bk) : World := ((w.setCell ⟨b, 0, none⟩ (.int .i64 p.addr)).setCell ⟨b, 1, none⟩ (.int .i64 p.size)).setCell ⟨b, 2, none⟩ (.bool p.free)
theorem set3_row {b : Nat} {q : Bk} (p : Bk) (hb : w.heap[b]? = some (.cells (cz q) 110 (0, 0))) : (set3 w b p).heap[b]? = some (.cells (cz p) 110 (0, 0)) := HB.row_set hb _ _ _
theorem set3_turn (b : Nat) (p : Bk) (w : World) : Turn (fun j => j = b) w (set3 w b p) := (((Turn.refl (fun j => j = b) w).setCell (p := ⟨b, 0, none⟩) (fun _ => rfl) _).setCell (p := ⟨b, 1, none⟩) (fun _ => rfl) _).setCell (p := ⟨b, 2, none⟩) (fun _ => rfl) _
/-- a box stays while the heap's blocks turn -/
theorem Fr.box (H : Fr D B h F cnt w) {b : Nat} {q : Bk} (hb : w.heap[b]? = some (.cells (cz q) 110 (0, 0))) : ¬ D b := H.not hb (by decide) (by decide)
theorem FTo.box (H : FTo D B h F cnt w w') (h0 : ∀ j, D j → j < w.heap.size) {F0 : List Bk} {c0 : Nat} (H0 : Fr D B h F0 c0 w) {b : Nat} {q : Bk} (hb : w.heap[b]? = some (.cells (cz q) 110 (0, 0))) : w'.heap[b]? = some (.cells (cz q) 110 (0, 0)) := by
  obtain ⟨D', _, t, _⟩ := H
  exact (t.block b (lt_of_heap hb) (H0.box hb)).trans hb
/-- the loop's state -/
structure Lw (D : Nat → Prop) (B h cnt : Nat) (w : World) (b2 b4 : Nat) (goal : Bk × List Bk) (p : Bk) (r : List Bk) (nb : Nat) (nx : Bk) (mo : Bool) (wx : World) : Prop where
  to : FTo D B h r cnt w wx
  g : grp p r = goal
  srt : Srt r
  okp : Okb p
  okr : ∀ c ∈ r, Okb c
  mo : (mo = true ∧ ∃ r', r = nx :: r') ∨ (mo = false ∧ r = [])
  h2 : wx.heap[b2]? = some (.cells (cz z0) 110 (0, 0))
  h4 : wx.heap[b4]? = some (.cells (cz p) 110 (0, 0))
  hn : wx.heap[nb]? = some (.cells (cz nx) 110 (0, 0))
  n24 : b2 ≠ b4
  nn4 : nb ≠ b4
  nn2 : nb ≠ b2
  l2 : w.heap.size ≤ b2
  l4 : w.heap.size ≤ b4
  ln : w.heap.size ≤ nb
def hd (r : List Bk) : Bk := r.headD z0
def ne (r : List Bk) : Bool := !r.isEmpty
/-- Peek, of whatever there is -/
theorem peek_any {r : List Bk} (H : Fr D B h r cnt w) (hs : Srt r) : Calls Try.prog 99 #[.pointer (some ⟨h, 0, none⟩)] w fun e w' => e = .returned (.tuple #[.agg #[.int .i64 (hd r).addr, .int .i64 (hd r).size, .bool (hd r).free], .bool (ne r)]) ∧ Below w.heap.size w w' := by
  cases r with
  | nil => exact peek_none H
  | cons a r => exact peek_some H hs
theorem mo_of (r : List Bk) : (ne r = true ∧ ∃ r', r = hd r :: r') ∨ (ne r = false ∧ r = []) := by
  cases r with
  | nil => exact .inr ⟨rfl, rfl⟩
  | cons a r => exact .inl ⟨rfl, r, rfl⟩
theorem FTo.on {D0 : Nat → Prop} {F2 : List Bk} {c2 : Nat} {w1 w2 : World} (t0 : Turn D w w1) (s0 : ∀ j, D0 j → D j ∨ w.heap.size ≤ j) (T : FTo D0 B h F2 c2 w1 w2) : FTo D B h F2 c2 w w2 := by
  obtain ⟨D2, f2, t2, s2⟩ := T
  refine ⟨D2, f2, t0.then t2 (fun i hi q => by rcases s0 i q with q | q; exact q; omega), fun j hj => ?_⟩
  rcases s2 j hj with q | q
  · exact s0 j q
  · exact .inr (Nat.le_trans t0.size q)
variable {b2 b4 : Nat} {goal : Bk × List Bk} {p : Bk} {r : List Bk} {nb : Nat} {nx : Bk} {mo : Bool} {wx : World}
theorem Lw.step {r' : List Bk} {w1 w3 : World} (L : Lw D B h cnt w b2 b4 goal p (nx :: r') nb nx true wx) (he : nx.addr = p.addr + p.size) {D0 : Nat → Prop} (f0 : Fr D0 B h (nx :: r') cnt wx) (t0 : Turn D w wx) (s0 : ∀ j, D0 j → D j ∨ w.heap.size ≤ j) (to1 : FTo D0 B h r' cnt wx w1)
    (b3 : Below ((w1.setCell ⟨b4, 1, none⟩ (.int .i64 (p.size + nx.size))).alloc (.cells (cz nx) 110)).heap.size ((w1.setCell ⟨b4, 1, none⟩ (.int .i64 (p.size + nx.size))).alloc (.cells (cz nx) 110)) w3) :
    Lw D B h cnt w b2 b4 goal ⟨p.addr, p.size + nx.size, p.free⟩ r' w1.heap.size (hd r') (ne r') (set3 w3 w1.heap.size (hd r')) := by
  have k2 := to1.box (fun j q => (f0.lo q).2) f0 L.h2
  have k4 := to1.box (fun j q => (f0.lo q).2) f0 L.h4
  have T1 : FTo D B h r' cnt w w1 := FTo.on t0 s0 to1
  have sz1 : w.heap.size ≤ w1.heap.size := by obtain ⟨_, _, t, _⟩ := T1; exact t.size
  generalize hW1 : w1.setCell ⟨b4, 1, none⟩ (.int .i64 (p.size + nx.size)) = W1 at *
  have tA : Turn (fun j => j = b4) w1 W1 := by rw [← hW1]; exact (Turn.refl (fun j => j = b4) w1).setCell (p := ⟨b4, 1, none⟩) (fun _ => rfl) _
  have k4A : W1.heap[b4]? = some (.cells (cz ⟨p.addr, p.size + nx.size, p.free⟩) 110 (0, 0)) := by rw [← hW1]; exact M.set_block k4
  have k2A : W1.heap[b2]? = some (.cells (cz z0) 110 (0, 0)) := (tA.block b2 (lt_of_heap k2) L.n24).trans k2
  have TA : FTo D B h r' cnt w W1 := T1.more tA (fun j e => by rw [e]; exact L.l4) (fun D1 j f q e => by subst e; exact f.box k4 q)
  have szA : W1.heap.size = w1.heap.size := by rw [← hW1]; simp [World.setCell]
  have hb : Below W1.heap.size W1 w3 := ((Below.refl W1.heap.size W1).alloc (Nat.le_refl _) _).trans (b3.mono (by simp))
  have k5 : w3.heap[w1.heap.size]? = some (.cells (cz nx) 110 (0, 0)) := by
    rw [← szA]
    exact (b3.block _ (by simp)).trans (heap_alloc_new _ _)
  have tB : Turn (fun j => j = w1.heap.size) w3 (set3 w3 w1.heap.size (hd r')) := set3_turn _ _ _
  have l2 := lt_of_heap k2A
  have l4 := lt_of_heap k4A
  have TB : FTo D B h r' cnt w w3 := TA.more (turn_below (S := fun _ => False) hb) (fun j q => q.elim) (fun _ _ _ _ q => q)
  have TC : FTo D B h r' cnt w (set3 w3 w1.heap.size (hd r')) := TB.more tB (fun j e => by rw [e]; exact sz1) (fun D1 j f q e => by subst e; exact f.box k5 q)
  have okx := L.okr nx List.mem_cons_self
  have okp := L.okp
  refine ⟨TC, ?_, (List.pairwise_cons.1 L.srt).2, ?_, fun c hc => L.okr c (List.mem_cons_of_mem _ hc), mo_of r', ?_, ?_, set3_row _ k5, L.n24, by omega, by omega, L.l2, L.l4, sz1⟩
  · rw [← L.g]
    show _ = if nx.addr = p.addr + p.size then _ else _
    rw [if_pos he]
  · obtain ⟨a1, a2, a3, a4⟩ := okp
    obtain ⟨c1, c2, c3, c4⟩ := okx
    exact ⟨a1, by show 0 < p.size + nx.size; omega, by show p.addr + (p.size + nx.size) ≤ 65536; omega, a4⟩
  · exact (tB.block b2 (Nat.lt_of_lt_of_le l2 hb.size) (by omega)).trans ((hb.block b2 l2).trans k2A)
  · exact (tB.block b4 (Nat.lt_of_lt_of_le l4 hb.size) (by omega)).trans ((hb.block b4 l4).trans k4A)
theorem FTo.pre {w0 w1 : World} (b : Below w.heap.size w w0) (T : FTo D B h F cnt w0 w1) : FTo D B h F cnt w w1 := by
  obtain ⟨D', f, t, s⟩ := T
  refine ⟨D', f, (turn_below b).trans t, fun j hj => ?_⟩
  rcases s j hj with q | q
  · exact .inl q
  · exact .inr (Nat.le_trans b.size q)
/-- the loop begins -/
theorem Lw.start {c : Bk} {r0 : List Bk} {w1 w2 : World} (hc : w.heap.size ≤ w1.heap.size) (H : FTo D B h r0 cnt w w1) (hs : Srt (c :: r0)) (hok : ∀ x ∈ c :: r0, Okb x) (k2 : w1.heap[b2]? = some (.cells (cz z0) 110 (0, 0))) (l2 : w.heap.size ≤ b2)
    (b3 : Below (w1.alloc (.cells (cz c) 110)).heap.size (w1.alloc (.cells (cz c) 110)) w2) : Lw D B h cnt w b2 w1.heap.size (grp c r0) c r0 w2.heap.size (hd r0) (ne r0) (w2.alloc (.cells (cz (hd r0)) 110)) := by
  have hb : Below w1.heap.size w1 w2 := ((Below.refl w1.heap.size w1).alloc (Nat.le_refl _) _).trans (b3.mono (by simp))
  have hb' : Below w1.heap.size w1 (w2.alloc (.cells (cz (hd r0)) 110)) := hb.alloc hb.size _
  have k4 : w2.heap[w1.heap.size]? = some (.cells (cz c) 110 (0, 0)) := (b3.block _ (by simp)).trans (heap_alloc_new _ _)
  have l4 := lt_of_heap k4
  have lb2 := lt_of_heap k2
  have szb := hb.size
  refine ⟨H.more (turn_below (S := fun _ => False) hb') (fun j q => q.elim) (fun _ _ _ _ q => q), rfl, (List.pairwise_cons.1 hs).2, hok c List.mem_cons_self, fun x hx => hok x (List.mem_cons_of_mem _ hx), mo_of r0, ?_, ?_, heap_alloc_new _ _, by omega, by omega, by omega, l2, hc, by omega⟩
  · exact (hb'.block b2 lb2).trans k2
  · exact (Below.heap_alloc _ _ _ l4).trans k4
/-- the end: the piece is laid into the result's box -/
theorem Lw.fin (L : Lw D B h cnt w b2 b4 goal p r nb nx mo wx) : FTo D B h r cnt w (set3 wx b2 p) ∧ (set3 wx b2 p).heap[b2]? = some (.cells (cz p) 110 (0, 0)) :=
  ⟨L.to.more (set3_turn b2 p wx) (fun j e => by rw [e]; exact L.l2) (fun D1 j f q e => by subst e; exact f.box L.h2 q), set3_row p L.h2⟩
set_option maxRecDepth 100000 in
set_option maxHeartbeats 4000000 in
/-- the lowest piece, with all that lie beside it -/
theorem lowest_some {b : Bk} (H : Fr D B h (b :: F) cnt w) (hs : Srt (b :: F)) (hok : ∀ x ∈ b :: F, Okb x) (hl : F.length < 100000) : Calls Try.prog 79 #[.pointer (some ⟨h, 0, none⟩)] w fun e w' => e = .returned (.tuple #[.agg #[.int .i64 (grp b F).1.addr, .int .i64 (grp b F).1.size, .bool (grp b F).1.free], .bool true]) ∧ FTo D B h (grp b F).2 cnt w w' := by
  have hba := (Below.refl w.heap.size w).alloc (Nat.le_refl _) (.cells (cz z0) 110)
  have HP := hide' (pop_some (H.below hba) hs (by omega))
  have HH := hide' H
  have Hs := hide' hs
  have Hok := hide' hok
  have Hl := hide' hl
  clear hs hok hl H
  go_enter Try.func79, Try.ntmps79
  go_wp2_with fail
  refine HP.out.mono ?_
  rintro e w1 ⟨rfl, T1⟩
  have k2 := T1.box (fun j q => (HH.out.below hba).lo q |>.2) (HH.out.below hba) (heap_alloc_new w (.cells (cz z0) 110))
  have T1' : FTo D B h F cnt w w1 := FTo.pre hba T1
  have sz1 : w.heap.size ≤ w1.heap.size := by obtain ⟨_, _, t, _⟩ := T1'; exact t.size
  have HK := hide' (And.intro k2 (And.intro T1' sz1))
  have HPk := hide' (show ∀ o : Obj, Calls Try.prog 99 #[.pointer (some ⟨h, 0, none⟩)] (w1.alloc o) fun e w' => e = .returned (.tuple #[.agg #[.int .i64 (hd F).addr, .int .i64 (hd F).size, .bool (hd F).free], .bool (ne F)]) ∧ Below (w1.alloc o).heap.size (w1.alloc o) w' from fun o => by
    obtain ⟨D1, f1, _, _⟩ := T1'
    exact peek_any (f1.below ((Below.refl w1.heap.size w1).alloc (Nat.le_refl _) o)) (List.pairwise_cons.1 Hs.out).2)
  clear k2 T1' sz1 T1 HP hba
  go_wp2_with fail
  refine (HPk.out _).mono ?_
  rintro e w2 ⟨rfl, b3⟩
  have L := hide' (Lw.start HK.out.2.2 HK.out.2.1 Hs.out Hok.out HK.out.1 (Nat.le_refl _) b3)
  generalize hgg : grp b F = G at *
  have HG := hide' hgg
  generalize w1.heap.size = b4 at *
  clear b3 HPk HK hgg
  go_wp2_with fail
  go_loopw [6, 7] (fun t6 t7 wx => ∃ p r nb nx mo, t6 = .pointer (some ⟨nb, 0, none⟩) ∧ t7 = .bool mo ∧ Lw D B h cnt w w.heap.size b4 G p r nb nx mo wx ∧ r.length < 100000) (fun _ _ wx => hlen h wx)
  case atStart => exact ⟨b, F, _, _, _, rfl, rfl, L.out, Hl.out⟩
  case round =>
    obtain ⟨p, r, nb, nx, mo, rfl, rfl, L, hlr⟩ := hrel
    have okp := L.okp
    obtain ⟨a0, a1, a2, af⟩ := row3 L.h4
    obtain ⟨x0, x1, x2, xf⟩ := row3 L.hn
    obtain ⟨z0', z1', z2', zf⟩ := row3 L.h2
    have nn4 := L.nn4
    have n24 := L.n24
    have e1 : wrap64 (p.addr + p.size) = p.addr + p.size := by obtain ⟨o1, o2, o3, _⟩ := okp; unfold wrap64; omega
    rcases L.mo with ⟨hmo, r', hr⟩ | ⟨hmo, hr⟩
    · subst hmo
      subst hr
      have okx := L.okr nx List.mem_cons_self
      by_cases he : nx.addr = p.addr + p.size
      · have hq : (nx.addr == p.addr + p.size) = true := by simpa using he
        have e2 : wrap64 (p.size + nx.size) = p.size + nx.size := by obtain ⟨o1, o2, o3, _⟩ := okp; obtain ⟨q1, q2, q3, _⟩ := okx; unfold wrap64; omega
        have HL := hide' L
        have He := hide' he
        have Hlr := hide' hlr
        have Hmh := hide' (hlen_to L.to)
        obtain ⟨D0, f0, t0, s0⟩ := id L.to
        have Hts := hide' (And.intro t0 s0)
        have HPop := hide' (pop_some f0 L.srt (by simp at hlr; omega))
        have Hf0 := hide' f0
        clear L he hlr okp okx f0 t0 s0
        go_wp2_with fail
        refine HPop.out.mono ?_
        rintro e w3 ⟨rfl, T3⟩
        have k4 := T3.box (fun j q => (Hf0.out.lo q).2) Hf0.out HL.out.h4
        have kn := T3.box (fun j q => (Hf0.out.lo q).2) Hf0.out HL.out.hn
        have HPk := hide' (show ∀ w4, Below w3.heap.size (w3.setCell ⟨b4, 1, none⟩ (.int .i64 (p.size + nx.size))) w4 → Calls Try.prog 99 #[.pointer (some ⟨h, 0, none⟩)] w4 fun e w' => e = .returned (.tuple #[.agg #[.int .i64 (hd r').addr, .int .i64 (hd r').size, .bool (hd r').free], .bool (ne r')]) ∧ Below w4.heap.size w4 w' from fun w4 b => by
          obtain ⟨D1, f1, _, _⟩ := T3
          have tA : Turn (fun j => j = b4) w3 (w3.setCell ⟨b4, 1, none⟩ (.int .i64 (p.size + nx.size))) := (Turn.refl (fun j => j = b4) w3).setCell (p := ⟨b4, 1, none⟩) (fun _ => rfl) _
          have f2 := f1.kept tA (fun j q e => by subst e; exact f1.box k4 q)
          exact peek_any (f2.below (by simpa [World.setCell] using b)) (List.pairwise_cons.1 HL.out.srt).2)
        have HT3 := hide' T3
        obtain ⟨a0', a1', a2', af'⟩ := row3 k4
        obtain ⟨x0', x1', x2', xf'⟩ := row3 kn
        have hsz : (w3.setCell ⟨b4, 1, none⟩ (.int .i64 (p.size + nx.size))).heap.size = w3.heap.size := by simp [World.setCell]
        clear T3 HPop a0 a1 a2 af x0 x1 x2 xf z0' z1' z2' zf k4 kn
        go_wp2_with fail
        have hbw : Below w3.heap.size (w3.setCell ⟨b4, 1, none⟩ (.int .i64 (p.size + nx.size))) ((w3.setCell ⟨b4, 1, none⟩ (.int .i64 (p.size + nx.size))).alloc (.cells #[.int .i64 nx.addr, .int .i64 nx.size, .bool nx.free] 110)) := (Below.refl _ _).alloc (by rw [hsz]; exact Nat.le_refl _) _
        refine (HPk.out _ hbw).mono ?_
        rintro e w5 ⟨rfl, b5⟩
        have hnew := heap_alloc_new (w3.setCell ⟨b4, 1, none⟩ (.int .i64 (p.size + nx.size))) (.cells (cz nx) 110)
        rw [hsz] at hnew
        have k5 : w5.heap[w3.heap.size]? = some (.cells (cz nx) 110 (0, 0)) := (b5.block _ (lt_of_heap hnew)).trans hnew
        obtain ⟨y0, y1, y2, yf⟩ := row3 k5
        have LL := hide' (HL.out.step He.out Hf0.out Hts.out.1 Hts.out.2 HT3.out b5)
        clear b5 hbw hnew k5 HPk a0' a1' a2' af' x0' x1' x2' xf' hsz
        go_wp2
        go_roundw
        case rel => exact ⟨_, _, _, _, _, rfl, rfl, LL.out, by have := Hlr.out; simp at this; omega⟩
        case measure => rw [Hmh.out]; exact Nat.lt_of_le_of_lt (Nat.le_of_eq (hlen_to LL.out.to)) (by simp)
      · have hq : (nx.addr == p.addr + p.size) = false := by simpa using he
        have HL := hide' L.fin
        have Hg : Hid (G = (p, nx :: r')) := by
          have := L.g
          rw [show grp p (nx :: r') = (p, nx :: r') from by show (if nx.addr = p.addr + p.size then _ else _) = _; rw [if_neg he]] at this
          exact this.symm
        clear L he okp okx
        go_wp2
        (try simp only [Exit.inBlock, Exit.then])
        refine bodyPost_ret (Hp.results_row_tmp rfl _ _ w.heap.size 110 (cz p) (0, 0) _ rfl HL.out.2 Try.underlying110 rfl (by kernel_rfl)) rfl ?_
        rw [HG.out, Hg.out]
        exact ⟨rfl, HL.out.1⟩
    · subst hmo
      subst hr
      have HL := hide' L.fin
      have Hg : Hid (G = (p, [])) := L.g.symm
      clear L okp
      go_wp2
      (try simp only [Exit.inBlock, Exit.then])
      refine bodyPost_ret (Hp.results_row_tmp rfl _ _ w.heap.size 110 (cz p) (0, 0) _ rfl HL.out.2 Try.underlying110 rfl (by kernel_rfl)) rfl ?_
      rw [HG.out, Hg.out]
      exact ⟨rfl, HL.out.1⟩
set_option maxRecDepth 100000 in
set_option maxHeartbeats 4000000 in
theorem lowest_none (H : Fr D B h [] cnt w) : Calls Try.prog 79 #[.pointer (some ⟨h, 0, none⟩)] w fun e w' => e = .returned (.tuple #[.agg #[.int .i64 0, .int .i64 0, .bool false], .bool false]) ∧ Below w.heap.size w w' := by
  have hba := (Below.refl w.heap.size w).alloc (Nat.le_refl _) (.cells (cz z0) 110)
  have HP := hide' (pop_none (H.below hba))
  have HH := hide' H
  clear H
  go_enter Try.func79, Try.ntmps79
  go_wp2_with fail
  refine HP.out.mono ?_
  rintro e w1 ⟨rfl, b1⟩
  have hb1 : Below w.heap.size w w1 := hba.trans (b1.mono (by simp))
  have k2 : w1.heap[w.heap.size]? = some (.cells (cz z0) 110 (0, 0)) := (b1.block _ (by simp)).trans (heap_alloc_new _ _)
  have HPk := hide' (fun o => peek_none ((HH.out.below hb1).below ((Below.refl w1.heap.size w1).alloc (Nat.le_refl _) o)))
  have HK := hide' (And.intro k2 hb1)
  clear b1 hb1 k2 hba HP
  go_wp2_with fail
  refine (HPk.out _).mono ?_
  rintro e w2 ⟨rfl, b2⟩
  have hb2 : Below w1.heap.size w1 (w2.alloc (.cells (cz z0) 110)) := (((Below.refl w1.heap.size w1).alloc (Nat.le_refl _) _).trans (b2.mono (by simp))).alloc (Nat.le_trans (by simp) b2.size) _
  have k2 := (hb2.block _ (lt_of_heap HK.out.1)).trans HK.out.1
  have k4 : (w2.alloc (.cells (cz z0) 110)).heap[w1.heap.size]? = some (.cells (cz z0) 110 (0, 0)) := (Below.heap_alloc _ _ _ (Nat.lt_of_lt_of_le (by simp) b2.size)).trans ((b2.block _ (by simp)).trans (heap_alloc_new _ _))
  obtain ⟨a0, a1, a2, af⟩ := row3 k4
  obtain ⟨x0, x1, x2, xf⟩ := row3 k2
  have KK := hide' (And.intro (set3_row z0 k2) (HK.out.2.trans (hb2.mono HK.out.2.size)))
  have hlt : w.heap.size < w1.heap.size := lt_of_heap HK.out.1
  have hne : w.heap.size ≠ w1.heap.size := by omega
  clear hb2 k2 k4 b2 HPk HK hlt
  go_wp2_with fail
  generalize hW : (w2.alloc (.cells (cz z0) 110)) = W at *
  have hW' : w2.alloc (.cells #[.int .i64 0, .int .i64 0, .bool false] 110) = W := hW
  rw [hW']
  clear hW hW'
  go_loopw [6, 7] (fun t6 t7 wx => t7 = .bool false ∧ wx = W) (fun _ _ _ => 0)
  case atStart => exact ⟨rfl, rfl⟩
  case round =>
    obtain ⟨rfl, rfl⟩ := hrel
    go_wp2
    (try simp only [Exit.inBlock, Exit.then])
    refine bodyPost_ret (Hp.results_row_tmp rfl _ _ w.heap.size 110 (cz z0) (0, 0) _ rfl KK.out.1 Try.underlying110 rfl (by kernel_rfl)) rfl ?_
    exact ⟨rfl, ((KK.out.2.setCell (p := ⟨w.heap.size, 0, none⟩) (Nat.le_refl _) _).setCell (p := ⟨w.heap.size, 1, none⟩) (Nat.le_refl _) _).setCell (p := ⟨w.heap.size, 2, none⟩) (Nat.le_refl _) _⟩
end Fr
end Go.Proofs.Ytfeehnfpfheojaa
