import Derived.Test.YtnlopepbcnegbaaGreatDoorTake
set_option linter.unusedVariables false
set_option linter.unusedSimpArgs false
namespace Go.Proofs.YtnlopepbcnegbaaGreatDoor
open Go.RowKit
/-- a token's block -/
structure Tk (g : Nat) (a b c d : Value) (w : World) : Prop where
  c0 : w.cell? ⟨g, 0, none⟩ = some a
  c1 : w.cell? ⟨g, 1, none⟩ = some b
  c2 : w.cell? ⟨g, 2, none⟩ = some c
  c3 : w.cell? ⟨g, 3, none⟩ = some d
  f : ∀ k, k < 4 → w.frozen? ⟨g, k, none⟩ = false
theorem Tk.of_block {g : Nat} {a b c d : Value} {w w' : World} (h : Tk g a b c d w) (k : w'.heap[g]? = w.heap[g]?) : Tk g a b c d w' :=
  ⟨(World.cell?_of_block k).trans h.c0, (World.cell?_of_block k).trans h.c1, (World.cell?_of_block k).trans h.c2, (World.cell?_of_block k).trans h.c3, fun i hi => (World.frozen?_of_block k).trans (h.f i hi)⟩
theorem Tk.of_cells {g : Nat} {a b c d : Value} {w : World} {t : TypeId} (h : w.heap[g]? = some (.cells #[a, b, c, d] t (0, 0))) : Tk g a b c d w := by
  refine ⟨?_, ?_, ?_, ?_, fun k hk => ?_⟩
  all_goals first | (simp [World.cell?, World.frozen?, h]; done) | skip
theorem load4 (w : World) (g : Nat) (a b c d : Value) (h : Tk g a b c d w) : (loadVar 52 ⟨g, 0, none⟩).run Tryz.prog w = .ok (.agg #[a, b, c, d]) w := by
  have hu := Tryz.underlying52
  have hl : (loadCells ⟨g, 0, none⟩ [a, b, c, d].length).run Tryz.prog w = .ok [a, b, c, d].toArray w :=
    run_loadCells_list (P := Tryz.prog) w ⟨g, 0, none⟩ [a, b, c, d] (fun j v hv => by
      have hadd : (⟨g, 0, none⟩ : Addr).add j = ⟨g, j, none⟩ := by unfold Addr.add; split <;> simp_all
      rw [hadd]
      match j, hv with
      | 0, hv => simp at hv; subst hv; exact h.c0
      | 1, hv => simp at hv; subst hv; exact h.c1
      | 2, hv => simp at hv; subst hv; exact h.c2
      | 3, hv => simp at hv; subst hv; exact h.c3
      | _ + 4, hv => simp at hv)
  have hi : (Tryz.prog.info? 52).map (·.size) = some 4 := by kernel_rfl
  cases hq : Tryz.prog.info? 52 with
  | none => simp [hq] at hi
  | some i =>
    have hs : i.size = 4 := by simpa [hq] using hi
    have hagg : (isAgg 52).run Tryz.prog w = .ok true w := by
      unfold isAgg
      rw [Sem.run_bind, run_underlying hu w]
      rfl
    simp only [List.length_cons, List.length_nil] at hl
    simp [loadVar, Sem.run_bind, hagg, sizeOf, typeInfo, hq, hs, hl]
theorem results4 {fn : Func} {p u : Tmp} (h : fn.results = #[.cell p 52, .tmp u]) (tmps : Array Value) (w : World) (g : Nat) (a b c d : Value) (hp : tmps.getD p undef = .pointer (some ⟨g, 0, none⟩)) (t : Tk g a b c d w) :
    (results fn tmps).run Tryz.prog w = .ok (.tuple #[.agg #[a, b, c, d], tmps.getD u undef]) w := by
  rw [results_cell_tmp h tmps, hp]
  simp [asAddr, Result.andThen, load4 w g a b c d t]
/-- what a call that reads a token tells -/
inductive Res where
  | tok (k : Int) (t : ByteArray) (l c : Int) (j : Nat)
  | flt (code l c : Int) (word : ByteArray)
def Res.Is (r : Res) (T : Tx) (b : Nat) (w : World) (v : Value) (w' : World) : Prop :=
  match r with
  | .tok k t l c j => v = .tuple #[tokV k t l c, .pointer none] ∧ Scn T b j w'
  | .flt code l c word => ∃ fb, v = .tuple #[tokV 0 ByteArray.empty 0 0, .pointer (some ⟨fb, 0, none⟩)] ∧ w.heap.size ≤ fb ∧ Flt fb code l c word w'
/-- the word at a place -/
def Tx.wordR (T : Tx) (i : Nat) : Res := if 32 < (T.txt i (T.skp L.inWord i)).size then .flt 10 (T.g i).l (T.g i).c (T.txt i (T.skp L.inWord i)) else .tok 1 (T.txt i (T.skp L.inWord i)) (T.g i).l (T.g i).c (T.skp L.inWord i)

theorem Tk.set {g : Nat} {a b c d : Value} {w : World} (h : Tk g a b c d w) (a' b' c' d' : Value) :
    Tk g a' b' c' d' ((((w.setCell ⟨g, 0, none⟩ a').setCell ⟨g, 1, none⟩ b').setCell ⟨g, 2, none⟩ c').setCell ⟨g, 3, none⟩ d') := by
  obtain ⟨c0, c1, c2, c3, f⟩ := h
  refine ⟨?_, ?_, ?_, ?_, fun k hk => ?_⟩
  · go_simp
  · go_simp
  · go_simp
  · go_simp
  · simp only [World.frozen?_setCell]; exact f k hk
theorem Turn.set4 {S : Nat → Prop} {w w' : World} (h : Turn S w w') {g : Nat} (hg : w.heap.size ≤ g) (a b c d : Value) :
    Turn S w ((((w'.setCell ⟨g, 0, none⟩ a).setCell ⟨g, 1, none⟩ b).setCell ⟨g, 2, none⟩ c).setCell ⟨g, 3, none⟩ d) :=
  (((h.setCell (p := ⟨g, 0, none⟩) (fun q => absurd q (by simp; omega)) _).setCell (p := ⟨g, 1, none⟩) (fun q => absurd q (by simp; omega)) _).setCell (p := ⟨g, 2, none⟩) (fun q => absurd q (by simp; omega)) _).setCell (p := ⟨g, 3, none⟩) (fun q => absurd q (by simp; omega)) _

/-- two new blocks, and behind them a call that turns one block alone -/
theorem after2 {b : Nat} {w w1 : World} {o1 o2 : Obj} (lt : b < w.heap.size) (t : Turn (fun k => k = b) ((w.alloc o1).alloc o2) w1) :
    w1.heap[w.heap.size]? = some o1 ∧ w1.heap[w.heap.size + 1]? = some o2 ∧ w.heap.size + 2 ≤ w1.heap.size ∧ Turn (fun k => k = b) w w1 := by
  refine ⟨?_, ?_, ?_, ((Turn.refl _ _).alloc _).alloc _ |>.trans t⟩
  · rw [t.block _ (by simp; omega) (by omega)]
    exact (Below.heap_alloc _ _ _ (by simp)).trans (heap_alloc_new _ _)
  · rw [t.block _ (by simp) (by omega)]
    have := heap_alloc_new (w.alloc o1) o2
    simpa using this
  · have := t.size; simpa using this
theorem two_cells {g : Nat} {w : World} {x y : Value} {t : TypeId} (h : w.heap[g]? = some (.cells #[x, y] t (0, 0))) : w.cell? ⟨g, 0, none⟩ = some x ∧ w.cell? ⟨g, 1, none⟩ = some y := by
  constructor <;> simp [World.cell?, h]
theorem Tk.below {g : Nat} {a b c d : Value} {w w' : World} (h : Tk g a b c d w) (t : Below w.heap.size w w') : Tk g a b c d w' := h.of_block (t.block g (lt_of_cell h.c0))
theorem Tk.frz {g : Nat} {a b c d : Value} {w : World} (h : Tk g a b c d w) : w.frozen? ⟨g, 0, none⟩ = false ∧ w.frozen? ⟨g, 1, none⟩ = false ∧ w.frozen? ⟨g, 2, none⟩ = false ∧ w.frozen? ⟨g, 3, none⟩ = false := ⟨h.f 0 (by omega), h.f 1 (by omega), h.f 2 (by omega), h.f 3 (by omega)⟩
theorem turn4 (w : World) (g : Nat) (a' b' c' d' : Value) : Turn (fun k => k = g) w ((((w.setCell ⟨g, 0, none⟩ a').setCell ⟨g, 1, none⟩ b').setCell ⟨g, 2, none⟩ c').setCell ⟨g, 3, none⟩ d') :=
  ((((Turn.refl (fun k => k = g) w).setCell (p := ⟨g, 0, none⟩) (fun _ => rfl) a').setCell (p := ⟨g, 1, none⟩) (fun _ => rfl) b').setCell (p := ⟨g, 2, none⟩) (fun _ => rfl) c').setCell (p := ⟨g, 3, none⟩) (fun _ => rfl) d'
theorem Scn.turn1 {T : Tx} {b i : Nat} {w w' : World} (h : Scn T b i w) {g : Nat} (t : Turn (fun k => k = g) w w') (hg : g ≠ b) (hr : ∀ rb, T.ro = some ⟨rb, 0, none⟩ → rb ≠ g) (hs : T.sb ≠ g) : Scn T b i w' := by
  have hb : ¬ b = g := fun e => hg e.symm
  obtain ⟨ok, le, lt, c0, c1, c2, c3, c4, c5, f, inn⟩ := h
  have i2 : T.In (fun k => k = g) w := ⟨fun j hj => by obtain ⟨rb, e, q, hl, hc⟩ := inn.rune j hj; exact ⟨rb, e, hr rb e, hl, hc⟩, hs, inn.start.2⟩
  have i3 := i2.turn t
  have hc : ∀ k, w'.cell? ⟨b, k, none⟩ = w.cell? ⟨b, k, none⟩ := fun k => t.cell (p := ⟨b, k, none⟩) lt hb
  have i4 : T.In (fun k => k = b) w' := by
    refine ⟨fun j hj => ?_, inn.start.1, i3.start.2⟩
    obtain ⟨rb, e, q, hl, hcc⟩ := i3.rune j hj
    obtain ⟨rb', e', q', _, _⟩ := inn.rune j hj
    have : rb' = rb := by rw [e] at e'; injection e' with e'; injection e' with e'; exact e'.symm
    exact ⟨rb, e, this ▸ q', hl, hcc⟩
  exact ⟨ok, le, Nat.lt_of_lt_of_le lt t.size, (hc 0).trans c0, (hc 1).trans c1, (hc 2).trans c2, (hc 3).trans c3, (hc 4).trans c4, (hc 5).trans c5, fun k hk => (World.frozen?_of_block (w := w) (t.block b lt hb)).trans (f k hk), i4⟩
/-- the rows lie in old blocks -/
theorem Scn.old {T : Tx} {b i : Nat} {w : World} (h : Scn T b i w) {g : Nat} (hg : w.heap.size ≤ g) : g ≠ b ∧ (0 < T.N → ∀ rb, T.ro = some ⟨rb, 0, none⟩ → rb ≠ g) ∧ T.sb ≠ g := by
  refine ⟨fun e => by have := h.lt; omega, fun hN rb e => ?_, fun e => by have := h.inn.start.2.1; omega⟩
  obtain ⟨rb', e', _, hl, _⟩ := h.inn.rune 0 hN
  rw [e] at e'; cases e'
  omega
/-- the end of a call that tells a fault, or a token -/
theorem Res.fin_flt {T : Tx} {b : Nat} {w w2 : World} {g fb : Nat} {code l c : Int} {t : ByteArray} (hg : w.heap.size ≤ g) (hfb : w.heap.size ≤ fb) (hne : fb ≠ g) (hf : Flt fb code l c t w2) (a' b' c' d' : Value) :
    (Res.flt code l c t).Is T b w (.tuple #[tokV 0 ByteArray.empty 0 0, .pointer (some ⟨fb, 0, none⟩)]) ((((w2.setCell ⟨g, 0, none⟩ a').setCell ⟨g, 1, none⟩ b').setCell ⟨g, 2, none⟩ c').setCell ⟨g, 3, none⟩ d') :=
  ⟨fb, rfl, hfb, ((Below.heap_setCell _ _ _ _ hne).trans ((Below.heap_setCell _ _ _ _ hne).trans ((Below.heap_setCell _ _ _ _ hne).trans (Below.heap_setCell _ _ _ _ hne)))).trans hf⟩

set_option maxRecDepth 100000 in
set_option maxHeartbeats 1000000 in
theorem word_any {T : Tx} {b i : Nat} {w : World} (h : Scn T b i w) (hi : i < T.N) :
    Calls Tryz.prog 52 #[.pointer (some ⟨b, 0, none⟩)] w fun e w' => ∃ v, e = .returned v ∧ (T.wordR i).Is T b w v w' ∧ Turn (fun k => k = b) w w' := by
  have c4 := h.c4
  have c5 := h.c5
  have lt := h.lt
  have hold := h.old (Nat.le_refl w.heap.size)
  have H := hide' (And.intro h hold)
  obtain ⟨t, ht⟩ : ∃ t, T.txt i (T.skp L.inWord i) = t := ⟨_, rfl⟩
  obtain ⟨j, hj⟩ : ∃ j, T.skp L.inWord i = j := ⟨_, rfl⟩
  have HP := hide' fun (w : World) (h : Scn T b i w) => takeWhile_any h tells_word
  unfold Tx.wordR
  rw [ht, hj]
  rw [ht, hj] at HP
  clear h ht hj hold
  by_cases hsz : 32 < t.size
  · have e1 : decide ((32 : Int) < (t.size : Int)) = true := by simp; omega
    rw [if_pos hsz]
    go_enter Tryz.func52, Tryz.ntmps52
    go_wp2_with (first | (go_at_call 71; refine (HP.out _ ((H.out.1.below ((Below.refl _ _).alloc (Nat.le_refl _) _)).below ((Below.refl _ _).alloc (Nat.le_refl _) _))).mono ?_; rintro e w1 ⟨rfl, s1, t1⟩; obtain ⟨h0, h1, hz1, t1'⟩ := after2 lt t1; obtain ⟨p0, p1⟩ := two_cells h1; have K := hide' (And.intro (Tk.of_cells h0) (And.intro s1 t1')); clear h0 h1 s1 t1 t1') | (go_at_call 58; refine (pfault_any _ _ _ _ _).mono ?_; rintro e w2 ⟨fb, rfl, hfb, hflt, b2⟩; have k2 := K.out.1.below b2; have kc0 := k2.c0; have kc1 := k2.c1; have kc2 := k2.c2; have kc3 := k2.c3; obtain ⟨z0, z1, z2, z3⟩ := k2.frz; have K2 := hide' (And.intro k2 (And.intro hflt b2)); clear k2 hflt b2))
    refine bodyPost_ret_by (results4 rfl _ _ w.heap.size _ _ _ _ rfl (K2.out.1.set _ _ _ _)) rfl ?_
    exact ⟨_, rfl, Res.fin_flt (Nat.le_refl _) (by omega) (by omega) K2.out.2.1 _ _ _ _, (K.out.2.2.trans (turn_below K2.out.2.2)).set4 (Nat.le_refl _) _ _ _ _⟩
  · have e1 : decide ((32 : Int) < (t.size : Int)) = false := by simp; omega
    rw [if_neg hsz]
    go_enter Tryz.func52, Tryz.ntmps52
    go_wp2_with (first | (go_at_call 71; refine (HP.out _ ((H.out.1.below ((Below.refl _ _).alloc (Nat.le_refl _) _)).below ((Below.refl _ _).alloc (Nat.le_refl _) _))).mono ?_; rintro e w1 ⟨rfl, s1, t1⟩; obtain ⟨h0, h1, hz1, t1'⟩ := after2 lt t1; obtain ⟨p0, p1⟩ := two_cells h1; have K := hide' (And.intro (Tk.of_cells h0) (And.intro s1 t1')); clear h0 h1 s1 t1 t1') | (go_at_call 50; refine (ptoken_any _ _ _ _ _).mono ?_; rintro e w2 ⟨rfl, b2⟩; have k2 := K.out.1.below b2; have kc0 := k2.c0; have kc1 := k2.c1; have kc2 := k2.c2; have kc3 := k2.c3; obtain ⟨z0, z1, z2, z3⟩ := k2.frz; have K2 := hide' (And.intro k2 b2); clear k2 b2; unfold tokV))
    refine bodyPost_ret_by (results4 rfl _ _ w.heap.size _ _ _ _ rfl (K2.out.1.set _ _ _ _)) rfl ?_
    refine ⟨_, rfl, ⟨rfl, ?_⟩, (K.out.2.2.trans (turn_below K2.out.2)).set4 (Nat.le_refl _) _ _ _ _⟩
    exact (K.out.2.1.below K2.out.2).turn1 (turn4 _ _ _ _ _ _) H.out.2.1 (H.out.2.2.1 (by omega)) H.out.2.2.2
end Go.Proofs.YtnlopepbcnegbaaGreatDoor
