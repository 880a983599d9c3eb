import Derived.Test.YtollaamlnddhcaaKH
import Derived.Test.YtollaamlnddhcaaKC
import Derived.ArgAppend
import Derived.Deep.MidRow
import Derived.Deep.RegionHeld3
set_option linter.unusedVariables false
set_option linter.unusedSimpArgs false
namespace Go.Proofs.Ytollaamlnddhcaa
open Go.RowKit Go.Maps
namespace U
/-- more triples of names than a right policy can have -/
def vst (a b c : Nat) : Bool := decide (65536 < a) || decide (65536 < b) || decide (65536 < c) || decide (65536 < a * b) || decide (65536 < a * b * c)
theorem vst1 {a b c : Nat} (h : 65536 < (a : Int)) : true = vst a b c := by
  have h' : 65536 < a := by omega
  simp [vst, h']
theorem vst2 {a b c : Nat} (h : 65536 < (b : Int)) : true = vst a b c := by
  have h' : 65536 < b := by omega
  simp [vst, h']
theorem vst3 {a b c : Nat} (h : 65536 < (c : Int)) : true = vst a b c := by
  have h' : 65536 < c := by omega
  simp [vst, h']
theorem wmul {a b : Nat} (ha : (a : Int) ≤ 65536) (hb : (b : Int) ≤ 65536) : wrap64 ((a : Int) * (b : Int)) = ((a * b : Nat) : Int) := by
  have h1 : a * b ≤ 65536 * 65536 := Nat.mul_le_mul (by omega) (by omega)
  rw [← Int.natCast_mul]
  unfold wrap64
  omega
theorem vst4 {a b c : Nat} (ha : (a : Int) ≤ 65536) (hb : (b : Int) ≤ 65536) (h : 65536 < wrap64 ((a : Int) * (b : Int))) : true = vst a b c := by
  rw [wmul ha hb] at h
  have h' : 65536 < a * b := by omega
  simp [vst, h']
theorem vst5 {a b c : Nat} (ha : (a : Int) ≤ 65536) (hb : (b : Int) ≤ 65536) (hc : (c : Int) ≤ 65536) (h : wrap64 ((a : Int) * (b : Int)) ≤ 65536) : (decide (65536 < (a : Int)) || decide (65536 < (b : Int)) || decide (65536 < (c : Int)) || decide (65536 < wrap64 ((a : Int) * (b : Int))) || decide (65536 < wrap64 (wrap64 ((a : Int) * (b : Int)) * (c : Int)))) = vst a b c := by
  rw [wmul ha hb] at h ⊢
  rw [wmul h hc]
  have e1 : decide (65536 < (a : Int)) = decide (65536 < a) := by congr 1; apply propext; omega
  have e2 : decide (65536 < (b : Int)) = decide (65536 < b) := by congr 1; apply propext; omega
  have e3 : decide (65536 < (c : Int)) = decide (65536 < c) := by congr 1; apply propext; omega
  have e4 : decide (65536 < ((a * b : Nat) : Int)) = decide (65536 < a * b) := by congr 1; apply propext; omega
  have e5 : decide (65536 < ((a * b * c : Nat) : Int)) = decide (65536 < a * b * c) := by congr 1; apply propext; omega
  rw [e1, e2, e3, e4, e5]
  rfl
end U
end Go.Proofs.Ytollaamlnddhcaa
set_option linter.unusedVariables false
set_option linter.unusedSimpArgs false
namespace Go.Proofs.Ytollaamlnddhcaa
open Go.RowKit Go.Maps
namespace U
theorem fo_fos_take (ss : List Sb) (n : Nat) : fo ((ss.map (·.1)).take n) = (fos (ss.take n)).map (·.1) := by
  induction n with
  | zero => simp [fo, fos]
  | succ n ih =>
    cases h : ss[n]? with
    | none =>
      have e1 : ss.take (n + 1) = ss.take n := by rw [List.take_add_one, h]; simp
      have e2 : (ss.map (·.1)).take (n + 1) = (ss.map (·.1)).take n := by rw [List.take_add_one, List.getElem?_map, h]; simp
      rw [e1, e2]; exact ih
    | some s =>
      rw [fo_take (show (ss.map (·.1))[n]? = some s.1 by rw [List.getElem?_map, h]; rfl), fos_take h, ih]
      by_cases q : isIn ((fos (ss.take n)).map (·.1)) s.1 = true
      · rw [if_pos q, if_pos q]
      · rw [if_neg q, if_neg q, List.map_append]; rfl
theorem fo_fos (ss : List Sb) : fo (ss.map (·.1)) = (fos ss).map (·.1) := by
  have := fo_fos_take ss ss.length
  rw [List.take_length, List.take_of_length_le (by rw [List.length_map]; exact Nat.le_refl _)] at this
  exact this
theorem relO_eq_take (F : Pf) (al : List ByteArray) (s o : ByteArray) (n : Nat) (h : n ≤ al.length) : ((List.range n).filter (fun k => alw F s o (al.getD k ⟨#[]⟩))).map (fun k => (s, o, al.getD k ⟨#[]⟩)) = ((al.take n).filter (alw F s o)).map (fun a => (s, o, a)) := by
  induction n with
  | zero => simp
  | succ n ih =>
    obtain ⟨a, ha⟩ : ∃ a, al[n]? = some a := ⟨_, List.getElem?_eq_getElem (by omega)⟩
    have hg : al.getD n ⟨#[]⟩ = a := by simp [List.getD, ha]
    rw [List.range_succ, List.filter_append, List.map_append, ih (by omega), List.take_add_one, ha, List.filter_append, List.map_append]
    congr 1
    by_cases q : alw F s o a = true
    · rw [List.filter_cons_of_pos (by rw [hg]; exact q)]
      simp [q, List.getD, ha]
    · rw [List.filter_cons_of_neg (by rw [hg]; exact q)]
      simp [q]
theorem relO_eq (F : Pf) (al : List ByteArray) (s o : ByteArray) : relO F al s o = (al.filter (alw F s o)).map (fun a => (s, o, a)) := by
  have e := relO_eq_take F al s o al.length (Nat.le_refl _)
  rw [List.take_length] at e
  rw [← e]
  unfold relO plw
  rw [List.map_map]
  rfl
/-- a policy that is not vast has few triples of names -/
theorem vst_few {F : Pf} (h : vst F.s.2.2.length F.o.2.2.length F.a.2.2.length = false) : (fos F.s.2.2).length * ((fo F.o.2.2).length * (fo F.a.2.2).length) ≤ 65536 := by
  have q1 := fos_len F.s.2.2 F.s.2.2.length
  have q2 := fo_len F.o.2.2 F.o.2.2.length
  have q3 := fo_len F.a.2.2 F.a.2.2.length
  rw [List.take_length] at q1 q2 q3
  have e : ¬ 65536 < F.s.2.2.length * F.o.2.2.length * F.a.2.2.length := fun q => by simp [vst, q] at h
  have m1 := Nat.mul_le_mul q1 (Nat.mul_le_mul q2 q3)
  rw [← Nat.mul_assoc F.s.2.2.length] at m1
  omega
theorem xints_cut {ao : Option Addr} {xs ys : List X.K3} {w : World} (h : X.Ints ao (xs ++ ys) w) : X.Ints ao xs w := by
  rcases h with h | ⟨b, off, h1, h2, h3⟩
  · exact .inl (List.append_eq_nil_iff.1 h).1
  · exact .inr ⟨b, off, h1, h2, fun i k q => h3 i k (by rw [List.getElem?_append_left (List.getElem?_eq_some_iff.1 q).1]; exact q)⟩
/-- all that is asked of a policy's sizes, by a number -/
structure Fine (F : Pf) (N : Nat) : Prop where
  n : N ≤ 1048576
  a : F.a.2.2.length ≤ N
  s : F.s.2.2.length ≤ N
  r : F.r.2.2.length ≤ N
  o : F.o.2.2.length ≤ N
  g : F.g.2.2.length ≤ N
  mi : F.m.2.2.length + F.i.2.2.length ≤ N
  pw : F.p.2.2.length + F.w.2.2.length ≤ N
  u : F.u.2.2.length ≤ N
  x : F.x.2.2.length ≤ N
  za : ∀ a ∈ F.a.2.2, a.size ≤ N
  zs : ∀ s ∈ F.s.2.2, s.1.size ≤ N
  zo : ∀ o ∈ F.o.2.2, o.size ≤ N
  zm : ∀ q ∈ F.m.2.2 ++ F.i.2.2, q.1.size ≤ N ∧ q.2.size ≤ N
  zp : ∀ q ∈ F.p.2.2 ++ F.w.2.2, q.1.size ≤ N ∧ q.2.size ≤ N
  zu : ∀ R ∈ F.u.2.2, R.who.size ≤ N ∧ R.what.size ≤ N ∧ ∀ a ∈ R.rl, a.size ≤ N
  zx : ∀ t ∈ F.x.2.2, t.1.size ≤ N ∧ t.2.1.size ≤ N ∧ t.2.2.size ≤ N
theorem Fine.small {F : Pf} {N : Nat} (h : Fine F N) : F.Small := by
  have := h.n; have := h.a; have := h.s; have := h.r; have := h.o; have := h.g; have := h.mi; have := h.pw; have := h.u; have := h.x
  exact ⟨by omega, by omega, by omega, by omega, by omega, by omega, by omega, by omega, by omega, by omega, by omega⟩
theorem le2 {a b N : Nat} (h : a ≤ N ∧ b ≤ N) (hn : N ≤ 1048576) : a ≤ 1048576 ∧ b ≤ 1048576 := ⟨by omega, by omega⟩
theorem Fine.po {F : Pf} {N : Nat} (h : Fine F N) : F.po.Small := by
  have hn := h.n
  exact ⟨Nat.le_trans h.a hn, Nat.le_trans h.s hn, Nat.le_trans h.o hn, Nat.le_trans h.mi hn, Nat.le_trans h.pw hn, fun q hq => le2 (h.zm q hq) hn, fun q hq => le2 (h.zp q hq) hn⟩
theorem Fine.okx {F : Pf} {N : Nat} (h : Fine F N) : ∀ t ∈ F.x.2.2, X.okk t := fun t ht => by
  have hn := h.n
  obtain ⟨q1, q2, q3⟩ := h.zx t ht
  exact ⟨okk_of (by omega), okk_of (by omega), okk_of (by omega)⟩
theorem Fine.oku {F : Pf} {N : Nat} (h : Fine F N) : ∀ R ∈ F.u.2.2, S.okk R.who ∧ S.okk R.what ∧ ∀ a ∈ R.rl, S.okk a := fun R hR => by
  have hn := h.n
  obtain ⟨q1, q2, q3⟩ := h.zu R hR
  exact ⟨okk_of (by omega), okk_of (by omega), fun a ha => okk_of (Nat.le_trans (q3 a ha) hn)⟩
theorem rel_call (F : Pf) (N : Nat) (w : World) (h : F.In w) (f : Fine F N) (hv : (fos F.s.2.2).length * ((fo F.o.2.2).length * (fo F.a.2.2).length) ≤ 65536) : Calls Try.prog 23 #[.agg F.arr] w fun e w' => RelIs F w e w' :=
  relation_any F w h f.small f.po (fun a ha => Nat.le_trans (f.za a ha) f.n) (fun y hy => Nat.le_trans (f.zo y hy) f.n) (fun s hs => Nat.le_trans (f.zs s hs) f.n) f.okx f.oku (by omega)
theorem alw_call (F : Pf) (N : Nat) (ts to ta : ByteArray) (w : World) (h : F.In w) (f : Fine F N) (hz : ts.size ≤ 1048576 ∧ to.size ≤ 1048576 ∧ ta.size ≤ 1048576) : Calls Try.prog 26 #[.agg F.arr, .agg #[.string ts, .string to, .string ta]] w fun e w' => e = .returned (.bool (alw F ts to ta)) ∧ Below w.heap.size w w' :=
  allows_any F ts to ta w h f.small f.po hz f.okx f.oku
/-- stops of a walk -/
theorem stay_load {P : Program} {ops : Array Oper} {rest : List Oper} {o : Oper} {a : Act} {Q : Exit → Act → World → Prop} {w : World} (t : TypeId) (x : Operand) (ho : o.op = .load t x) (h : Stay (wpList P ops Q (o :: rest) a w)) : wpList P ops Q (o :: rest) a w := h
theorem stay_store {P : Program} {ops : Array Oper} {rest : List Oper} {o : Oper} {a : Act} {Q : Exit → Act → World → Prop} {w : World} (t : TypeId) (x y : Operand) (ho : o.op = .store t x y) (h : Stay (wpList P ops Q (o :: rest) a w)) : wpList P ops Q (o :: rest) a w := h
/-- a load of a whole block, at a guarded operation too -/
theorem wpList_load_w {P : Program} {ops : Array Oper} {rest : List Oper} {o : Oper} {a : Act} {w : World} {Q : Exit → Act → World → Prop} (hw : Region.wanted o (yielded ops a.tmps) = true) (ty : TypeId) (x : Operand) (ho : o.op = .load ty x)
    (g : Nat) (hx : a.eval x = .pointer (some ⟨g, 0, none⟩)) (t : TypeId) (cs : Array Value) (fr : Nat × Nat) (d : TypeDesc) (hg : w.heap[g]? = some (.cells cs t fr))
    (hu : P.underlying ty = some d) (hd : (match d with | .struct _ | .array _ _ => true | _ => false) = true) (hi : (P.info? ty).map (·.size) = some cs.size)
    (h : wpList P ops Q rest (a.put o.dst (.agg cs)) w) : wpList P ops Q (o :: rest) a w :=
  wpList_step fun K hK => by rw [if_pos hw]; exact wp_load_row ty x ho g hx t cs fr d hg hu hd hi (hK _ _ h)
theorem size_arr (F : Pf) : (Try.prog.info? 28).map (·.size) = some F.arr.size := by
  have : (Try.prog.info? 28).map (·.size) = some 11 := by kernel_rfl
  rw [this]; rfl
end U
end Go.Proofs.Ytollaamlnddhcaa
set_option linter.unusedVariables false
set_option linter.unusedSimpArgs false
namespace Go.Proofs.Ytollaamlnddhcaa
open Go.RowKit Go.Maps
namespace X
theorem flat_set3 (zs : List K3) (i : Nat) (k : K3) : (zs.set i k).flatMap cells = (((zs.flatMap cells).set (i * 3) (.string k.1)).set (i * 3 + 1) (.string k.2.1)).set (i * 3 + 2) (.string k.2.2) := by
  induction zs generalizing i with
  | nil => simp
  | cons z r ih =>
    cases i with
    | zero => simp [cells]
    | succ i =>
      have e : (i + 1) * 3 = i * 3 + 1 + 1 + 1 := by omega
      rw [List.set_cons_succ, List.flatMap_cons, List.flatMap_cons, ih, e]
      simp [cells]
theorem put3 {B : Nat} {g cap : Nat} {zs : List K3} {w : World} (h : RowI B (some ⟨g, 0, none⟩) cap zs w) (i : Nat) (k : K3) : RowI B (some ⟨g, 0, none⟩) cap (zs.set i k) (w.setCells g (i * 3) [.string k.1, .string k.2.1, .string k.2.2]) := by
  rcases h.2 with ⟨hv, h0⟩ | ⟨g', cap', cur, hv, hb, hg, h1, h2, h3, h4⟩
  · cases hv
  simp only [Value.slice.injEq, Option.some.injEq] at hv
  obtain ⟨he, _, rfl⟩ := hv
  cases he
  have hl := h.1
  refine ⟨by rw [flat_set3]; simpa using hl, .inr ⟨g, cap, ((cur.setIfInBounds (i * 3) (.string k.1)).setIfInBounds (i * 3 + 1) (.string k.2.1)).setIfInBounds (i * 3 + 2) (.string k.2.2), by simp, hb, ?_, by simpa using h1, by simpa using h2, by simpa using h3, ?_⟩⟩
  · simp [World.setCells, World.setCell, Array.getElem?_modify, hg]
  · rw [flat_set3, Array.toList_setIfInBounds, Array.toList_setIfInBounds, Array.toList_setIfInBounds]
    simp only [List.length_set]
    rw [List.take_set, List.take_set, List.take_set, h4]
theorem put3_turn (w : World) (g o : Nat) (vs : List Value) : Turn (fun j => j = g) w (w.setCells g o vs) := by
  induction vs generalizing w o with
  | nil => exact Turn.refl _ _
  | cons v r ih => exact ((Turn.refl (fun j => j = g) w).setCell (p := ⟨g, o, none⟩) (fun _ => rfl) v).trans (ih _ _)
theorem there3 {B : Nat} {g cap : Nat} {zs : List K3} {w : World} (h : RowI B (some ⟨g, 0, none⟩) cap zs w) {i : Nat} (hi : i < zs.length) : w.there g (i * 3) 3 := by
  obtain ⟨k, hk⟩ : ∃ k, zs[i]? = some k := ⟨_, List.getElem?_eq_getElem hi⟩
  obtain ⟨g', e, ⟨d1, d2, d3⟩, _⟩ := row_at h hk
  cases e
  rcases h.2 with ⟨hv, h0⟩ | ⟨g', cap', cur, hv, hb, hg, _⟩
  · cases hv
  simp only [Value.slice.injEq, Option.some.injEq] at hv
  obtain ⟨he, _⟩ := hv
  cases he
  intro j hj
  refine ⟨?_, Lib.frozen_of_heap hg _⟩
  match j, hj with
  | 0, _ => rw [Nat.add_zero, d1]; rfl
  | 1, _ => rw [d2]; rfl
  | 2, _ => rw [d3]; rfl
theorem Ints.turn {to : Option Addr} {xs : List K3} {w w' : World} {S : Nat → Prop} (h : Ints to xs w) (t : Turn S w w') (hS : ∀ b off, to = some ⟨b, off, none⟩ → ¬ S b) : Ints to xs w' := by
  rcases h with h | ⟨b, off, h1, h2, h3⟩
  · exact .inl h
  · have hc : ∀ o, w'.cell? ⟨b, o, none⟩ = w.cell? ⟨b, o, none⟩ := fun o => by
      have := t.block b h2 (hS b off h1)
      unfold World.cell?
      simp only [this]
    exact .inr ⟨b, off, h1, Nat.lt_of_lt_of_le h2 t.size, fun i k q => ⟨(hc _).trans (h3 i k q).1, (hc _).trans (h3 i k q).2.1, (hc _).trans (h3 i k q).2.2⟩⟩
theorem Ints.left {to : Option Addr} {xs ys : List K3} {w : World} (h : Ints to (xs ++ ys) w) : Ints to xs w := U.xints_cut h
/-- append of one triple: and what was there stays -/
theorem wpList_app1k (w0 : World) {ops : Array Oper} {rest : List Oper} {o : Oper} {a : Act} {Q : Exit → Act → World → Prop} (hgd : o.guard = none) (s x : Operand)
    (ho : o.op = .call { callee := .builtin .append, args := #[s, x], argTypes := #[26, 26] }) (B : Nat) (ao : Option Addr) (cap n : Nat) (zs : List K3) (k : K3) (t : TypeId) (c : Nat) (hzn : Hid (zs.length = n)) (hs : a.eval s = .slice ao n cap) (hrow : RowI B ao cap zs w0)
    (hx : a.eval x = .slice (some ⟨w0.heap.size, 0, none⟩) 1 c) (hb : Hid (zs.length < 1099511627776)) (hB : B ≤ w0.heap.size)
    (h : ∀ g cap' w', RowI B (some ⟨g, 0, none⟩) cap' (zs ++ [k]) w' → Turn (At ao) w0 w' → (ao = some ⟨g, 0, none⟩ ∨ w0.heap.size ≤ g) → Ints ao zs w' → wpList Try.prog ops Q rest (a.put o.dst (.slice (some ⟨g, 0, none⟩) (n + 1) cap')) w') :
    wpList Try.prog ops Q (o :: rest) a (w0.alloc (.cells #[.string k.1, .string k.2.1, .string k.2.2] t)) := by
  obtain ⟨i0, hi, hz0, hz1, hz2⟩ := info_parts infoE
  have hzn' := hzn.out
  subst hzn'
  rcases Nat.lt_or_ge cap (zs.length + 1) with hcap | hcap
  · have hi0 : Ints ao zs (w0.alloc (.cells #[.string k.1, .string k.2.1, .string k.2.2] t)) := hrow.ints.turn (S := fun _ => False) ((Turn.refl (fun _ => False) w0).alloc _) (fun _ _ _ q => q)
    refine wpList_append_grows _ hgd s x 26 ho 42 i0 (.agg #[.string ByteArray.empty, .string ByteArray.empty, .string ByteArray.empty]) 3 48 Try.underlying26 hi hz0 hz1 hz2 rfl (by decide) ao zs.length cap (zs.flatMap cells) hs (fun e => ?_) (by rw [flat_len]) (fun ad q j u hj => ?_) ⟨w0.heap.size, 0, none⟩ 1 c [.string k.1, .string k.2.1, .string k.2.2] hx rfl (three_new _ _ _ _ _) (by simp [Value.oneCell']) hcap (by have := hb.out; unfold maxLen; omega) (by have := hb.out; omega) ?_
    · rcases hrow.form with ⟨_, e1, e2⟩ | ⟨g, e', _⟩
      · rw [e1]; exact ⟨rfl, e2⟩
      · rw [e] at e'; cases e'
    · have hjl := (List.getElem?_eq_some_iff.1 hj).1
      rw [flat_len] at hjl
      obtain ⟨k', hk⟩ : ∃ k', zs[j / 3]? = some k' := ⟨_, List.getElem?_eq_getElem (by omega)⟩
      obtain ⟨b, off, e, _, hc1, hc2, hc3⟩ := hi0.at hk
      rw [q] at e; cases e
      obtain ⟨e1, e2, e3⟩ := flat_at zs (j / 3) hk
      rw [add_off]
      have hm : j % 3 = 0 ∨ j % 3 = 1 ∨ j % 3 = 2 := by omega
      rcases hm with hm | hm | hm
      · rw [show j = j / 3 * 3 by omega] at hj ⊢
        rw [e1] at hj; rw [hc1]; exact hj
      · rw [show j = j / 3 * 3 + 1 by omega] at hj ⊢
        rw [e2] at hj; rw [← Nat.add_assoc, hc2]; exact hj
      · rw [show j = j / 3 * 3 + 2 by omega] at hj ⊢
        rw [e3] at hj; rw [← Nat.add_assoc, hc3]; exact hj
    · intro v' w' r hg
      have r' : w'.ownsRow (w0.heap.size + 1) 42 3 v' (zs.length + 1) ((zs ++ [k]).flatMap cells) := by rw [List.flatMap_append]; simpa [cells] using r
      obtain ⟨g, cap', rfl, hg1, hg2⟩ := World.ownsRow.form r' (by omega)
      have t0 : Turn (fun _ => False) w0 w' := ((Turn.refl (fun _ => False) w0).alloc _).grown hg (fun j hj _ => by cases hj)
      refine h g cap' w' ?_ (t0.mono (fun _ _ q => q.elim)) (.inr (by omega)) (hrow.ints.turn t0 (fun _ _ _ q => q))
      have : RowI (w0.heap.size + 1) (some ⟨g, 0, none⟩) cap' (zs ++ [k]) w' := by unfold RowI; rw [List.length_append]; exact r'
      exact this.mono (by omega)
  · rcases hrow.form with ⟨_, e1, e2⟩ | ⟨g, rfl, hgB, hgl, _⟩
    · rw [e2] at hcap; omega
    · refine wpList_append_fits _ hgd s x 26 ho B 42 i0 3 Try.underlying26 hi hz1 g zs.length cap (zs.flatMap cells) hs (World.ownsRow.alloc hrow _) ⟨w0.heap.size, 0, none⟩ 1 c [.string k.1, .string k.2.1, .string k.2.2] hx rfl (three_new _ _ _ _ _) (by simp [Value.oneCell']) hcap ?_
      intro w' r hg
      have r' : RowI B (some ⟨g, 0, none⟩) cap (zs ++ [k]) w' := by unfold RowI; rw [List.length_append, List.flatMap_append]; simpa [cells] using r
      exact h g cap w' r' (((Turn.refl _ w0).alloc _).grown hg (fun j hj _ => by cases hj; exact ⟨_, rfl, rfl⟩)) (.inl rfl) r'.ints.left
end X
end Go.Proofs.Ytollaamlnddhcaa
set_option linter.unusedVariables false
set_option linter.unusedSimpArgs false
namespace Go.Proofs.Ytollaamlnddhcaa
open Go.RowKit Go.Maps
namespace U
/-- the policy that is asked of first -/
def FA (n : Nat) : Pf where
  a := (some ⟨n, 0, none⟩, 2, [⟨#[111, 112, 101, 110]⟩, ⟨#[114, 101, 97, 100]⟩])
  s := (some ⟨n + 1, 0, none⟩, 2, [(⟨#[97, 110, 110]⟩, 4607182418800017408), (⟨#[98, 111, 98]⟩, 4602678819172646912)])
  r := (some ⟨n + 2, 0, none⟩, 1, [⟨#[99, 108, 101, 114, 107]⟩])
  o := (some ⟨n + 3, 0, none⟩, 1, [⟨#[100, 111, 111, 114]⟩])
  g := (some ⟨n + 4, 0, none⟩, 1, [⟨#[100, 111, 111, 114, 115]⟩])
  m := (some ⟨n + 5, 0, none⟩, 2, [(⟨#[97, 110, 110]⟩, ⟨#[99, 108, 101, 114, 107]⟩), (⟨#[98, 111, 98]⟩, ⟨#[99, 108, 101, 114, 107]⟩)])
  i := (none, 0, [])
  p := (some ⟨n + 6, 0, none⟩, 1, [(⟨#[100, 111, 111, 114]⟩, ⟨#[100, 111, 111, 114, 115]⟩)])
  w := (none, 0, [])
  u := (some ⟨n + 8, 0, none⟩, 2, [⟨.bool false, ⟨#[99, 108, 101, 114, 107]⟩, ⟨#[100, 111, 111, 114, 115]⟩, none, 0, [], 0, 0⟩, ⟨.bool true, ⟨#[98, 111, 98]⟩, ⟨#[100, 111, 111, 114]⟩, some ⟨n + 7, 0, none⟩, 1, [⟨#[114, 101, 97, 100]⟩], 0, 0⟩])
  x := (none, 0, [])
theorem rel_FA (n : Nat) : rel (FA n) = [(⟨#[97, 110, 110]⟩, ⟨#[100, 111, 111, 114]⟩, ⟨#[111, 112, 101, 110]⟩), (⟨#[97, 110, 110]⟩, ⟨#[100, 111, 111, 114]⟩, ⟨#[114, 101, 97, 100]⟩), (⟨#[98, 111, 98]⟩, ⟨#[100, 111, 111, 114]⟩, ⟨#[111, 112, 101, 110]⟩)] := by kernel_rfl
structure BA (n : Nat) (V : World) : Prop where
  b0 : V.heap[n + 0]? = some (.cells #[.string ⟨#[111, 112, 101, 110]⟩, .string ⟨#[114, 101, 97, 100]⟩] 9 (0, 0))
  b1 : V.heap[n + 1]? = some (.cells #[.string ⟨#[97, 110, 110]⟩, .float .f64 4607182418800017408, .string ⟨#[98, 111, 98]⟩, .float .f64 4602678819172646912] 67 (0, 0))
  b2 : V.heap[n + 2]? = some (.cells #[.string ⟨#[99, 108, 101, 114, 107]⟩] 9 (0, 0))
  b3 : V.heap[n + 3]? = some (.cells #[.string ⟨#[100, 111, 111, 114]⟩] 9 (0, 0))
  b4 : V.heap[n + 4]? = some (.cells #[.string ⟨#[100, 111, 111, 114, 115]⟩] 9 (0, 0))
  b5 : V.heap[n + 5]? = some (.cells #[.string ⟨#[97, 110, 110]⟩, .string ⟨#[99, 108, 101, 114, 107]⟩, .string ⟨#[98, 111, 98]⟩, .string ⟨#[99, 108, 101, 114, 107]⟩] 83 (0, 0))
  b6 : V.heap[n + 6]? = some (.cells #[.string ⟨#[100, 111, 111, 114]⟩, .string ⟨#[100, 111, 111, 114, 115]⟩] 83 (0, 0))
  b7 : V.heap[n + 7]? = some (.cells #[.string ⟨#[114, 101, 97, 100]⟩] 9 (0, 0))
  b8 : V.heap[n + 8]? = some (.cells #[.bool false, .string ⟨#[99, 108, 101, 114, 107]⟩, .string ⟨#[100, 111, 111, 114, 115]⟩, .slice none 0 0, .int .i8 0, .float .f64 0, .bool true, .string ⟨#[98, 111, 98]⟩, .string ⟨#[100, 111, 111, 114]⟩, .slice (some ⟨n + 7, 0, none⟩) 1 1, .int .i8 0, .float .f64 0] 65 (0, 0))
theorem FA_in {n : Nat} {V : World} (h : BA n V) : (FA n).In V where
  a := ⟨.inr ⟨n + 0, 0, rfl, lt_of_heap h.b0, fun i k q => by
      match i, q with
      | 0, q => simp [FA] at q; subst q; rw [Lib.cell_of_heap h.b0]; rfl
      | 1, q => simp [FA] at q; subst q; rw [Lib.cell_of_heap h.b0]; rfl
      | j + 2, q => simp [FA] at q⟩, Nat.le_refl _, fun q => by cases q⟩
  s := ⟨.inr ⟨n + 1, 0, rfl, lt_of_heap h.b1, fun i k q => by
      match i, q with
      | 0, q => simp [FA] at q; subst q; exact ⟨by rw [Lib.cell_of_heap h.b1]; rfl, by rw [Lib.cell_of_heap h.b1]; rfl⟩
      | 1, q => simp [FA] at q; subst q; exact ⟨by rw [Lib.cell_of_heap h.b1]; rfl, by rw [Lib.cell_of_heap h.b1]; rfl⟩
      | j + 2, q => simp [FA] at q⟩, Nat.le_refl _, fun q => by cases q⟩
  r := ⟨.inr ⟨n + 2, 0, rfl, lt_of_heap h.b2, fun i k q => by
      match i, q with
      | 0, q => simp [FA] at q; subst q; rw [Lib.cell_of_heap h.b2]; rfl
      | j + 1, q => simp [FA] at q⟩, Nat.le_refl _, fun q => by cases q⟩
  o := ⟨.inr ⟨n + 3, 0, rfl, lt_of_heap h.b3, fun i k q => by
      match i, q with
      | 0, q => simp [FA] at q; subst q; rw [Lib.cell_of_heap h.b3]; rfl
      | j + 1, q => simp [FA] at q⟩, Nat.le_refl _, fun q => by cases q⟩
  g := ⟨.inr ⟨n + 4, 0, rfl, lt_of_heap h.b4, fun i k q => by
      match i, q with
      | 0, q => simp [FA] at q; subst q; rw [Lib.cell_of_heap h.b4]; rfl
      | j + 1, q => simp [FA] at q⟩, Nat.le_refl _, fun q => by cases q⟩
  m := ⟨.inr ⟨n + 5, 0, rfl, lt_of_heap h.b5, fun i k q => by
      match i, q with
      | 0, q => simp [FA] at q; subst q; exact ⟨by rw [Lib.cell_of_heap h.b5]; rfl, by rw [Lib.cell_of_heap h.b5]; rfl⟩
      | 1, q => simp [FA] at q; subst q; exact ⟨by rw [Lib.cell_of_heap h.b5]; rfl, by rw [Lib.cell_of_heap h.b5]; rfl⟩
      | j + 2, q => simp [FA] at q⟩, Nat.le_refl _, fun q => by cases q⟩
  p := ⟨.inr ⟨n + 6, 0, rfl, lt_of_heap h.b6, fun i k q => by
      match i, q with
      | 0, q => simp [FA] at q; subst q; exact ⟨by rw [Lib.cell_of_heap h.b6]; rfl, by rw [Lib.cell_of_heap h.b6]; rfl⟩
      | j + 1, q => simp [FA] at q⟩, Nat.le_refl _, fun q => by cases q⟩
  i := ⟨.inl rfl, Nat.le_refl _, fun _ => rfl⟩
  w := ⟨.inl rfl, Nat.le_refl _, fun _ => rfl⟩
  x := ⟨.inl rfl, Nat.le_refl _, fun _ => rfl⟩
  u := by
    refine ⟨⟨.inr ⟨n + 8, 0, rfl, lt_of_heap h.b8, fun i r k u q s => ?_⟩, fun R hR => ?_⟩, Nat.le_refl _, fun q => by cases q⟩
    · match i, q with
      | 0, q =>
        simp [FA, Ru.cells] at q; subst q
        rw [Lib.cell_of_heap h.b8]
        match r, s with
        | 0, s => exact s
        | 1, s => exact s
        | 2, s => exact s
        | 3, s => exact s
        | 4, s => exact s
        | 5, s => exact s
        | r + 6, s => simp at s
      | 1, q =>
        simp [FA, Ru.cells] at q; subst q
        rw [Lib.cell_of_heap h.b8]
        match r, s with
        | 0, s => exact s
        | 1, s => exact s
        | 2, s => exact s
        | 3, s => exact s
        | 4, s => exact s
        | 5, s => exact s
        | r + 6, s => simp at s
      | j + 2, q => simp [FA] at q
    · rcases List.mem_cons.1 hR with rfl | hR
      · exact ⟨⟨.inl rfl, Nat.le_refl _, fun _ => rfl⟩, ⟨_, rfl⟩, by show 0 ≤ _; decide⟩
      · rw [List.mem_singleton] at hR
        subst hR
        exact ⟨⟨.inr ⟨n + 7, 0, rfl, lt_of_heap h.b7, fun i k q => by
          match i, q with
          | 0, q => simp at q; subst q; rw [Lib.cell_of_heap h.b7]; rfl
          | j + 1, q => simp at q⟩, Nat.le_refl _, fun q => by cases q⟩, ⟨_, rfl⟩, by show 1 ≤ _; decide⟩
theorem FA_fine (n : Nat) : Fine (FA n) 100 where
  n := by decide
  a := by show 2 ≤ 100; decide
  s := by show 2 ≤ 100; decide
  r := by show 1 ≤ 100; decide
  o := by show 1 ≤ 100; decide
  g := by show 1 ≤ 100; decide
  mi := by show 2 ≤ 100; decide
  pw := by show 1 ≤ 100; decide
  u := by show 2 ≤ 100; decide
  x := by show 0 ≤ 100; decide
  za := fun a ha => by
    have h : a ∈ [(⟨#[111, 112, 101, 110]⟩ : ByteArray), ⟨#[114, 101, 97, 100]⟩] := ha
    simp only [List.mem_cons, List.mem_nil_iff, or_false] at h
    rcases h with rfl | rfl <;> decide
  zs := fun s hs => by
    have h : s ∈ [((⟨#[97, 110, 110]⟩ : ByteArray), 4607182418800017408), ((⟨#[98, 111, 98]⟩ : ByteArray), 4602678819172646912)] := hs
    simp only [List.mem_cons, List.mem_nil_iff, or_false] at h
    rcases h with rfl | rfl <;> decide
  zo := fun s hs => by
    have h : s ∈ [(⟨#[100, 111, 111, 114]⟩ : ByteArray)] := hs
    simp only [List.mem_cons, List.mem_nil_iff, or_false] at h
    subst h; decide
  zm := fun q hq => by
    have h : q ∈ [((⟨#[97, 110, 110]⟩ : ByteArray), (⟨#[99, 108, 101, 114, 107]⟩ : ByteArray)), ((⟨#[98, 111, 98]⟩ : ByteArray), (⟨#[99, 108, 101, 114, 107]⟩ : ByteArray))] := hq
    simp only [List.mem_cons, List.mem_nil_iff, or_false] at h
    rcases h with rfl | rfl <;> decide
  zp := fun q hq => by
    have h : q ∈ [((⟨#[100, 111, 111, 114]⟩ : ByteArray), ⟨#[100, 111, 111, 114, 115]⟩)] := hq
    simp only [List.mem_cons, List.mem_nil_iff, or_false] at h
    subst h; decide
  zu := fun R hR => by
    rcases List.mem_cons.1 hR with rfl | hR
    · exact ⟨by decide, by decide, fun a ha => by cases ha⟩
    · rw [List.mem_singleton] at hR
      subst hR
      exact ⟨by show 3 ≤ 100; decide, by show 4 ≤ 100; decide, fun a ha => by rw [List.mem_singleton] at ha; subst ha; decide⟩
  zx := fun t ht => by cases ht
def allocs (w : World) : List Obj → World
  | [] => w
  | o :: r => allocs (w.alloc o) r
theorem alloc_size (w : World) (o : Obj) : (w.alloc o).heap.size = w.heap.size + 1 := by simp
theorem allocs_old : ∀ (os : List Obj) (w : World) (b : Nat), b < w.heap.size → (allocs w os).heap[b]? = w.heap[b]? := by
  intro os
  induction os with
  | nil => intro w b _; rfl
  | cons o r ih =>
    intro w b hb
    show (allocs (w.alloc o) r).heap[b]? = _
    rw [ih (w.alloc o) b (by rw [alloc_size]; omega)]
    exact Below.heap_alloc _ _ _ hb
theorem allocs_get : ∀ (os : List Obj) (w : World) (k : Nat) (o : Obj), os[k]? = some o → (allocs w os).heap[w.heap.size + k]? = some o := by
  intro os
  induction os with
  | nil => intro w k o h; simp at h
  | cons a r ih =>
    intro w k o h
    show (allocs (w.alloc a) r).heap[w.heap.size + k]? = _
    cases k with
    | zero =>
      simp at h
      subst h
      rw [Nat.add_zero, allocs_old r (w.alloc a) w.heap.size (by rw [alloc_size]; omega)]
      exact heap_alloc_new w _
    | succ k =>
      have := ih (w.alloc a) k o (by simpa using h)
      rw [alloc_size, Nat.add_assoc, Nat.add_comm 1 k] at this
      exact this
theorem allocs_below : ∀ (os : List Obj) (w : World), Below w.heap.size w (allocs w os) := by
  intro os
  induction os with
  | nil => intro w; exact Below.refl _ _
  | cons o r ih =>
    intro w
    have b := (Below.refl w.heap.size w).alloc (Nat.le_refl _) o
    exact b.trans ((ih (w.alloc o)).mono b.size)
def osA (n : Nat) : List Obj := [.cells #[.string ⟨#[111, 112, 101, 110]⟩, .string ⟨#[114, 101, 97, 100]⟩] 9, .cells #[.string ⟨#[97, 110, 110]⟩, .float .f64 4607182418800017408, .string ⟨#[98, 111, 98]⟩, .float .f64 4602678819172646912] 67, .cells #[.string ⟨#[99, 108, 101, 114, 107]⟩] 9, .cells #[.string ⟨#[100, 111, 111, 114]⟩] 9, .cells #[.string ⟨#[100, 111, 111, 114, 115]⟩] 9, .cells #[.string ⟨#[97, 110, 110]⟩, .string ⟨#[99, 108, 101, 114, 107]⟩, .string ⟨#[98, 111, 98]⟩, .string ⟨#[99, 108, 101, 114, 107]⟩] 83, .cells #[.string ⟨#[100, 111, 111, 114]⟩, .string ⟨#[100, 111, 111, 114, 115]⟩] 83, .cells #[.string ⟨#[114, 101, 97, 100]⟩] 9, .cells #[.bool false, .string ⟨#[99, 108, 101, 114, 107]⟩, .string ⟨#[100, 111, 111, 114, 115]⟩, .slice none 0 0, .int .i8 0, .float .f64 0, .bool true, .string ⟨#[98, 111, 98]⟩, .string ⟨#[100, 111, 111, 114]⟩, .slice (some ⟨n + 1 + 1 + 1 + 1 + 1 + 1 + 1, 0, none⟩) 1 1, .int .i8 0, .float .f64 0] 65]
theorem BA_new (w : World) : BA w.heap.size (allocs w (osA w.heap.size)) :=
  ⟨allocs_get _ w 0 _ rfl, allocs_get _ w 1 _ rfl, allocs_get _ w 2 _ rfl, allocs_get _ w 3 _ rfl, allocs_get _ w 4 _ rfl, allocs_get _ w 5 _ rfl, allocs_get _ w 6 _ rfl, allocs_get _ w 7 _ rfl, allocs_get _ w 8 _ rfl⟩
theorem BA.below {n : Nat} {V V' : World} (h : BA n V) (b : Below V.heap.size V V') : BA n V' :=
  ⟨(b.block _ (lt_of_heap h.b0)).trans h.b0, (b.block _ (lt_of_heap h.b1)).trans h.b1, (b.block _ (lt_of_heap h.b2)).trans h.b2, (b.block _ (lt_of_heap h.b3)).trans h.b3, (b.block _ (lt_of_heap h.b4)).trans h.b4, (b.block _ (lt_of_heap h.b5)).trans h.b5, (b.block _ (lt_of_heap h.b6)).trans h.b6, (b.block _ (lt_of_heap h.b7)).trans h.b7, (b.block _ (lt_of_heap h.b8)).trans h.b8⟩
end U
end Go.Proofs.Ytollaamlnddhcaa
set_option linter.unusedVariables false
set_option linter.unusedSimpArgs false
namespace Go.Proofs.Ytollaamlnddhcaa
open Go.RowKit Go.Maps
namespace U
theorem bdrew {B : Nat} (V : World) (n : Nat) : Below B V (V.drewN n) := ⟨rfl, rfl, rfl, Nat.le_refl _, fun _ _ => rfl⟩
theorem mem_take {xs : List X.K3} {t : X.K3} {k : Nat} {z : X.K3} (h : isIn (xs.take k) t = false) (hz : xs[k]? = some z) (hn : z ≠ t) : isIn (xs.take (k + 1)) t = false := by
  rw [List.take_add_one, hz]
  refine isIn_no (fun q => ?_)
  rcases List.mem_append.1 q with q | q
  · rw [isIn_yes q] at h; cases h
  · simp at q; exact hn q.symm
theorem tri_ne {z t : X.K3} (h : z ≠ t) : ((z.1.toList == t.1.toList) && (z.2.1.toList == t.2.1.toList) && (z.2.2.toList == t.2.2.toList)) = false := by
  rw [Bool.eq_false_iff]
  intro e
  simp only [Bool.and_eq_true, beq_iff_eq] at e
  exact h (Prod.ext (text_inj e.1.1) (Prod.ext (text_inj e.1.2) (text_inj e.2)))
end U
end Go.Proofs.Ytollaamlnddhcaa
set_option linter.unusedVariables false
set_option linter.unusedSimpArgs false
namespace Go.Proofs.Ytollaamlnddhcaa
open Go.RowKit Go.Maps
namespace U
/-- a rule, but for where its actions lie -/
def Ru.core (R : Ru) : Ru := { R with ro := none, rc := 0 }
theorem kindQ {B : Nat} {no : Option Addr} {ncap : Nat} {zs : List K2} {w : World} (h : Q.RowI B no ncap zs w) {j : Nat} (q : Q.At no j) : ∃ cur, w.heap[j]? = some (.cells cur 83 (0, 0)) := by
  obtain ⟨a, e, rfl⟩ := q
  rcases h.2 with ⟨hv, _⟩ | ⟨g, c, cur, hv, _, hg, _⟩
  · rw [e] at hv; cases hv
  · simp only [Value.slice.injEq] at hv; rw [hv.1] at e; cases e; exact ⟨cur, hg⟩
/-- only structs and rules are turned -/
def Soft2 (Z : Nat → Prop) (V : World) : Prop := ∀ j, Z j → ∃ c t, V.heap[j]? = some (.cells c t (0, 0)) ∧ (t = 28 ∨ t = 65)
theorem Soft2.ne {Z : Nat → Prop} {V : World} (h : Soft2 Z V) {j : Nat} {c : Array Value} {t : Nat} (q : V.heap[j]? = some (.cells c t (0, 0))) (h34 : t ≠ 28) (h27 : t ≠ 65) : ¬ Z j := fun r => by
  obtain ⟨c', t', k, e⟩ := h j r
  rcases e with rfl | rfl
  · exact cells_ne q k h34 rfl
  · exact cells_ne q k h27 rfl
/-- a policy in rows of one's own, but for the row of its rules -/
structure Rest (B : Nat) (J : Pf) (V : World) : Prop where
  a : S.RowI B J.a.1 J.a.2.1 J.a.2.2 V
  s : T.RowI B J.s.1 J.s.2.1 J.s.2.2 V
  r : S.RowI B J.r.1 J.r.2.1 J.r.2.2 V
  o : S.RowI B J.o.1 J.o.2.1 J.o.2.2 V
  g : S.RowI B J.g.1 J.g.2.1 J.g.2.2 V
  m : Q.RowI B J.m.1 J.m.2.1 J.m.2.2 V
  i : Q.RowI B J.i.1 J.i.2.1 J.i.2.2 V
  p : Q.RowI B J.p.1 J.p.2.1 J.p.2.2 V
  w : Q.RowI B J.w.1 J.w.2.1 J.w.2.2 V
  ur : ∀ R ∈ J.u.2.2, S.RowI B R.ro R.rc R.rl V ∧ (∃ b, R.d = .bool b) ∧ R.rl.length ≤ 1048576
  x : X.RowI B J.x.1 J.x.2.1 J.x.2.2 V
theorem srow_soft {B : Nat} {o : Option Addr} {c : Nat} {l : List ByteArray} {V V' : World} {Z : Nat → Prop} (h : S.RowI B o c l V) (t : Turn Z V V') (hT : Soft2 Z V) : S.RowI B o c l V' := h.turn t (fun j q => by obtain ⟨cur, k⟩ := kindS h q; exact hT.ne k (by decide) (by decide))
theorem trow_soft {B : Nat} {o : Option Addr} {c : Nat} {l : List Sb} {V V' : World} {Z : Nat → Prop} (h : T.RowI B o c l V) (t : Turn Z V V') (hT : Soft2 Z V) : T.RowI B o c l V' := h.turn t (fun j q => by obtain ⟨cur, k⟩ := kindT h q; exact hT.ne k (by decide) (by decide))
theorem qrow_soft {B : Nat} {o : Option Addr} {c : Nat} {l : List K2} {V V' : World} {Z : Nat → Prop} (h : Q.RowI B o c l V) (t : Turn Z V V') (hT : Soft2 Z V) : Q.RowI B o c l V' := h.turn t (fun j q => by obtain ⟨cur, k⟩ := kindQ h q; exact hT.ne k (by decide) (by decide))
theorem xrow_soft {B : Nat} {o : Option Addr} {c : Nat} {l : List X.K3} {V V' : World} {Z : Nat → Prop} (h : X.RowI B o c l V) (t : Turn Z V V') (hT : Soft2 Z V) : X.RowI B o c l V' := h.turn t (fun j q => by obtain ⟨cur, k⟩ := kindX h j q; exact hT.ne k (by decide) (by decide))
theorem Rest.turn {B : Nat} {J : Pf} {V V' : World} {Z : Nat → Prop} (h : Rest B J V) (t : Turn Z V V') (hT : Soft2 Z V) : Rest B J V' :=
  ⟨srow_soft h.a t hT, trow_soft h.s t hT, srow_soft h.r t hT, srow_soft h.o t hT, srow_soft h.g t hT, qrow_soft h.m t hT, qrow_soft h.i t hT, qrow_soft h.p t hT, qrow_soft h.w t hT, fun R hR => ⟨srow_soft (h.ur R hR).1 t hT, (h.ur R hR).2⟩, xrow_soft h.x t hT⟩
theorem Rest.below {B : Nat} {J : Pf} {V V' : World} (h : Rest B J V) (t : Below V.heap.size V V') : Rest B J V' := h.turn (turn_below (S := fun _ => False) t) (fun _ q => q.elim)
abbrev URow (B : Nat) (J : Pf) (V : World) : Prop := G.RowI 65 6 B J.u.1 J.u.2.1 (J.u.2.2.map Ru.cells) V
/-- a policy in the making, in a block of its own -/
structure Tp (F : Pf) (b1 b2 b3 : Nat) (J : Pf) (w V : World) : Prop where
  b : Below w.heap.size w V
  h1 : V.heap[b1]? = some (.cells F.arr 28 (0, 0))
  h2 : ∃ c, V.heap[b2]? = some (.cells c 28 (0, 0)) ∧ c.size = 11
  h3 : V.heap[b3]? = some (.cells J.arr 28 (0, 0))
  n1 : b1 ≠ b3
  n2 : b2 ≠ b3
  l2 : w.heap.size ≤ b2
  l3 : w.heap.size ≤ b3
  rs : Rest w.heap.size J V
  u : URow w.heap.size J V
theorem Tp.below {F : Pf} {b1 b2 b3 : Nat} {J : Pf} {w V V' : World} (h : Tp F b1 b2 b3 J w V) (t : Below V.heap.size V V') : Tp F b1 b2 b3 J w V' := by
  obtain ⟨c, hc, hz⟩ := h.h2
  exact ⟨h.b.trans (t.mono h.b.size), (t.block _ (lt_of_heap h.h1)).trans h.h1, ⟨c, (t.block _ (lt_of_heap hc)).trans hc, hz⟩, (t.block _ (lt_of_heap h.h3)).trans h.h3, h.n1, h.n2, h.l2, h.l3, h.rs.below t, h.u.below t⟩
/-- the blocks alone -/
structure Tf (F : Pf) (b1 b2 b3 : Nat) (A : Array Value) (w V : World) : Prop where
  b : Below w.heap.size w V
  h1 : V.heap[b1]? = some (.cells F.arr 28 (0, 0))
  h2 : ∃ c, V.heap[b2]? = some (.cells c 28 (0, 0)) ∧ c.size = 11
  h3 : V.heap[b3]? = some (.cells A 28 (0, 0))
  n1 : b1 ≠ b3
  n2 : b2 ≠ b3
  l2 : w.heap.size ≤ b2
  l3 : w.heap.size ≤ b3
theorem Tp.tf {F : Pf} {b1 b2 b3 : Nat} {J : Pf} {w V : World} (h : Tp F b1 b2 b3 J w V) : Tf F b1 b2 b3 J.arr w V := ⟨h.b, h.h1, h.h2, h.h3, h.n1, h.n2, h.l2, h.l3⟩
theorem Tf.put {F : Pf} {b1 b2 b3 : Nat} {A : Array Value} {J' : Pf} {w V : World} (h : Tf F b1 b2 b3 A w V) (i : Nat) (v : Value) (e : A.setIfInBounds i v = J'.arr) (hr : Rest w.heap.size J' V) (hu : URow w.heap.size J' V) : Tp F b1 b2 b3 J' w (V.setCell ⟨b3, i, none⟩ v) := by
  have t : Turn (fun j => j = b3) V (V.setCell ⟨b3, i, none⟩ v) := set_turn b3 i v V
  have hT : Soft2 (fun j => j = b3) V := fun j q => by
    have e : j = b3 := q
    subst e
    exact ⟨_, 28, h.h3, .inl rfl⟩
  obtain ⟨c, hc, hz⟩ := h.h2
  refine ⟨h.b.trans (below_own t (fun j q => by rw [q]; exact h.l3) h.b.size), (t.block _ (lt_of_heap h.h1) h.n1).trans h.h1, ⟨c, (t.block _ (lt_of_heap hc) h.n2).trans hc, hz⟩, ?_, h.n1, h.n2, h.l2, h.l3, hr.turn t hT, hu.turn t (fun j q e2 => ?_)⟩
  · rw [heap_set h.h3, e]
  · obtain ⟨cur, k⟩ := kindG hu q
    rw [e2] at k
    exact cells_ne k h.h3 (by decide) rfl
/-- a field is written over -/
theorem Tp.put {F : Pf} {b1 b2 b3 : Nat} {J J' : Pf} {w V : World} (h : Tp F b1 b2 b3 J w V) (i : Nat) (v : Value) (e : J.arr.setIfInBounds i v = J'.arr) (hr : Rest w.heap.size J' V) (hu : URow w.heap.size J' V) : Tp F b1 b2 b3 J' w (V.setCell ⟨b3, i, none⟩ v) := h.tf.put i v e hr hu
theorem Tp.box {F : Pf} {b1 b2 b3 q : Nat} {J : Pf} {w V V' : World} {c : Array Value} (h : Tp F b1 b2 b3 J w V) (t : Turn (fun j => j = q) V V') (hq : V.heap[q]? = some (.cells c 65 (0, 0))) (hu : ∀ j, G.At J.u.1 j → j ≠ q) (hl : w.heap.size ≤ q) : Tp F b1 b2 b3 J w V' := by
  have hT : Soft2 (fun j => j = q) V := fun j e => by
    have e' : j = q := e
    subst e'
    exact ⟨_, 65, hq, .inr rfl⟩
  obtain ⟨c2, hc, hz⟩ := h.h2
  exact ⟨h.b.trans (below_own t (fun j q => by rw [q]; exact hl) h.b.size), (t.block _ (lt_of_heap h.h1) (cells_ne h.h1 hq (by decide))).trans h.h1, ⟨c2, (t.block _ (lt_of_heap hc) (cells_ne hc hq (by decide))).trans hc, hz⟩, (t.block _ (lt_of_heap h.h3) (cells_ne h.h3 hq (by decide))).trans h.h3, h.n1, h.n2, h.l2, h.l3, h.rs.turn t hT, h.u.turn t hu⟩
/-- rules are turned -/
theorem Tp.tfu {F : Pf} {b1 b2 b3 : Nat} {J : Pf} {w V V' : World} (h : Tp F b1 b2 b3 J w V) (t : Turn (G.At J.u.1) V V') : Tf F b1 b2 b3 J.arr w V' := by
  have ne : ∀ {b : Nat} {c : Array Value}, V.heap[b]? = some (.cells c 28 (0, 0)) → ¬ G.At J.u.1 b := fun k q => by obtain ⟨cur, k2⟩ := kindG h.u q; exact cells_ne k k2 (by decide) rfl
  obtain ⟨c, hc, hz⟩ := h.h2
  exact ⟨h.b.trans (below_own t (fun j q => (h.u.lt j q).1) h.b.size), (t.block _ (lt_of_heap h.h1) (ne h.h1)).trans h.h1, ⟨c, (t.block _ (lt_of_heap hc) (ne hc)).trans hc, hz⟩, (t.block _ (lt_of_heap h.h3) (ne h.h3)).trans h.h3, h.n1, h.n2, h.l2, h.l3⟩
/-- a rule was appended, and its slice is written into the block -/
theorem Tp.rule {F : Pf} {b1 b2 b3 : Nat} {J J' : Pf} {R : Ru} {w V V' : World} {g cap : Nat} (h : Tp F b1 b2 b3 J w V) (t : Turn (G.At J.u.1) V V') (r : G.RowI 65 6 w.heap.size (some ⟨g, 0, none⟩) cap (J.u.2.2.map Ru.cells ++ [R.cells]) V') (hR : S.RowI w.heap.size R.ro R.rc R.rl V ∧ (∃ b, R.d = .bool b) ∧ R.rl.length ≤ 1048576) (e : J' = { J with u := (some ⟨g, 0, none⟩, cap, J.u.2.2 ++ [R]) }) :
    Tp F b1 b2 b3 J' w (V'.setCell ⟨b3, 9, none⟩ (.slice (some ⟨g, 0, none⟩) (J.u.2.2.length + 1) cap)) := by
  subst e
  have hT : Soft2 (G.At J.u.1) V := fun j q => by obtain ⟨cur, k⟩ := kindG h.u q; exact ⟨cur, 65, k, .inr rfl⟩
  refine (h.tfu t).put 9 _ (by show _ = Pf.arr _; simp [Pf.arr]) ?_ ?_
  · have rs := h.rs.turn t hT
    exact ⟨rs.a, rs.s, rs.r, rs.o, rs.g, rs.m, rs.i, rs.p, rs.w, fun R' hR' => by
      rcases List.mem_append.1 hR' with q | q
      · exact rs.ur R' q
      · rw [List.mem_singleton] at q; subst q; exact ⟨srow_soft hR.1 t hT, hR.2⟩, rs.x⟩
  · show G.RowI 65 6 _ _ _ ((J.u.2.2 ++ [R]).map Ru.cells) V'
    rw [List.map_append]; exact r
theorem Tp.c3 {F : Pf} {b1 b2 b3 : Nat} {J : Pf} {w V : World} (h : Tp F b1 b2 b3 J w V) (i : Nat) : V.cell? ⟨b3, i, none⟩ = J.arr[i]? := by rw [Lib.cell_of_heap h.h3]
theorem Tp.c1 {F : Pf} {b1 b2 b3 : Nat} {J : Pf} {w V : World} (h : Tp F b1 b2 b3 J w V) (i : Nat) : V.cell? ⟨b1, i, none⟩ = F.arr[i]? := by rw [Lib.cell_of_heap h.h1]
theorem Tp.f3 {F : Pf} {b1 b2 b3 : Nat} {J : Pf} {w V : World} (h : Tp F b1 b2 b3 J w V) (i : Nat) : V.frozen? ⟨b3, i, none⟩ = false := Lib.frozen_of_heap h.h3 i
theorem row_ok {α : Type} {o : Option Addr} {c : Nat} {l : List α} {B z : Nat} (h : (o = none ∧ l = [] ∧ c = 0) ∨ ∃ g, o = some ⟨g, 0, none⟩ ∧ B ≤ g ∧ g < z ∧ l.length ≤ c) : l.length ≤ c ∧ (o = none → c = 0) := by
  rcases h with ⟨h1, h2, h3⟩ | ⟨g, h1, _, _, h4⟩
  · exact ⟨by rw [h2]; simp, fun _ => h3⟩
  · exact ⟨h4, fun q => by rw [q] at h1; cases h1⟩
theorem cells6 (us : List Ru) : ∀ k ∈ us.map Ru.cells, k.length = 6 := fun k hk => by
  obtain ⟨R, _, rfl⟩ := List.mem_map.1 hk
  rfl
theorem Rest.pin {B : Nat} {J : Pf} {V : World} (h : Rest B J V) (hu : URow B J V) : J.In V where
  a := ⟨h.a.ints, row_ok h.a.form⟩
  s := ⟨h.s.subs, row_ok h.s.form⟩
  r := ⟨h.r.ints, row_ok h.r.form⟩
  o := ⟨h.o.ints, row_ok h.o.form⟩
  g := ⟨h.g.ints, row_ok h.g.form⟩
  m := ⟨h.m.ints, row_ok h.m.form⟩
  i := ⟨h.i.ints, row_ok h.i.form⟩
  p := ⟨h.p.ints, row_ok h.p.form⟩
  w := ⟨h.w.ints, row_ok h.w.form⟩
  u := by
    have q := row_ok hu.form
    rw [List.length_map] at q
    exact ⟨⟨lies_row hu (cells6 _), fun R hR => ⟨⟨(h.ur R hR).1.ints, row_ok (h.ur R hR).1.form⟩, (h.ur R hR).2⟩⟩, q⟩
  x := ⟨h.x.ints, row_ok h.x.form⟩
/-- what twin tells: the same policy in new rows -/
structure Tw (F J : Pf) : Prop where
  a : J.a.2.2 = F.a.2.2
  s : J.s.2.2 = F.s.2.2
  r : J.r.2.2 = F.r.2.2
  o : J.o.2.2 = F.o.2.2
  g : J.g.2.2 = F.g.2.2
  m : J.m.2.2 = F.m.2.2
  i : J.i.2.2 = F.i.2.2
  p : J.p.2.2 = F.p.2.2
  w : J.w.2.2 = F.w.2.2
  u : J.u.2.2.map Ru.core = F.u.2.2.map Ru.core
  x : J.x.2.2 = F.x.2.2
def TwinIs (F : Pf) (w : World) (e : Ending) (w' : World) : Prop := ∃ J : Pf, e = .returned (.agg J.arr) ∧ Tw F J ∧ Rest w.heap.size J w' ∧ URow w.heap.size J w' ∧ Below w.heap.size w w'
/-- the beginning -/
def J0 (F : Pf) (o1 : Option Addr) (c1 : Nat) (o2 : Option Addr) (c2 : Nat) (o3 : Option Addr) (c3 : Nat) (o4 : Option Addr) (c4 : Nat) : Pf := ⟨(o1, c1, F.a.2.2), (none, 0, []), (o2, c2, F.r.2.2), (o3, c3, F.o.2.2), (o4, c4, F.g.2.2), (none, 0, []), (none, 0, []), (none, 0, []), (none, 0, []), (none, 0, []), (none, 0, [])⟩
theorem tp_start {F : Pf} {w V W w4 : World} {b1 b2 b3 c1 c2 c3 c4 : Nat} {o1 o2 o3 o4 : Option Addr} {c : Array Value} (hV : Below w.heap.size w V) (h1 : V.heap[b1]? = some (.cells F.arr 28 (0, 0))) (h2 : V.heap[b2]? = some (.cells c 28 (0, 0))) (hz : c.size = 11) (l2 : w.heap.size ≤ b2) (d : Below V.heap.size V w4) (qt : Turn (fun j => j = b3) w4 W) (qh : W.heap[b3]? = some (.cells (J0 F o1 c1 o2 c2 o3 c3 o4 c4).arr 28 (0, 0))) (hV3 : V.heap.size ≤ b3) (hn : ∀ j c, w4.heap[j]? = some (.cells c 9 (0, 0)) → j ≠ b3)
    (r1 : S.RowI V.heap.size o1 c1 F.a.2.2 w4) (r2 : S.RowI V.heap.size o2 c2 F.r.2.2 w4) (r3 : S.RowI V.heap.size o3 c3 F.o.2.2 w4) (r4 : S.RowI V.heap.size o4 c4 F.g.2.2 w4) : Tp F b1 b2 b3 (J0 F o1 c1 o2 c2 o3 c3 o4 c4) w W := by
  have dW : Below V.heap.size V W := d.trans (below_own qt (fun j q => by rw [q]; exact hV3) d.size)
  have hs := hV.size
  have l1 := lt_of_heap h1
  have l2' := lt_of_heap h2
  have rw' : ∀ {o : Option Addr} {c : Nat} {l : List ByteArray}, S.RowI V.heap.size o c l w4 → S.RowI w.heap.size o c l W := fun r => (r.turn qt (fun j q e => by obtain ⟨cur, k⟩ := kindS r q; exact hn j cur k e)).mono hs
  exact ⟨hV.trans (dW.mono hs), (dW.block _ l1).trans h1, ⟨c, (dW.block _ l2').trans h2, hz⟩, qh, by omega, by omega, l2, by omega, ⟨rw' r1, T.RowI.nil _ _, rw' r2, rw' r3, rw' r4, Q.RowI.nil _ _, Q.RowI.nil _ _, Q.RowI.nil _ _, Q.RowI.nil _ _, (fun R hR => by cases hR), X.RowI.nil _ _⟩, G.RowI.nil _ _ _ _⟩
end U
namespace S
end S
end Go.Proofs.Ytollaamlnddhcaa
set_option linter.unusedVariables false
set_option linter.unusedSimpArgs false
namespace Go.Proofs.Ytollaamlnddhcaa
open Go.RowKit Go.Maps
namespace U
theorem setRow_turn (V : World) (g : Nat) (c : Array Value) : Turn (fun j => j = g) V (V.setRow g c) := ⟨rfl, rfl, rfl, by simp [World.setRow], fun k _ hk => setRow_other V g k c hk⟩
theorem stay_fa3 {P : Program} {ops : Array Oper} {rest : List Oper} {o : Oper} {a : Act} {Q : Exit → Act → World → Prop} {w : World} {k : Nat} (ho : o.op = .fieldAddr 28 (.tmp 3) k) (h : Stay (wpList P ops Q (o :: rest) a w)) : wpList P ops Q (o :: rest) a w := h
theorem stay_fa1 {P : Program} {ops : Array Oper} {rest : List Oper} {o : Oper} {a : Act} {Q : Exit → Act → World → Prop} {w : World} {k : Nat} (ho : o.op = .fieldAddr 28 (.tmp 1) k) (h : Stay (wpList P ops Q (o :: rest) a w)) : wpList P ops Q (o :: rest) a w := h
end U
end Go.Proofs.Ytollaamlnddhcaa
set_option linter.unusedVariables false
set_option linter.unusedSimpArgs false
namespace Go.Proofs.Ytollaamlnddhcaa
open Go.RowKit Go.Maps
namespace U
/-- a policy of one's own, in a block -/
structure Ps (B q : Nat) (J : Pf) (V : World) : Prop where
  h : V.heap[q]? = some (.cells J.arr 28 (0, 0))
  l : B ≤ q
  rs : Rest B J V
  u : URow B J V
theorem Ps.below {B q : Nat} {J : Pf} {V V' : World} (p : Ps B q J V) (t : Below V.heap.size V V') : Ps B q J V' := ⟨(t.block _ (lt_of_heap p.h)).trans p.h, p.l, p.rs.below t, p.u.below t⟩
theorem Ps.pin {B q : Nat} {J : Pf} {V : World} (p : Ps B q J V) : J.In V := p.rs.pin p.u
theorem Ps.c {B q : Nat} {J : Pf} {V : World} (p : Ps B q J V) (i : Nat) : V.cell? ⟨q, i, none⟩ = J.arr[i]? := by rw [Lib.cell_of_heap p.h]
theorem Ps.f {B q : Nat} {J : Pf} {V : World} (p : Ps B q J V) (i : Nat) : V.frozen? ⟨q, i, none⟩ = false := Lib.frozen_of_heap p.h i
theorem ps_new {B : Nat} {J : Pf} {V : World} (hB : B ≤ V.heap.size) (rs : Rest B J V) (u : URow B J V) : Ps B V.heap.size J (V.alloc (.cells J.arr 28)) := by
  have b : Below V.heap.size V (V.alloc (.cells J.arr 28)) := (Below.refl _ _).alloc (Nat.le_refl _) _
  exact ⟨heap_alloc_new V _, hB, rs.below b, u.below b⟩
/-- a field is written over -/
theorem Ps.put {B q : Nat} {J' : Pf} {V : World} {A : Array Value} (h : V.heap[q]? = some (.cells A 28 (0, 0))) (l : B ≤ q) (i : Nat) (v : Value) (e : A.setIfInBounds i v = J'.arr) (rs : Rest B J' V) (u : URow B J' V) : Ps B q J' (V.setCell ⟨q, i, none⟩ v) := by
  have t : Turn (fun j => j = q) V (V.setCell ⟨q, i, none⟩ v) := set_turn q i v V
  have hT : Soft2 (fun j => j = q) V := fun j e => by
    have e' : j = q := e
    subst e'
    exact ⟨_, 28, h, .inl rfl⟩
  exact ⟨by rw [heap_set h, e], l, rs.turn t hT, u.turn t (fun j a e => by obtain ⟨cur, k⟩ := kindG u a; rw [e] at k; exact cells_ne k h (by decide) rfl)⟩
/-- only triples are turned -/
theorem Rest.turnx {B : Nat} {J : Pf} {V V' : World} {Z : Nat → Prop} (h : Rest B J V) (t : Turn Z V V') (hZ : ∀ j, Z j → ∃ c, V.heap[j]? = some (.cells c 42 (0, 0))) {o : Option Addr} {c : Nat} {l : List X.K3} (r : X.RowI B o c l V') : Rest B { J with x := (o, c, l) } V' := by
  have ks : ∀ {o : Option Addr} {c : Nat} {l : List ByteArray}, S.RowI B o c l V → S.RowI B o c l V' := fun r => r.turn t (fun j q z => by obtain ⟨cur, k⟩ := kindS r q; obtain ⟨c', k'⟩ := hZ j z; exact cells_ne k k' (by decide) rfl)
  have kq : ∀ {o : Option Addr} {c : Nat} {l : List K2}, Q.RowI B o c l V → Q.RowI B o c l V' := fun r => r.turn t (fun j q z => by obtain ⟨cur, k⟩ := kindQ r q; obtain ⟨c', k'⟩ := hZ j z; exact cells_ne k k' (by decide) rfl)
  exact ⟨ks h.a, h.s.turn t (fun j q z => by obtain ⟨cur, k⟩ := kindT h.s q; obtain ⟨c', k'⟩ := hZ j z; exact cells_ne k k' (by decide) rfl), ks h.r, ks h.o, ks h.g, kq h.m, kq h.i, kq h.p, kq h.w, fun R hR => ⟨ks (h.ur R hR).1, (h.ur R hR).2⟩, r⟩
/-- an except is appended -/
theorem Ps.appx {B q : Nat} {J : Pf} {V V' : World} {g cap : Nat} {k : X.K3} (p : Ps B q J V) (t : Turn (X.At J.x.1) V V') (r : X.RowI B (some ⟨g, 0, none⟩) cap (J.x.2.2 ++ [k]) V') : Ps B q { J with x := (some ⟨g, 0, none⟩, cap, J.x.2.2 ++ [k]) } (V'.setCell ⟨q, 10, none⟩ (.slice (some ⟨g, 0, none⟩) (J.x.2.2.length + 1) cap)) ∧ V'.heap[q]? = some (.cells J.arr 28 (0, 0)) := by
  have hZ : ∀ j, X.At J.x.1 j → ∃ c, V.heap[j]? = some (.cells c 42 (0, 0)) := fun j q => kindX p.rs.x j q
  have h' := (t.block q (lt_of_heap p.h) (fun z => by obtain ⟨c, k⟩ := hZ q z; exact cells_ne p.h k (by decide) rfl)).trans p.h
  exact ⟨Ps.put h' p.l 10 _ (by show _ = Pf.arr _; simp [Pf.arr]) (p.rs.turnx t hZ r) (p.u.turn t (fun j a z => by obtain ⟨cur, k⟩ := kindG p.u a; obtain ⟨c, k'⟩ := hZ j z; exact cells_ne k k' (by decide) rfl)), h'⟩
/-- a rule is appended -/
theorem Ps.appu {B q : Nat} {J : Pf} {V V' : World} {g cap : Nat} {R : Ru} (p : Ps B q J V) (t : Turn (G.At J.u.1) V V') (r : G.RowI 65 6 B (some ⟨g, 0, none⟩) cap (J.u.2.2.map Ru.cells ++ [R.cells]) V') : V'.heap[q]? = some (.cells J.arr 28 (0, 0)) ∧ Rest B J V' := by
  have hT : Soft2 (G.At J.u.1) V := fun j a => by obtain ⟨cur, k⟩ := kindG p.u a; exact ⟨cur, 65, k, .inr rfl⟩
  exact ⟨(t.block q (lt_of_heap p.h) (fun z => by obtain ⟨c, k⟩ := kindG p.u z; exact cells_ne p.h k (by decide) rfl)).trans p.h, p.rs.turn t hT⟩
/-- 8.5 by all triples of names -/
def alt (F : Pf) (t : X.K3) : Bool := alw F t.1 t.2.1 t.2.2
def trs (al ol sl : List ByteArray) : List X.K3 := sl.flatMap fun s => ol.flatMap fun o => al.map fun a => (s, o, a)
def Pf.trs (F : Pf) : List X.K3 := U.trs (fo F.a.2.2) (fo F.o.2.2) (fo (F.s.2.2.map (·.1)))
theorem filter_flatMap' {α β : Type} (l : List α) (g : α → List β) (p : β → Bool) : (l.flatMap g).filter p = l.flatMap (fun a => (g a).filter p) := by
  induction l with
  | nil => rfl
  | cons a r ih => rw [List.flatMap_cons, List.flatMap_cons, List.filter_append, ih]
theorem rel_trs (F : Pf) : rel F = F.trs.filter (alt F) := by
  unfold rel relA relS Pf.trs trs
  rw [fo_fos, filter_flatMap', List.flatMap_map]
  congr 1
  funext s
  rw [filter_flatMap']
  congr 1
  funext o
  rw [relO_eq, List.filter_map]
  rfl
theorem mem_trs {al ol sl : List ByteArray} {t : X.K3} : t ∈ trs al ol sl ↔ t.1 ∈ sl ∧ t.2.1 ∈ ol ∧ t.2.2 ∈ al := by
  unfold trs
  simp only [List.mem_flatMap, List.mem_map]
  constructor
  · rintro ⟨s, hs, o, ho, a, ha, rfl⟩; exact ⟨hs, ho, ha⟩
  · rintro ⟨hs, ho, ha⟩; exact ⟨t.1, hs, t.2.1, ho, t.2.2, ha, rfl⟩
/-- the same names and pairs -/
structure Nm (F J : Pf) : Prop where
  a : J.a.2.2 = F.a.2.2
  s : J.s.2.2 = F.s.2.2
  o : J.o.2.2 = F.o.2.2
  m : J.m.2.2 = F.m.2.2
  i : J.i.2.2 = F.i.2.2
  p : J.p.2.2 = F.p.2.2
  w : J.w.2.2 = F.w.2.2
theorem Tw.nm {F J : Pf} (h : Tw F J) : Nm F J := ⟨h.a, h.s, h.o, h.m, h.i, h.p, h.w⟩
theorem mtc_nm {F J : Pf} (h : Nm F J) (R : Ru) (ts to ta : ByteArray) : mtc J.po R ts to ta = mtc F.po R ts to ta := by
  unfold mtc
  simp only [Pf.po, h.a, h.s, h.o, h.m, h.i, h.p, h.w]
theorem trs_nm {F J : Pf} (h : Nm F J) : J.trs = F.trs := by unfold Pf.trs; rw [h.a, h.s, h.o]
theorem any_core {us vs : List Ru} {f g : Ru → Bool} (h : us.map Ru.core = vs.map Ru.core) (hf : ∀ R, f R = g R.core) (hg : ∀ R, g R.core = g R) : us.any f = vs.any g := by
  have e1 : us.any f = (us.map Ru.core).any g := by rw [List.any_map]; congr 1; funext R; exact hf R
  have e2 : vs.any g = (vs.map Ru.core).any g := by rw [List.any_map]; congr 1; funext R; exact (hg R).symm
  rw [e1, e2, h]
theorem rany_nm {F J : Pf} (h : Nm F J) {us vs : List Ru} (hu : us.map Ru.core = vs.map Ru.core) (ts to ta : ByteArray) (dn : Bool) : rany J ts to ta dn us = rany F ts to ta dn vs := by
  unfold rany
  exact any_core hu (fun R => by unfold rsay; rw [mtc_nm h]; rfl) (fun R => rfl)
theorem alw_tw {F J : Pf} (h : Nm F J) (hu : J.u.2.2.map Ru.core = F.u.2.2.map Ru.core) (ts to ta : ByteArray) : alw J ts to ta = (rany F ts to ta false F.u.2.2 && !rany F ts to ta true F.u.2.2 && !exc J.x.2.2 (ts, to, ta)) := by
  unfold alw
  rw [rany_nm h hu, rany_nm h hu]
theorem few_nm {F J : Pf} (h : Nm F J) : (fos J.s.2.2).length * ((fo J.o.2.2).length * (fo J.a.2.2).length) = (fos F.s.2.2).length * ((fo F.o.2.2).length * (fo F.a.2.2).length) := by rw [h.a, h.s, h.o]
theorem core_mem {us vs : List Ru} (h : us.map Ru.core = vs.map Ru.core) {R : Ru} (hR : R ∈ us) : ∃ R' ∈ vs, R'.core = R.core := by
  have : R.core ∈ us.map Ru.core := List.mem_map_of_mem hR
  rw [h] at this
  obtain ⟨R', h1, h2⟩ := List.mem_map.1 this
  exact ⟨R', h1, h2⟩
theorem Tw.fine {F J : Pf} {N : Nat} (h : Tw F J) (f : Fine F N) : Fine J N where
  n := f.n
  a := by rw [h.a]; exact f.a
  s := by rw [h.s]; exact f.s
  r := by rw [h.r]; exact f.r
  o := by rw [h.o]; exact f.o
  g := by rw [h.g]; exact f.g
  mi := by rw [h.m, h.i]; exact f.mi
  pw := by rw [h.p, h.w]; exact f.pw
  u := by have := congrArg List.length h.u; rw [List.length_map, List.length_map] at this; rw [this]; exact f.u
  x := by rw [h.x]; exact f.x
  za := by rw [h.a]; exact f.za
  zs := by rw [h.s]; exact f.zs
  zo := by rw [h.o]; exact f.zo
  zm := by rw [h.m, h.i]; exact f.zm
  zp := by rw [h.p, h.w]; exact f.zp
  zu := fun R hR => by
    obtain ⟨R', h1, h2⟩ := core_mem h.u hR
    have q := f.zu R' h1
    have e1 : R'.who = R.who := (congrArg Ru.who h2 : _)
    have e2 : R'.what = R.what := (congrArg Ru.what h2 : _)
    have e3 : R'.rl = R.rl := (congrArg Ru.rl h2 : _)
    rw [e1, e2, e3] at q
    exact q
  zx := by rw [h.x]; exact f.zx
theorem Fine.mono {F : Pf} {N M : Nat} (f : Fine F N) (h : N ≤ M) (hM : M ≤ 1048576) : Fine F M :=
  ⟨hM, Nat.le_trans f.a h, Nat.le_trans f.s h, Nat.le_trans f.r h, Nat.le_trans f.o h, Nat.le_trans f.g h, Nat.le_trans f.mi h, Nat.le_trans f.pw h, Nat.le_trans f.u h, Nat.le_trans f.x h, fun a ha => Nat.le_trans (f.za a ha) h, fun a ha => Nat.le_trans (f.zs a ha) h, fun a ha => Nat.le_trans (f.zo a ha) h, fun q hq => ⟨Nat.le_trans (f.zm q hq).1 h, Nat.le_trans (f.zm q hq).2 h⟩, fun q hq => ⟨Nat.le_trans (f.zp q hq).1 h, Nat.le_trans (f.zp q hq).2 h⟩, fun R hR => ⟨Nat.le_trans (f.zu R hR).1 h, Nat.le_trans (f.zu R hR).2.1 h, fun a ha => Nat.le_trans ((f.zu R hR).2.2 a ha) h⟩, fun t ht => ⟨Nat.le_trans (f.zx t ht).1 h, Nat.le_trans (f.zx t ht).2.1 h, Nat.le_trans (f.zx t ht).2.2 h⟩⟩
end U
end Go.Proofs.Ytollaamlnddhcaa
