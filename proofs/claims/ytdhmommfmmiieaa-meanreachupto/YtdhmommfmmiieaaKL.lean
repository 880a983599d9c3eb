import Derived.Test.YtdhmommfmmiieaaKH
import Derived.Test.YtdhmommfmmiieaaPmk
import Derived.ArgAppend
import Derived.Deep.MidRow
set_option linter.unusedVariables false
set_option linter.unusedSimpArgs false
namespace Go.Proofs.Ytdhmommfmmiieaa
open Go.RowKit Go.Maps
namespace U
/-- more triples of names than a right policy can have -/
def vst (a b c : Nat) : Bool := decide (65536 < a) || decide (65536 < b) || decide (65536 < c) || decide (65536 < a * b) || decide (65536 < a * b * c)
theorem vst1 {a b c : Nat} (h : 65536 < (a : Int)) : true = vst a b c := by
  have h' : 65536 < a := by omega
  simp [vst, h']
theorem vst2 {a b c : Nat} (h : 65536 < (b : Int)) : true = vst a b c := by
  have h' : 65536 < b := by omega
  simp [vst, h']
theorem vst3 {a b c : Nat} (h : 65536 < (c : Int)) : true = vst a b c := by
  have h' : 65536 < c := by omega
  simp [vst, h']
theorem wmul {a b : Nat} (ha : (a : Int) ≤ 65536) (hb : (b : Int) ≤ 65536) : wrap64 ((a : Int) * (b : Int)) = ((a * b : Nat) : Int) := by
  have h1 : a * b ≤ 65536 * 65536 := Nat.mul_le_mul (by omega) (by omega)
  rw [← Int.natCast_mul]
  unfold wrap64
  omega
theorem vst4 {a b c : Nat} (ha : (a : Int) ≤ 65536) (hb : (b : Int) ≤ 65536) (h : 65536 < wrap64 ((a : Int) * (b : Int))) : true = vst a b c := by
  rw [wmul ha hb] at h
  have h' : 65536 < a * b := by omega
  simp [vst, h']
theorem vst5 {a b c : Nat} (ha : (a : Int) ≤ 65536) (hb : (b : Int) ≤ 65536) (hc : (c : Int) ≤ 65536) (h : wrap64 ((a : Int) * (b : Int)) ≤ 65536) : (decide (65536 < (a : Int)) || decide (65536 < (b : Int)) || decide (65536 < (c : Int)) || decide (65536 < wrap64 ((a : Int) * (b : Int))) || decide (65536 < wrap64 (wrap64 ((a : Int) * (b : Int)) * (c : Int)))) = vst a b c := by
  rw [wmul ha hb] at h ⊢
  rw [wmul h hc]
  have e1 : decide (65536 < (a : Int)) = decide (65536 < a) := by congr 1; apply propext; omega
  have e2 : decide (65536 < (b : Int)) = decide (65536 < b) := by congr 1; apply propext; omega
  have e3 : decide (65536 < (c : Int)) = decide (65536 < c) := by congr 1; apply propext; omega
  have e4 : decide (65536 < ((a * b : Nat) : Int)) = decide (65536 < a * b) := by congr 1; apply propext; omega
  have e5 : decide (65536 < ((a * b * c : Nat) : Int)) = decide (65536 < a * b * c) := by congr 1; apply propext; omega
  rw [e1, e2, e3, e4, e5]
  rfl
set_option maxRecDepth 100000 in
set_option maxHeartbeats 4000000 in
theorem vast_any (F : Pf) (w : World) (hs : F.Small) : Calls Try.prog 26 #[.agg #[.slice F.a.1 F.a.2.2.length F.a.2.1, .slice F.s.1 F.s.2.2.length F.s.2.1, .slice F.r.1 F.r.2.2.length F.r.2.1, .slice F.o.1 F.o.2.2.length F.o.2.1, .slice F.g.1 F.g.2.2.length F.g.2.1, .slice F.m.1 F.m.2.2.length F.m.2.1, .slice F.i.1 F.i.2.2.length F.i.2.1, .slice F.p.1 F.p.2.2.length F.p.2.1, .slice F.w.1 F.w.2.2.length F.w.2.1, .slice F.u.1 F.u.2.2.length F.u.2.1, .slice F.x.1 F.x.2.2.length F.x.2.1]] w fun e w' => e = .returned (.bool (vst F.s.2.2.length F.o.2.2.length F.a.2.2.length)) ∧ Below w.heap.size w w' := by
  have ha : (F.s.2.2.length : Int) ≤ 1048576 := by have := hs.s; omega
  have hb : (F.o.2.2.length : Int) ≤ 1048576 := by have := hs.o; omega
  have hc : (F.a.2.2.length : Int) ≤ 1048576 := by have := hs.a; omega
  clear hs
  go_enter Try.func26, Try.ntmps26
  have hq1 := heap_alloc_new w (.cells #[.slice F.a.1 F.a.2.2.length F.a.2.1, .slice F.s.1 F.s.2.2.length F.s.2.1, .slice F.r.1 F.r.2.2.length F.r.2.1, .slice F.o.1 F.o.2.2.length F.o.2.1, .slice F.g.1 F.g.2.2.length F.g.2.1, .slice F.m.1 F.m.2.2.length F.m.2.1, .slice F.i.1 F.i.2.2.length F.i.2.1, .slice F.p.1 F.p.2.2.length F.p.2.1, .slice F.w.1 F.w.2.2.length F.w.2.1, .slice F.u.1 F.u.2.2.length F.u.2.1, .slice F.x.1 F.x.2.2.length F.x.2.1] 34)
  have hbV : Hid (Below w.heap.size w (w.alloc (.cells #[.slice F.a.1 F.a.2.2.length F.a.2.1, .slice F.s.1 F.s.2.2.length F.s.2.1, .slice F.r.1 F.r.2.2.length F.r.2.1, .slice F.o.1 F.o.2.2.length F.o.2.1, .slice F.g.1 F.g.2.2.length F.g.2.1, .slice F.m.1 F.m.2.2.length F.m.2.1, .slice F.i.1 F.i.2.2.length F.i.2.1, .slice F.p.1 F.p.2.2.length F.p.2.1, .slice F.w.1 F.w.2.2.length F.w.2.1, .slice F.u.1 F.u.2.2.length F.u.2.1, .slice F.x.1 F.x.2.2.length F.x.2.1] 34)).drew) := ((Below.refl _ _).alloc (Nat.le_refl _) _).trans ⟨rfl, rfl, rfl, Nat.le_refl _, fun _ _ => rfl⟩
  have m0 : (w.alloc (.cells #[.slice F.a.1 F.a.2.2.length F.a.2.1, .slice F.s.1 F.s.2.2.length F.s.2.1, .slice F.r.1 F.r.2.2.length F.r.2.1, .slice F.o.1 F.o.2.2.length F.o.2.1, .slice F.g.1 F.g.2.2.length F.g.2.1, .slice F.m.1 F.m.2.2.length F.m.2.1, .slice F.i.1 F.i.2.2.length F.i.2.1, .slice F.p.1 F.p.2.2.length F.p.2.1, .slice F.w.1 F.w.2.2.length F.w.2.1, .slice F.u.1 F.u.2.2.length F.u.2.1, .slice F.x.1 F.x.2.2.length F.x.2.1] 34)).cell? ⟨w.heap.size, 0, none⟩ = some (.slice F.a.1 F.a.2.2.length F.a.2.1) := by rw [Lib.cell_of_heap hq1]; rfl
  have m1 : (w.alloc (.cells #[.slice F.a.1 F.a.2.2.length F.a.2.1, .slice F.s.1 F.s.2.2.length F.s.2.1, .slice F.r.1 F.r.2.2.length F.r.2.1, .slice F.o.1 F.o.2.2.length F.o.2.1, .slice F.g.1 F.g.2.2.length F.g.2.1, .slice F.m.1 F.m.2.2.length F.m.2.1, .slice F.i.1 F.i.2.2.length F.i.2.1, .slice F.p.1 F.p.2.2.length F.p.2.1, .slice F.w.1 F.w.2.2.length F.w.2.1, .slice F.u.1 F.u.2.2.length F.u.2.1, .slice F.x.1 F.x.2.2.length F.x.2.1] 34)).cell? ⟨w.heap.size, 1, none⟩ = some (.slice F.s.1 F.s.2.2.length F.s.2.1) := by rw [Lib.cell_of_heap hq1]; rfl
  have m3 : (w.alloc (.cells #[.slice F.a.1 F.a.2.2.length F.a.2.1, .slice F.s.1 F.s.2.2.length F.s.2.1, .slice F.r.1 F.r.2.2.length F.r.2.1, .slice F.o.1 F.o.2.2.length F.o.2.1, .slice F.g.1 F.g.2.2.length F.g.2.1, .slice F.m.1 F.m.2.2.length F.m.2.1, .slice F.i.1 F.i.2.2.length F.i.2.1, .slice F.p.1 F.p.2.2.length F.p.2.1, .slice F.w.1 F.w.2.2.length F.w.2.1, .slice F.u.1 F.u.2.2.length F.u.2.1, .slice F.x.1 F.x.2.2.length F.x.2.1] 34)).cell? ⟨w.heap.size, 3, none⟩ = some (.slice F.o.1 F.o.2.2.length F.o.2.1) := by rw [Lib.cell_of_heap hq1]; rfl
  clear hq1
  go_wp2_with fail
  go_region
  clear m0 m1 m3
  go_wp2_with fail
  all_goals go_ret
  all_goals refine ⟨?_, hbV.out⟩
  all_goals (refine congrArg (Ending.returned ∘ Value.bool) (?_ : _ = vst F.s.2.2.length F.o.2.2.length F.a.2.2.length))
  all_goals clear hbV
  all_goals first | exact vst5 (by assumption) (by assumption) (by assumption) (by assumption) | exact vst4 (by assumption) (by assumption) (by assumption) | exact vst3 (by assumption) | exact vst2 (by assumption) | exact vst1 (by assumption)
end U
end Go.Proofs.Ytdhmommfmmiieaa
set_option linter.unusedVariables false
set_option linter.unusedSimpArgs false
namespace Go.Proofs.Ytdhmommfmmiieaa
open Go.RowKit Go.Maps
namespace U
theorem fo_fos_take (ss : List Sb) (n : Nat) : fo ((ss.map (·.1)).take n) = (fos (ss.take n)).map (·.1) := by
  induction n with
  | zero => simp [fo, fos]
  | succ n ih =>
    cases h : ss[n]? with
    | none =>
      have e1 : ss.take (n + 1) = ss.take n := by rw [List.take_add_one, h]; simp
      have e2 : (ss.map (·.1)).take (n + 1) = (ss.map (·.1)).take n := by rw [List.take_add_one, List.getElem?_map, h]; simp
      rw [e1, e2]; exact ih
    | some s =>
      rw [fo_take (show (ss.map (·.1))[n]? = some s.1 by rw [List.getElem?_map, h]; rfl), fos_take h, ih]
      by_cases q : isIn ((fos (ss.take n)).map (·.1)) s.1 = true
      · rw [if_pos q, if_pos q]
      · rw [if_neg q, if_neg q, List.map_append]; rfl
theorem fo_fos (ss : List Sb) : fo (ss.map (·.1)) = (fos ss).map (·.1) := by
  have := fo_fos_take ss ss.length
  rw [List.take_length, List.take_of_length_le (by rw [List.length_map]; exact Nat.le_refl _)] at this
  exact this
theorem relO_eq_take (F : Pf) (al : List ByteArray) (s o : ByteArray) (n : Nat) (h : n ≤ al.length) : ((List.range n).filter (fun k => alw F s o (al.getD k ⟨#[]⟩))).map (fun k => (s, o, al.getD k ⟨#[]⟩)) = ((al.take n).filter (alw F s o)).map (fun a => (s, o, a)) := by
  induction n with
  | zero => simp
  | succ n ih =>
    obtain ⟨a, ha⟩ : ∃ a, al[n]? = some a := ⟨_, List.getElem?_eq_getElem (by omega)⟩
    have hg : al.getD n ⟨#[]⟩ = a := by simp [List.getD, ha]
    rw [List.range_succ, List.filter_append, List.map_append, ih (by omega), List.take_add_one, ha, List.filter_append, List.map_append]
    congr 1
    by_cases q : alw F s o a = true
    · rw [List.filter_cons_of_pos (by rw [hg]; exact q)]
      simp [q, List.getD, ha]
    · rw [List.filter_cons_of_neg (by rw [hg]; exact q)]
      simp [q]
theorem relO_eq (F : Pf) (al : List ByteArray) (s o : ByteArray) : relO F al s o = (al.filter (alw F s o)).map (fun a => (s, o, a)) := by
  have e := relO_eq_take F al s o al.length (Nat.le_refl _)
  rw [List.take_length] at e
  rw [← e]
  unfold relO plw
  rw [List.map_map]
  rfl
/-- a policy that is not vast has few triples of names -/
theorem vst_few {F : Pf} (h : vst F.s.2.2.length F.o.2.2.length F.a.2.2.length = false) : (fos F.s.2.2).length * ((fo F.o.2.2).length * (fo F.a.2.2).length) ≤ 65536 := by
  have q1 := fos_len F.s.2.2 F.s.2.2.length
  have q2 := fo_len F.o.2.2 F.o.2.2.length
  have q3 := fo_len F.a.2.2 F.a.2.2.length
  rw [List.take_length] at q1 q2 q3
  have e : ¬ 65536 < F.s.2.2.length * F.o.2.2.length * F.a.2.2.length := fun q => by simp [vst, q] at h
  have m1 := Nat.mul_le_mul q1 (Nat.mul_le_mul q2 q3)
  rw [← Nat.mul_assoc F.s.2.2.length] at m1
  omega
theorem xints_cut {ao : Option Addr} {xs ys : List X.K3} {w : World} (h : X.Ints ao (xs ++ ys) w) : X.Ints ao xs w := by
  rcases h with h | ⟨b, off, h1, h2, h3⟩
  · exact .inl (List.append_eq_nil_iff.1 h).1
  · exact .inr ⟨b, off, h1, h2, fun i k q => h3 i k (by rw [List.getElem?_append_left (List.getElem?_eq_some_iff.1 q).1]; exact q)⟩
/-- all that is asked of a policy's sizes, by a number -/
structure Fine (F : Pf) (N : Nat) : Prop where
  n : N ≤ 1048576
  a : F.a.2.2.length ≤ N
  s : F.s.2.2.length ≤ N
  r : F.r.2.2.length ≤ N
  o : F.o.2.2.length ≤ N
  g : F.g.2.2.length ≤ N
  mi : F.m.2.2.length + F.i.2.2.length ≤ N
  pw : F.p.2.2.length + F.w.2.2.length ≤ N
  u : F.u.2.2.length ≤ N
  x : F.x.2.2.length ≤ N
  za : ∀ a ∈ F.a.2.2, a.size ≤ N
  zs : ∀ s ∈ F.s.2.2, s.1.size ≤ N
  zo : ∀ o ∈ F.o.2.2, o.size ≤ N
  zm : ∀ q ∈ F.m.2.2 ++ F.i.2.2, q.1.size ≤ N ∧ q.2.size ≤ N
  zp : ∀ q ∈ F.p.2.2 ++ F.w.2.2, q.1.size ≤ N ∧ q.2.size ≤ N
  zu : ∀ R ∈ F.u.2.2, R.who.size ≤ N ∧ R.what.size ≤ N ∧ ∀ a ∈ R.rl, a.size ≤ N
  zx : ∀ t ∈ F.x.2.2, t.1.size ≤ N ∧ t.2.1.size ≤ N ∧ t.2.2.size ≤ N
theorem Fine.small {F : Pf} {N : Nat} (h : Fine F N) : F.Small := by
  have := h.n; have := h.a; have := h.s; have := h.r; have := h.o; have := h.g; have := h.mi; have := h.pw; have := h.u; have := h.x
  exact ⟨by omega, by omega, by omega, by omega, by omega, by omega, by omega, by omega, by omega, by omega, by omega⟩
theorem le2 {a b N : Nat} (h : a ≤ N ∧ b ≤ N) (hn : N ≤ 1048576) : a ≤ 1048576 ∧ b ≤ 1048576 := ⟨by omega, by omega⟩
theorem Fine.po {F : Pf} {N : Nat} (h : Fine F N) : F.po.Small := by
  have hn := h.n
  exact ⟨Nat.le_trans h.a hn, Nat.le_trans h.s hn, Nat.le_trans h.o hn, Nat.le_trans h.mi hn, Nat.le_trans h.pw hn, fun q hq => le2 (h.zm q hq) hn, fun q hq => le2 (h.zp q hq) hn⟩
theorem Fine.okx {F : Pf} {N : Nat} (h : Fine F N) : ∀ t ∈ F.x.2.2, X.okk t := fun t ht => by
  have hn := h.n
  obtain ⟨q1, q2, q3⟩ := h.zx t ht
  exact ⟨okk_of (by omega), okk_of (by omega), okk_of (by omega)⟩
theorem Fine.oku {F : Pf} {N : Nat} (h : Fine F N) : ∀ R ∈ F.u.2.2, S.okk R.who ∧ S.okk R.what ∧ ∀ a ∈ R.rl, S.okk a := fun R hR => by
  have hn := h.n
  obtain ⟨q1, q2, q3⟩ := h.zu R hR
  exact ⟨okk_of (by omega), okk_of (by omega), fun a ha => okk_of (Nat.le_trans (q3 a ha) hn)⟩
theorem rel_call (F : Pf) (N : Nat) (w : World) (h : F.In w) (f : Fine F N) (hv : (fos F.s.2.2).length * ((fo F.o.2.2).length * (fo F.a.2.2).length) ≤ 65536) : Calls Try.prog 28 #[.agg F.arr] w fun e w' => RelIs F w e w' :=
  relation_any F w h f.small f.po (fun a ha => Nat.le_trans (f.za a ha) f.n) (fun y hy => Nat.le_trans (f.zo y hy) f.n) (fun s hs => Nat.le_trans (f.zs s hs) f.n) f.okx f.oku (by omega)
theorem alw_call (F : Pf) (N : Nat) (ts to ta : ByteArray) (w : World) (h : F.In w) (f : Fine F N) (hz : ts.size ≤ 1048576 ∧ to.size ≤ 1048576 ∧ ta.size ≤ 1048576) : Calls Try.prog 22 #[.agg F.arr, .agg #[.string ts, .string to, .string ta]] w fun e w' => e = .returned (.bool (alw F ts to ta)) ∧ Below w.heap.size w w' :=
  allows_any F ts to ta w h f.small f.po hz f.okx f.oku
theorem vast_call (F : Pf) (N : Nat) (w : World) (f : Fine F N) : Calls Try.prog 26 #[.agg F.arr] w fun e w' => e = .returned (.bool (vst F.s.2.2.length F.o.2.2.length F.a.2.2.length)) ∧ Below w.heap.size w w' := vast_any F w f.small
/-- stops of a walk -/
theorem stay_load {P : Program} {ops : Array Oper} {rest : List Oper} {o : Oper} {a : Act} {Q : Exit → Act → World → Prop} {w : World} (t : TypeId) (x : Operand) (ho : o.op = .load t x) (h : Stay (wpList P ops Q (o :: rest) a w)) : wpList P ops Q (o :: rest) a w := h
theorem stay_store {P : Program} {ops : Array Oper} {rest : List Oper} {o : Oper} {a : Act} {Q : Exit → Act → World → Prop} {w : World} (t : TypeId) (x y : Operand) (ho : o.op = .store t x y) (h : Stay (wpList P ops Q (o :: rest) a w)) : wpList P ops Q (o :: rest) a w := h
/-- a load of a whole block, at a guarded operation too -/
theorem wpList_load_w {P : Program} {ops : Array Oper} {rest : List Oper} {o : Oper} {a : Act} {w : World} {Q : Exit → Act → World → Prop} (hw : Region.wanted o (yielded ops a.tmps) = true) (ty : TypeId) (x : Operand) (ho : o.op = .load ty x)
    (g : Nat) (hx : a.eval x = .pointer (some ⟨g, 0, none⟩)) (t : TypeId) (cs : Array Value) (fr : Nat × Nat) (d : TypeDesc) (hg : w.heap[g]? = some (.cells cs t fr))
    (hu : P.underlying ty = some d) (hd : (match d with | .struct _ | .array _ _ => true | _ => false) = true) (hi : (P.info? ty).map (·.size) = some cs.size)
    (h : wpList P ops Q rest (a.put o.dst (.agg cs)) w) : wpList P ops Q (o :: rest) a w :=
  wpList_step fun K hK => by rw [if_pos hw]; exact wp_load_row ty x ho g hx t cs fr d hg hu hd hi (hK _ _ h)
theorem size_arr (F : Pf) : (Try.prog.info? 34).map (·.size) = some F.arr.size := by
  have : (Try.prog.info? 34).map (·.size) = some 11 := by kernel_rfl
  rw [this]; rfl
end U
end Go.Proofs.Ytdhmommfmmiieaa
set_option linter.unusedVariables false
set_option linter.unusedSimpArgs false
namespace Go.Proofs.Ytdhmommfmmiieaa
open Go.RowKit Go.Maps
namespace X
theorem flat_set3 (zs : List K3) (i : Nat) (k : K3) : (zs.set i k).flatMap cells = (((zs.flatMap cells).set (i * 3) (.string k.1)).set (i * 3 + 1) (.string k.2.1)).set (i * 3 + 2) (.string k.2.2) := by
  induction zs generalizing i with
  | nil => simp
  | cons z r ih =>
    cases i with
    | zero => simp [cells]
    | succ i =>
      have e : (i + 1) * 3 = i * 3 + 1 + 1 + 1 := by omega
      rw [List.set_cons_succ, List.flatMap_cons, List.flatMap_cons, ih, e]
      simp [cells]
theorem put3 {B : Nat} {g cap : Nat} {zs : List K3} {w : World} (h : RowI B (some ⟨g, 0, none⟩) cap zs w) (i : Nat) (k : K3) : RowI B (some ⟨g, 0, none⟩) cap (zs.set i k) (w.setCells g (i * 3) [.string k.1, .string k.2.1, .string k.2.2]) := by
  rcases h.2 with ⟨hv, h0⟩ | ⟨g', cap', cur, hv, hb, hg, h1, h2, h3, h4⟩
  · cases hv
  simp only [Value.slice.injEq, Option.some.injEq] at hv
  obtain ⟨he, _, rfl⟩ := hv
  cases he
  have hl := h.1
  refine ⟨by rw [flat_set3]; simpa using hl, .inr ⟨g, cap, ((cur.setIfInBounds (i * 3) (.string k.1)).setIfInBounds (i * 3 + 1) (.string k.2.1)).setIfInBounds (i * 3 + 2) (.string k.2.2), by simp, hb, ?_, by simpa using h1, by simpa using h2, by simpa using h3, ?_⟩⟩
  · simp [World.setCells, World.setCell, Array.getElem?_modify, hg]
  · rw [flat_set3, Array.toList_setIfInBounds, Array.toList_setIfInBounds, Array.toList_setIfInBounds]
    simp only [List.length_set]
    rw [List.take_set, List.take_set, List.take_set, h4]
theorem put3_turn (w : World) (g o : Nat) (vs : List Value) : Turn (fun j => j = g) w (w.setCells g o vs) := by
  induction vs generalizing w o with
  | nil => exact Turn.refl _ _
  | cons v r ih => exact ((Turn.refl (fun j => j = g) w).setCell (p := ⟨g, o, none⟩) (fun _ => rfl) v).trans (ih _ _)
theorem there3 {B : Nat} {g cap : Nat} {zs : List K3} {w : World} (h : RowI B (some ⟨g, 0, none⟩) cap zs w) {i : Nat} (hi : i < zs.length) : w.there g (i * 3) 3 := by
  obtain ⟨k, hk⟩ : ∃ k, zs[i]? = some k := ⟨_, List.getElem?_eq_getElem hi⟩
  obtain ⟨g', e, ⟨d1, d2, d3⟩, _⟩ := row_at h hk
  cases e
  rcases h.2 with ⟨hv, h0⟩ | ⟨g', cap', cur, hv, hb, hg, _⟩
  · cases hv
  simp only [Value.slice.injEq, Option.some.injEq] at hv
  obtain ⟨he, _⟩ := hv
  cases he
  intro j hj
  refine ⟨?_, Lib.frozen_of_heap hg _⟩
  match j, hj with
  | 0, _ => rw [Nat.add_zero, d1]; rfl
  | 1, _ => rw [d2]; rfl
  | 2, _ => rw [d3]; rfl
theorem Ints.turn {to : Option Addr} {xs : List K3} {w w' : World} {S : Nat → Prop} (h : Ints to xs w) (t : Turn S w w') (hS : ∀ b off, to = some ⟨b, off, none⟩ → ¬ S b) : Ints to xs w' := by
  rcases h with h | ⟨b, off, h1, h2, h3⟩
  · exact .inl h
  · have hc : ∀ o, w'.cell? ⟨b, o, none⟩ = w.cell? ⟨b, o, none⟩ := fun o => by
      have := t.block b h2 (hS b off h1)
      unfold World.cell?
      simp only [this]
    exact .inr ⟨b, off, h1, Nat.lt_of_lt_of_le h2 t.size, fun i k q => ⟨(hc _).trans (h3 i k q).1, (hc _).trans (h3 i k q).2.1, (hc _).trans (h3 i k q).2.2⟩⟩
theorem Ints.left {to : Option Addr} {xs ys : List K3} {w : World} (h : Ints to (xs ++ ys) w) : Ints to xs w := U.xints_cut h
/-- append of one triple: and what was there stays -/
theorem wpList_app1k (w0 : World) {ops : Array Oper} {rest : List Oper} {o : Oper} {a : Act} {Q : Exit → Act → World → Prop} (hgd : o.guard = none) (s x : Operand)
    (ho : o.op = .call { callee := .builtin .append, args := #[s, x], argTypes := #[32, 32] }) (B : Nat) (ao : Option Addr) (cap n : Nat) (zs : List K3) (k : K3) (t : TypeId) (c : Nat) (hzn : Hid (zs.length = n)) (hs : a.eval s = .slice ao n cap) (hrow : RowI B ao cap zs w0)
    (hx : a.eval x = .slice (some ⟨w0.heap.size, 0, none⟩) 1 c) (hb : Hid (zs.length < 1099511627776)) (hB : B ≤ w0.heap.size)
    (h : ∀ g cap' w', RowI B (some ⟨g, 0, none⟩) cap' (zs ++ [k]) w' → Turn (At ao) w0 w' → (ao = some ⟨g, 0, none⟩ ∨ w0.heap.size ≤ g) → Ints ao zs w' → wpList Try.prog ops Q rest (a.put o.dst (.slice (some ⟨g, 0, none⟩) (n + 1) cap')) w') :
    wpList Try.prog ops Q (o :: rest) a (w0.alloc (.cells #[.string k.1, .string k.2.1, .string k.2.2] t)) := by
  obtain ⟨i0, hi, hz0, hz1, hz2⟩ := info_parts infoE
  have hzn' := hzn.out
  subst hzn'
  rcases Nat.lt_or_ge cap (zs.length + 1) with hcap | hcap
  · have hi0 : Ints ao zs (w0.alloc (.cells #[.string k.1, .string k.2.1, .string k.2.2] t)) := hrow.ints.turn (S := fun _ => False) ((Turn.refl (fun _ => False) w0).alloc _) (fun _ _ _ q => q)
    refine wpList_append_grows _ hgd s x 32 ho 36 i0 (.agg #[.string ByteArray.empty, .string ByteArray.empty, .string ByteArray.empty]) 3 48 Try.underlying32 hi hz0 hz1 hz2 rfl (by decide) ao zs.length cap (zs.flatMap cells) hs (fun e => ?_) (by rw [flat_len]) (fun ad q j u hj => ?_) ⟨w0.heap.size, 0, none⟩ 1 c [.string k.1, .string k.2.1, .string k.2.2] hx rfl (three_new _ _ _ _ _) (by simp [Value.oneCell']) hcap (by have := hb.out; unfold maxLen; omega) (by have := hb.out; omega) ?_
    · rcases hrow.form with ⟨_, e1, e2⟩ | ⟨g, e', _⟩
      · rw [e1]; exact ⟨rfl, e2⟩
      · rw [e] at e'; cases e'
    · have hjl := (List.getElem?_eq_some_iff.1 hj).1
      rw [flat_len] at hjl
      obtain ⟨k', hk⟩ : ∃ k', zs[j / 3]? = some k' := ⟨_, List.getElem?_eq_getElem (by omega)⟩
      obtain ⟨b, off, e, _, hc1, hc2, hc3⟩ := hi0.at hk
      rw [q] at e; cases e
      obtain ⟨e1, e2, e3⟩ := flat_at zs (j / 3) hk
      rw [add_off]
      have hm : j % 3 = 0 ∨ j % 3 = 1 ∨ j % 3 = 2 := by omega
      rcases hm with hm | hm | hm
      · rw [show j = j / 3 * 3 by omega] at hj ⊢
        rw [e1] at hj; rw [hc1]; exact hj
      · rw [show j = j / 3 * 3 + 1 by omega] at hj ⊢
        rw [e2] at hj; rw [← Nat.add_assoc, hc2]; exact hj
      · rw [show j = j / 3 * 3 + 2 by omega] at hj ⊢
        rw [e3] at hj; rw [← Nat.add_assoc, hc3]; exact hj
    · intro v' w' r hg
      have r' : w'.ownsRow (w0.heap.size + 1) 36 3 v' (zs.length + 1) ((zs ++ [k]).flatMap cells) := by rw [List.flatMap_append]; simpa [cells] using r
      obtain ⟨g, cap', rfl, hg1, hg2⟩ := World.ownsRow.form r' (by omega)
      have t0 : Turn (fun _ => False) w0 w' := ((Turn.refl (fun _ => False) w0).alloc _).grown hg (fun j hj _ => by cases hj)
      refine h g cap' w' ?_ (t0.mono (fun _ _ q => q.elim)) (.inr (by omega)) (hrow.ints.turn t0 (fun _ _ _ q => q))
      have : RowI (w0.heap.size + 1) (some ⟨g, 0, none⟩) cap' (zs ++ [k]) w' := by unfold RowI; rw [List.length_append]; exact r'
      exact this.mono (by omega)
  · rcases hrow.form with ⟨_, e1, e2⟩ | ⟨g, rfl, hgB, hgl, _⟩
    · rw [e2] at hcap; omega
    · refine wpList_append_fits _ hgd s x 32 ho B 36 i0 3 Try.underlying32 hi hz1 g zs.length cap (zs.flatMap cells) hs (World.ownsRow.alloc hrow _) ⟨w0.heap.size, 0, none⟩ 1 c [.string k.1, .string k.2.1, .string k.2.2] hx rfl (three_new _ _ _ _ _) (by simp [Value.oneCell']) hcap ?_
      intro w' r hg
      have r' : RowI B (some ⟨g, 0, none⟩) cap (zs ++ [k]) w' := by unfold RowI; rw [List.length_append, List.flatMap_append]; simpa [cells] using r
      exact h g cap w' r' (((Turn.refl _ w0).alloc _).grown hg (fun j hj _ => by cases hj; exact ⟨_, rfl, rfl⟩)) (.inl rfl) r'.ints.left
end X
end Go.Proofs.Ytdhmommfmmiieaa
