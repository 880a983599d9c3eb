import Derived.Test.YtgbhcfephhbalaaKJ
import Derived.Deep.RegionHeld3
import Derived.Test.YtgbhcfephhbalaaKD
import Derived.Test.YtgbhcfephhbalaaPmk
import Derived.Test.YtgbhcfephhbalaaKH
set_option linter.unusedVariables false
set_option linter.unusedSimpArgs false
namespace Go.Proofs.Ytgbhcfephhbalaa
open Go.RowKit Go.Maps
namespace U
/-- more triples of names than a right policy can have -/
def vst (a b c : Nat) : Bool := decide (65536 < a) || decide (65536 < b) || decide (65536 < c) || decide (65536 < a * b) || decide (65536 < a * b * c)
theorem vst1 {a b c : Nat} (h : 65536 < (a : Int)) : true = vst a b c := by
  have h' : 65536 < a := by omega
  simp [vst, h']
theorem vst2 {a b c : Nat} (h : 65536 < (b : Int)) : true = vst a b c := by
  have h' : 65536 < b := by omega
  simp [vst, h']
theorem vst3 {a b c : Nat} (h : 65536 < (c : Int)) : true = vst a b c := by
  have h' : 65536 < c := by omega
  simp [vst, h']
theorem wmul {a b : Nat} (ha : (a : Int) ≤ 65536) (hb : (b : Int) ≤ 65536) : wrap64 ((a : Int) * (b : Int)) = ((a * b : Nat) : Int) := by
  have h1 : a * b ≤ 65536 * 65536 := Nat.mul_le_mul (by omega) (by omega)
  rw [← Int.natCast_mul]
  unfold wrap64
  omega
theorem vst4 {a b c : Nat} (ha : (a : Int) ≤ 65536) (hb : (b : Int) ≤ 65536) (h : 65536 < wrap64 ((a : Int) * (b : Int))) : true = vst a b c := by
  rw [wmul ha hb] at h
  have h' : 65536 < a * b := by omega
  simp [vst, h']
theorem vst5 {a b c : Nat} (ha : (a : Int) ≤ 65536) (hb : (b : Int) ≤ 65536) (hc : (c : Int) ≤ 65536) (h : wrap64 ((a : Int) * (b : Int)) ≤ 65536) : (decide (65536 < (a : Int)) || decide (65536 < (b : Int)) || decide (65536 < (c : Int)) || decide (65536 < wrap64 ((a : Int) * (b : Int))) || decide (65536 < wrap64 (wrap64 ((a : Int) * (b : Int)) * (c : Int)))) = vst a b c := by
  rw [wmul ha hb] at h ⊢
  rw [wmul h hc]
  have e1 : decide (65536 < (a : Int)) = decide (65536 < a) := by congr 1; apply propext; omega
  have e2 : decide (65536 < (b : Int)) = decide (65536 < b) := by congr 1; apply propext; omega
  have e3 : decide (65536 < (c : Int)) = decide (65536 < c) := by congr 1; apply propext; omega
  have e4 : decide (65536 < ((a * b : Nat) : Int)) = decide (65536 < a * b) := by congr 1; apply propext; omega
  have e5 : decide (65536 < ((a * b * c : Nat) : Int)) = decide (65536 < a * b * c) := by congr 1; apply propext; omega
  rw [e1, e2, e3, e4, e5]
  rfl
set_option maxRecDepth 100000 in
set_option maxHeartbeats 4000000 in
theorem vast_any (F : Pf) (w : World) (hs : F.Small) : Calls Try.prog 26 #[.agg #[.slice F.a.1 F.a.2.2.length F.a.2.1, .slice F.s.1 F.s.2.2.length F.s.2.1, .slice F.r.1 F.r.2.2.length F.r.2.1, .slice F.o.1 F.o.2.2.length F.o.2.1, .slice F.g.1 F.g.2.2.length F.g.2.1, .slice F.m.1 F.m.2.2.length F.m.2.1, .slice F.i.1 F.i.2.2.length F.i.2.1, .slice F.p.1 F.p.2.2.length F.p.2.1, .slice F.w.1 F.w.2.2.length F.w.2.1, .slice F.u.1 F.u.2.2.length F.u.2.1, .slice F.x.1 F.x.2.2.length F.x.2.1]] w fun e w' => e = .returned (.bool (vst F.s.2.2.length F.o.2.2.length F.a.2.2.length)) ∧ Below w.heap.size w w' := by
  have ha : (F.s.2.2.length : Int) ≤ 1048576 := by have := hs.s; omega
  have hb : (F.o.2.2.length : Int) ≤ 1048576 := by have := hs.o; omega
  have hc : (F.a.2.2.length : Int) ≤ 1048576 := by have := hs.a; omega
  clear hs
  go_enter Try.func26, Try.ntmps26
  have hq1 := heap_alloc_new w (.cells #[.slice F.a.1 F.a.2.2.length F.a.2.1, .slice F.s.1 F.s.2.2.length F.s.2.1, .slice F.r.1 F.r.2.2.length F.r.2.1, .slice F.o.1 F.o.2.2.length F.o.2.1, .slice F.g.1 F.g.2.2.length F.g.2.1, .slice F.m.1 F.m.2.2.length F.m.2.1, .slice F.i.1 F.i.2.2.length F.i.2.1, .slice F.p.1 F.p.2.2.length F.p.2.1, .slice F.w.1 F.w.2.2.length F.w.2.1, .slice F.u.1 F.u.2.2.length F.u.2.1, .slice F.x.1 F.x.2.2.length F.x.2.1] 34)
  have hbV : Hid (Below w.heap.size w (w.alloc (.cells #[.slice F.a.1 F.a.2.2.length F.a.2.1, .slice F.s.1 F.s.2.2.length F.s.2.1, .slice F.r.1 F.r.2.2.length F.r.2.1, .slice F.o.1 F.o.2.2.length F.o.2.1, .slice F.g.1 F.g.2.2.length F.g.2.1, .slice F.m.1 F.m.2.2.length F.m.2.1, .slice F.i.1 F.i.2.2.length F.i.2.1, .slice F.p.1 F.p.2.2.length F.p.2.1, .slice F.w.1 F.w.2.2.length F.w.2.1, .slice F.u.1 F.u.2.2.length F.u.2.1, .slice F.x.1 F.x.2.2.length F.x.2.1] 34)).drew) := ((Below.refl _ _).alloc (Nat.le_refl _) _).trans ⟨rfl, rfl, rfl, Nat.le_refl _, fun _ _ => rfl⟩
  have m0 : (w.alloc (.cells #[.slice F.a.1 F.a.2.2.length F.a.2.1, .slice F.s.1 F.s.2.2.length F.s.2.1, .slice F.r.1 F.r.2.2.length F.r.2.1, .slice F.o.1 F.o.2.2.length F.o.2.1, .slice F.g.1 F.g.2.2.length F.g.2.1, .slice F.m.1 F.m.2.2.length F.m.2.1, .slice F.i.1 F.i.2.2.length F.i.2.1, .slice F.p.1 F.p.2.2.length F.p.2.1, .slice F.w.1 F.w.2.2.length F.w.2.1, .slice F.u.1 F.u.2.2.length F.u.2.1, .slice F.x.1 F.x.2.2.length F.x.2.1] 34)).cell? ⟨w.heap.size, 0, none⟩ = some (.slice F.a.1 F.a.2.2.length F.a.2.1) := by rw [Lib.cell_of_heap hq1]; rfl
  have m1 : (w.alloc (.cells #[.slice F.a.1 F.a.2.2.length F.a.2.1, .slice F.s.1 F.s.2.2.length F.s.2.1, .slice F.r.1 F.r.2.2.length F.r.2.1, .slice F.o.1 F.o.2.2.length F.o.2.1, .slice F.g.1 F.g.2.2.length F.g.2.1, .slice F.m.1 F.m.2.2.length F.m.2.1, .slice F.i.1 F.i.2.2.length F.i.2.1, .slice F.p.1 F.p.2.2.length F.p.2.1, .slice F.w.1 F.w.2.2.length F.w.2.1, .slice F.u.1 F.u.2.2.length F.u.2.1, .slice F.x.1 F.x.2.2.length F.x.2.1] 34)).cell? ⟨w.heap.size, 1, none⟩ = some (.slice F.s.1 F.s.2.2.length F.s.2.1) := by rw [Lib.cell_of_heap hq1]; rfl
  have m3 : (w.alloc (.cells #[.slice F.a.1 F.a.2.2.length F.a.2.1, .slice F.s.1 F.s.2.2.length F.s.2.1, .slice F.r.1 F.r.2.2.length F.r.2.1, .slice F.o.1 F.o.2.2.length F.o.2.1, .slice F.g.1 F.g.2.2.length F.g.2.1, .slice F.m.1 F.m.2.2.length F.m.2.1, .slice F.i.1 F.i.2.2.length F.i.2.1, .slice F.p.1 F.p.2.2.length F.p.2.1, .slice F.w.1 F.w.2.2.length F.w.2.1, .slice F.u.1 F.u.2.2.length F.u.2.1, .slice F.x.1 F.x.2.2.length F.x.2.1] 34)).cell? ⟨w.heap.size, 3, none⟩ = some (.slice F.o.1 F.o.2.2.length F.o.2.1) := by rw [Lib.cell_of_heap hq1]; rfl
  clear hq1
  go_wp2_with fail
  go_region
  clear m0 m1 m3
  go_wp2_with fail
  all_goals go_ret
  all_goals refine ⟨?_, hbV.out⟩
  all_goals (refine congrArg (Ending.returned ∘ Value.bool) (?_ : _ = vst F.s.2.2.length F.o.2.2.length F.a.2.2.length))
  all_goals clear hbV
  all_goals first | exact vst5 (by assumption) (by assumption) (by assumption) (by assumption) | exact vst4 (by assumption) (by assumption) (by assumption) | exact vst3 (by assumption) | exact vst2 (by assumption) | exact vst1 (by assumption)
end U
end Go.Proofs.Ytgbhcfephhbalaa
set_option linter.unusedVariables false
set_option linter.unusedSimpArgs false
namespace Go.Proofs.Ytgbhcfephhbalaa
open Go.RowKit Go.Maps
namespace U
set_option maxRecDepth 100000 in
set_option maxHeartbeats 4000000 in
/-- Same of two rows of the same triples -/
theorem same_self (ao bo : Option Addr) (ac bc : Nat) (xs : List X.K3) (w : World) (ha : X.Ints ao xs w) (hb : X.Ints bo xs w) (hac : xs.length ≤ ac) (hbc : xs.length ≤ bc) (hl : (xs.length : Int) < 1099511627777) : Calls Try.prog 29 #[.slice ao xs.length ac, .slice bo xs.length bc] w fun e w' => e = .returned (.bool true) ∧ Below w.heap.size w w' := by
  have HA := hide' ha
  have HB := hide' hb
  clear ha hb
  go_enter Try.func29, Try.ntmps29
  go_wp2_with fail
  go_loopw [5] (fun iv wx => ∃ i : Nat, iv = .int .i64 (i : Int) ∧ i ≤ xs.length ∧ Hid (Below w.heap.size w wx)) (fun iv _ => xs.length - (intOf iv).toNat)
  case atStart => exact ⟨0, rfl, Nat.zero_le _, Below.refl _ _⟩
  case round =>
    obtain ⟨i, rfl, hi, HM⟩ := hrel
    by_cases hlt : i < xs.length
    · have hlt' : (i : Int) < (xs.length : Int) := by omega
      obtain ⟨z, hz⟩ : ∃ z, xs[i]? = some z := ⟨_, List.getElem?_eq_getElem hlt⟩
      obtain ⟨y, off, hy, hyl, d1, d2, d3⟩ := (HA.out.below HM.out).at hz
      obtain ⟨y2, off2, hy2, hyl2, f1, f2, f3⟩ := (HB.out.below HM.out).at hz
      obtain ⟨z1, z2, z3⟩ := z
      simp only at d1 d2 d3 f1 f2 f3
      have g1 := text_eq z1
      have g2 := text_eq z2
      have g3 := text_eq z3
      have Hy := hide' hy
      have Hy2 := hide' hy2
      rw [hy, hy2]
      clear hy hy2 hz hyl hyl2
      go_wp2_with fail
      go_quiet (fail)
      go_wp2_with fail
      exact ⟨⟨i + 1, by go_num, by omega, HM.out.trans ⟨rfl, rfl, rfl, Nat.le_refl _, fun _ _ => rfl⟩⟩, by simp [intOf]; omega⟩
    · have hk : i = xs.length := by omega
      have hlt' : ¬ (i : Int) < (xs.length : Int) := by omega
      clear hk
      go_wp2_with fail
      go_ret
      exact ⟨rfl, HM.out⟩
end U
end Go.Proofs.Ytgbhcfephhbalaa
set_option linter.unusedVariables false
set_option linter.unusedSimpArgs false
namespace Go.Proofs.Ytgbhcfephhbalaa
open Go.RowKit Go.Maps
namespace U
theorem gvn_plw {F F' : Pf} {ls : List (Ru × Nat × Nat)} (he : ls.map (·.1) = F.u.2.2) (s o : ByteArray) (al : List ByteArray) : plw (gvn F F' ls) s o al = plw F s o al := by
  unfold plw
  congr 1
  apply List.filter_congr
  intro k _
  exact gvn_alw he s o _
theorem gvn_rel {F F' : Pf} {ls : List (Ru × Nat × Nat)} (he : ls.map (·.1) = F.u.2.2) : rel (gvn F F' ls) = rel F := by
  have h1 : ∀ (al : List ByteArray) (s o : ByteArray), relO (gvn F F' ls) al s o = relO F al s o := fun al s o => by unfold relO; rw [gvn_plw he]
  have h2 : ∀ (al ol : List ByteArray) (s : Sb), relS (gvn F F' ls) al ol s = relS F al ol s := fun al ol s => by
    unfold relS
    congr 1
    funext o
    exact h1 al s.1 o
  show relA (gvn F F' ls) (fo F.a.2.2) (fo F.o.2.2) (fos F.s.2.2) = relA F (fo F.a.2.2) (fo F.o.2.2) (fos F.s.2.2)
  unfold relA
  congr 1
  funext s
  exact h2 _ _ s
/-- a policy that is not vast has few triples of names -/
theorem vst_few {F : Pf} (h : vst F.s.2.2.length F.o.2.2.length F.a.2.2.length = false) : (fos F.s.2.2).length * ((fo F.o.2.2).length * (fo F.a.2.2).length) ≤ 65536 := by
  have q1 := fos_len F.s.2.2 F.s.2.2.length
  have q2 := fo_len F.o.2.2 F.o.2.2.length
  have q3 := fo_len F.a.2.2 F.a.2.2.length
  rw [List.take_length] at q1 q2 q3
  have e : ¬ 65536 < F.s.2.2.length * F.o.2.2.length * F.a.2.2.length := fun q => by simp [vst, q] at h
  have m1 := Nat.mul_le_mul q1 (Nat.mul_le_mul q2 q3)
  rw [← Nat.mul_assoc F.s.2.2.length] at m1
  omega
end U
end Go.Proofs.Ytgbhcfephhbalaa
set_option linter.unusedVariables false
set_option linter.unusedSimpArgs false
namespace Go.Proofs.Ytgbhcfephhbalaa
open Go.RowKit Go.Maps
namespace U
/-- all that is asked of a policy's sizes, by a number -/
structure Fine (F : Pf) (N : Nat) : Prop where
  n : N ≤ 1048576
  a : F.a.2.2.length ≤ N
  s : F.s.2.2.length ≤ N
  r : F.r.2.2.length ≤ N
  o : F.o.2.2.length ≤ N
  g : F.g.2.2.length ≤ N
  mi : F.m.2.2.length + F.i.2.2.length ≤ N
  pw : F.p.2.2.length + F.w.2.2.length ≤ N
  u : F.u.2.2.length ≤ N
  x : F.x.2.2.length ≤ N
  za : ∀ a ∈ F.a.2.2, a.size ≤ N
  zs : ∀ s ∈ F.s.2.2, s.1.size ≤ N
  zo : ∀ o ∈ F.o.2.2, o.size ≤ N
  zm : ∀ q ∈ F.m.2.2 ++ F.i.2.2, q.1.size ≤ N ∧ q.2.size ≤ N
  zp : ∀ q ∈ F.p.2.2 ++ F.w.2.2, q.1.size ≤ N ∧ q.2.size ≤ N
  zu : ∀ R ∈ F.u.2.2, R.who.size ≤ N ∧ R.what.size ≤ N ∧ ∀ a ∈ R.rl, a.size ≤ N
  zx : ∀ t ∈ F.x.2.2, t.1.size ≤ N ∧ t.2.1.size ≤ N ∧ t.2.2.size ≤ N
theorem Fine.small {F : Pf} {N : Nat} (h : Fine F N) : F.Small := by
  have := h.n; have := h.a; have := h.s; have := h.r; have := h.o; have := h.g; have := h.mi; have := h.pw; have := h.u; have := h.x
  exact ⟨by omega, by omega, by omega, by omega, by omega, by omega, by omega, by omega, by omega, by omega, by omega⟩
theorem le2 {a b N : Nat} (h : a ≤ N ∧ b ≤ N) (hn : N ≤ 1048576) : a ≤ 1048576 ∧ b ≤ 1048576 := ⟨by omega, by omega⟩
theorem Fine.po {F : Pf} {N : Nat} (h : Fine F N) : F.po.Small := by
  have hn := h.n
  exact ⟨Nat.le_trans h.a hn, Nat.le_trans h.s hn, Nat.le_trans h.o hn, Nat.le_trans h.mi hn, Nat.le_trans h.pw hn, fun q hq => le2 (h.zm q hq) hn, fun q hq => le2 (h.zp q hq) hn⟩
theorem Fine.okx {F : Pf} {N : Nat} (h : Fine F N) : ∀ t ∈ F.x.2.2, X.okk t := fun t ht => by
  have hn := h.n
  obtain ⟨q1, q2, q3⟩ := h.zx t ht
  exact ⟨okk_of (by omega), okk_of (by omega), okk_of (by omega)⟩
theorem Fine.oku {F : Pf} {N : Nat} (h : Fine F N) : ∀ R ∈ F.u.2.2, S.okk R.who ∧ S.okk R.what ∧ ∀ a ∈ R.rl, S.okk a := fun R hR => by
  have hn := h.n
  obtain ⟨q1, q2, q3⟩ := h.zu R hR
  exact ⟨okk_of (by omega), okk_of (by omega), fun a ha => okk_of (Nat.le_trans (q3 a ha) hn)⟩
theorem rel_call (F : Pf) (N : Nat) (w : World) (h : F.In w) (f : Fine F N) (hv : (fos F.s.2.2).length * ((fo F.o.2.2).length * (fo F.a.2.2).length) ≤ 65536) : Calls Try.prog 28 #[.agg F.arr] w fun e w' => RelIs F w e w' :=
  relation_any F w h f.small f.po (fun a ha => Nat.le_trans (f.za a ha) f.n) (fun y hy => Nat.le_trans (f.zo y hy) f.n) (fun s hs => Nat.le_trans (f.zs s hs) f.n) f.okx f.oku (by omega)
theorem rrel_call (F : Pf) (N : Nat) (w : World) (h : F.In w) (f : Fine F N) (hv : (fos F.s.2.2).length * ((fo F.o.2.2).length * (fo F.a.2.2).length) ≤ 65536) : Calls Try.prog 27 #[.agg F.arr] w fun e w' => RelIs F w e w' :=
  rrelation_any F w h f.small f.po (by omega)
theorem alw_call (F : Pf) (N : Nat) (ts to ta : ByteArray) (w : World) (h : F.In w) (f : Fine F N) (hz : ts.size ≤ 1048576 ∧ to.size ≤ 1048576 ∧ ta.size ≤ 1048576) : Calls Try.prog 22 #[.agg F.arr, .agg #[.string ts, .string to, .string ta]] w fun e w' => e = .returned (.bool (alw F ts to ta)) ∧ Below w.heap.size w w' :=
  allows_any F ts to ta w h f.small f.po hz f.okx f.oku
theorem vast_call (F : Pf) (N : Nat) (w : World) (f : Fine F N) : Calls Try.prog 26 #[.agg F.arr] w fun e w' => e = .returned (.bool (vst F.s.2.2.length F.o.2.2.length F.a.2.2.length)) ∧ Below w.heap.size w w' := vast_any F w f.small
theorem gvn_fine {F F' : Pf} {ls : List (Ru × Nat × Nat)} {N : Nat} (he : ls.map (·.1) = F.u.2.2) (f : Fine F N) : Fine (gvn F F' ls) N :=
  { n := f.n, a := f.a, s := f.s, r := f.r, o := f.o, g := f.g, mi := f.mi, pw := f.pw, x := f.x, za := f.za, zs := f.zs, zo := f.zo, zm := f.zm, zp := f.zp, zx := f.zx
    u := by have := f.u; rw [← he, List.length_map] at this; show (ls.map Ru.moved).length ≤ _; rw [List.length_map]; exact this
    zu := fun R hR => by
      have hR' : R ∈ ls.map Ru.moved := hR
      rw [List.mem_map] at hR'
      obtain ⟨x, hx, rfl⟩ := hR'
      exact f.zu x.1 (by rw [← he]; exact List.mem_map_of_mem hx) }
/-- stops of a walk -/
theorem stay_load {P : Program} {ops : Array Oper} {rest : List Oper} {o : Oper} {a : Act} {Q : Exit → Act → World → Prop} {w : World} (t : TypeId) (x : Operand) (ho : o.op = .load t x) (h : Stay (wpList P ops Q (o :: rest) a w)) : wpList P ops Q (o :: rest) a w := h
theorem stay_store {P : Program} {ops : Array Oper} {rest : List Oper} {o : Oper} {a : Act} {Q : Exit → Act → World → Prop} {w : World} (t : TypeId) (x y : Operand) (ho : o.op = .store t x y) (h : Stay (wpList P ops Q (o :: rest) a w)) : wpList P ops Q (o :: rest) a w := h
/-- a load of a whole block, at a guarded operation too -/
theorem wpList_load_w {P : Program} {ops : Array Oper} {rest : List Oper} {o : Oper} {a : Act} {w : World} {Q : Exit → Act → World → Prop} (hw : Region.wanted o (yielded ops a.tmps) = true) (ty : TypeId) (x : Operand) (ho : o.op = .load ty x)
    (g : Nat) (hx : a.eval x = .pointer (some ⟨g, 0, none⟩)) (t : TypeId) (cs : Array Value) (fr : Nat × Nat) (d : TypeDesc) (hg : w.heap[g]? = some (.cells cs t fr))
    (hu : P.underlying ty = some d) (hd : (match d with | .struct _ | .array _ _ => true | _ => false) = true) (hi : (P.info? ty).map (·.size) = some cs.size)
    (h : wpList P ops Q rest (a.put o.dst (.agg cs)) w) : wpList P ops Q (o :: rest) a w :=
  wpList_step fun K hK => by rw [if_pos hw]; exact wp_load_row ty x ho g hx t cs fr d hg hu hd hi (hK _ _ h)
theorem size_arr (F : Pf) : (Try.prog.info? 34).map (·.size) = some F.arr.size := by
  have : (Try.prog.info? 34).map (·.size) = some 11 := by kernel_rfl
  rw [this]; rfl
end U
end Go.Proofs.Ytgbhcfephhbalaa
