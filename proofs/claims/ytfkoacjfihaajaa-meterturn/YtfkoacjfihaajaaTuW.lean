import Derived.Test.YtfkoacjfihaajaaTuP
import Derived.Test.YtfkoacjfihaajaaAlW
import Derived.Test.YtfkoacjfihaajaaHaW
set_option linter.unusedVariables false
set_option linter.unusedSimpArgs false
namespace Go.Proofs.Ytfkoacjfihaajaa
open Go.RowKit
namespace N
open Fl M
theorem later_len (l : List Int) : (later l).length = l.length := by simp [later]
theorem later_take {l : List Int} {k : Nat} {z : Int} (h : l[k]? = some z) : later (l.take (k + 1)) = later (l.take k) ++ [wrap64 (z + 1)] := by
  rw [take_one h]; simp [later]
theorem take_len {l : List Int} {k : Nat} (h : k ≤ l.length) : (l.take k).length = k := by rw [List.length_take]; omega
theorem one_row (x : Int) (w : World) : Rw 1 iarr (w.alloc (.cells #[.int .i64 x] 3)) (some ⟨w.heap.size, 0, none⟩) [x] := by
  refine .inr ⟨w.heap.size, 0, rfl, by simp, fun j z hj r hr => ?_⟩
  obtain rfl : r = 0 := by omega
  have hb := heap_alloc_new w (.cells #[.int .i64 x] 3)
  have : j = 0 := by have := (List.getElem?_eq_some_iff.1 hj).1; simp at this; omega
  subst this
  simp only [List.getElem?_cons_zero, Option.some.injEq] at hj; subst hj; rw [Lib.cell_of_heap hb]; rfl
/-- the two lists in the making -/
structure Tw2 (w : World) (l : List Int) (k : Nat) (a1 : Option Addr) (c1 : Nat) (a2 : Option Addr) (c2 : Nat) (wx : World) : Prop where
  bel : Below w.heap.size w wx
  r1 : Own 1 3 iarr w.heap.size (.slice a1 (later (l.take k)).length c1) (later (l.take k)) wx
  r2 : Own 1 3 iarr w.heap.size (.slice a2 (l.take k).length c2) (l.take k) wx
  ap : ∀ j, At a1 j → ¬ At a2 j
theorem own_at' {ao : Option Addr} {n cap j : Nat} (h : At ao j) : (Value.slice ao n cap).ownBlock = some j := by
  obtain ⟨a, rfl, rfl⟩ := h; rfl
theorem own_lt {α : Type} {m e : Nat} {arr : α → Array Value} {B : Nat} {ao : Option Addr} {n cap : Nat} {ss : List α} {w : World} (h : Own m e arr B (.slice ao n cap) ss w) {j : Nat} (hj : At ao j) : B ≤ j ∧ j < w.heap.size := by
  obtain ⟨a, rfl, rfl⟩ := hj
  rcases h.row.2 with ⟨hv, h0⟩ | ⟨g, cap', cur, hv, hb, hg, _⟩
  · cases hv
  · simp only [Value.slice.injEq, Option.some.injEq] at hv
    obtain ⟨rfl, _, _⟩ := hv
    exact ⟨hb, lt_of_heap hg⟩
/-- append of some things to a row -/
theorem wpList_many {α : Type} {t e m bytes : Nat} {z : Value} {arr : α → Array Value} (ha : ∀ q, (arr q).size = m) (ht : Try.prog.underlying t = some (.slice e)) (hinf : (Try.prog.info? e).map (fun i => (i.zero, i.size, i.bytes)) = some (some z, m, bytes)) (hz : z.cells.size = m) (hm : 0 < m) (w : World) {ops : Array Oper} {rest : List Oper} {o : Oper} {a : Go.Act} {Q : Exit → Go.Act → World → Prop} (hgd : o.guard = none) (s y : Operand)
    (ho : o.op = .call { callee := .builtin .append, args := #[s, y], argTypes := #[t, t] }) {B : Nat} {ro : Option Addr} {rc : Nat} {ss : List α} (hrow : Own m e arr B (.slice ro ss.length rc) ss w) (xs : List α) (hxs : 0 < xs.length) (hl : ss.length + xs.length ≤ maxLen) (hl2 : (ss.length + xs.length) * bytes ≤ 140737488355328) (hB : B ≤ w.heap.size) (h1 : ∀ u ∈ flat arr xs, u.oneCell' = true) (c : Nat) (hs : a.eval s = .slice ro ss.length rc) (hx : a.eval y = .slice (some ⟨w.heap.size, 0, none⟩) xs.length c)
    (hk : ∀ gg cap' w1, Own m e arr B (.slice (some ⟨gg, 0, none⟩) (ss ++ xs).length cap') (ss ++ xs) w1 → Turn (At ro) w w1 → (At ro gg ∨ w.heap.size ≤ gg) → wpList Try.prog ops Q rest (a.put o.dst (.slice (some ⟨gg, 0, none⟩) (ss.length + xs.length) cap')) w1) :
    wpList Try.prog ops Q (o :: rest) a (w.alloc (.cells (flat arr xs).toArray e)) := by
  obtain ⟨i0, hi0, hz0, hz1, hz2⟩ := info_parts hinf
  refine wpList_append_lies _ hgd s y t ho B e i0 _ m bytes ht hi0 hz0 hz1 hz2 hz hm _ ss.length (flat arr ss) hs (World.ownsRow.alloc hrow.row _) ⟨w.heap.size, 0, none⟩ xs.length c (flat arr xs) hx (flat_len ha xs) (fun j u hj => World.news_of_block (heap_alloc_new w (.cells (flat arr xs).toArray e)) j u (by simpa using hj)) h1 (by omega) (by omega) hl2 (by simp; omega) (w.heap.size + 1) (by simp) ?_
  intro gg cap' w1 hown1 hgrow hat hlt
  have t0 : Turn (At ro) w w1 := ((Turn.refl _ w).alloc _).grown hgrow (fun k hk _ => own_at hk)
  refine hk gg cap' w1 ⟨?_⟩ t0 ?_
  · rw [flat_add, List.length_append]
    exact hown1
  · rcases hat with q | q
    · exact .inl (own_at q)
    · exact .inr (by omega)
theorem one_is (xs : List Int) : ∀ u ∈ flat iarr xs, u.oneCell' = true := by
  intro u hu
  unfold flat at hu
  obtain ⟨x, _, hx'⟩ := List.mem_flatMap.1 hu
  exact one_i x u hx'
theorem lean_fin {x y R : Nat} (w : World) (h : lnO (vl x) (vl y) = some R) : Calls Try.prog 29 #[.complex .f64 x y] w fun e w' => e = .returned (.float .f64 R) ∧ ∃ k, w' = w.drewN k := by
  refine (lean_any w (lk_vl x) (lk_vl y)).mono fun e w' ⟨r, k, he, hr, hw⟩ => ?_
  rw [h] at hr
  obtain ⟨rfl, _⟩ := vl_num hr
  exact ⟨he, k, hw⟩
/-- what the law asks in the end -/
structure Asks (l : List Int) (Xa Ya Xb Yb Xc Yc X1 Y1 R S : Nat) : Prop where
  o1 : FloatKind.f64.format.order X1 4607182418800017408 = some .eq
  o2 : FloatKind.f64.format.order Y1 0 = some .eq
  o3 : FloatKind.f64.format.order Xb (Op.negFloat .f64 Ya) = some .eq
  o4 : FloatKind.f64.format.order Yb Xa = some .eq
  la : lnO (vl Xa) (vl Ya) = some R
  lb : lnO (vl Xb) (vl Yb) = some R
  o5 : FloatKind.f64.format.order R R = some .eq
  o6 : FloatKind.f64.format.order Xa Xc = some .eq
  o7 : FloatKind.f64.format.order Ya Yc = some .eq
  ms : Ieee.double.mul (floatOfInt .f64 (l.length : Int)) (floatOfInt .f64 (l.length : Int)) = some S
  o8 : FloatKind.f64.format.order R S = some .lt ∨ FloatKind.f64.format.order R S = some .eq
theorem asks {l : List Int} {x1 : Int} {Xa Ya Xb Yb Xc Yc X1 Y1 : Nat} (hl : l.length ≤ 17592186043904) (hP : ∀ m ∈ l, -9223372036854775808 ≤ m ∧ m ≤ 9223372036854775807) (hx : -9223372036854775808 ≤ x1 ∧ x1 ≤ 9223372036854775807)
    (a : Fin Xa (re l * (Fl.Q : Int)) ∧ Fin Ya (im l * (Fl.Q : Int))) (b : Fin Xb (re (later l) * (Fl.Q : Int)) ∧ Fin Yb (im (later l) * (Fl.Q : Int)))
    (c : Fin Xc (re (l ++ [x1, wrap64 (x1 + 1), wrap64 (x1 + 2), wrap64 (x1 + 3)]) * (Fl.Q : Int)) ∧ Fin Yc (im (l ++ [x1, wrap64 (x1 + 1), wrap64 (x1 + 2), wrap64 (x1 + 3)]) * (Fl.Q : Int)))
    (d : Fin X1 (re [0] * (Fl.Q : Int)) ∧ Fin Y1 (im [0] * (Fl.Q : Int))) : ∃ R S, Asks l Xa Ya Xb Yb Xc Yc X1 Y1 R S := by
  obtain ⟨e1, e2⟩ := later_re l hP
  obtain ⟨f1, f2⟩ := four_more x1 hx
  rw [re_add, im_add, f1, f2, Int.add_zero, Int.add_zero] at c
  rw [e1, e2] at b
  have hs := size_le l
  have la := lean_whole a.1 a.2 rfl rfl (by omega)
  have lb := lean_whole (m := (im l).natAbs) (n := (re l).natAbs) b.1 b.2 (by omega) rfl (by omega)
  rw [Nat.add_comm (V 52 (sq (im l).natAbs))] at lb
  have hle := lean_le (a := (re l).natAbs) (b := (im l).natAbs) (n := l.length) hs (by omega)
  have hS := sq_lt (n := l.length) (by omega)
  generalize rn 52 0 (V 52 (sq (re l).natAbs) + V 52 (sq (im l).natAbs)) = R at *
  refine ⟨R, sq l.length, ?_, ?_, ?_, ?_, la, lb, order_self (by omega), fin_same a.1 c.1, fin_same a.2 c.2, ?_, ?_⟩
  · refine fin_same d.1 ?_
    rw [show re [0] = 1 by decide]; exact one_fin
  · refine fin_same d.2 ?_
    rw [show im [0] = 0 by decide]; exact zero_fin
  · refine fin_same b.1 ?_
    rw [Int.neg_mul]; exact neg_fin a.2
  · exact fin_same b.2 a.1
  · exact mul_self (a := (l.length : Int)) (int_fin_nat (by omega)) (by omega) (by omega)
  · rcases Nat.eq_or_lt_of_le hle with q | q
    · rw [q]; exact .inr (order_self hS)
    · exact .inl (order_lt (by omega) hS q)
set_option maxRecDepth 100000 in
set_option maxHeartbeats 4000000 in
theorem turn_walk (a : Option Addr) (cap : Nat) (l : List Int) (x1 : Int) (w : World) (hI : Rw 1 iarr w a l) (hP : ∀ m ∈ l, -9223372036854775808 ≤ m ∧ m ≤ 9223372036854775807) (hx : -9223372036854775808 ≤ x1 ∧ x1 ≤ 9223372036854775807) (hl : l.length ≤ 17592186043904) :
    Calls Try.prog 15 #[.slice a l.length cap, .int .i64 x1] w fun e w' => e = .returned (.bool true) ∧ Below w.heap.size w w' := by
  have HI := hide' (fun w' (b : Below w.heap.size w w') => hI.below b)
  have HL := hide' hl
  have HP := hide' (And.intro hP hx)
  clear hI hl hP hx
  go_enter Try.func15, Try.ntmps15
  go_wp2_with fail
  go_loopw [5, 6, 7] (fun s1 s2 i wx => ∃ (k : Nat) (a1 : Option Addr) (c1 : Nat) (a2 : Option Addr) (c2 : Nat), s1 = .slice a1 k c1 ∧ s2 = .slice a2 k c2 ∧ i = .int .i64 (k : Int) ∧ k ≤ l.length ∧ Tw2 w l k a1 c1 a2 c2 wx) (fun _ _ i _ => l.length - (intOf i).toNat)
  case atStart => exact ⟨0, none, 0, none, 0, rfl, rfl, rfl, Nat.zero_le _, Below.refl _ _, own_nil 1 3 iarr _ _, own_nil 1 3 iarr _ _, fun j h => by obtain ⟨_, q, _⟩ := h; cases q⟩
  case round =>
    obtain ⟨k, a1, c1, a2, c2, rfl, rfl, rfl, hk, hT⟩ := hrel
    by_cases hlt : k < l.length
    · have hlt' : (k : Int) < (l.length : Int) := by omega
      obtain ⟨z, hz⟩ : ∃ z, l[k]? = some z := ⟨_, List.getElem?_eq_getElem hlt⟩
      have HC := hide' (fun w' (b : Below w.heap.size w w') => icell (HI.out w' b) hz)
      obtain ⟨b, off, ea, hb, c0⟩ := HC.out _ hT.bel
      have HT := hide' hT
      have Hz := hide' hz
      have Hlt := hide' hlt
      have hkb := HL.out
      have ek := hide' (wsucN k (by omega))
      have L1 := hide' (show (later (l.take k)).length = k by rw [later_len, take_len (by omega)])
      have L2 := hide' (show (l.take k).length = k by rw [take_len (by omega)])
      clear hT hz hb hlt hk hkb
      subst ea
      have HC2 : Hid (∀ w', Below w.heap.size w w' → w'.cell? ⟨b, off + k, none⟩ = some (.int .i64 z)) := hide' (fun w' hb => by
        obtain ⟨b', off', e, _, c⟩ := HC.out w' hb
        cases e
        exact c)
      clear HC
      have B1 : Hid (∀ w3, Turn (At a1) wr w3 → Below w.heap.size w w3) := hide' (fun w3 t => HT.out.bel.trans (t.below (fun j hj => (own_lt HT.out.r1 hj).1) HT.out.bel.size))
      have O1 : Hid (∀ w3, Turn (At a1) wr w3 → Own 1 3 iarr w.heap.size (.slice a2 (l.take k).length c2) (l.take k) w3) := hide' (fun w3 t => HT.out.r2.kept t (fun g hg q => HT.out.ap g q (own_at hg)))
      go_wp2_with (first
        | (at_builtin; have G := c3; refine wpList_more (arr := iarr) ha_i Try.underlying50 info3 rfl (by omega) w3 rfl _ _ rfl (ro := a2) (rc := c2) (ss := l.take k) (O1.out _ T3.out) (by rw [L2.out]; unfold maxLen; have := Hlt.out; have := HL.out; omega) (by rw [L2.out]; have := Hlt.out; have := HL.out; omega) (B1.out _ T3.out).size z (one_i _) _ (by rw [L2.out]; rfl) rfl ?_; intro g2 cc2 w4 o4 t4 p4)
        | (at_builtin; refine wpList_more (arr := iarr) ha_i Try.underlying50 info3 rfl (by omega) wr rfl _ _ rfl (ro := a1) (rc := c1) (ss := later (l.take k)) HT.out.r1 (by rw [L1.out]; unfold maxLen; have := Hlt.out; have := HL.out; omega) (by rw [L1.out]; have := Hlt.out; have := HL.out; omega) HT.out.bel.size (wrap64 (z + 1)) (one_i _) _ (by rw [L1.out]; rfl) rfl ?_; intro gg cc w3 o3 t3 p3; have T3 := hide' t3; have O3 := hide' (And.intro o3 p3); have c3 := HC2.out w3 (B1.out _ T3.out); clear o3 t3 p3 c0))
      obtain ⟨o3, p3⟩ := O3.out
      have t3 := T3.out
      -- where the blocks lie
      have hg2 : ¬ At a2 gg := by
        intro q
        rcases p3 with p3 | p3
        · exact HT.out.ap gg p3 q
        · have := (own_lt HT.out.r2 q).2; omega
      have o3' : Own 1 3 iarr w.heap.size (.slice (some ⟨gg, 0, none⟩) (later (l.take k) ++ [wrap64 (z + 1)]).length cc) (later (l.take k) ++ [wrap64 (z + 1)]) w4 := o3.kept t4 (fun g hg q => by cases hg; exact hg2 q)
      have hgg := own_lt o3 (j := gg) ⟨_, rfl, rfl⟩
      have K : Hid (Tw2 w l (k + 1) (some ⟨gg, 0, none⟩) cc (some ⟨g2, 0, none⟩) cc2 w4) := hide' ⟨(B1.out _ t3).trans (t4.below (fun j hj => (own_lt HT.out.r2 hj).1) (B1.out _ t3).size), by rw [later_take Hz.out]; exact o3', by rw [take_one Hz.out]; exact o4, fun j h1 h2 => by
        obtain ⟨_, e1, rfl⟩ := h1
        cases e1
        obtain ⟨_, e2, e3⟩ := h2
        cases e2
        replace e3 : gg = g2 := e3
        rcases p4 with p4 | p4
        · rw [← e3] at p4; exact hg2 p4
        · have := hgg.2; omega⟩
      clear o3 p3 t3 hg2 o3' hgg o4 t4 p4 O3 T3 HT O1 B1
      rw [L1.out, show min k l.length = k from Nat.min_eq_left (Nat.le_of_lt Hlt.out)]
      exact ⟨⟨k + 1, _, _, _, _, rfl, rfl, by first | rfl | (rw [ek.out]), Hlt.out, K.out⟩, by first | exact msr' Hlt.out _ rfl | (exact msr' Hlt.out _ (ek.out.trans (by omega)))⟩
    · obtain rfl : k = l.length := by omega
      have HT := hT
      have L1 : Hid ((later l).length = l.length) := hide' (later_len l)
      have r1 := hT.r1
      have r2 := hT.r2
      rw [List.take_length] at r1 r2
      have R1 := hide' r1
      have R2 := hide' r2
      have HB := hide' hT.bel
      have HA := hide' hT.ap
      have B1 : Hid (∀ w3, Turn (At a2) wr w3 → Below w.heap.size w w3) := hide' (fun w3 t => HB.out.trans (t.below (fun j hj => (own_lt R2.out hj).1) HB.out.size))
      have O1 : Hid (∀ w3, Turn (At a2) wr w3 → Own 1 3 iarr w.heap.size (.slice a1 (later l).length c1) (later l) w3) := hide' (fun w3 t => R1.out.kept t (fun g hg q => HA.out g (own_at hg) q))
      clear hT HT r1 r2 hlt hk
      obtain ⟨q1, hq1⟩ : ∃ q, q = wrap64 (x1 + 1) := ⟨_, rfl⟩
      obtain ⟨q2, hq2⟩ : ∃ q, q = wrap64 (x1 + 2) := ⟨_, rfl⟩
      obtain ⟨q3, hq3⟩ : ∃ q, q = wrap64 (x1 + 3) := ⟨_, rfl⟩
      have HQ := hide' (And.intro hq1 (And.intro hq2 hq3))
      replace hq1 := hq1.symm
      replace hq2 := hq2.symm
      replace hq3 := hq3.symm
      go_wp2_with (at_builtin; go_loud (refine wpList_many (arr := iarr) ha_i Try.underlying50 info3 rfl (by omega) wr rfl _ _ rfl (ro := a2) (rc := c2) (ss := l) R2.out [x1, q1, q2, q3] (by simp) (by have := HL.out; unfold maxLen; simp; omega) (by have := HL.out; simp; omega) HB.out.size (one_is _) _ rfl rfl ?_); intro gg cc w3 o3 t3 p3; have O3 := hide' o3; have T3 := hide' t3; clear o3 t3 p3)
      clear hq1 hq2 hq3
      have B3 := hide' (B1.out _ T3.out)
      have hL := HL.out
      have C1 := hide' (compass_any a cap l w3 (HI.out _ B3.out) (by omega))
      have C2 := hide' (compass_any a1 c1 (later l) w3 ((O1.out _ T3.out).rw' ha_i) (by rw [later_len]; omega))
      have C3 := hide' (compass_any (some ⟨gg, 0, none⟩) cc (l ++ [x1, q1, q2, q3]) w3 (O3.out.rw' ha_i) (by rw [List.length_append]; simp; omega))
      have C4 := hide' (compass_any (some ⟨w3.heap.size, 0, none⟩) 1 [0] _ (one_row 0 w3) (by simp))
      have HB4 : Hid (Below w.heap.size w (w3.alloc (.cells #[.int .i64 0] 3))) := hide' (B3.out.alloc (by rw [← Nat.add_zero w.heap.size]; exact B3.out.size) _)
      rw [later_len] at C2
      rw [List.length_append] at C3
      clear R1 R2 HB HA B1 O1 O3 T3 hL L1
      go_wp2_with fail
      refine C1.out.mono ?_
      rintro e w4 ⟨Xa, Ya, rfl, HXa, hw⟩
      replace hw := hw.symm
      subst hw
      go_wp2_with fail
      refine C2.out.mono ?_
      rintro e w4 ⟨Xb, Yb, rfl, HXb, hw⟩
      replace hw := hw.symm
      subst hw
      go_wp2_with fail
      refine C3.out.mono ?_
      rintro e w4 ⟨Xc, Yc, rfl, HXc, hw⟩
      replace hw := hw.symm
      subst hw
      clear C1 C2 C3
      go_wp2_with fail
      refine C4.out.mono ?_
      rintro e w4 ⟨X1, Y1, rfl, HX1, hw⟩
      replace hw := hw.symm
      subst hw
      clear C4
      obtain ⟨h1, h2, h3⟩ := HQ.out
      rw [h1, h2, h3] at HXc
      obtain ⟨R, S, HS⟩ := asks HL.out HP.out.1 HP.out.2 HXa.out HXb.out HXc.out HX1.out
      have La := hide' (fun w => lean_fin w HS.la)
      have Lb := hide' (fun w => lean_fin w HS.lb)
      have HS' := hide' HS
      clear h1 h2 h3 HXa HXb HXc HX1 HQ HS HP HI
      generalize (w3.alloc (.cells #[.int .i64 0] 3)) = W at *
      have o1 := HS'.out.o1
      have o2 := HS'.out.o2
      have o3 := HS'.out.o3
      have o4 := HS'.out.o4
      have hneg : ∀ b, Op.unary .neg (.float .f64 b) = pure (.float .f64 (Op.negFloat .f64 b)) := fun _ => rfl
      generalize hN : Op.negFloat .f64 Ya = NY at *
      have hneg' : Op.unary .neg (.float .f64 Ya) = pure (.float .f64 NY) := by rw [← hN]; rfl
      clear hneg hN
      go_wp2_with fail
      refine (La.out _).mono ?_
      rintro e w5 ⟨rfl, k5, rfl⟩
      go_wp2_with fail
      refine (Lb.out _).mono ?_
      rintro e w6 ⟨rfl, k6, rfl⟩
      have o5 := HS'.out.o5
      have hce := fun w => run_ceql HS'.out.o6 HS'.out.o7 w
      go_wp2_with fail
      refine (La.out _).mono ?_
      rintro e w7 ⟨rfl, k7, rfl⟩
      have hm := fun w => run_mul HS'.out.ms w
      have o8 := HS'.out.o8
      clear La Lb HS'
      generalize floatOfInt .f64 (l.length : Int) = F at *
      rcases o8 with o8 | o8
      · go_wp2
        go_ret
        exact ⟨rfl, bel_drewN HB4.out _⟩
      · go_wp2
        go_ret
        exact ⟨rfl, bel_drewN HB4.out _⟩
end N
end Go.Proofs.Ytfkoacjfihaajaa
