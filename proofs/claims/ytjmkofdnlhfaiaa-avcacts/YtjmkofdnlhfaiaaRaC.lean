import Derived.Test.YtjmkofdnlhfaiaaRaB
import Derived.Test.YtjmkofdnlhfaiaaRm2
set_option linter.unusedVariables false
set_option linter.unusedSimpArgs false
namespace Go.Proofs.Ytjmkofdnlhfaiaa
open Go.RowKit
namespace C
variable {n v : Nat} {s : St} {L : List Dc} {B c g r hb : Nat} {b : Nat → Nat} {lo : Option Addr} {lc : Nat} {w w' : World}
/-- a box with a pair -/
def Bt (x c r : Nat) (w : World) : Prop := w.heap[x]? = some (.cells #[.pointer (some ⟨c, 0, none⟩), .pointer (some ⟨r, 0, none⟩)] 40 (0, 0))
theorem Bt.b0 {x : Nat} (h : Bt x c r w) : w.cell? ⟨x, 0, none⟩ = some (.pointer (some ⟨c, 0, none⟩)) := by rw [Lib.cell_of_heap h]; rfl
theorem Bt.b1 {x : Nat} (h : Bt x c r w) : w.cell? ⟨x, 1, none⟩ = some (.pointer (some ⟨r, 0, none⟩)) := by rw [Lib.cell_of_heap h]; rfl
/-- what stands amid act -/
structure Am (B c g n v : Nat) (b : Nat → Nat) (r hb : Nat) (s : St) (lo : Option Addr) (x z : Nat) (y : Act) (w w' : World) : Prop where
  pr : Pr B c g n v b r hb s lo w'
  bt : Bt x c r w'
  ab : Ab z y w'
  bel : Below w.heap.size w w'
theorem am_pre (y : Act) (h : Pr B c g n v b r hb s lo w) : ∃ w1 x z, w1 = (w.alloc (.cells #[.pointer (some ⟨c, 0, none⟩), .pointer (some ⟨r, 0, none⟩)] 40)).alloc (.cells #[.int .i64 y.d, .int .i64 y.tag, .int .i64 y.t.s, .int .i64 y.t.o, .int .i64 y.t.a, .bool y.al] 45) ∧ x = w.heap.size ∧ z = w.heap.size + 1 ∧ Am B c g n v b r hb s lo x z y w w1 := by
  have b1 : Below w.heap.size w ((w.alloc (.cells #[.pointer (some ⟨c, 0, none⟩), .pointer (some ⟨r, 0, none⟩)] 40)).alloc (.cells #[.int .i64 y.d, .int .i64 y.tag, .int .i64 y.t.s, .int .i64 y.t.o, .int .i64 y.t.a, .bool y.al] 45)) := ((Below.refl _ _).alloc (Nat.le_refl _) _).alloc (by simp) _
  refine ⟨_, _, _, rfl, rfl, rfl, h.below b1, ?_, ?_, b1⟩
  · exact (Below.heap_alloc _ _ _ (by simp)).trans (heap_alloc_new w _)
  · have := heap_alloc_new (w.alloc (.cells #[.pointer (some ⟨c, 0, none⟩), .pointer (some ⟨r, 0, none⟩)] 40)) (.cells #[.int .i64 y.d, .int .i64 y.tag, .int .i64 y.t.s, .int .i64 y.t.o, .int .i64 y.t.a, .bool y.al] 45)
    rw [show (w.alloc (.cells #[.pointer (some ⟨c, 0, none⟩), .pointer (some ⟨r, 0, none⟩)] 40)).heap.size = w.heap.size + 1 by simp] at this
    exact this
/-- behind the program's call -/
theorem Am.own {x z : Nat} {y : Act} {w1 w2 : World} (h : Am B c g n v b r hb s lo x z y w w1) (t : Turn (Own c g n b) w1 w2) : (∃ L lc, Rf B r hb n v s L lo lc w2) ∧ Bt x c r w2 ∧ Ab z y w2 := by
  obtain ⟨L, lc, hf⟩ := h.pr.rf
  exact ⟨⟨L, lc, hf.kept t (fun j hj q => h.pr.apart q hj)⟩, (t.block x (lt_of_heap h.bt) (h.pr.ca.not h.bt (by decide))).trans h.bt, h.ab.turn h.pr.ca t⟩
theorem Am.fin {x z : Nat} {y : Act} {w1 w2 : World} {s' : St} (h : Am B c g n v b r hb s lo x z y w w1) (k : PT B c g n v b r hb s' lo w1 w2) : PT B c g n v b r hb s' lo w w2 := by
  obtain ⟨lo', hp, t, hat⟩ := k
  exact ⟨lo', hp, (turn_below h.bel).trans t, fun j hj => (hat j hj).imp id (fun q => Nat.le_trans h.bel.size q)⟩
set_option maxRecDepth 100000 in
set_option maxHeartbeats 2000000 in
theorem act1 (y : Act) (hd : y.d = 1) (h : Pr B c g n v b r hb s lo w) (h1 : s.hi < 4000000000000000000) (h2 : s.mi < 4000000000000000000) : Calls Try.prog 16 #[.agg #[.pointer (some ⟨c, 0, none⟩), .pointer (some ⟨r, 0, none⟩)], .agg #[.int .i64 y.d, .int .i64 y.tag, .int .i64 y.t.s, .int .i64 y.t.o, .int .i64 y.t.a, .bool y.al]] w fun e w' => e = .returned (.bool true) ∧ PT B c g n v b r hb (gta n v s y.tag y.t).2.2 lo w w' := by
  obtain ⟨w1, x, z, hw1, hx, hz, hA⟩ := am_pre y h
  have HG : Hid (Calls Try.prog 19 #[.pointer (some ⟨c, 0, none⟩), .int .i64 y.tag, .int .i64 y.t.s, .int .i64 y.t.o, .int .i64 y.t.a] w1 fun e w2 => e = .returned (.tuple #[.bool (gta n v s y.tag y.t).1, .bool (gta n v s y.tag y.t).2.1]) ∧ Hid (Bt x c r w2 ∧ Ab z y w2 ∧ Calls Try.prog 23 #[.pointer (some ⟨r, 0, none⟩), .int .i64 y.tag, .int .i64 y.t.s, .int .i64 y.t.o, .int .i64 y.t.a] w2 fun e w3 => e = .returned (.tuple #[.bool (gta n v s y.tag y.t).1, .bool (gta n v s y.tag y.t).2.1]) ∧ PT B c g n v b r hb (gta n v s y.tag y.t).2.2 lo w w3)) := hide' ((get_any y.tag y.t hA.pr.ca h1 h2).mono fun e w2 ⟨he, hc, ht⟩ => by
    obtain ⟨⟨L, lc, hf⟩, q2, q3⟩ := hA.own ht
    exact ⟨he, hide' ⟨q2, q3, (rget_any y.tag y.t hf h1 h2).mono fun e w3 ⟨he, hrt⟩ => ⟨he, hA.fin (hA.pr.both (L := L) hc ht hrt)⟩⟩⟩)
  have b0 := hA.bt.b0
  have g0 := hA.ab.c0
  have g1 := hA.ab.c1
  have g2 := hA.ab.c2
  have g3 := hA.ab.c3
  have g4 := hA.ab.c4
  have Hx := hide' hx
  have Hz := hide' hz
  have Hw1 := hide' hw1
  rw [hd] at g0
  clear h hA h1 h2 hx hz hw1 hd
  generalize gta n v s y.tag y.t = G at *
  go_enter Try.func16, Try.ntmps16
  go_upto_region 1 with fail
  rw [← Hz.out, ← Hx.out, ← Hw1.out]
  go_wp2_with fail
  refine HG.out.mono ?_
  rintro e w2 ⟨rfl, H2⟩
  have k1 := H2.out.1.b1
  have m1 := H2.out.2.1.c1
  have m2 := H2.out.2.1.c2
  have m3 := H2.out.2.1.c3
  have m4 := H2.out.2.1.c4
  have HC := hide' H2.out.2.2
  clear HG H2 b0 g0 g1 g2 g3 g4 Hx Hz Hw1
  go_wp2_with fail
  refine HC.out.mono ?_
  rintro e w3 ⟨rfl, h3⟩
  have H3 := hide' h3
  clear HC h3 k1 m1 m2 m3 m4
  obtain ⟨G1, G2, G3⟩ := G
  have e1 : (G1 == G1) = true := by simp
  have e2 : (G2 == G2) = true := by simp
  go_wp2
  go_ret
  exact ⟨rfl, H3.out⟩
set_option maxRecDepth 100000 in
set_option maxHeartbeats 2000000 in
theorem act2 (y : Act) (hd : y.d = 2) (h : Pr B c g n v b r hb s lo w) (h1 : s.ev < 4000000000000000000) : Calls Try.prog 16 #[.agg #[.pointer (some ⟨c, 0, none⟩), .pointer (some ⟨r, 0, none⟩)], .agg #[.int .i64 y.d, .int .i64 y.tag, .int .i64 y.t.s, .int .i64 y.t.o, .int .i64 y.t.a, .bool y.al]] w fun e w' => e = .returned (.bool true) ∧ PT B c g n v b r hb (pta n v s y.tag y.t y.al) lo w w' := by
  obtain ⟨w1, x, z, hw1, hx, hz, hA⟩ := am_pre y h
  have HG : Hid (Calls Try.prog 18 #[.pointer (some ⟨c, 0, none⟩), .int .i64 y.tag, .int .i64 y.t.s, .int .i64 y.t.o, .int .i64 y.t.a, .bool y.al] w1 fun e w2 => e = .returned (.tuple #[]) ∧ Hid (Bt x c r w2 ∧ Ab z y w2 ∧ Calls Try.prog 24 #[.pointer (some ⟨r, 0, none⟩), .int .i64 y.tag, .int .i64 y.t.s, .int .i64 y.t.o, .int .i64 y.t.a, .bool y.al] w2 fun e w3 => e = .returned (.tuple #[]) ∧ PT B c g n v b r hb (pta n v s y.tag y.t y.al) lo w w3)) := hide' ((put_any y.tag y.t y.al hA.pr.ca h1).mono fun e w2 ⟨he, hc, ht⟩ => by
    obtain ⟨⟨L, lc, hf⟩, q2, q3⟩ := hA.own ht
    exact ⟨he, hide' ⟨q2, q3, (rput_any y.tag y.t y.al hf h1).mono fun e w3 ⟨he, hrt⟩ => ⟨he, hA.fin (hA.pr.both (L := L) hc ht hrt)⟩⟩⟩)
  have b0 := hA.bt.b0
  have g0 := hA.ab.c0
  have g1 := hA.ab.c1
  have g2 := hA.ab.c2
  have g3 := hA.ab.c3
  have g4 := hA.ab.c4
  have g5 := hA.ab.c5
  have Hx := hide' hx
  have Hz := hide' hz
  have Hw1 := hide' hw1
  rw [hd] at g0
  clear h hA h1 hx hz hw1 hd
  generalize pta n v s y.tag y.t y.al = G at *
  go_enter Try.func16, Try.ntmps16
  go_upto_region 1 with fail
  rw [← Hz.out, ← Hx.out, ← Hw1.out]
  go_wp2_with fail
  refine HG.out.mono ?_
  rintro e w2 ⟨rfl, H2⟩
  have k1 := H2.out.1.b1
  have m1 := H2.out.2.1.c1
  have m2 := H2.out.2.1.c2
  have m3 := H2.out.2.1.c3
  have m4 := H2.out.2.1.c4
  have m5 := H2.out.2.1.c5
  have HC := hide' H2.out.2.2
  clear HG H2 b0 g0 g1 g2 g3 g4 g5 Hx Hz Hw1
  go_wp2_with fail
  refine HC.out.mono ?_
  rintro e w3 ⟨rfl, h3⟩
  have H3 := hide' h3
  clear HC h3 k1 m1 m2 m3 m4 m5
  go_wp2
  go_ret
  exact ⟨rfl, H3.out⟩
end C
end Go.Proofs.Ytjmkofdnlhfaiaa
