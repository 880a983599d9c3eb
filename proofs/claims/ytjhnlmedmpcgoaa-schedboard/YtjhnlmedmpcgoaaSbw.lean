import Derived.Test.YtjhnlmedmpcgoaaAc6
import Derived.Test.YtjhnlmedmpcgoaaAc4
import Derived.Test.YtjhnlmedmpcgoaaInA
set_option linter.unusedVariables false
set_option linter.unusedSimpArgs false
namespace Go.Proofs.Ytjhnlmedmpcgoaa
open Go.RowKit
namespace Q
open C (Tk)
variable {D U : Nat → Prop} {B K : Nat} {m : Mr} {w w' w1 : World} {s : Sq} {Db : Nat → Prop} {P E : Nat → Nat → Prop}
/-- any act at all -/
theorem act_any {t : Nat} (d n : Int) (h : RT K B t D w) (hB : B ≤ w.heap.size) (hK : K < 8796093022209) :
    Calls Try.prog 22 #[.pointer (some ⟨t, 0, none⟩), .agg #[.int .i64 d, .int .i64 n]] w fun e w' => e = .returned (.bool true) ∧ AT (K + 1) B t D w w' := by
  obtain ⟨s, Db, P, E, rfl, r, z, hd⟩ := h
  have fin : ∀ e w', (e = Ending.returned (.bool true) ∧ AQ K B s (Sb s Db P E) w w') → (e = Ending.returned (.bool true) ∧ AT (K + 1) B s.t D w w') := by
    rintro e w' ⟨rfl, s', e1, r', k⟩
    have := AT.of (D := D) k r' hd
    rw [e1] at this
    exact ⟨rfl, this⟩
  by_cases h1 : d = 1
  · rw [h1]; exact (act1 n z r hB hK).mono fin
  by_cases h2 : d = 2
  · rw [h2]; exact (act2 n z r hB hK).mono fin
  by_cases h3 : d = 3
  · rw [h3]; exact (act3 n z r hB (by omega)).mono fin
  by_cases h4 : d = 4
  · rw [h4]; exact (act4 n z r).mono fin
  by_cases h5 : d = 5
  · rw [h5]; exact (act5 n z r hB hK).mono fin
  by_cases h6 : d = 6
  · rw [h6]; exact (act6 n z r).mono fin
  by_cases h7 : d = 7
  · rw [h7]; exact (act7 n z r).mono fin
  by_cases h8 : d = 8
  · rw [h8]; exact (act8 n z r hK).mono fin
  exact (act0 d n h1 h2 h3 h4 h5 h6 h7 h8 z r).mono fin
theorem RT.bnd {t : Nat} (h : RT K B t D w) {j : Nat} (hj : D j) : B ≤ j ∧ j < w.heap.size := by
  obtain ⟨s, Db, P, E, rfl, r, z, hd⟩ := h
  exact z.bnd ((hd j).1 hj)
theorem RT.kept {t : Nat} (h : RT K B t D w) (u : Turn U w w') (hn : ∀ j, D j → ¬ U j) : RT K B t D w' := by
  obtain ⟨s, Db, P, E, e, r, z, hd⟩ := h
  exact ⟨s, Db, P, E, e, r, z.kept u (fun j q => hn j ((hd j).2 q)), hd⟩
theorem RT.more {t K' : Nat} (h : RT K B t D w) (hk : K ≤ K') : RT K' B t D w := by
  obtain ⟨s, Db, P, E, e, r, z, hd⟩ := h
  exact ⟨s, Db, P, E, e, r.more hk, z, hd⟩
theorem RT.whole {t : Nat} (h : RT K B t D w) (hK : K < 8796093022209) : Calls Try.prog 23 #[.pointer (some ⟨t, 0, none⟩)] w fun e w' => e = .returned (.bool true) ∧ Below w.heap.size w w' := by
  obtain ⟨s, Db, P, E, rfl, r, z, hd⟩ := h
  exact whole_any z r hK
theorem RT.c0 {t : Nat} (h : RT K B t D w) : ∃ b, w.cell? ⟨t, 0, none⟩ = some (.pointer (some ⟨b, 0, none⟩)) := by
  obtain ⟨s, Db, P, E, rfl, r, z, hd⟩ := h
  exact ⟨s.b, z.c 0⟩
def TA (b : Nat) : Obj := .cells #[.pointer (some ⟨b, 0, none⟩), .slice none 0 0, .slice none 0 0, .int .i64 0, .slice none 0 0, .slice none 0 0] 47
/-- a new table -/
theorem RT.new {b : Nat} (h : C.Bo (fun j => j = b) B b [] 0 w) (hB : B ≤ w.heap.size) : RT 0 B w.heap.size (fun j => j = w.heap.size ∨ j = b) (w.alloc (TA b)) := by
  let nl : Sl := ⟨none, 0⟩
  refine ⟨⟨w.heap.size, b, [], [], [], [], [], [], 0, [], 0, nl, nl, nl, nl⟩, fun j => j = b, fun _ _ => False, fun _ _ => False, rfl, ?_, ?_, fun j => ⟨?_, ?_⟩⟩
  · exact ⟨rfl, fun i p d e => by simp at e, rfl, rfl, rfl, rfl, fun x hx => by simp at hx, rfl, by simp, Nat.le_refl _, Nat.le_refl _, fun i p e => by simp at e⟩
  · exact ⟨heap_alloc_new _ _, h.kept (turn_below (S := fun _ => False) ((Below.refl _ _).alloc (Nat.le_refl _) _)) (fun _ _ q => q), fun i m e => by simp at e, fun i m e => by simp at e, World.ownsRow_nil _ _ _ _, World.ownsRow_nil _ _ _ _, World.ownsRow_nil _ _ _ _, World.ownsRow_nil _ _ _ _, fun i j hi => by simp at hi, fun i j hi => by simp at hi, fun i j hi => by simp at hi, hB⟩
  · rintro (q | q)
    · exact .inl q
    · exact .inr (.inl q)
  · rintro (q | q | ⟨_, hi, _⟩ | ⟨_, hi, _⟩ | ⟨a, e, _⟩ | ⟨a, e, _⟩ | ⟨a, e, _⟩ | ⟨a, e, _⟩)
    · exact .inl q
    · exact .inr q
    · simp at hi
    · simp at hi
    · cases e
    · cases e
    · cases e
    · cases e
/-- two tables, apart -/
def Tw (Ka Kb B ta tb : Nat) (w : World) : Prop := B ≤ w.heap.size ∧ ∃ Da Db, RT Ka B ta Da w ∧ RT Kb B tb Db w ∧ ∀ j, Da j → ¬ Db j
variable {Ka Kb : Nat}
theorem Tw.one {ta tb : Nat} (d n : Int) (h : Tw Ka Kb B ta tb w) (hK : Ka < 8796093022208) : Calls Try.prog 22 #[.pointer (some ⟨ta, 0, none⟩), .agg #[.int .i64 d, .int .i64 n]] w fun e w' => e = .returned (.bool true) ∧ Hid (Tw (Ka + 1) Kb B ta tb w' ∧ Below B w w') := by
  obtain ⟨hB, Da, Db, ha, hb, dj⟩ := h
  refine (act_any d n ha hB (by omega)).mono ?_
  rintro e w' ⟨rfl, D', r', t, nw⟩
  refine ⟨rfl, hide' ⟨⟨Nat.le_trans hB t.size, D', Db, r', (hb.kept t (fun j q z => dj j z q)), fun j q z => ?_⟩, t.below (fun j q => (ha.bnd q).1) hB⟩⟩
  rcases nw j q with y | y
  · exact dj j y z
  · have := (hb.bnd z).2; omega
theorem Tw.two {ta tb : Nat} (d n : Int) (h : Tw Ka Kb B ta tb w) (hK : Kb < 8796093022208) : Calls Try.prog 22 #[.pointer (some ⟨tb, 0, none⟩), .agg #[.int .i64 d, .int .i64 n]] w fun e w' => e = .returned (.bool true) ∧ Hid (Tw Ka (Kb + 1) B ta tb w' ∧ Below B w w') := by
  obtain ⟨hB, Da, Db, ha, hb, dj⟩ := h
  refine (act_any d n hb hB (by omega)).mono ?_
  rintro e w' ⟨rfl, D', r', t, nw⟩
  refine ⟨rfl, hide' ⟨⟨Nat.le_trans hB t.size, Da, D', ha.kept t dj, r', fun j q z => ?_⟩, t.below (fun j q => (hb.bnd q).1) hB⟩⟩
  rcases nw j z with y | y
  · exact dj j q y
  · have := (ha.bnd q).2; omega
theorem Tw.below {ta tb : Nat} (h : Tw Ka Kb B ta tb w) (b : Below w.heap.size w w') : Tw Ka Kb B ta tb w' := by
  obtain ⟨hB, Da, Db, ha, hb, dj⟩ := h
  exact ⟨Nat.le_trans hB b.size, Da, Db, ha.kept (turn_below (S := fun _ => False) b) (fun _ _ q => q), hb.kept (turn_below (S := fun _ => False) b) (fun _ _ q => q), dj⟩
/-- the two tables are made -/
theorem Tw.new {b1 b2 : Nat} {wa wb : World} (h1 : C.Bo (fun j => j = b1) B b1 [] 0 wa) (hB : B ≤ wa.heap.size) (s1 : b1 < wa.heap.size) (bb : Below (wa.alloc (TA b1)).heap.size (wa.alloc (TA b1)) wb) (h2 : C.Bo (fun j => j = b2) B b2 [] 0 wb) (s2 : (wa.alloc (TA b1)).heap.size ≤ b2) :
    Tw 0 0 B wa.heap.size wb.heap.size (wb.alloc (TA b2)) := by
  have r1 := RT.new h1 hB
  have e1 : (wa.alloc (TA b1)).heap.size = wa.heap.size + 1 := by simp
  have hz := bb.size
  have hB2 : B ≤ wb.heap.size := by omega
  have r2 := RT.new h2 hB2
  have bx : Below wb.heap.size wb (wb.alloc (TA b2)) := (Below.refl _ _).alloc (Nat.le_refl _) _
  refine ⟨by simp; omega, _, _, (r1.kept (turn_below (S := fun _ => False) bb) (fun _ _ q => q)).kept (turn_below (S := fun _ => False) bx) (fun _ _ q => q), r2, ?_⟩
  rintro j (rfl | rfl) (q | q) <;> omega
set_option maxRecDepth 100000 in
set_option maxHeartbeats 8000000 in
theorem board_walk (a0 : Option Addr) (cap0 : Nat) (one : List (Int × Int)) (a1 : Option Addr) (cap1 : Nat) (two : List (Int × Int)) (W : World) (h0 : As W a0 one) (h1 : As W a1 two) (l0 : one.length < 8796093022208) (l1 : two.length < 8796093022208) :
    Calls Try.prog 5 #[.slice a0 one.length cap0, .slice a1 two.length cap1] W fun e w' => e = .returned (.bool true) ∧ Below W.heap.size W w' := by
  have H0 := hide' h0
  have H1 := hide' h1
  have L0 := hide' l0
  have L1 := hide' l1
  have HA := hide' (C.board_any (B := W.heap.size) W (Nat.le_refl _))
  obtain ⟨B, hB⟩ : ∃ B, B = W.heap.size := ⟨_, rfl⟩
  have HB := hide' hB
  have E3 : Hid (∀ k : Nat, k < one.length ∨ k < two.length → wrap64 ((k : Int) + 1) = (k : Int) + 1) := hide' (fun k hk => wrap_in (by omega) (by omega))
  clear h0 h1 l0 l1 hB
  go_enter Try.func5, Try.ntmps5
  go_wp2_with fail
  refine HA.out.mono ?_
  rintro e wa ⟨rfl, k1, b1, z1⟩
  obtain ⟨wb, hwb⟩ : ∃ wb, wb = wa.alloc (TA W.heap.size) := ⟨_, rfl⟩
  have hbz : wb.heap.size = wa.heap.size + 1 := by rw [hwb]; simp
  have HA2 := hide' (C.board_any (B := W.heap.size) wb (by omega))
  have Hwb : Hid (wb = wa.alloc (.cells #[.pointer (some ⟨W.heap.size, 0, none⟩), .slice none 0 0, .slice none 0 0, .int .i64 0, .slice none 0 0, .slice none 0 0] 47)) := hide' hwb
  have HK := hide' (And.intro k1 (And.intro b1 (And.intro z1 (And.intro hwb hbz))))
  clear k1 b1 z1 hwb HA hbz
  go_upto_region 2 with fail
  rw [← Hwb.out]
  clear Hwb
  go_wp2_with fail
  refine HA2.out.mono ?_
  rintro e wc ⟨rfl, k2, b2, z2⟩
  obtain ⟨wd, hwd⟩ : ∃ wd, wd = wc.alloc (TA wb.heap.size) := ⟨_, rfl⟩
  have Hwd : Hid (wd = wc.alloc (.cells #[.pointer (some ⟨wb.heap.size, 0, none⟩), .slice none 0 0, .slice none 0 0, .int .i64 0, .slice none 0 0, .slice none 0 0] 47)) := hide' hwd
  obtain ⟨ta, hta⟩ : ∃ ta, ta = wa.heap.size := ⟨_, rfl⟩
  obtain ⟨tb, htb⟩ : ∃ tb, tb = wc.heap.size := ⟨_, rfl⟩
  have T0 : Hid (Tw 0 0 B ta tb wd ∧ Below B W wd) := hide' (by
    obtain ⟨k1, b1, z1, hwb, hbz⟩ := HK.out
    have e2 : (wa.alloc (TA W.heap.size)).heap.size = wb.heap.size := by rw [hwb]
    rw [HB.out, hta, htb, hwd]
    refine ⟨Tw.new k1 (by omega) (by omega) (by rw [← hwb]; exact b2) k2 (by rw [e2]; exact Nat.le_refl _), ?_⟩
    have x1 : Below W.heap.size W wb := by rw [hwb]; exact b1.alloc b1.size _
    exact (x1.trans (b2.mono x1.size)).alloc (Nat.le_trans x1.size b2.size) _)
  have Hta := hide' hta
  have Htb := hide' htb
  clear k2 b2 z2 hwd HA2 HK hta htb
  go_upto_region 3 with fail
  rw [← Hwd.out, ← Hta.out, ← Htb.out]
  clear Hwd Hta Htb
  have p0 : ∃ b, wd.cell? ⟨ta, 0, none⟩ = some (.pointer (some ⟨b, 0, none⟩)) := by obtain ⟨⟨_, _, _, r1, r2, _⟩, _⟩ := T0.out; exact r1.c0
  have p1 : ∃ b, wd.cell? ⟨tb, 0, none⟩ = some (.pointer (some ⟨b, 0, none⟩)) := by obtain ⟨⟨_, _, _, r1, r2, _⟩, _⟩ := T0.out; exact r2.c0
  obtain ⟨ba, p0⟩ := p0
  obtain ⟨bb, p1⟩ := p1
  go_wp2_with fail
  clear p0 p1
  go_loopw [7] (fun i wx => ∃ k : Nat, i = .int .i64 (k : Int) ∧ (k ≤ one.length ∨ k ≤ two.length) ∧ ∃ V, V = wx ∧ Tw (min k one.length) (min k two.length) B ta tb V ∧ Below W.heap.size W V) (fun i _ => max one.length two.length - (intOf i).toNat)
  case atStart => exact ⟨0, rfl, .inl (Nat.zero_le _), _, rfl, by rw [Nat.zero_min, Nat.zero_min]; exact T0.out.1, by rw [← HB.out]; exact T0.out.2⟩
  case round =>
    obtain ⟨k, rfl, hk, wx, rfl, hT, hbw⟩ := hrel
    have HW := hide' hbw
    by_cases hlt : k < one.length ∨ k < two.length
    · have e1 := E3.out k hlt
      have Hend := hide' (msr' (show k < max one.length two.length by omega) _ e1)
      have HT := hide' hT
      have Hlt := hide' hlt
      clear hT hbw hk hlt
      by_cases q0 : k < one.length
      · obtain ⟨d0, hd0⟩ : ∃ d, d = (one.getD k (0, 0)).1 := ⟨_, rfl⟩
        obtain ⟨n0, hn0⟩ : ∃ d, d = (one.getD k (0, 0)).2 := ⟨_, rfl⟩
        have q0' : (k : Int) < (one.length : Int) := by omega
        have C0 := hide' (HT.out.one d0 n0 (by have := L0.out; omega))
        obtain ⟨b0, o0, ea, eb, ec⟩ : ∃ b off, a0 = some ⟨b, off, none⟩ ∧ b < W.heap.size ∧ ∀ j, j < one.length → W.cell? ⟨b, off + j * 2, none⟩ = some (.int .i64 (one.getD j (0, 0)).1) ∧ W.cell? ⟨b, off + j * 2 + 1, none⟩ = some (.int .i64 (one.getD j (0, 0)).2) := by
          rcases H0.out with q | q
          · rw [q] at q0; simp at q0
          · exact q
        have i0 : wx.cell? ⟨b0, o0 + k * 2, none⟩ = some (.int .i64 d0) := by rw [hd0]; exact (HW.out.cell (p := ⟨b0, o0 + k * 2, none⟩) eb).trans (ec k q0).1
        have i1 : wx.cell? ⟨b0, o0 + k * 2 + 1, none⟩ = some (.int .i64 n0) := by rw [hn0]; exact (HW.out.cell (p := ⟨b0, o0 + k * 2 + 1, none⟩) eb).trans (ec k q0).2
        have Hmin0 : Hid (min (k + 1) one.length = min k one.length + 1) := hide' (by omega)
        obtain rfl := ea
        clear ec hd0 hn0 eb
        by_cases q1 : k < two.length
        · obtain ⟨d1, hd1⟩ : ∃ d, d = (two.getD k (0, 0)).1 := ⟨_, rfl⟩
          obtain ⟨n1, hn1⟩ : ∃ d, d = (two.getD k (0, 0)).2 := ⟨_, rfl⟩
          have q1' : (k : Int) < (two.length : Int) := by omega
          obtain ⟨b1, o1, ea, eb, ec⟩ : ∃ b off, a1 = some ⟨b, off, none⟩ ∧ b < W.heap.size ∧ ∀ j, j < two.length → W.cell? ⟨b, off + j * 2, none⟩ = some (.int .i64 (two.getD j (0, 0)).1) ∧ W.cell? ⟨b, off + j * 2 + 1, none⟩ = some (.int .i64 (two.getD j (0, 0)).2) := by
            rcases H1.out with q | q
            · rw [q] at q1; simp at q1
            · exact q
          have HI : Hid (∀ V, Below W.heap.size W V → V.cell? ⟨b1, o1 + k * 2, none⟩ = some (.int .i64 d1) ∧ V.cell? ⟨b1, o1 + k * 2 + 1, none⟩ = some (.int .i64 n1)) := hide' (fun V bv => by
            rw [hd1, hn1]
            exact ⟨(bv.cell (p := ⟨b1, o1 + k * 2, none⟩) eb).trans (ec k q1).1, (bv.cell (p := ⟨b1, o1 + k * 2 + 1, none⟩) eb).trans (ec k q1).2⟩)
          have Hmin1 : Hid (min (k + 1) two.length = min k two.length + 1) := hide' (by omega)
          have C1 : Hid (∀ V, Tw (min k one.length + 1) (min k two.length) B ta tb V → _) := hide' (fun V (z : Tw (min k one.length + 1) (min k two.length) B ta tb V) => z.two d1 n1 (by have := L1.out; omega))
          obtain rfl := ea
          clear ec hd1 hn1 eb
          have Hle : Hid (k + 1 ≤ one.length) := hide' q0
          clear q0 q1
          go_wp2_with fail
          refine C0.out.mono ?_
          rintro e w2 ⟨rfl, k2⟩
          have HW2 : Hid (Below W.heap.size W w2) := hide' (HW.out.trans (by have := k2.out.2; rw [HB.out] at this; exact this))
          obtain ⟨j0, j1⟩ := HI.out w2 HW2.out
          have C2 := hide' (C1.out w2 k2.out.1)
          clear i0 i1 C0 C1 k2
          go_wp2_with fail
          refine C2.out.mono ?_
          rintro e w3 ⟨rfl, k3⟩
          have K3 : Hid (Tw (min (k + 1) one.length) (min (k + 1) two.length) B ta tb w3 ∧ Below W.heap.size W w3) := hide' (by
            refine ⟨by rw [Hmin0.out, Hmin1.out]; exact k3.out.1, HW2.out.trans (by have := k3.out.2; rw [HB.out] at this; exact this)⟩)
          clear j0 j1 C2 k3
          go_wp2
          exact ⟨⟨k + 1, by go_num, .inl Hle.out, _, rfl, K3.out.1, K3.out.2⟩, Hend.out⟩
        · have q1' : ¬ (k : Int) < (two.length : Int) := by omega
          have Hmin1 : Hid (min (k + 1) two.length = min k two.length) := hide' (by omega)
          have Hle : Hid (k + 1 ≤ one.length) := hide' q0
          clear q0 q1
          go_wp2_with fail
          refine C0.out.mono ?_
          rintro e w3 ⟨rfl, k3⟩
          have K3 : Hid (Tw (min (k + 1) one.length) (min (k + 1) two.length) B ta tb w3 ∧ Below W.heap.size W w3) := hide' (by
            refine ⟨by rw [Hmin0.out, Hmin1.out]; exact k3.out.1, HW.out.trans (by have := k3.out.2; rw [HB.out] at this; exact this)⟩)
          clear i0 i1 C0 k3
          go_wp2
          exact ⟨⟨k + 1, by go_num, .inl Hle.out, _, rfl, K3.out.1, K3.out.2⟩, Hend.out⟩
      · have q1 : k < two.length := by have := Hlt.out; omega
        have q0' : ¬ (k : Int) < (one.length : Int) := by omega
        obtain ⟨d1, hd1⟩ : ∃ d, d = (two.getD k (0, 0)).1 := ⟨_, rfl⟩
        obtain ⟨n1, hn1⟩ : ∃ d, d = (two.getD k (0, 0)).2 := ⟨_, rfl⟩
        have q1' : (k : Int) < (two.length : Int) := by omega
        have C0 := hide' (HT.out.two d1 n1 (by have := L1.out; omega))
        obtain ⟨b1, o1, ea, eb, ec⟩ : ∃ b off, a1 = some ⟨b, off, none⟩ ∧ b < W.heap.size ∧ ∀ j, j < two.length → W.cell? ⟨b, off + j * 2, none⟩ = some (.int .i64 (two.getD j (0, 0)).1) ∧ W.cell? ⟨b, off + j * 2 + 1, none⟩ = some (.int .i64 (two.getD j (0, 0)).2) := by
          rcases H1.out with q | q
          · rw [q] at q1; simp at q1
          · exact q
        have i0 : wx.cell? ⟨b1, o1 + k * 2, none⟩ = some (.int .i64 d1) := by rw [hd1]; exact (HW.out.cell (p := ⟨b1, o1 + k * 2, none⟩) eb).trans (ec k q1).1
        have i1 : wx.cell? ⟨b1, o1 + k * 2 + 1, none⟩ = some (.int .i64 n1) := by rw [hn1]; exact (HW.out.cell (p := ⟨b1, o1 + k * 2 + 1, none⟩) eb).trans (ec k q1).2
        have Hmin1 : Hid (min (k + 1) two.length = min k two.length + 1) := hide' (by omega)
        have Hmin0 : Hid (min (k + 1) one.length = min k one.length) := hide' (by omega)
        have Hle : Hid (k + 1 ≤ two.length) := hide' q1
        obtain rfl := ea
        clear ec hd1 hn1 eb q0 q1
        go_wp2_with fail
        refine C0.out.mono ?_
        rintro e w3 ⟨rfl, k3⟩
        have K3 : Hid (Tw (min (k + 1) one.length) (min (k + 1) two.length) B ta tb w3 ∧ Below W.heap.size W w3) := hide' (by
          refine ⟨by rw [Hmin0.out, Hmin1.out]; exact k3.out.1, HW.out.trans (by have := k3.out.2; rw [HB.out] at this; exact this)⟩)
        clear i0 i1 C0 k3
        go_wp2
        exact ⟨⟨k + 1, by go_num, .inr Hle.out, _, rfl, K3.out.1, K3.out.2⟩, Hend.out⟩
    · have hlt0 : ¬ (k : Int) < (one.length : Int) := fun q => hlt (.inl (by omega))
      have hlt1 : ¬ (k : Int) < (two.length : Int) := fun q => hlt (.inr (by omega))
      have H1 : Hid (∀ V, Below wx.heap.size wx V → Tw (min k one.length) (min k two.length) B ta tb V) := hide' (fun V b => hT.below b)
      have CA := hide' (hT.2.elim (fun Da q => q.elim (fun Db q => q.1.whole (by have := L0.out; omega))))
      have CB : Hid (∀ V, Below wx.heap.size wx V → Calls Try.prog 23 #[.pointer (some ⟨tb, 0, none⟩)] V fun e w' => e = .returned (.bool true) ∧ Below V.heap.size V w') := hide' (fun V b => (H1.out V b).2.elim (fun Da q => q.elim (fun Db q => q.2.1.whole (by have := L1.out; omega))))
      clear hT hbw hlt hk
      go_wp2_with fail
      refine CA.out.mono ?_
      rintro e w2 ⟨rfl, k2⟩
      have K2 := hide' k2
      have CB2 := hide' (CB.out w2 k2)
      clear k2 CA CB
      go_wp2_with fail
      refine CB2.out.mono ?_
      rintro e w3 ⟨rfl, k3⟩
      have K3 : Hid (Below W.heap.size W w3) := hide' ((HW.out.trans (K2.out.mono HW.out.size)).trans (k3.mono (Nat.le_trans HW.out.size K2.out.size)))
      clear k3 CB2
      go_wp2
      go_ret
      exact ⟨rfl, K3.out⟩
end Q
end Go.Proofs.Ytjhnlmedmpcgoaa
