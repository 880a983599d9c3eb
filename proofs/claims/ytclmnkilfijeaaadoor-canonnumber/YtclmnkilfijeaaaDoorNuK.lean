import Derived.Test.YtclmnkilfijeaaaDoorNuJ
import Derived.Deep.RegionHeld3
set_option linter.unusedVariables false
set_option linter.unusedSimpArgs false
namespace Go.Proofs.YtclmnkilfijeaaaDoor
open Go.RowKit
theorem and2047_fin : ∀ n : Fin 2048, bits .and .i64 (n.val : Int) 2047 = n.val := by decide +kernel
theorem and2047 (n : Nat) (h : n < 2048) : bits .and .i64 (n : Int) 2047 = n := and2047_fin ⟨n, h⟩
theorem and52 (r : Nat) (h : r < 18446744073709551616) : bits .and .u64 (r : Int) 4503599627370495 = ((r % 4503599627370496 : Nat) : Int) := by
  have := bits_and_u64_nat r 4503599627370495 h (by omega)
  have e : r &&& 4503599627370495 = r % 4503599627370496 := Nat.and_two_pow_sub_one_eq_mod r 52
  rw [e] at this
  exact this
theorem or52 (a : Nat) (h : a < 4503599627370496) : bits .or .u64 (a : Int) 4503599627370496 = ((a + 4503599627370496 : Nat) : Int) := by
  have := bits_or_u64_nat a 4503599627370496 (by omega) (by omega)
  have e : a ||| 4503599627370496 = a + 4503599627370496 := by
    have q := Nat.two_pow_add_eq_or_of_lt (i := 52) (b := a) h 1
    rw [Nat.or_comm]
    have e2 : (2 : Nat) ^ 52 * 1 = 4503599627370496 := by decide
    rw [e2] at q
    omega
  rw [e] at this
  exact this
theorem holds32 (w : World) (T : TypeId) (nd : Nat) (hs : nd ≤ 24) : Go.Sort.Holds encB (w.alloc (.cells (Array.replicate 32 (.int .u8 0)) T)) w.heap.size 0 (Array.replicate nd (0 : UInt8)) := fun j hj => by
  have hj' : j < nd := by simpa using hj
  refine ⟨?_, World.frozen?_alloc_new _ _ _ _⟩
  rw [World.cell?_alloc_new, getElem!_pos _ j hj, Nat.zero_add, Array.getElem?_replicate, if_pos (by omega), Array.getElem_replicate]
  rfl
theorem Holds.turn {w w' : World} {b n : Nat} {S : Nat → Prop} (h : Go.Sort.Holds encB w b 0 (Array.replicate n (0 : UInt8))) (t : Turn S w w') (hb : b < w.heap.size) (hS : ¬ S b) : Go.Sort.Holds encB w' b 0 (Array.replicate n (0 : UInt8)) := fun j hj =>
  ⟨(t.cell (p := ⟨b, 0 + j, none⟩) hb hS).trans (h j hj).1, (World.frozen?_of_block (w := w) (t.block b hb hS)).trans (h j hj).2⟩
theorem turn_below' {S : Nat → Prop} {w w' : World} (b : Below w.heap.size w w') : Turn S w w' := ⟨b.os, b.tape, b.output, b.size, fun k hk _ => b.block k hk⟩
theorem zeros32 : #[Value.int .u8 0, .int .u8 0, .int .u8 0, .int .u8 0, .int .u8 0, .int .u8 0, .int .u8 0, .int .u8 0, .int .u8 0, .int .u8 0, .int .u8 0, .int .u8 0, .int .u8 0, .int .u8 0, .int .u8 0, .int .u8 0, .int .u8 0, .int .u8 0, .int .u8 0, .int .u8 0, .int .u8 0, .int .u8 0, .int .u8 0, .int .u8 0, .int .u8 0, .int .u8 0, .int .u8 0, .int .u8 0, .int .u8 0, .int .u8 0, .int .u8 0, .int .u8 0] = Array.replicate 32 (Value.int .u8 0) := rfl
/-- what shortFloat tells, wherever the tables lie -/
def ShortIs (m : Nat) (E : Int) (d k : Nat) : Prop := ∀ w, Tb w → Calls Tryd.prog 31 #[.int .u64 m, .int .i64 E] w fun e w' => e = .returned (.tuple #[.int .u64 (d : Nat), .int .i64 (-(k : Int))]) ∧ Below w.heap.size w w'
set_option maxRecDepth 100000 in
set_option maxHeartbeats 8000000 in
theorem ftoa_norm (B g cap r L c d k : Nat) (w : World) (hr : r = L * 4503599627370496 + c) (c1 : 4503599627370496 ≤ c) (c2 : c < 9007199254740992) (hL : L ≤ 1022)
    (hS : ShortIs (c * 2048) ((L : Int) - 1085) d k) (hd0 : 1 ≤ d) (hd : d < 18446744073709551616) (hdk : d < 10 ^ k) (hk : k ≤ 340)
    (hT : Tb w) (hB : 4 ≤ B) (hBg : B ≤ g) (hrow : w.ownsRow B 5 1 (.slice (some ⟨g, 0, none⟩) 0 cap) 0 []) (hBw : B ≤ w.heap.size) :
    Calls Tryd.prog 16 #[.slice (some ⟨g, 0, none⟩) 0 cap, .float .f64 r, .int .u8 102, .int .i64 (-1)] w fun e w' =>
      ∃ g' cap' l, e = .returned (.slice (some ⟨g', 0, none⟩) l.length cap') ∧ l = [48, 46] ++ List.replicate (k - Lib.nDigits d) 48 ++ (Fp.dg (Lib.nDigits d) d).take (Fp.st (Lib.nDigits d) d).1 ∧ w'.ownsRow B 5 1 (.slice (some ⟨g', 0, none⟩) l.length cap') l.length (Lib.byteCells l) ∧ Below B w w' := by
  have hx1 : r / 9223372036854775808 = 0 := by omega
  have hx2 : r / 4503599627370496 = L + 1 := by omega
  have hx3 : r % 4503599627370496 = c - 4503599627370496 := by omega
  have hfb : ∀ W, (callFunc 18 #[.float .f64 r]).run Tryd.prog W = .ok (.value (.int .u64 r)) W := fun W => by rfl
  obtain ⟨R, hR⟩ : ∃ R : Int, R = r := ⟨_, rfl⟩
  rw [← hR] at hfb
  have HH := hide' (And.intro hT (And.intro hrow (And.intro hS (And.intro hd0 (And.intro hd hdk)))))
  have f1 : R / 9223372036854775808 = 0 := by omega
  obtain ⟨X, hX⟩ : ∃ X : Int, X = L + 1 := ⟨_, rfl⟩
  have f2 : R / 4503599627370496 = X := by omega
  have f3 : 1 ≤ X := by omega
  have f4 : X ≤ 1023 := by omega
  have f5 : 0 ≤ R := by omega
  have f6 : bits .and .i64 X 2047 = X := by rw [hX]; exact and2047 (L + 1) (by omega)
  obtain ⟨C0, hC0⟩ : ∃ C : Int, C = ((c - 4503599627370496 : Nat) : Int) := ⟨_, rfl⟩
  obtain ⟨C, hC⟩ : ∃ C : Int, C = (c : Int) := ⟨_, rfl⟩
  have f7 : bits .and .u64 R 4503599627370495 = C0 := by rw [hR, and52 r (by omega), hx3, hC0]
  have f8 : bits .or .u64 C0 4503599627370496 = C := by rw [hC0, or52 _ (by omega), hC]; omega
  have f9 : (X == 2047) = false := by rw [beq_eq_false_iff_ne]; omega
  have f10 : (X == 0) = false := by rw [beq_eq_false_iff_ne]; omega
  have f11 : (C == 0) = false := by rw [beq_eq_false_iff_ne]; omega
  have HLn := hide' fun w => sh.bits_Len64 C w (by omega) (by omega)
  rw [show Lib.bitLen C.toNat = 53 by rw [show C.toNat = c by omega]; exact bitLen_is c 52 (by simpa using c1) (by simpa using c2) (by omega)] at HLn
  have f12 : 0 ≤ C := by omega
  have f13 : C < 9007199254740992 := by omega
  have HX := hide' (And.intro hr (And.intro hR (And.intro hX (And.intro hC (And.intro c1 (And.intro c2 hd0))))))
  clear c1 c2 hC0 hC hd0
  clear hT hrow hS hd hdk hr hR hX hx1 hx2 hx3
  go_enter Tryd.func16, Tryd.ntmps16
  go_wp2_with (fail)
  go_quiet (fail)
  go_wp2_with (fail)
  rw [zeros32]
  have hho := holds32 (w.drewN nq) 42
  have htu : Turn (fun _ => False) w ((w.drewN nq).alloc (.cells (Array.replicate 32 (.int .u8 0)) 42)) := ((Turn.refl _ w).drewN nq).alloc _
  have hsz : ((w.drewN nq).alloc (.cells (Array.replicate 32 (.int .u8 0)) 42)).heap.size = w.heap.size + 1 := by simp
  rw [show (w.drewN nq).heap.size = w.heap.size from rfl] at hho
  generalize (w.drewN nq).alloc (.cells (Array.replicate 32 (.int .u8 0)) 42) = W1 at *
  have HW := hide' (And.intro hho (And.intro htu hsz))
  clear hho htu hsz
  refine (HLn.out _).mono ?_
  rintro e w1 ⟨rfl, rfl⟩
  go_wp2_with (fail)
  obtain ⟨nd, hnd⟩ : ∃ nd, nd = Lib.nDigits d := ⟨_, rfl⟩
  obtain ⟨hr, hR, hX, hC, c1, c2, hd0⟩ := HX.out
  obtain ⟨hT, hrow, hS, hd0, hd, hdk⟩ := HH.out
  obtain ⟨hho, htu, hsz⟩ := HW.out
  have hS1 := hS w1 (hT.turn htu (fun k _ q => q))
  rw [show ((c * 2048 : Nat) : Int) = C * 2048 by omega, show (L : Int) - 1085 = X + -1023 - 11 - 52 by omega] at hS1
  refine hS1.mono ?_
  rintro e W2 ⟨rfl, b2⟩
  have t2 : Turn (fun _ => False) w1 W2 := turn_below' b2
  have hn24 : nd ≤ 20 := by rw [hnd]; exact Lib.nDigits_le20 d hd
  have hk1 : 1 ≤ k := by
    rcases Nat.eq_zero_or_pos k with e | e
    · rw [e] at hdk; simp at hdk; omega
    · exact e
  have hndk : nd ≤ k := by rw [hnd]; exact nDigits_le d k hk1 hdk
  have htu2 : Turn (fun _ => False) w W2 := htu.trans t2
  have HND := hide' fun W (hW : Tb W) => sh.internal_strconv_numDigits d hd0 hd W hW.u10
  rw [← hnd] at HND
  have HSD := hide' fun W hW => setDigits_any w.heap.size d nd (-(k : Int)) W (by rw [hnd]; exact Lib.lt_pow_nDigits d) hd (by omega) (by omega) (by omega) hW
  have hT2 : Tb W2 := hT.turn htu2 (fun k _ q => q)
  have hh2 := Holds.turn (hho nd (by omega)) t2 (by omega) (fun q => q)
  have HY := hide' (And.intro hT2 (And.intro hh2 (And.intro htu2 (And.intro hnd (And.intro hndk (And.intro hn24 (And.intro hk1 (by have := t2.size; omega : w.heap.size < W2.heap.size))))))))
  clear hr hR hX hC c1 c2 hd0 hT hrow hS hd hdk hho htu hsz hS1 b2 t2 hn24 hk1 hndk htu2 hT2 hh2 hnd
  go_wp2_with (fail)
  have HT3 := hide' fun m => HY.out.1.turn ((Turn.refl (fun _ => False) W2).drewN m) (fun k _ q => q)
  have HT4 := hide' (HY.out.1.turn ((Turn.refl (fun _ => False) W2).drew) (fun k _ q => q))
  have HH3 := hide' fun m => Holds.turn HY.out.2.1 ((Turn.refl (fun _ => False) W2).drewN m) HY.out.2.2.2.2.2.2.2 (fun q => q)
  have HH4 := hide' (Holds.turn HY.out.2.1 ((Turn.refl (fun _ => False) W2).drew) HY.out.2.2.2.2.2.2.2 (fun q => q))
  go_region_with (first
    | (go_at_call 25; refine (HND.out _ HT4.out).mono ?_; rintro e w5 ⟨rfl, rfl⟩)
    | (go_at_call 25; refine (HND.out _ (HT3.out _)).mono ?_; rintro e w5 ⟨rfl, rfl⟩)
    | (go_at_call 24; refine (HSD.out _ HH4.out).mono ?_; rintro e W5 ⟨rfl, hdg, t5'⟩; have t5 := ((Turn.refl (fun k => k = w.heap.size) W2).drew).trans t5'; clear t5')
    | (go_at_call 24; refine (HSD.out _ (HH3.out _)).mono ?_; rintro e W5 ⟨rfl, hdg, t5'⟩; have t5 := ((Turn.refl (fun k => k = w.heap.size) W2).drewN _).trans t5'; clear t5'))
  obtain ⟨z, hz⟩ : ∃ z, z = (Fp.st nd d).1 := ⟨_, rfl⟩
  rw [← hz]
  have hzn : z ≤ nd := by
    obtain ⟨t, ht, he, _⟩ := Fp.st_is nd d
    rw [hz, he]; exact Nat.sub_le _ _
  have HZ := hide' (And.intro hz (And.intro hdg t5))
  have q1 : (z : Int) ≤ 20 := by have := HY.out.2.2.2.2.2.1; omega
  have q2 : (nd : Int) ≤ 20 := by have := HY.out.2.2.2.2.2.1; omega
  have q3 : (k : Int) ≤ 340 := by omega
  have q4 : 0 ≤ (z : Int) := by omega
  have q5 : 0 ≤ (nd : Int) := by omega
  have q6 : 0 ≤ (k : Int) := by omega
  have HZ2 := hide' hzn
  clear hz hdg t5 hzn
  go_wp2_with (fail)
  obtain ⟨hT, hrow, hS, hd0, hd, hdk⟩ := HH.out
  obtain ⟨hT2, hh2, htu2, hnd, hndk, hn24, hk1, hszw⟩ := HY.out
  obtain ⟨hz, hdg, t5⟩ := HZ.out
  have hgl : g < w.heap.size := (hrow.lt g rfl).2
  have hrow2 := htu2.row hrow (fun _ _ q => q)
  have hrow5 := t5.row hrow2 (fun x hx q => by
    have : x = g := (Option.some.inj hx).symm
    omega)
  have tw5 : Turn (fun k => k = w.heap.size) w W5 := (htu2.mono (fun _ _ q => q.elim)).trans t5
  have hRB : RowB B g W5 [] g cap W5 := ⟨hrow5, Turn.refl _ _, .inl rfl, Nat.le_trans hBw tw5.size, by simp⟩
  have hz1 : 0 < z + (k - nd) := by
    have := HZ2.out
    rcases Nat.eq_zero_or_pos z with e | e
    · exfalso
      obtain ⟨t, ht, he, h3, h4⟩ := Fp.st_is nd d
      have e0 : nd - t = 0 := by rw [← e, hz, he]
      have et : t = nd := by omega
      rw [et] at h3
      have : d / 10 ^ nd = 0 := Nat.div_eq_of_lt (by rw [hnd]; exact Lib.lt_pow_nDigits d)
      rw [this, Nat.zero_mul] at h3
      omega
    · omega
  have hF := fmt_frac B g g cap w.heap.size d nd z (k - nd) W5 W5 hRB hdg ⟨by have := t5.size; omega, by omega⟩ HZ2.out (by omega) (by omega) hz1
  rw [show -((k - nd : Nat) : Int) = (nd : Int) + -(k : Int) by omega, show (z : Int) + ((k - nd : Nat) : Int) = max ((z : Int) - ((nd : Int) + -(k : Int))) 0 by have := HZ2.out; omega] at hF
  refine hF.mono ?_
  rintro e W6 ⟨g6, c6, l6, rfl, hl6, hR6⟩
  have HR6 := hide' (And.intro hl6 hR6)
  have HT6 := hide' (And.intro tw5 (And.intro hz hnd))
  clear hT hrow hS hd0 hd hdk hT2 hh2 htu2 hnd hndk hn24 hk1 hszw hz hdg t5 hgl hrow2 hrow5 tw5 hRB hz1 hF hl6 hR6
  go_wp2_with (fail)
  go_ret
  obtain ⟨hl6, hR6⟩ := HR6.out
  obtain ⟨tw5, hz, hnd⟩ := HT6.out
  refine ⟨g6, c6, l6, rfl, by rw [← hnd, ← hz]; exact hl6, hR6.row, ?_⟩
  have tot : Turn (fun k => k = g ∨ k = w.heap.size) w W6 := (tw5.mono (fun _ _ q => .inr q)).trans (hR6.oth.mono (fun _ _ q => .inl q))
  exact tot.below (fun k q => by rcases q with q | q <;> omega) hBw
end Go.Proofs.YtclmnkilfijeaaaDoor
