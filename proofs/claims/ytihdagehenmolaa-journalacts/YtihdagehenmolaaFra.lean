import Derived.Test.YtihdagehenmolaaRec
set_option linter.unusedVariables false
set_option linter.unusedSimpArgs false
namespace Go.Proofs.Ytihdagehenmolaa
open Go.RowKit
namespace J
open M K
/-- a text as bytes of one's own -/
theorem conv_str (w : World) (l : List UInt8) : ∃ c w1, (convert 9 60 (.string (sb l))).run Try.prog w = .ok (.slice (some ⟨w.heap.size, 0, none⟩) l.length c) w1 ∧ Rw 1 ba w1 (some ⟨w.heap.size, 0, none⟩) l ∧ Below w.heap.size w w1 ∧ l.length ≤ c ∧ w1.heap.size = w.heap.size + 1 := by
  have hr := Lib.run_convert_string_bytes (P := Try.prog) w 9 60 5 (sb l) Try.underlying9 Try.underlying60 Try.underlying5
  rw [sb_size] at hr
  refine ⟨_, _, hr, ?_, ?_, ?_, Lib.bytesWorld_size _ _ _⟩
  · by_cases h : l = []
    · exact .inl h
    · refine .inr ⟨_, 0, rfl, by rw [Lib.bytesWorld_size]; omega, fun j x hx r hr => ?_⟩
      have hj := (List.getElem?_eq_some_iff.1 hx).1
      obtain rfl : r = 0 := by omega
      rw [Nat.zero_add, Nat.mul_one, Nat.add_zero, Lib.bytesWorld_cell _ _ _ _ (by rw [sb_size]; exact hj), sb_data, List.getD_eq_getElem?_getD, hx]
      rfl
  · exact ⟨rfl, rfl, rfl, by rw [Lib.bytesWorld_size]; omega, fun k hk => Lib.bytesWorld_at_old _ _ _ _ hk⟩
  · exact grownCap_ge _ _ _ _
def En.arr (e : En) : Array Value := #[.int .i64 e.v, .string (sb e.t)]
theorem below_step {B : Nat} {a b c : World} (h : Below a.heap.size a b) (k : Below B b c) (hB : a.heap.size ≤ B) : Below a.heap.size a c := h.trans (k.mono hB)
/-- append of bytes that lie anywhere -/
theorem wpList_src {w : World} {ops : Array Oper} {rest : List Oper} {o : Oper} {a : Go.Act} {Q : Exit → Go.Act → World → Prop} (hw : Region.wanted o (yielded ops a.tmps) = true) (s y : Operand)
    (ho : o.op = .call { callee := .builtin .append, args := #[s, y], argTypes := #[60, 60] }) {B : Nat} {ro : Option Addr} {rc : Nat} {l : List UInt8} (hrow : Own 1 5 ba B (.slice ro l.length rc) l w) {b c : Nat} {xs : List UInt8} (hR : Rw 1 ba w (some ⟨b, 0, none⟩) xs) (hl : l.length + xs.length ≤ 1099511627776) (hB : B ≤ w.heap.size) (hs : a.eval s = .slice ro l.length rc) (hx : a.eval y = .slice (some ⟨b, 0, none⟩) xs.length c)
    (hk : ∀ ao' cap' w1, Own 1 5 ba B (.slice ao' (l ++ xs).length cap') (l ++ xs) w1 → Below B w w1 → wpList Try.prog ops Q rest (a.put o.dst (.slice ao' (l ++ xs).length cap')) w1) :
    wpList Try.prog ops Q (o :: rest) a w := by
  obtain ⟨i0, hi0, hz0, hz1, hz2⟩ := info_parts info5
  refine wpList_append_src hw s y 60 ho B 5 i0 (.int .u8 0) 1 1 Try.underlying60 hi0 hz0 hz1 hz2 rfl (by decide) _ l.length (flat ba l) hs hrow.row (some ⟨b, 0, none⟩) xs.length c (flat ba xs) hx (fun q => by cases q) (flat_len ha_b xs) (hR.src ha_b (by decide)) (one_bs xs) (by unfold maxLen; omega) (by omega) hB ?_
  intro v' w' h1 h2 h3
  rw [← flat_add, ← List.length_append] at h1
  have o1 : Own 1 5 ba B v' (l ++ xs) w' := ⟨h1⟩
  obtain ⟨ao', cap', rfl, _, _, _⟩ := o1.form
  exact hk ao' cap' w' o1 (hrow.keep ((Turn.refl _ w).grown h2 (fun k hk _ => own_at hk)) hB)
theorem appendNumber_is {w : World} {B : Nat} {ro : Option Addr} {rc : Nat} {l L : List UInt8} (n : Nat) (hL : L = l ++ four n) (hrow : Own 1 5 ba B (.slice ro l.length rc) l w) (hl : l.length ≤ 1099511627776) (hB : B ≤ w.heap.size) : Calls Try.prog 46 #[.slice ro l.length rc, .int .u32 (n : Nat)] w fun e w' => ∃ gg cap', e = .returned (.slice (some ⟨gg, 0, none⟩) L.length cap') ∧ Own 1 5 ba B (.slice (some ⟨gg, 0, none⟩) L.length cap') L w' ∧ Below B w w' := by
  subst hL
  exact appendNumber_any n hrow hl hB
set_option maxRecDepth 100000 in
set_option maxHeartbeats 1000000 in
theorem recordOf_any (V : Nat) (t : List UInt8) (w : World) (hv : V < 4294967296) (ht : t.length ≤ 65536) : Calls Try.prog 34 #[.agg #[.int .i64 (V : Int), .string (sb t)]] w fun e w' => ∃ ao cap, e = .returned (.slice ao (rcd ⟨V, t⟩).length cap) ∧ Own 1 5 ba w.heap.size (.slice ao (rcd ⟨V, t⟩).length cap) (rcd ⟨V, t⟩) w' ∧ Below w.heap.size w w' := by
  obtain ⟨w0, hw0⟩ : ∃ w0, w0 = w.alloc (.cells #[.int .i64 (V : Int), .string (sb t)] 24) := ⟨_, rfl⟩
  obtain ⟨c, w1, hc, R1, b1, hcl, hs1⟩ := conv_str w0 t
  have hb0 : w0.heap[w.heap.size]? = some (.cells #[.int .i64 (V : Int), .string (sb t)] 24) := by rw [hw0]; exact heap_alloc_new _ _
  have B0 : Below w.heap.size w w1 := by
    rw [hw0] at b1
    exact ((Below.refl w.heap.size w).alloc (Nat.le_refl _) _).trans (b1.mono (by simp))
  have hsz : w0.heap.size = w.heap.size + 1 := by rw [hw0]; simp
  have hb1 : w1.heap[w.heap.size]? = some (.cells #[.int .i64 (V : Int), .string (sb t)] 24) := (b1.block _ (by omega)).trans hb0
  have K0 : Hid (w1.heap[w.heap.size]? = some (.cells #[.int .i64 (V : Int), .string (sb t)] 24) ∧ w.heap.size < w1.heap.size ∧ Rw 1 ba w1 (some ⟨w0.heap.size, 0, none⟩) t ∧ Below w.heap.size w w1) := hide' ⟨hb1, by omega, R1, B0⟩
  have HT := hide' ht
  have HV : Hid ((V : Int) % 4294967296 = (V : Int)) := hide' (by omega)
  have HW0 := hide' hw0
  obtain ⟨T, hT⟩ : ∃ T, T = sb t := ⟨_, rfl⟩
  rw [← hT] at hc hw0 HW0 K0 ⊢
  subst hw0
  obtain ⟨b0, hb0⟩ : ∃ b0, b0 = (w.alloc (.cells #[.int .i64 (V : Int), .string T] 24)).heap.size := ⟨_, rfl⟩
  rw [← hb0] at hc K0
  clear R1 b1 hs1 hsz hb1 B0 ht hT HW0 hb0
  obtain ⟨n, hn⟩ : ∃ n, n = t.length := ⟨_, rfl⟩
  have HN := hide' hn
  rw [← hn] at hc hcl HT
  have hadd : wrap64 (17 + (n : Int)) = ((17 + n : Nat) : Int) := by have := HT.out; unfold wrap64; omega
  clear hn
  go_enter Try.func34, Try.ntmps34
  obtain ⟨i0, hi0, hz0, hz1, hz2⟩ := info_parts info5
  obtain ⟨L1, hL1⟩ : ∃ L : List UInt8, L = [165] := ⟨_, rfl⟩
  obtain ⟨L2, hL2⟩ : ∃ L, L = L1 ++ four V := ⟨_, rfl⟩
  obtain ⟨L3, hL3⟩ : ∃ L, L = L2 ++ four n := ⟨_, rfl⟩
  obtain ⟨L4, hL4⟩ : ∃ L, L = L3 ++ four (sm L3) := ⟨_, rfl⟩
  obtain ⟨L5, hL5⟩ : ∃ L, L = L4 ++ t := ⟨_, rfl⟩
  obtain ⟨L6, hL6⟩ : ∃ L, L = L5 ++ four (sm t) := ⟨_, rfl⟩
  have Z : Hid (L1.length = 1 ∧ L2.length = 5 ∧ L3.length = 9 ∧ L4.length = 13 ∧ L5.length = 13 + n) := hide' (by
    have z1 : L1.length = 1 := by rw [hL1]; rfl
    have z2 : L2.length = 5 := by rw [hL2, List.length_append, four_len, z1]
    have z3 : L3.length = 9 := by rw [hL3, List.length_append, four_len, z2]
    have z4 : L4.length = 13 := by rw [hL4, List.length_append, four_len, z3]
    exact ⟨z1, z2, z3, z4, by rw [hL5, List.length_append, z4, HN.out]⟩)
  have HR : Hid (L6 = rcd ⟨V, t⟩) := hide' (by
    have e3 : L3 = hd V n := by rw [hL3, hL2, hL1]; rfl
    unfold rcd
    rw [hL6, hL5, hL4, e3, HN.out, Int.toNat_natCast]
    simp only [List.append_assoc])
  have E := hide' (And.intro hL1 (And.intro hL2 (And.intro hL3 (And.intro hL4 (And.intro hL5 hL6)))))
  have X := hide' (And.intro hi0 (And.intro hz0 (And.intro hz1 hz2)))
  rw [← HR.out]
  clear hL1 hL2 hL3 hL4 hL5 hL6 hi0 hz0 hz1 hz2 hb0
  go_wp2_with (first | (at_make; refine wpList_make_own w1 rfl _ _ 60 rfl w1.heap.size 5 i0 (.int .u8 0) 1 Try.underlying60 X.out.1 X.out.2.1 X.out.2.2.1 _ _ _ (17 + n) rfl rfl hadd (by have := HT.out; have := X.out.2.2.2; rw [this]; omega) (by have := HT.out; unfold maxLen; omega) (Nat.le_refl _) ?_; intro w2 r2 g2; have R2 := hide' (show Own 1 5 ba w1.heap.size (.slice (some ⟨w1.heap.size, 0, none⟩) ([] : List UInt8).length (17 + n)) [] w2 from ⟨r2⟩); have B2 : Hid (Below w1.heap.size w1 w2) := hide' ⟨g2.os, g2.tape, g2.output, g2.size, fun k hk => g2.block k hk (fun q => by cases q)⟩; clear r2 g2) | (at_builtin; refine stay_app _ _ rfl ?_))
  unfold Stay
  refine wpList_more (arr := ba) ha_b Try.underlying60 info5 rfl (by omega) w2 rfl _ _ rfl (ro := some ⟨w1.heap.size, 0, none⟩) (rc := 17 + n) (ss := []) R2.out (by unfold maxLen; decide) (by decide) B2.out.size 165 (one_b 165) 1 (by rfl) (by rfl) ?_
  intro g3 c3 w3 o3 t3 p3
  have K3 : Hid (Own 1 5 ba w1.heap.size (.slice (some ⟨g3, 0, none⟩) L1.length c3) L1 w3 ∧ Below w1.heap.size w1 w3) := hide' ⟨by rw [E.out.1]; exact o3, B2.out.trans (R2.out.keep t3 B2.out.size)⟩
  rw [show ([] : List UInt8).length + 1 = L1.length by rw [Z.out.1]; rfl]
  have C4 := hide' (appendNumber_is V E.out.2.1 K3.out.1 (by rw [Z.out.1]; omega) K3.out.2.size)
  have k3 := Lib.cell_of_heap ((K3.out.2.block _ K0.out.2.1).trans K0.out.1) 0
  have hV := HV.out
  clear o3 t3 p3 R2 B2 hc
  go_wp2_with fail
  refine C4.out.mono ?_
  rintro e w4 ⟨g4, c4, rfl, o4, b4⟩
  have K4 := hide' (And.intro o4 (K3.out.2.trans b4))
  have C5 := hide' (appendNumber_is n E.out.2.2.1 o4 (by rw [Z.out.2.1]; omega) K4.out.2.size)
  have hN : (n : Int) % 4294967296 = (n : Int) := by have := HT.out; omega
  clear o4 b4 C4 K3 k3
  go_wp2_with fail
  refine C5.out.mono ?_
  rintro e w5 ⟨g5, c5, rfl, o5, b5⟩
  have K5 := hide' (And.intro o5 (K4.out.2.trans b5))
  have C6 := hide' (sum_any c5 (o5.rw' ha_b) (by rw [Z.out.2.2.1]; omega))
  have C7 := hide' (appendNumber_is (sm L3) E.out.2.2.2.1 o5 (by rw [Z.out.2.2.1]; omega) K5.out.2.size)
  clear o5 b5 C5 K4 hN hV
  go_wp2_with fail
  refine C6.out.mono ?_
  rintro e w6 ⟨rfl, rfl⟩
  go_wp2_with fail
  refine C7.out.mono ?_
  rintro e w7 ⟨g7, c7, rfl, o7, b7⟩
  have K7 := hide' (And.intro o7 (K5.out.2.trans b7))
  have R7 : Hid (Rw 1 ba w7 (some ⟨b0, 0, none⟩) t) := hide' (K0.out.2.2.1.below K7.out.2)
  clear o7 b7 C6 C7 K5
  go_wp2_with (at_builtin; refine stay_app _ _ rfl ?_)
  unfold Stay
  refine wpList_src (by kernel_rfl) _ _ rfl (l := L4) K7.out.1 (xs := t) (c := c) R7.out (by rw [Z.out.2.2.2.1, ← HN.out]; have := HT.out; omega) K7.out.2.size (by rfl) (by rw [← HN.out]; rfl) ?_
  intro a8 c8 w8 o8 b8
  have K8 : Hid (Own 1 5 ba w1.heap.size (.slice a8 L5.length c8) L5 w8 ∧ Below w1.heap.size w1 w8) := hide' ⟨by rw [E.out.2.2.2.2.1]; exact o8, K7.out.2.trans b8⟩
  rw [← E.out.2.2.2.2.1]
  have C9 := hide' (sum_any c (l := t) (K0.out.2.2.1.below K8.out.2) (by rw [← HN.out]; have := HT.out; omega))
  have CA := hide' (appendNumber_is (sm t) E.out.2.2.2.2.2 K8.out.1 (by rw [Z.out.2.2.2.2]; have := HT.out; omega) K8.out.2.size)
  rw [← HN.out] at C9
  clear o8 b8 K7 R7
  go_wp2_with fail
  refine C9.out.mono ?_
  rintro e w9 ⟨rfl, rfl⟩
  go_wp2_with fail
  refine CA.out.mono ?_
  rintro e wA ⟨gA, cA, rfl, oA, bA⟩
  have KA := hide' (And.intro oA (K8.out.2.trans bA))
  clear oA bA C9 CA
  go_wp2
  go_ret
  exact ⟨_, _, rfl, Own.mono KA.out.1 (by have := K0.out.2.1; omega), K0.out.2.2.2.trans (KA.out.2.mono (by have := K0.out.2.1; omega))⟩
end J
end Go.Proofs.Ytihdagehenmolaa
