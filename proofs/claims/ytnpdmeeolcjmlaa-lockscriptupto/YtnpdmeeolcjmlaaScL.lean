import Derived.Test.YtnpdmeeolcjmlaaSxP
set_option linter.unusedVariables false
set_option linter.unusedSimpArgs false
namespace Go.Proofs.Ytnpdmeeolcjmlaa
open Go.RowKit
namespace C
open M F
variable {w0 w w' : World} {n x y s lb l1 l2 k nx sv : Nat} {ps : List Wp} {bw bq : List Nat} {wo qo : Option Addr} {wc qc K : Nat}
/-- the step's own box -/
def Bs (q : Nat) (d N a b : Int) (w : World) : Prop := w.heap[q]? = some (.cells #[.int .i64 d, .int .i64 N, .int .i64 a, .int .i64 b] 52 (0, 0))
variable {q : Nat} {d N A V : Int}
theorem Bs.c0 (h : Bs q d N A V w) : w.cell? ⟨q, 0, none⟩ = some (.int .i64 d) := by rw [Lib.cell_of_heap h]; rfl
theorem Bs.c1 (h : Bs q d N A V w) : w.cell? ⟨q, 1, none⟩ = some (.int .i64 N) := by rw [Lib.cell_of_heap h]; rfl
theorem Bs.c2 (h : Bs q d N A V w) : w.cell? ⟨q, 2, none⟩ = some (.int .i64 A) := by rw [Lib.cell_of_heap h]; rfl
theorem Bs.c3 (h : Bs q d N A V w) : w.cell? ⟨q, 3, none⟩ = some (.int .i64 V) := by rw [Lib.cell_of_heap h]; rfl
theorem Bs.mem (h : Bs q d N A V w) {D : Nat → Prop} {B x' : Nat} {ws : List Int} {tr : List Ac} {bad : Nat} (hm : Mem D B x' ws tr bad w) (t : Turn D w w') : Bs q d N A V w' := (t.block q (lt_of_heap h) (hm.not h (by decide))).trans h
theorem Bs.rem (h : Bs q d N A V w) {D : Nat → Prop} {B y' m : Nat} {ws : List Int} {tr : List Ac} {bad : Nat} (hm : Rem D B y' ws m tr bad w) (t : Turn D w w') : Bs q d N A V w' := (t.block q (lt_of_heap h) (hm.not h (by decide))).trans h
/-- a step on both memories is through -/
theorem Sn.pair {D R : Nat → Prop} {ws ws' : List Int} {tr tr' : List Ac} {bad bad' : Nat} {W2 W3 : World} (bel : Below w0.heap.size w0 w) (hM : Mem D w0.heap.size x ws tr bad w) (hR : Rem R w0.heap.size y ws K tr bad w) (hdis : ∀ j, D j → ¬ R j) (hX : Sx w0 x y s lb l1 l2 k nx sv ps (ps.map (·.b)) (ps.map (·.q)) wo wc qo qc w)
    (t2 : To D w0.heap.size x ws' tr' bad' w W2) (t3 : RTo R w0.heap.size y ws' (K + 1) tr' bad' W2 W3) (h1 : ws'.length = n) (h2 : tr'.length ≤ K + 1) (h3 : ps.length ≤ K) : Sn w0 n x y s lb l1 l2 k nx sv (K + 1) W3 := by
  obtain ⟨U', hP', tt, ss⟩ := pair_to (U := fun j => D j ∨ R j) hM hR hdis (fun j => Iff.rfl) t2 t3
  have hX2 := hX.mem hM (by obtain ⟨_, _, z, _⟩ := t2; exact z)
  have hR2 := rem_behind hR hdis t2
  have hX3 := hX2.rem hR2 (by obtain ⟨_, _, z, _⟩ := t3; exact z)
  refine ⟨bel.trans (tt.below (fun j hj => ?_) bel.size), U', ws', tr', bad', ps, wo, wc, qo, qc, hP', h1, h2, by omega, hX3⟩
  rcases hj with z | z
  · exact (hM.lo z).1
  · exact (hR.low z).1
theorem pe_len (ws : List Int) (a n c : Int) : (pfill ws a n c).length = ws.length := pfill_len ws a n c
set_option maxRecDepth 100000 in
set_option maxHeartbeats 4000000 in
theorem sc_store (N A V : Int) (h : Sn w0 n x y s lb l1 l2 k nx sv K w) (hK : K < 1999999999990) :
    Calls Try.prog 17 #[.pointer (some ⟨s, 0, none⟩), .agg #[.int .i64 6, .int .i64 N, .int .i64 A, .int .i64 V]] w fun e w' => e = .returned (.bool true) ∧ Sn w0 n x y s lb l1 l2 k nx sv (K + 1) w' := by
  obtain ⟨bel, U, ws, tr, bad, ps, wo, wc, qo, qc, hP, hn, htr, hps, hX⟩ := h
  obtain ⟨D, R, hM, hR, hdis, hU⟩ := hP
  have hB : Below w.heap.size w (w.alloc (.cells #[.int .i64 6, .int .i64 N, .int .i64 A, .int .i64 V] 52)).drew := ((Below.refl _ _).alloc (Nat.le_refl _) _).drew
  have hM1 := hM.below hB
  have hR1 := hR.below hB
  have hX1 := hX.below hB
  have hb1 : Bs w.heap.size 6 N A V (w.alloc (.cells #[.int .i64 6, .int .i64 N, .int .i64 A, .int .i64 V] 52)).drew := heap_alloc_new _ _
  have HF := hide' (fun W2 W3 ws' tr' bad' t2 t3 h1 h2 => Sn.pair (n := n) (W2 := W2) (W3 := W3) (ws' := ws') (tr' := tr') (bad' := bad') (bel.trans (hB.mono bel.size)) hM1 hR1 hdis hX1 t2 t3 h1 h2 hps)
  have HX := hide' (And.intro hM1 (And.intro hR1 (And.intro hX1 (And.intro hb1 hdis))))
  have HK := hide' (And.intro hK (And.intro htr hn))
  obtain ⟨β, hβ⟩ : ∃ β, w.heap.size = β := ⟨_, rfl⟩
  have lts : s < w.heap.size := lt_of_heap hX.hs
  have s0 := hX.c0
  have s1 := hX.c1
  have s3 := hX.c3
  have s4 := hX.c4
  have HC := hide' (M.store_any A V hM1 (by omega))
  clear hM hR hX hM1 hR1 hX1 hb1 hdis hU hK htr hn hps bel hB hβ
  go_enter Try.func17, Try.ntmps17
  go_wp2_with fail
  go_region_held3 (fun w' => w'.cell? ⟨s, 0, none⟩ = some (.pointer (some ⟨x, 0, none⟩)) ∧ w'.cell? ⟨s, 3, none⟩ = some (.pointer (some ⟨y, 0, none⟩)) ∧ w'.cell? ⟨w.heap.size, 2, none⟩ = some (.int .i64 A) ∧ w'.cell? ⟨w.heap.size, 3, none⟩ = some (.int .i64 V)) (first | exact ⟨K2.c0, K2.c3, B2.c2, B2.c3⟩ | exact ⟨K3.c0, K3.c3, B3.c2, B3.c3⟩ | go_keep) ((first | (go_at_call 23; refine HC.out.mono ?_; rintro e w2 ⟨rfl, t2⟩; have K2 := HX.out.2.2.1.mem HX.out.1 (by obtain ⟨_, _, z, _⟩ := t2; exact z); have B2 := HX.out.2.2.2.1.mem HX.out.1 (by obtain ⟨_, _, z, _⟩ := t2; exact z); have R2 := rem_behind HX.out.2.1 HX.out.2.2.2.2 t2; have Hr := hide' (F.store_any A V R2 (by have := HK.out; omega) (by have := HK.out; omega)); have T2 := hide' t2; have HR2 := hide' R2; have HK2 := hide' (And.intro K2 B2); clear t2 R2) | (go_at_call 32; refine Hr.out.mono ?_; rintro e w3 ⟨rfl, t3⟩; have K3 := HK2.out.1.rem HR2.out (by obtain ⟨_, _, z, _⟩ := t3; exact z); have B3 := HK2.out.2.rem HR2.out (by obtain ⟨_, _, z, _⟩ := t3; exact z); have T3 := hide' t3; clear t3)))
  rename_i hHeld
  clear hHeld
  have F := hide' (HF.out _ _ _ _ _ T2.out T3.out (by rw [put_len]; exact HK.out.2.2) (by have := HK.out; simp; omega))
  clear HC Hr K2 B2 K3 B3 T2 T3 HK2 HR2 HX HF
  go_wp2
  go_ret
  exact ⟨by first | rfl | simp, F.out⟩
set_option maxRecDepth 100000 in
set_option maxHeartbeats 4000000 in
theorem sc_poison (N A V : Int) (h : Sn w0 n x y s lb l1 l2 k nx sv K w) (hK : K < 1999999999990) :
    Calls Try.prog 17 #[.pointer (some ⟨s, 0, none⟩), .agg #[.int .i64 7, .int .i64 N, .int .i64 A, .int .i64 V]] w fun e w' => e = .returned (.bool true) ∧ Sn w0 n x y s lb l1 l2 k nx sv (K + 1) w' := by
  obtain ⟨bel, U, ws, tr, bad, ps, wo, wc, qo, qc, hP, hn, htr, hps, hX⟩ := h
  obtain ⟨D, R, hM, hR, hdis, hU⟩ := hP
  have hB : Below w.heap.size w (w.alloc (.cells #[.int .i64 7, .int .i64 N, .int .i64 A, .int .i64 V] 52)).drew := ((Below.refl _ _).alloc (Nat.le_refl _) _).drew
  have hM1 := hM.below hB
  have hR1 := hR.below hB
  have hX1 := hX.below hB
  have hb1 : Bs w.heap.size 7 N A V (w.alloc (.cells #[.int .i64 7, .int .i64 N, .int .i64 A, .int .i64 V] 52)).drew := heap_alloc_new _ _
  have HF := hide' (fun W2 W3 ws' tr' bad' t2 t3 h1 h2 => Sn.pair (n := n) (W2 := W2) (W3 := W3) (ws' := ws') (tr' := tr') (bad' := bad') (bel.trans (hB.mono bel.size)) hM1 hR1 hdis hX1 t2 t3 h1 h2 hps)
  have HX := hide' (And.intro hM1 (And.intro hR1 (And.intro hX1 (And.intro hb1 hdis))))
  have HK := hide' (And.intro hK (And.intro htr hn))
  obtain ⟨β, hβ⟩ : ∃ β, w.heap.size = β := ⟨_, rfl⟩
  have lts : s < w.heap.size := lt_of_heap hX.hs
  have s0 := hX.c0
  have s1 := hX.c1
  have s3 := hX.c3
  have s4 := hX.c4
  have HC := hide' (M.poison_any A 1 hM1 (by omega))
  clear hM hR hX hM1 hR1 hX1 hb1 hdis hU hK htr hn hps bel hB hβ
  go_enter Try.func17, Try.ntmps17
  go_wp2_with fail
  go_region_held3 (fun w' => w'.cell? ⟨s, 0, none⟩ = some (.pointer (some ⟨x, 0, none⟩)) ∧ w'.cell? ⟨s, 3, none⟩ = some (.pointer (some ⟨y, 0, none⟩)) ∧ w'.cell? ⟨w.heap.size, 2, none⟩ = some (.int .i64 A)) (first | exact ⟨K2.c0, K2.c3, B2.c2⟩ | exact ⟨K3.c0, K3.c3, B3.c2⟩ | go_keep) ((first | (go_at_call 33; refine HC.out.mono ?_; rintro e w2 ⟨rfl, h2, u2⟩; have t2 := fill_to h2 u2; clear h2 u2; have K2 := HX.out.2.2.1.mem HX.out.1 (by obtain ⟨_, _, z, _⟩ := t2; exact z); have B2 := HX.out.2.2.2.1.mem HX.out.1 (by obtain ⟨_, _, z, _⟩ := t2; exact z); have R2 := rem_behind HX.out.2.1 HX.out.2.2.2.2 t2; have Hr := hide' (F.poison_any A 1 R2 (by have := HK.out; omega) (by omega)); have T2 := hide' t2; have HR2 := hide' R2; have HK2 := hide' (And.intro K2 B2); clear t2 R2) | (go_at_call 34; refine Hr.out.mono ?_; rintro e w3 ⟨rfl, t3⟩; have K3 := HK2.out.1.rem HR2.out (by obtain ⟨_, _, z, _⟩ := t3; exact z); have B3 := HK2.out.2.rem HR2.out (by obtain ⟨_, _, z, _⟩ := t3; exact z); have T3 := hide' t3; clear t3)))
  rename_i hHeld
  clear hHeld
  have F := hide' (HF.out _ _ _ _ _ T2.out T3.out (by rw [pe_len]; exact HK.out.2.2) (by have := HK.out; omega))
  clear HC Hr K2 B2 K3 B3 T2 T3 HK2 HR2 HX HF
  go_wp2
  go_ret
  exact ⟨by first | rfl | simp, F.out⟩
set_option maxRecDepth 100000 in
set_option maxHeartbeats 4000000 in
theorem sc_clear (N A V : Int) (h : Sn w0 n x y s lb l1 l2 k nx sv K w) (hK : K < 1999999999990) :
    Calls Try.prog 17 #[.pointer (some ⟨s, 0, none⟩), .agg #[.int .i64 8, .int .i64 N, .int .i64 A, .int .i64 V]] w fun e w' => e = .returned (.bool true) ∧ Sn w0 n x y s lb l1 l2 k nx sv (K + 1) w' := by
  obtain ⟨bel, U, ws, tr, bad, ps, wo, wc, qo, qc, hP, hn, htr, hps, hX⟩ := h
  obtain ⟨D, R, hM, hR, hdis, hU⟩ := hP
  have hB : Below w.heap.size w (w.alloc (.cells #[.int .i64 8, .int .i64 N, .int .i64 A, .int .i64 V] 52)).drew := ((Below.refl _ _).alloc (Nat.le_refl _) _).drew
  have hM1 := hM.below hB
  have hR1 := hR.below hB
  have hX1 := hX.below hB
  have hb1 : Bs w.heap.size 8 N A V (w.alloc (.cells #[.int .i64 8, .int .i64 N, .int .i64 A, .int .i64 V] 52)).drew := heap_alloc_new _ _
  have HF := hide' (fun W2 W3 ws' tr' bad' t2 t3 h1 h2 => Sn.pair (n := n) (W2 := W2) (W3 := W3) (ws' := ws') (tr' := tr') (bad' := bad') (bel.trans (hB.mono bel.size)) hM1 hR1 hdis hX1 t2 t3 h1 h2 hps)
  have HX := hide' (And.intro hM1 (And.intro hR1 (And.intro hX1 (And.intro hb1 hdis))))
  have HK := hide' (And.intro hK (And.intro htr hn))
  obtain ⟨β, hβ⟩ : ∃ β, w.heap.size = β := ⟨_, rfl⟩
  have lts : s < w.heap.size := lt_of_heap hX.hs
  have s0 := hX.c0
  have s1 := hX.c1
  have s3 := hX.c3
  have s4 := hX.c4
  have HC := hide' (M.clear_any A 1 hM1 (by omega))
  clear hM hR hX hM1 hR1 hX1 hb1 hdis hU hK htr hn hps bel hB hβ
  go_enter Try.func17, Try.ntmps17
  go_wp2_with fail
  go_region_held3 (fun w' => w'.cell? ⟨s, 0, none⟩ = some (.pointer (some ⟨x, 0, none⟩)) ∧ w'.cell? ⟨s, 3, none⟩ = some (.pointer (some ⟨y, 0, none⟩)) ∧ w'.cell? ⟨w.heap.size, 2, none⟩ = some (.int .i64 A)) (first | exact ⟨K2.c0, K2.c3, B2.c2⟩ | exact ⟨K3.c0, K3.c3, B3.c2⟩ | go_keep) ((first | (go_at_call 35; refine HC.out.mono ?_; rintro e w2 ⟨rfl, h2, u2⟩; have t2 := fill_to h2 u2; clear h2 u2; have K2 := HX.out.2.2.1.mem HX.out.1 (by obtain ⟨_, _, z, _⟩ := t2; exact z); have B2 := HX.out.2.2.2.1.mem HX.out.1 (by obtain ⟨_, _, z, _⟩ := t2; exact z); have R2 := rem_behind HX.out.2.1 HX.out.2.2.2.2 t2; have Hr := hide' (F.clear_any A 1 R2 (by have := HK.out; omega) (by omega)); have T2 := hide' t2; have HR2 := hide' R2; have HK2 := hide' (And.intro K2 B2); clear t2 R2) | (go_at_call 36; refine Hr.out.mono ?_; rintro e w3 ⟨rfl, t3⟩; have K3 := HK2.out.1.rem HR2.out (by obtain ⟨_, _, z, _⟩ := t3; exact z); have B3 := HK2.out.2.rem HR2.out (by obtain ⟨_, _, z, _⟩ := t3; exact z); have T3 := hide' t3; clear t3)))
  rename_i hHeld
  clear hHeld
  have F := hide' (HF.out _ _ _ _ _ T2.out T3.out (by rw [pe_len]; exact HK.out.2.2) (by have := HK.out; omega))
  clear HC Hr K2 B2 K3 B3 T2 T3 HK2 HR2 HX HF
  go_wp2
  go_ret
  exact ⟨by first | rfl | simp, F.out⟩
end C
end Go.Proofs.Ytnpdmeeolcjmlaa
