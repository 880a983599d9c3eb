import Derived.Test.YtihdagehenmolaaEnI
import Derived.Deep.RegionWith
set_option linter.unusedVariables false
set_option linter.unusedSimpArgs false
namespace Go.Proofs.Ytihdagehenmolaa
open Go.RowKit
namespace J
open M K
theorem chain_turned {A B : En} (hA : A.ok) (hB : B.ok) {k : Nat} (hk : k < (rcd B).length) {c : UInt8} (hc : c ≠ (rcd B)[k]) {more : List UInt8} {es : List En} {r : List UInt8} (h1 : ∀ e ∈ es, e.ok) (h : rcd A ++ ((rcd B).set k c ++ more) = recs es ++ r) : es.length ≤ 1 := by
  match es, h1, h with
  | [], _, _ => simp
  | [e], _, _ => simp
  | e :: f :: t, h1, h =>
    exfalso
    rw [recs_cons, List.append_assoc] at h
    obtain ⟨_, h2⟩ := rec_free hA (h1 e (by simp)) h
    rw [recs_cons, List.append_assoc] at h2
    exact bare_turned hB hk hc more f (h1 f (by simp)) _ h2
theorem read_turned {A B : En} (hA : A.ok) (hB : B.ok) {k : Nat} (hk : k < (rcd B).length) {c : UInt8} (hc : c ≠ (rcd B)[k]) (more : List UInt8) : Rds (rcd A ++ ((rcd B).set k c ++ more)) [A] := (Rds.none (bare_turned hB hk hc more)).more A hA
theorem xor_ne {z d : Nat} (hz : z < 256) (h0 : 0 < d) (hd : d < 256) : (UInt8.ofNat (z ^^^ d)).toNat = z ^^^ d ∧ z ^^^ d ≠ z := by
  have hx : z ^^^ d < 256 := Nat.xor_lt_two_pow (n := 8) (by omega) (by omega)
  refine ⟨ofNat_toNat hx, fun e => ?_⟩
  have : z ^^^ d = z ^^^ 0 := by rw [Nat.xor_zero]; exact e
  rw [Nat.xor_comm, Nat.xor_comm z 0] at this
  have := xor_inj this
  omega
/-- a text as bytes of one's own, that may be written -/
theorem conv_str2 (w : World) (l : List UInt8) : ∃ c w1, (convert 9 60 (.string (sb l))).run Try.prog w = .ok (.slice (some ⟨w.heap.size, 0, none⟩) l.length c) w1 ∧ Rw 1 ba w1 (some ⟨w.heap.size, 0, none⟩) l ∧ Below w.heap.size w w1 ∧ l.length ≤ c ∧ (∀ k, k < l.length → w1.frozen? ⟨w.heap.size, k, none⟩ = false) ∧ w.heap.size < w1.heap.size := by
  have hr := Lib.run_convert_string_bytes (P := Try.prog) w 9 60 5 (sb l) Try.underlying9 Try.underlying60 Try.underlying5
  obtain ⟨c, w1, h1, h2, h3, h4, h5⟩ := conv_str w l
  have e := h1.symm.trans hr
  simp only [Result.ok.injEq] at e
  refine ⟨c, w1, h1, h2, h3, h4, fun k hk => ?_, by omega⟩
  rw [e.2]
  have hb := Lib.bytesWorld_at_new w 5 (sb l)
  have hsz : l.length ≤ (Lib.bytesCells w 5 (sb l)).size := by
    unfold Lib.bytesCells
    rw [Array.size_append, Array.size_map]
    have : (sb l).data.size = l.length := sb_size l
    omega
  simp [World.frozen?, hb]
  omega
theorem p_facts {p : Nat} (h : p < 255) : wrap64 (1 + (p : Int)) = ((1 + p : Nat) : Int) ∧ ((1 + p : Nat) : Int) % 256 = ((1 + p : Nat) : Int) ∧ 0 < 1 + p ∧ 1 + p < 256 := ⟨by unfold wrap64; omega, by omega, by omega, by omega⟩
theorem p_wrap {p : Nat} (h : p < 255) : IntKind.u8.wrap (IntKind.i64.wrap (1 + (p : Int))) = ((1 + p : Nat) : Int) := by
  rw [IntKind.wrap_i64, IntKind.wrap_u8']
  omega
theorem ln_facts {a b m : Nat} (h1 : a ≤ 65553) (h2 : 17 ≤ b ∧ b ≤ 65553) (h3 : m ≤ 140737488351232) : a + b + m ≤ 140737488482338 ∧ b ≤ 65553 := ⟨by omega, h2.2⟩
theorem k_facts {k n : Nat} (h : k < n) : (k : Int) < (n : Int) ∧ (0 : Int) ≤ (k : Int) := ⟨by omega, by omega⟩
theorem lb_facts {n : Nat} (h : 17 ≤ n ∧ n ≤ 65553) : 0 < n ∧ n ≤ 4611686018427387904 := ⟨by omega, by omega⟩
theorem rw_set {w : World} {d : Nat} {l : List UInt8} (h : Rw 1 ba w (some ⟨d, 0, none⟩) l) {k : Nat} (hk : k < l.length) (c : UInt8) : Rw 1 ba (w.setCell ⟨d, k, none⟩ (.int .u8 (c.toNat : Int))) (some ⟨d, 0, none⟩) (l.set k c) := by
  rcases h with q | ⟨pb, po, q, hpb, hpc⟩
  · rw [q] at hk; simp at hk
  · cases q
    refine .inr ⟨d, 0, rfl, by simpa [World.setCell] using hpb, fun j x hx r hr => ?_⟩
    obtain rfl : r = 0 := by omega
    rw [Nat.zero_add, Nat.mul_one, Nat.add_zero]
    by_cases e : j = k
    · subst e
      rw [List.getElem?_set_self hk] at hx
      simp only [Option.some.injEq] at hx
      subst hx
      have hold := hpc j l[j] (List.getElem?_eq_getElem hk) 0 (by decide)
      rw [Nat.zero_add, Nat.mul_one, Nat.add_zero] at hold
      rw [World.cell?_setCell_same _ _ _ hold]
      rfl
    · rw [List.getElem?_set_ne (fun q => e q.symm)] at hx
      have := hpc j x hx 0 (by decide)
      rw [Nat.zero_add, Nat.mul_one, Nat.add_zero] at this
      rw [← this]
      exact World.cell?_setCell_other _ _ _ _ (fun q => by injection q with _ h _; exact e h.symm)
set_option maxRecDepth 100000 in
set_option maxHeartbeats 4000000 in
theorem turned_law (a b : En) (at' by' : Int) (mo : List UInt8) (hmo : mo.length ≤ 140737488351232) (w : World) : Calls Try.prog 8 #[.agg #[.int .i64 a.v, .string (sb a.t)], .agg #[.int .i64 b.v, .string (sb b.t)], .int .i64 at', .int .i64 by', .string (sb mo)] w fun r w' => r = .returned (.bool true) ∧ Below w.heap.size w w' := by
  have T0 := hide' (Tw.new w a b)
  have C1 := hide' (alive_any ((w.alloc (.cells #[.int .i64 a.v, .string (sb a.t)] 24)).alloc (.cells #[.int .i64 b.v, .string (sb b.t)] 24)))
  obtain ⟨A, hA⟩ : ∃ A, A = ft a := ⟨_, rfl⟩
  obtain ⟨B, hB⟩ : ∃ B, B = ft b := ⟨_, rfl⟩
  have okA : Hid A.ok := hide' (by rw [hA]; exact ft_ok a)
  have okB : Hid B.ok := hide' (by rw [hB]; exact ft_ok b)
  have FA : Hid (∀ W, Calls Try.prog 22 #[.agg #[.int .i64 a.v, .string (sb a.t)]] W fun r w' => r = .returned (.agg #[.int .i64 A.v, .string (sb A.t)]) ∧ Below W.heap.size W w') := hide' (fun W => by rw [hA]; exact fit_any a W)
  have FB : Hid (∀ W, Calls Try.prog 22 #[.agg #[.int .i64 b.v, .string (sb b.t)]] W fun r w' => r = .returned (.agg #[.int .i64 B.v, .string (sb B.t)]) ∧ Below W.heap.size W w') := hide' (fun W => by rw [hB]; exact fit_any b W)
  have GA : Hid (∀ W, Calls Try.prog 13 #[.agg #[.int .i64 A.v, .string (sb A.t)]] W fun r w' => r = .returned (.tuple #[.string (sb (rcd A)), .int .i64 0]) ∧ Below W.heap.size W w') := hide' (fun W => frame_ok A okA.out W)
  have GB : Hid (∀ W, Calls Try.prog 13 #[.agg #[.int .i64 B.v, .string (sb B.t)]] W fun r w' => r = .returned (.tuple #[.string (sb (rcd B)), .int .i64 0]) ∧ Below W.heap.size W w') := hide' (fun W => frame_ok B okB.out W)
  clear hA hB
  obtain ⟨la, hla⟩ : ∃ n, n = (rcd A).length := ⟨_, rfl⟩
  obtain ⟨lb, hlb⟩ : ∃ n, n = (rcd B).length := ⟨_, rfl⟩
  have hlal : la ≤ 65553 := by rw [hla, rec_len]; have := okA.out.2.2; omega
  have hlbl : 17 ≤ lb ∧ lb ≤ 65553 := by rw [hlb, rec_len]; have := okB.out.2.2; omega
  have za : (sb (rcd A)).size = la := by rw [sb_size, hla]
  have zb : (sb (rcd B)).size = lb := by rw [sb_size, hlb]
  have HLA := hide' (And.intro hla (And.intro hlb (And.intro hlal (And.intro hlbl hmo))))
  obtain ⟨va, hva⟩ : ∃ v, v = a.v := ⟨_, rfl⟩
  obtain ⟨vb, hvb⟩ : ∃ v, v = b.v := ⟨_, rfl⟩
  obtain ⟨TA, hTA⟩ : ∃ v, v = sb a.t := ⟨_, rfl⟩
  obtain ⟨TB, hTB⟩ : ∃ v, v = sb b.t := ⟨_, rfl⟩
  obtain ⟨Av, hAv⟩ : ∃ v, v = A.v := ⟨_, rfl⟩
  obtain ⟨AT, hAT⟩ : ∃ v, v = sb A.t := ⟨_, rfl⟩
  obtain ⟨Bv, hBv⟩ : ∃ v, v = B.v := ⟨_, rfl⟩
  obtain ⟨BT, hBT⟩ : ∃ v, v = sb B.t := ⟨_, rfl⟩
  obtain ⟨SA, hSA⟩ : ∃ v, v = sb (rcd A) := ⟨_, rfl⟩
  obtain ⟨SB, hSB⟩ : ∃ v, v = sb (rcd B) := ⟨_, rfl⟩
  obtain ⟨TM, hTM⟩ : ∃ v, v = sb mo := ⟨_, rfl⟩
  have zm : TM.size = mo.length := by rw [hTM, sb_size]
  have HV := hide' (And.intro hva (And.intro hvb (And.intro hTA hTB)))
  have HS := hide' (And.intro hSA (And.intro hSB (And.intro hTM (And.intro hAv hAT))))
  rw [← hva, ← hvb, ← hTA, ← hTB] at C1 T0
  rw [← hva, ← hvb, ← hTA, ← hTB, ← hTM]
  rw [← hva, ← hTA, ← hAv, ← hAT] at FA
  rw [← hvb, ← hTB, ← hBv, ← hBT] at FB
  rw [← hAv, ← hAT, ← hSA] at GA
  rw [← hBv, ← hBT, ← hSB] at GB
  rw [← hSA] at za
  rw [← hSB] at zb
  clear hva hvb hTA hTB hAv hAT hBv hBT hSA hSB hTM hla hlb hlal hlbl hmo
  obtain ⟨q, hq⟩ : ∃ q, q = w.heap.size := ⟨_, rfl⟩
  have HQ := hide' hq
  go_enter Try.func8, Try.ntmps8
  go_wp2_with fail
  refine C1.out.mono ?_
  rintro e w1 ⟨rfl, b1⟩
  have T1 := hide' (T0.out.to b1)
  rw [← hq]
  clear b1 C1 T0 hq
  have c0 := T1.out.a.c0
  have c1 := T1.out.a.c1
  have c2 := T1.out.b.c0
  have c3 := T1.out.b.c1
  rw [← HQ.out] at c0 c1 c2 c3
  rw [← HV.out.1] at c0
  rw [← HV.out.2.2.1] at c1
  rw [← HV.out.2.1] at c2
  rw [← HV.out.2.2.2] at c3
  have D2 := hide' (FA.out w1)
  go_wp2_with fail
  refine D2.out.mono ?_
  rintro e w2 ⟨rfl, b2⟩
  have T2 := hide' (T1.out.to b2)
  have D3 := hide' (GA.out w2)
  clear b2 D2 T1 c0 c1 c2 c3
  go_wp2_with fail
  refine D3.out.mono ?_
  rintro e w3 ⟨rfl, b3⟩
  have T3 := hide' (T2.out.to b3)
  clear b3 D3 T2
  have c0 := T3.out.a.c0
  have c1 := T3.out.a.c1
  have c2 := T3.out.b.c0
  have c3 := T3.out.b.c1
  rw [← HQ.out] at c0 c1 c2 c3
  rw [← HV.out.1] at c0
  rw [← HV.out.2.2.1] at c1
  rw [← HV.out.2.1] at c2
  rw [← HV.out.2.2.2] at c3
  have D4 := hide' (FB.out w3)
  go_wp2_with fail
  refine D4.out.mono ?_
  rintro e w4 ⟨rfl, b4⟩
  have T4 := hide' (T3.out.to b4)
  have D5 := hide' (GB.out w4)
  clear b4 D4 T3 c0 c1 c2 c3
  go_wp2_with fail
  refine D5.out.mono ?_
  rintro e w5 ⟨rfl, b5⟩
  have T5 := hide' (T4.out.to b5)
  have P5 := hide' (pick_any at' lb (lb_facts HLA.out.2.2.2.1).1 (lb_facts HLA.out.2.2.2.1).2 w5)
  obtain ⟨k, hk⟩ : ∃ k, k = pk at' lb := ⟨_, rfl⟩
  have hkl : k < lb := by rw [hk]; exact pk_lt _ (lb_facts HLA.out.2.2.2.1).1
  rw [← hk] at P5
  obtain ⟨c6, w6, hc6, R6, b6, hcl6, hf6, hs6⟩ := conv_str2 w5 (rcd B)
  obtain ⟨d, hd⟩ : ∃ d, d = w5.heap.size := ⟨_, rfl⟩
  rw [← HS.out.2.1, ← HLA.out.2.1, ← hd] at hc6
  rw [← hd] at R6
  have T6 := hide' (T5.out.to b6)
  have hkB : k < (rcd B).length := by rw [← HLA.out.2.1]; exact hkl
  have y0 := rw_cell R6 hkB
  have f0 : w6.frozen? ⟨d, k, none⟩ = false := by rw [hd]; exact hf6 k hkB
  obtain ⟨zz, hzz⟩ : ∃ z : UInt8, z = (rcd B).getD k 0 := ⟨_, rfl⟩
  have hzk : zz = (rcd B)[k] := by rw [hzz, List.getD_eq_getElem?_getD, List.getElem?_eq_getElem hkB]; rfl
  rw [← hzz] at y0
  obtain ⟨p, hp⟩ : ∃ p, p = pk by' 255 := ⟨_, rfl⟩
  have hpl : p < 255 := by rw [hp]; exact pk_lt _ (by decide)
  have P6 : Hid (∀ W, Calls Try.prog 23 #[.int .i64 by', .int .i64 255] W fun r w' => r = .returned (.int .i64 (p : Nat)) ∧ w' = W) := hide' (fun W => by rw [hp]; exact pick_any by' 255 (by decide) (by decide) W)
  obtain ⟨pf1, pf2, pf3, pf4⟩ := p_facts hpl
  obtain ⟨x1, x2⟩ := xor_ne (u8_lt zz) pf3 pf4
  obtain ⟨c, hc⟩ : ∃ c, c = UInt8.ofNat (zz.toNat ^^^ (1 + p)) := ⟨_, rfl⟩
  have hcn : c ≠ (rcd B)[k] := fun q => x2 (by rw [← x1, ← hc, q, ← hzk])
  obtain ⟨P1, hP1⟩ : ∃ P : Int, P = ((1 + p : Nat) : Int) := ⟨_, rfl⟩
  have e1 : wrap64 (1 + (p : Int)) = P1 := by rw [hP1]; exact pf1
  have e2 : P1 % 256 = P1 := by rw [hP1]; exact pf2
  have e4 : Hid (IntKind.u8.wrap (IntKind.i64.wrap (1 + (p : Int))) = P1) := hide' (by rw [hP1]; exact p_wrap hpl)
  have e3 : bits .xor .u8 (zz.toNat : Int) P1 = (c.toNat : Int) := by rw [hP1, hc, x1]; exact u8_xor_nat _ _ (u8_lt zz) pf4
  have R7 : Hid (Rw 1 ba (w6.setCell ⟨d, k, none⟩ (.int .u8 (c.toNat : Int))) (some ⟨d, 0, none⟩) ((rcd B).set k c) ∧ (∃ h : k < (rcd B).length, c ≠ (rcd B)[k]) ∧ Tw w a b (w6.setCell ⟨d, k, none⟩ (.int .u8 (c.toNat : Int)))) := hide' ⟨rw_set R6 hkB c, ⟨hkB, hcn⟩, by
    have hdt : Below d w6 (w6.setCell ⟨d, k, none⟩ (.int .u8 (c.toNat : Int))) := (Below.refl d w6).setCell (Nat.le_refl d) _
    have hTb : Below w.heap.size w w5 := T5.out.bel
    refine ⟨?_, ?_, T6.out.bel.trans (hdt.mono (by rw [hd]; exact hTb.size))⟩
    · exact (hdt.block _ (by rw [hd]; exact lt_of_heap T5.out.a)).trans T6.out.a
    · exact (hdt.block _ (by rw [hd]; exact lt_of_heap T5.out.b)).trans T6.out.b⟩
  have HKB := hide' hkB
  obtain ⟨gk, gk0⟩ := k_facts hkl
  generalize zz.toNat = zn at *
  generalize c.toNat = cn at *
  clear b5 D5 hk hkl b6 hcl6 hf6 hs6 R6 hd hzz hzk hp hpl x1 x2 hc hcn hP1 T4 hkB pf1 pf2 pf3 pf4
  go_wp2_with fail
  refine P5.out.mono ?_
  rintro e w5' ⟨rfl, rfl⟩
  clear P5
  go_wp2_with fail
  go_region_with (go_at_call 23; refine (P6.out _).mono ?_; rintro e wq ⟨rfl, hwq⟩; replace hwq := hwq.symm; subst hwq)
  all_goals (
    rw [e4.out, e3]
    obtain ⟨X, hX⟩ : ∃ X, X = (rcd B).set k c := ⟨_, rfl⟩
    have hXl : X.length = lb := by rw [hX, List.length_set, HLA.out.2.1]
    obtain ⟨V, hV⟩ : ∃ V, V = (w6.setCell ⟨d, k, none⟩ (.int .u8 (cn : Int))).drew := ⟨_, rfl⟩
    have KV : Hid (Rw 1 ba V (some ⟨d, 0, none⟩) X ∧ Tw w a b V) := hide' (by rw [hV, hX]; exact ⟨R7.out.1, R7.out.2.2.to ⟨rfl, rfl, rfl, Nat.le_refl _, fun _ _ => rfl⟩⟩)
    rw [← hV]
    obtain ⟨TX, hTX⟩ : ∃ T, T = sb X := ⟨_, rfl⟩
    have hcv : ∀ W, Below V.heap.size V W → (convert 60 9 (.slice (some ⟨d, 0, none⟩) lb c6)).run Try.prog W = .ok (.string TX) W := fun W bW => by
      have := conv_rw (KV.out.1.below bW) c6
      rw [hXl, ← hTX] at this
      exact this
    have hc0 := hcv V (Below.refl _ _)
    have HCV := hide' hcv
    obtain ⟨hkB, hcn⟩ := R7.out.2.1
    have zx : TX.size = lb := by rw [hTX, sb_size, hXl]
    have y1 : SA ++ TX ++ TM = sb (rcd A ++ (X ++ mo)) := by rw [HS.out.1, HS.out.2.2.1, hTX, sb_add, sb_add, List.append_assoc]
    have hRd : Rds (rcd A ++ (X ++ mo)) [A] := by rw [hX]; exact read_turned okA.out okB.out hkB hcn mo
    have hRn : Rds X [] := by
      rw [hX]
      have := Rds.none (bare_turned okB.out hkB hcn [])
      rw [List.append_nil] at this
      exact this
    have HLn : Hid (la + lb + mo.length ≤ 140737488482338 ∧ lb ≤ 65553) := hide' (ln_facts HLA.out.2.2.1 HLA.out.2.2.2.1 HLA.out.2.2.2.2)
    have CR := hide' (read_few (rcd A ++ (X ++ mo)) (by rw [List.length_append, List.length_append, hXl, ← HLA.out.1]; have := HLn.out.1; omega) (fun es r h1 h2 => by
      have := chain_turned okA.out okB.out hkB hcn h1 (by rw [← hX]; exact h2)
      omega) V)
    have CL : Hid (∀ W, Calls Try.prog 15 #[.string TX] W fun e w' => ∃ es ao cap, e = .returned (.tuple #[.slice ao es.length cap, .int .i64 ((recs es).length : Nat)]) ∧ Rds X es ∧ Es W.heap.size ao cap es w' ∧ Below W.heap.size W w') := hide' (fun W => by rw [hTX]; exact read_any X (by rw [hXl]; have := HLn.out.2; omega) W)
    rw [← y1] at CR
    have o1 : ¬ 9223372036854775807 < la + lb := by have := HLn.out.1; omega
    have o2 : ¬ 9223372036854775807 < la + lb + mo.length := by have := HLn.out.1; omega
    have HR := hide' (And.intro hRd hRn)
    clear hX hXl hV hTX hcv hkB hcn y1 hRd hRn y0 f0 e3 hc6
    go_wp2_with fail
    refine CR.out.mono ?_
    rintro e w7 ⟨es, ag, cg, rfl, hr, ho, hb⟩
    have hes : es = [A] := hr.uniq HR.out.1
    subst hes
    have hc7 := HCV.out w7 hb
    have K7 := hide' (And.intro ho (KV.out.2.to hb))
    have hl1 : (recs [A]).length = la := by rw [recs_one, HLA.out.1]
    have CL7 := hide' (CL.out w7)
    rw [hl1]
    rw [show ([A] : List En).length = 1 from rfl]
    clear hr ho hb CR hc0 KV hl1
    go_wp2_with fail
    refine CL7.out.mono ?_
    rintro e w8 ⟨fs, al, cl, rfl, hr8, ho8, hb8⟩
    have hfs : fs = [] := hr8.uniq HR.out.2
    subst hfs
    have K8 := hide' (And.intro (K7.out.1.below hb8) (K7.out.2.to hb8))
    have c0 := K8.out.2.a.c0
    have c1 := K8.out.2.a.c1
    rw [← HQ.out] at c0 c1
    rw [← HV.out.1] at c0
    rw [← HV.out.2.2.1] at c1
    have D8 := hide' (FA.out w8)
    rw [show (recs []).length = 0 from rfl, show ([] : List En).length = 0 from rfl]
    clear hr8 ho8 hb8 CL7 hc7 K7
    go_wp2_with fail
    refine D8.out.mono ?_
    rintro e w9 ⟨rfl, b9⟩
    have R9 : Rw 2 En.arr (w9.alloc (.cells #[.int .i64 Av, .string AT] 24)) (some ⟨w9.heap.size, 0, none⟩) [A] := .inr ⟨w9.heap.size, 0, rfl, by simp, fun j x hx r hr => by
      have hj : j = 0 := by
        have := (List.getElem?_eq_some_iff.1 hx).1
        simp at this
        omega
      subst hj
      simp only [List.getElem?_cons_zero, Option.some.injEq] at hx
      subst hx
      rw [Lib.cell_of_heap (heap_alloc_new w9 (.cells #[.int .i64 Av, .string AT] 24)), HS.out.2.2.2.1, HS.out.2.2.2.2]
      simp [En.arr]⟩
    have b10 : Below w8.heap.size w8 (w9.alloc (.cells #[.int .i64 Av, .string AT] 24)) := b9.alloc b9.size _
    have S1 := hide' (same_any cg 1 ((K8.out.1.below b10).rw' ha_e) R9 (by simp))
    have T9 := hide' (K8.out.2.to b10)
    rw [show ([A] : List En).length = 1 from rfl] at S1
    clear b9 b10 R9 D8 K8 c0 c1
    go_wp2_with fail
    refine S1.out.mono ?_
    rintro e wA ⟨rfl, bA⟩
    have TA' := hide' (T9.out.to bA)
    clear bA S1 T9
    go_wp2
    go_ret
    exact ⟨rfl, TA'.out.bel⟩)
end J
end Go.Proofs.Ytihdagehenmolaa
