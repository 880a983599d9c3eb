import Derived.Test.YtihdagehenmolaaRdR
set_option linter.unusedVariables false
set_option linter.unusedSimpArgs false
namespace Go.Proofs.Ytihdagehenmolaa
open Go.RowKit
namespace J
open M K
theorem nm_drop (l : List UInt8) (k j : Nat) : nm (l.drop k) j = nm l (k + j) := by
  unfold nm
  simp only [List.getD_eq_getElem?_getD, List.getElem?_drop, Nat.add_assoc]
/-- the last step of a reading -/
theorem rd_end {w wx : World} {l : List UInt8} {es : List En} {ao : Option Addr} {cap : Nat} (h : RdI w l es ao cap wx) (hb : Bare (l.drop (recs es).length)) : Rds l es := ⟨h.ok, _, h.eq, hb⟩
theorem al_below {wr w1 : World} {o : Obj} (h : Below wr.heap.size wr w1) : Below wr.heap.size wr (w1.alloc o) := h.alloc h.size o
theorem rnum_at {l D : List UInt8} {T : ByteArray} {k : Nat} (hT : T = sb l) (hD : D = l.drop k) (j : Nat) (hj : k + j + 4 ≤ l.length) (hk : k + j ≤ 4611686018427388000) (W : World) : Calls Try.prog 35 #[.string T, .int .i64 ((k + j : Nat) : Int)] W fun e w' => e = .returned (.int .i64 ((nm D j : Nat) : Int)) ∧ w' = W := by
  rw [hT, hD, nm_drop]
  exact rnumber_ok l (k + j) hj hk W
structure Plain (m k n : Nat) : Prop where
  a : m ≤ 4611686018427387904
  b : k ≤ m
  c : n < 4294967296
theorem Plain.w1 {m k n : Nat} (h : Plain m k n) : wrap64 ((k : Int) + 1) = ((k + 1 : Nat) : Int) := by have := h.a; have := h.b; unfold wrap64; omega
theorem Plain.w5 {m k n : Nat} (h : Plain m k n) : wrap64 ((k : Int) + 5) = ((k + 5 : Nat) : Int) := by have := h.a; have := h.b; unfold wrap64; omega
theorem Plain.w13 {m k n : Nat} (h : Plain m k n) : wrap64 ((k : Int) + 13) = ((k + 13 : Nat) : Int) := by have := h.a; have := h.b; unfold wrap64; omega
theorem Plain.w13n {m k n : Nat} (h : Plain m k n) : wrap64 (((k + 13 : Nat) : Int) + (n : Int)) = ((k + 13 + n : Nat) : Int) := by have := h.a; have := h.b; have := h.c; unfold wrap64; omega
set_option maxRecDepth 100000 in
set_option maxHeartbeats 4000000 in
theorem rread_few (l : List UInt8) (hml : l.length ≤ 4611686018427387904) (hes : ∀ es r, (∀ e ∈ es, e.ok) → l = recs es ++ r → es.length * 24 ≤ 140737488355328) (w : World) : Calls Try.prog 14 #[.string (sb l)] w fun e w' => ∃ es ao cap, e = .returned (.tuple #[.slice ao es.length cap, .int .i64 ((recs es).length : Nat)]) ∧ Rds l es ∧ Es w.heap.size ao cap es w' ∧ Below w.heap.size w w' := by
  obtain ⟨T, hT⟩ : ∃ T, T = sb l := ⟨_, rfl⟩
  have z := sb_size l
  rw [← hT] at z ⊢
  have HT := hide' hT
  have HF := hide' hes
  obtain ⟨m, hm⟩ : ∃ m, m = l.length := ⟨_, rfl⟩
  have Hm := hide' (And.intro hm (show m ≤ 4611686018427387904 by omega))
  rw [← hm] at z
  clear hT hml hm hes
  go_enter Try.func14, Try.ntmps14
  go_wp2
  go_loopw [4, 5] (fun v i wx => ∃ es ao cap, v = .slice ao es.length cap ∧ i = .int .i64 (((recs es).length : Nat) : Int) ∧ RdI w l es ao cap wx) (fun _ i _ => m - (intOf i).toNat)
  case atStart => exact ⟨[], none, 0, rfl, rfl, fun e he => by simp at he, rfl, own_nil 2 24 En.arr _ _, Below.refl _ _⟩
  case round =>
    obtain ⟨es, ao, cap, rfl, rfl, hI⟩ := hrel
    have HI := hide' hI
    obtain ⟨k, hk⟩ : ∃ k, k = (recs es).length := ⟨_, rfl⟩
    have hkm : k ≤ m := by
      have := congrArg List.length hI.eq
      rw [List.length_append] at this
      rw [hk, Hm.out.1]; omega
    obtain ⟨D, hD⟩ : ∃ D, D = l.drop k := ⟨_, rfl⟩
    have hDl : D.length = m - k := by rw [hD, List.length_drop, Hm.out.1]
    have Hk := hide' (And.intro hk (And.intro hD hDl))
    rw [← hk]
    have hend : Hid (Bare D → Rds l es) := hide' (fun q => rd_end hI (by rw [← hk, ← hD]; exact q))
    have PL0 : Plain m k 0 := ⟨Hm.out.2, hkm, by decide⟩
    obtain ⟨K1, hK1⟩ : ∃ K : Int, K = ((k + 1 : Nat) : Int) := ⟨_, rfl⟩
    obtain ⟨K5, hK5⟩ : ∃ K : Int, K = ((k + 5 : Nat) : Int) := ⟨_, rfl⟩
    obtain ⟨K13, hK13⟩ : ∃ K : Int, K = ((k + 13 : Nat) : Int) := ⟨_, rfl⟩
    have HW : Hid (wrap64 ((k : Int) + 1) = K1 ∧ wrap64 ((k : Int) + 5) = K5 ∧ wrap64 ((k : Int) + 13) = K13) := hide' ⟨by rw [hK1]; exact PL0.w1, by rw [hK5]; exact PL0.w5, by rw [hK13]; exact PL0.w13⟩
    have HPL := hide' (And.intro PL0 (And.intro hK1 (And.intro hK5 hK13)))
    by_cases h9 : m < k + 9
    · have CV : Hid (∀ W, ∃ v : Int, Calls Try.prog 35 #[.string T, .int .i64 K1] W fun e w' => e = .returned (.int .i64 v) ∧ w' = W) := hide' (fun W => by
        rw [HT.out, hK1]
        by_cases h5 : l.length < k + 1 + 4
        · exact ⟨_, rnumber_no l (k + 1) h5 (by have := PL0.a; omega) W⟩
        · exact ⟨_, rnumber_ok l (k + 1) (by omega) (by have := PL0.a; omega) W⟩)
      have CN : Hid (∀ W, Calls Try.prog 35 #[.string T, .int .i64 K5] W fun e w' => e = .returned (.int .i64 (-1)) ∧ w' = W) := hide' (fun W => by
        rw [HT.out, hK5]
        exact rnumber_no l (k + 5) (by rw [← Hm.out.1]; omega) (by have := PL0.a; omega) W)
      have HB : Hid (Rds l es) := hide' (hend.out (bare_short (by rw [hDl]; omega)))
      obtain ⟨v, hv⟩ := CV.out wr
      have HV := hide' hv
      clear hI hk hkm hD hDl PL0 hK1 hK5 hK13 h9 CV hv
      obtain ⟨w1, w5, w13⟩ := HW.out
      go_wp2_with fail
      refine HV.out.mono ?_
      rintro e w2 ⟨rfl, rfl⟩
      have C2 := hide' (CN.out (w2.alloc (.cells #[.int .i64 v, .string ⟨#[]⟩] 24)))
      clear HV CN
      go_wp2_with fail
      refine C2.out.mono ?_
      rintro e w3 ⟨rfl, rfl⟩
      clear C2
      go_wp2
      go_ret2
      have b2 := below_al w2 (.cells #[.int .i64 v, .string ⟨#[]⟩] 24)
      exact ⟨es, ao, cap, by rw [← Hk.out.1]; rfl, HB.out, HI.out.row.below b2, HI.out.bel.trans (b2.mono HI.out.bel.size)⟩
    · obtain ⟨V, HV1⟩ : ∃ V, Hid (V = nm D 1) := ⟨_, hide' rfl⟩
      obtain ⟨n, HN1⟩ : ∃ n, Hid (n = nm D 5) := ⟨_, hide' rfl⟩
      have hn2 : n < 4294967296 := by rw [HN1.out]; exact nm_lt D 5
      have hs1 : k + 1 + 4 ≤ l.length ∧ k + 1 ≤ 4611686018427388000 := by rw [← Hm.out.1]; have := PL0.a; omega
      have hs5 : k + 5 + 4 ≤ l.length ∧ k + 5 ≤ 4611686018427388000 := by rw [← Hm.out.1]; have := PL0.a; omega
      have CV : Hid (∀ W, Calls Try.prog 35 #[.string T, .int .i64 K1] W fun e w' => e = .returned (.int .i64 (V : Int)) ∧ w' = W) := hide' (fun W => by
        rw [hK1, HV1.out]
        exact rnum_at HT.out hD 1 hs1.1 hs1.2 W)
      have CN : Hid (∀ W, Calls Try.prog 35 #[.string T, .int .i64 K5] W fun e w' => e = .returned (.int .i64 (n : Int)) ∧ w' = W) := hide' (fun W => by
        rw [hK5, HN1.out]
        exact rnum_at HT.out hD 5 hs5.1 hs5.2 W)
      clear hs1 hs5
      have PL : Plain m k n := ⟨PL0.a, PL0.b, hn2⟩
      obtain ⟨KN, hKN⟩ : ∃ K : Int, K = ((k + 13 + n : Nat) : Int) := ⟨_, rfl⟩
      have HWn : Hid (wrap64 (K13 + (n : Int)) = KN) := hide' (by rw [hK13, hKN]; exact PL.w13n)
      have HVN := hide' (And.intro HV1.out (And.intro HN1.out hKN))
      have C1 := hide' (CV.out wr)
      have h9' : Hid (k + 9 ≤ m) := hide' (by omega)
      have gn0 : ¬ ((n : Int) < 0) := by omega
      clear hI hk hkm hD hDl PL0 hK1 hK5 hK13 h9 hn2 hKN CV HV1 HN1
      obtain ⟨w1, w5, w13⟩ := HW.out
      go_wp2_with fail
      refine C1.out.mono ?_
      rintro e w2 ⟨rfl, rfl⟩
      have C2 := hide' (CN.out (w2.alloc (.cells #[.int .i64 (V : Int), .string ⟨#[]⟩] 24)))
      have A2 : Hid (Below w2.heap.size w2 (w2.alloc (.cells #[.int .i64 (V : Int), .string ⟨#[]⟩] 24))) := hide' (below_al _ _)
      clear C1 CN
      go_wp2_with fail
      refine C2.out.mono ?_
      rintro e w3 ⟨rfl, hw3⟩
      subst hw3
      clear C2 w1 w5 w13
      by_cases hbad : 65536 < n ∨ m < k + 13 + n
      · have HB : Hid (Rds l es) := hide' (hend.out (by
          rcases hbad with q | q
          · exact bare_text (by rw [← HVN.out.2.1]; exact q)
          · refine bare_long ?_
            rw [Hk.out.2.2, ← HVN.out.2.1]
            omega))
        by_cases q1 : 65536 < n
        · have q1' : 65536 < (n : Int) := by omega
          clear hbad q1
          obtain ⟨w1, w5, w13⟩ := HW.out
          have wn := HWn.out
          go_wp2
          go_ret2
          exact ⟨es, ao, cap, by rw [← Hk.out.1]; rfl, HB.out, HI.out.row.below A2.out, HI.out.bel.trans (A2.out.mono HI.out.bel.size)⟩
        · have q1' : ¬ (65536 < (n : Int)) := by omega
          have q2' : (m : Int) < KN := by rw [HVN.out.2.2]; omega
          clear hbad q1
          obtain ⟨w1, w5, w13⟩ := HW.out
          have wn := HWn.out
          go_wp2
          go_ret2
          exact ⟨es, ao, cap, by rw [← Hk.out.1]; rfl, HB.out, HI.out.row.below A2.out, HI.out.bel.trans (A2.out.mono HI.out.bel.size)⟩
      · have q1' : ¬ (65536 < (n : Int)) := by omega
        have q2' : ¬ ((m : Int) < KN) := by rw [HVN.out.2.2]; omega
        have hnn : n ≤ 65536 ∧ k + 13 + n ≤ m := by omega
        obtain ⟨X, hX⟩ : ∃ X, X = (D.drop 13).take n := ⟨_, rfl⟩
        have hent : ent D = ⟨(V : Int), X⟩ := by unfold ent; rw [← HVN.out.1, ← HVN.out.2.1, ← hX]
        have hXl : X.length = n := by rw [hX, List.length_take, List.length_drop, Hk.out.2.2]; omega
        have x1 : T.extract (k + 13) (k + 13 + n) = sb X := by
          rw [HT.out, sb_cut, Nat.add_sub_cancel_left, ← List.drop_drop, ← Hk.out.2.1, hX]
        obtain ⟨E, hE⟩ : ∃ E : En, E = ⟨(V : Int), X⟩ := ⟨_, rfl⟩
        rw [← hE] at hent
        have hEv : E.v = (V : Int) := by rw [hE]
        have hEt : E.t = X := by rw [hE]
        have FR : Hid (∀ W, _) := hide' (fun W => rframe_any E W)
        rw [hEv, hEt] at FR
        obtain ⟨TX, hTX⟩ : ∃ T, T = sb X := ⟨_, rfl⟩
        rw [← hTX] at FR x1
        have HE := hide' (And.intro hent (And.intro hEv (And.intro hEt (And.intro hTX (And.intro hXl hnn)))))
        have x1' : T.extract K13.toNat KN.toNat = TX := by rw [HVN.out.2.2, HPL.out.2.2.2, Int.toNat_natCast, Int.toNat_natCast]; exact x1
        have g13 : (0 : Int) ≤ K13 := by rw [HPL.out.2.2.2]; omega
        have gkn : K13 ≤ KN := by rw [HPL.out.2.2.2, HVN.out.2.2]; omega
        have C3 := hide' (FR.out (w2.alloc (.cells #[.int .i64 (V : Int), .string TX] 24)))
        have A3 : Hid (Below w2.heap.size w2 (w2.alloc (.cells #[.int .i64 (V : Int), .string TX] 24))) := hide' (below_al _ _)
        have X3 : Hid ((w2.alloc (.cells #[.int .i64 (V : Int), .string TX] 24)).heap[w2.heap.size]? = some (.cells #[.int .i64 (V : Int), .string TX] 24)) := hide' (heap_alloc_new _ _)
        clear hbad hnn hX hent hXl x1 hE hEv hEt hTX FR A2
        obtain ⟨w1, w5, w13⟩ := HW.out
        have wn := HWn.out
        go_wp2_with fail
        refine C3.out.mono ?_
        rintro e w4 ⟨rfl, b4⟩
        have I4 := hide' (A3.out.trans (b4.mono A3.out.size))
        have X4 := hide' ((b4.block _ (lt_of_heap X3.out)).trans X3.out)
        clear b4 C3 A3 X3 w1 w5 w13 wn
        by_cases hok : frc E = 0
        · have okE := ok_frc hok
          rw [hok, frs_ok okE]
          obtain ⟨TR, hTR⟩ : ∃ T, T = sb (rcd E) := ⟨_, rfl⟩
          have zr : TR.size = 17 + n := by rw [hTR, sb_size, rec_len, HE.out.2.2.1, HE.out.2.2.2.2.1]
          rw [← hTR]
          by_cases hp : ∃ x, D = rcd E ++ x
          · have B1 : Hid (Calls Try.prog 36 #[.string T, .int .i64 (k : Int), .string TR] w4 fun e w' => e = .returned (.bool true) ∧ w' = w4) := hide' (by
              obtain ⟨x, hx⟩ := hp
              rw [HT.out, hTR]
              exact begins_yes l (rcd E) x k (by rw [← Hm.out.1]; exact Hm.out.2) (by rw [← Hk.out.2.1]; exact hx) (by rw [← Hm.out.1]; exact HPL.out.1.b) w4)
            obtain ⟨x, hx⟩ := hp
            have HX := hide' (And.intro okE hx)
            clear hx okE hok hTR
            go_wp2_with fail
            refine B1.out.mono ?_
            rintro e w5' ⟨rfl, rfl⟩
            have c0 := Lib.cell_of_heap X4.out 0
            have c1 := Lib.cell_of_heap X4.out 1
            have hnn : (es.length + 1) * 24 ≤ 140737488355328 := by
              have := HF.out (es ++ [E]) x (fun q hq => by
                rcases List.mem_append.1 hq with hq | hq
                · exact HI.out.ok q hq
                · rw [List.mem_singleton.1 hq]; exact HX.out.1) (by
                rw [recs_add, recs_one, List.append_assoc, ← HX.out.2, Hk.out.2.1, Hk.out.1]
                exact HI.out.eq)
              rw [List.length_append] at this
              exact this
            have HN := hide' hnn
            clear B1 hnn
            go_wp2_with (at_builtin; refine stay_app _ _ rfl ?_)
            unfold Stay
            rw [HE.out.2.2.2.1, ← HE.out.2.1, ← HE.out.2.2.1]
            have R4 : Es w.heap.size ao cap es w5' := HI.out.row.below I4.out
            have B4 : Below w.heap.size w w5' := HI.out.bel.trans (I4.out.mono HI.out.bel.size)
            refine wpList_more (arr := En.arr) ha_e Try.underlying29 info24 rfl (by omega) w5' rfl _ _ rfl (ro := ao) (rc := cap) (ss := es) R4 (by have := HN.out; unfold maxLen; omega) HN.out B4.size E (one_e _) 1 (by rfl) (by rfl) ?_
            intro g6 c6 w6 o6 t6 p6
            have he : recs (es ++ [E]) = recs es ++ rcd E := by rw [recs_add, recs_one]
            have hl2 : (recs (es ++ [E])).length = k + (17 + n) := by rw [he, List.length_append, rec_len, ← Hk.out.1, HE.out.2.2.1, HE.out.2.2.2.2.1]
            have R6 : Hid (RdI w l (es ++ [E]) (some ⟨g6, 0, none⟩) c6 w6 ∧ (recs (es ++ [E])).length = k + (17 + n)) := hide' ⟨⟨fun q hq => by
                rcases List.mem_append.1 hq with hq | hq
                · exact HI.out.ok q hq
                · rw [List.mem_singleton.1 hq]; exact HX.out.1, by
                rw [he, List.append_assoc]
                have e2 : l.drop (recs es ++ rcd E).length = x := by
                  rw [List.length_append, ← List.drop_drop, ← Hk.out.1, ← Hk.out.2.1, HX.out.2]
                  exact drop_app _ _ rfl
                rw [e2, ← HX.out.2, Hk.out.2.1, Hk.out.1]
                exact HI.out.eq, o6, B4.trans (R4.keep t6 B4.size)⟩, hl2⟩
            have wk : Hid (wrap64 ((k : Int) + (17 + (n : Int))) = ((k + (17 + n) : Nat) : Int) ∧ k + 13 + n ≤ m) := hide' ⟨by have := HPL.out.1.a; have := HPL.out.1.b; have := HE.out.2.2.2.2.2.1; unfold wrap64; omega, HE.out.2.2.2.2.2.2⟩
            clear o6 t6 p6 he hl2 R4 B4 c0 c1
            go_wp2
            have R := R6.out
            refine ⟨⟨es ++ [E], some ⟨g6, 0, none⟩, c6, by rw [List.length_append]; rfl, ?_, R.1⟩, ?_⟩
            · rw [R.2]
              congr 1
              exact wk.out.1
            · rw [wk.out.1]
              have := wk.out.2
              show m - (((k + (17 + n) : Nat) : Int)).toNat < m - ((k : Nat) : Int).toNat
              omega
          · have B1 : Hid (Calls Try.prog 36 #[.string T, .int .i64 (k : Int), .string TR] w4 fun e w' => e = .returned (.bool false) ∧ w' = w4) := hide' (by
              rw [HT.out, hTR]
              exact begins_no l (rcd E) k (by rw [← Hm.out.1]; exact Hm.out.2) (by rw [rec_len, HE.out.2.2.1, HE.out.2.2.2.2.1]; have := HE.out.2.2.2.2.2.1; omega) (fun x hx => hp ⟨x, by rw [Hk.out.2.1]; exact hx⟩) (by rw [← Hm.out.1]; exact HPL.out.1.b) w4)
            have HB : Hid (Rds l es) := hide' (hend.out (bare_of (fun x _ hx => hp ⟨x, by rw [HE.out.1] at hx; exact hx⟩)))
            clear hp okE hok hTR
            go_wp2_with fail
            refine B1.out.mono ?_
            rintro e w5' ⟨rfl, rfl⟩
            clear B1
            go_wp2
            go_ret2
            exact ⟨es, ao, cap, by rw [← Hk.out.1]; rfl, HB.out, HI.out.row.below I4.out, HI.out.bel.trans (I4.out.mono HI.out.bel.size)⟩
        · have HB : Hid (Rds l es) := hide' (hend.out (bare_of (fun x q _ => hok (frc_ok (by rw [HE.out.1] at q; exact q)))))
          obtain ⟨fc, hfc⟩ : ∃ c, c = frc E := ⟨_, rfl⟩
          rw [← hfc] at hok ⊢
          generalize sb (frs E) = FS
          clear hfc
          go_wp2
          go_ret2
          exact ⟨es, ao, cap, by rw [← Hk.out.1]; rfl, HB.out, HI.out.row.below I4.out, HI.out.bel.trans (I4.out.mono HI.out.bel.size)⟩
end J
end Go.Proofs.Ytihdagehenmolaa
