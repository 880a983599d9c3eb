import Derived.Test.YtpnkfbmdpgdbcaaDoorGpX
set_option linter.unusedVariables false
set_option linter.unusedSimpArgs false
namespace Go.Proofs.YtpnkfbmdpgdbcaaDoor
open Go.RowKit
/-- a piece that came in -/
structure Pce where
  k : Int
  nm : ByteArray
  n : Int
  g : Int
  nt : ByteArray
namespace L
/-- a piece's text, and the gap behind it -/
def itB (x : Pce) : ByteArray := (wrL x.k x.nm x.n).1 ++ ⟨(gpL (pik x.g 5) x.nt).toArray⟩
def tlB : List Pce → ByteArray
  | [] => ByteArray.empty
  | x :: xs => itB x ++ tlB xs
theorem tlB_app (a b : List Pce) : tlB (a ++ b) = tlB a ++ tlB b := by
  induction a with
  | nil => exact ByteArray.empty_append.symm
  | cons x xs ih => rw [List.cons_append, tlB, tlB, ih, ByteArray.append_assoc]
theorem gp_pos (m : Int) (nt : ByteArray) : 1 ≤ (gpL m nt).length ∧ ((gpL m nt).getD 0 0 = 32 ∨ (gpL m nt).getD 0 0 = 9 ∨ (gpL m nt).getD 0 0 = 10 ∨ (gpL m nt).getD 0 0 = 35) := by
  unfold gpL
  split
  · exact ⟨by decide, .inr (.inl rfl)⟩
  split
  · exact ⟨by decide, .inr (.inr (.inl rfl))⟩
  split
  · exact ⟨by simp, .inr (.inr (.inr rfl))⟩
  split
  · exact ⟨by decide, .inl rfl⟩
  · exact ⟨by decide, .inl rfl⟩
theorem arr_size (X : List UInt8) : (⟨X.toArray⟩ : ByteArray).size = X.length := by show X.toArray.size = _; simp
theorem here_of {s pre more : ByteArray} {X : List UInt8} (e : s = pre ++ (⟨X.toArray⟩ ++ more)) : Here s pre.size X := by
  have hz := arr_size X
  refine ⟨by rw [e, ByteArray.size_append, ByteArray.size_append, hz]; omega, fun j hj => ?_⟩
  rw [e, bt_right _ _ _ (by omega), show pre.size + j - pre.size = j by omega, bt_left _ _ _ (by omega), bt_list _ _ hj]
theorem gapped_of {s pre more : ByteArray} {X : List UInt8} {m : Int} {nt : ByteArray} (e : s = pre ++ (⟨X.toArray⟩ ++ (⟨(gpL m nt).toArray⟩ ++ more))) : Gapped s (pre.size + X.length) := by
  have hz := arr_size X
  have e2 : s = (pre ++ ⟨X.toArray⟩) ++ (⟨(gpL m nt).toArray⟩ ++ more) := by rw [e, ByteArray.append_assoc]
  obtain ⟨h1, h2⟩ := here_of e2
  obtain ⟨g1, g2⟩ := gp_pos m nt
  have z : (pre ++ ⟨X.toArray⟩).size = pre.size + X.length := by rw [ByteArray.size_append, hz]
  rw [z] at h1 h2
  have := h2 0 (by omega)
  rw [Nat.add_zero] at this
  refine ⟨by omega, ?_⟩
  rw [this]
  rcases g2 with g | g | g | g <;> rw [g]
  · exact .inl rfl
  · exact .inr (.inl rfl)
  · exact .inr (.inr (.inl rfl))
  · exact .inr (.inr (.inr rfl))
/-- a piece's first byte ends a gap -/
theorem wb_first (k : Int) (nm : ByteArray) (n : Int) : 1 ≤ (wbL k nm n).length ∧ ((wbL k nm n).getD 0 0).toNat < 128 ∧ isBlank (((wbL k nm n).getD 0 0).toNat : Int) = false ∧ ((wbL k nm n).getD 0 0).toNat ≠ 35 := by
  unfold wbL
  split
  · unfold qtL
    exact ⟨by simp, (show (34 : UInt8).toNat < 128 by decide), (show isBlank ((34 : UInt8).toNat : Int) = false by decide), (show (34 : UInt8).toNat ≠ 35 by decide)⟩
  split
  · obtain ⟨x1, x2, x3⟩ := de_run n
    have x4 := x1 _ (mem_getD (j := 0) (by omega))
    refine ⟨x2, x4.2, ?_, ?_⟩
    all_goals generalize (deL n).getD 0 0 = c at *
    all_goals unfold isDigit at x3
    all_goals simp only [Bool.and_eq_true, decide_eq_true_eq] at x3
    · unfold isBlank
      simp only [Bool.or_eq_false_iff, beq_eq_false_iff_ne]
      omega
    · omega
  split
  · have b := pik_bd n 4 (by omega)
    obtain ⟨c, hc⟩ : ∃ c : Fin 4, c.val = (pik n 4).toNat := ⟨⟨(pik n 4).toNat, by omega⟩, rfl⟩
    rw [← hc]
    clear hc b
    revert c
    decide +kernel
  · obtain ⟨x1, x2, x3, x4⟩ := ba_run nm n
    have x5 := x1 _ (mem_getD (j := 0) (by omega))
    refine ⟨x2, x5.2, ?_, ?_⟩
    all_goals generalize (baL nm n).getD 0 0 = c at *
    all_goals unfold isLetter at x4
    all_goals simp only [Bool.or_eq_true, Bool.and_eq_true, decide_eq_true_eq, beq_iff_eq] at x4
    · unfold isBlank
      simp only [Bool.or_eq_false_iff, beq_eq_false_iff_ne]
      omega
    · omega
theorem stops_of {s pre more : ByteArray} {k : Int} {nm : ByteArray} {n : Int} (e : s = pre ++ (⟨(wbL k nm n).toArray⟩ ++ more)) : Stops s pre.size := by
  obtain ⟨h1, h2⟩ := here_of e
  obtain ⟨w1, w2, w3, w4⟩ := wb_first k nm n
  have := h2 0 (by omega)
  rw [Nat.add_zero] at this
  exact .inr ⟨by omega, by rw [this]; exact w2, by rw [this]; exact w3, by rw [this]; exact w4⟩
end L
section
variable {T : Tx} {s : ByteArray}
/-- a piece is read -/
theorem piece_on (hs : T.s = s) (G : L.Good s T.C T.N 0 (1, 1)) {pre more : ByteArray} {k : Nat} (kd : Int) (nm : ByteArray) (n m : Int) (nt : ByteArray) (hk : k ≤ T.N) (ha : (T.g k).a = pre.size) (e : s = pre ++ (⟨(L.wbL kd nm n).toArray⟩ ++ (⟨(L.gpL m nt).toArray⟩ ++ more))) :
    ∃ k', k < k' ∧ k' ≤ T.N ∧ (T.g k').a = pre.size + (L.wbL kd nm n).length ∧ T.tokAt k = .tok (L.wrL kd nm n).2.1 (L.wrL kd nm n).2.2 (T.g k).l (T.g k).c k' := by
  have hH := L.here_of e
  have hG := L.gapped_of e
  have hb := pik_bd n 4 (by omega)
  have hsz : s.size = pre.size + ((L.wbL kd nm n).length + ((⟨(L.gpL m nt).toArray⟩ : ByteArray) ++ more).size) := by rw [e, ByteArray.size_append, ByteArray.size_append, L.arr_size (L.wbL kd nm n)]
  by_cases c0 : pik kd 4 = 0 ∧ N.valid nm = true
  · have e1 : L.wbL kd nm n = L.qtL nm := by unfold L.wbL; rw [if_pos c0]
    have e2 : L.wrL kd nm n = (⟨(L.qtL nm).toArray⟩, 2, nm) := by unfold L.wrL; rw [if_pos c0]
    rw [e1] at e hH hG hsz ⊢
    rw [e2]
    obtain ⟨k', g1, g2, g3, g4⟩ := quo_on hs G hk ha e c0.2
    exact ⟨k', g1, g2, by omega, g4⟩
  by_cases c1 : pik kd 4 = 1
  · have e1 : L.wbL kd nm n = L.deL n := by unfold L.wbL; rw [if_neg c0, if_pos c1]
    have e2 : L.wrL kd nm n = (⟨(L.deL n).toArray⟩, 3, ⟨(L.deL n).toArray⟩) := by unfold L.wrL; rw [if_neg c0, if_pos c1]
    rw [e1] at hH hG ⊢
    rw [e2]
    exact num_on hs G hk ha n hH hG
  by_cases c2 : pik kd 4 = 2
  · have e1 : L.wbL kd nm n = L.sgL (pik n 4).toNat := by unfold L.wbL; rw [if_neg c0, if_neg c1, if_pos c2]
    have hc4 : (pik n 4).toNat < 4 := by omega
    have e3 := (L.sg_all ⟨(pik n 4).toNat, hc4⟩).1
    have e2 : L.wrL kd nm n = (⟨(L.sgL (pik n 4).toNat).toArray⟩, 4, ⟨(L.sgL (pik n 4).toNat).toArray⟩) := by
      unfold L.wrL; rw [if_neg c0, if_neg c1, if_pos c2]
      simp only at e3
      rw [e3]
    rw [e1] at hH hG ⊢
    rw [e2]
    exact sign_on hs G hk ha ⟨_, hc4⟩ hH
  · have e1 : L.wbL kd nm n = L.baL nm n := by unfold L.wbL; rw [if_neg c0, if_neg c1, if_neg c2]
    have e2 : L.wrL kd nm n = (⟨(L.baL nm n).toArray⟩, 1, ⟨(L.baL nm n).toArray⟩) := by unfold L.wrL; rw [if_neg c0, if_neg c1, if_neg c2]
    rw [e1] at hH hG ⊢
    rw [e2]
    exact word_on hs G hk ha nm n hH hG
theorem wr_kind (k : Int) (nm : ByteArray) (n : Int) : 1 ≤ (L.wrL k nm n).2.1 ∧ (L.wrL k nm n).2.1 ≤ 4 := by
  unfold L.wrL
  repeat' split
  all_goals simp
theorem tlB_cons (x : Pce) (xs : List Pce) : L.tlB (x :: xs) = ⟨(L.wbL x.k x.nm x.n).toArray⟩ ++ (⟨(L.gpL (pik x.g 5) x.nt).toArray⟩ ++ L.tlB xs) := by
  rw [L.tlB, L.itB, L.wr_list, ByteArray.append_assoc]
/-- what is written is read so -/
theorem pieces_run (hs : T.s = s) (G : L.Good s T.C T.N 0 (1, 1)) : ∀ xs pre k m nt f, s = pre ++ (⟨(L.gpL m nt).toArray⟩ ++ L.tlB xs) → k ≤ T.N → (T.g k).a = pre.size → T.N < k + f → ∃ (L0 : List Tkn) (l c : Int), T.run f k = (L0 ++ [(5, ByteArray.empty, l, c)], none) ∧ L0.map (fun t => (t.1, t.2.1)) = xs.map (fun x => (L.wrL x.k x.nm x.n).2) := by
  intro xs
  induction xs with
  | nil =>
    intro pre k m nt f e hk ha hf
    have hH := L.here_of e
    have hsz : s.size = pre.size + (L.gpL m nt).length := by
      rw [e, ByteArray.size_append, ByteArray.size_append, L.arr_size (L.gpL m nt)]; show _ + (_ + 0) = _; omega
    obtain ⟨k', g1, g2, g3, g4⟩ := gap_on G hk ha hH (.inl hsz.symm)
    obtain rfl := at_end G g2 (g3.trans hsz.symm)
    have rl : (T.g T.N).r = -1 := G.last.1
    have ht : T.tokR k = .tok 5 ByteArray.empty (T.g T.N).l (T.g T.N).c T.N := by
      unfold Tx.tokR
      rw [g4]
      unfold Tx.tokAt
      rw [if_pos rl]
    obtain ⟨f, rfl⟩ : ∃ g, f = g + 1 := ⟨f - 1, by omega⟩
    exact ⟨[], (T.g T.N).l, (T.g T.N).c, by rw [run_end ht]; rfl, rfl⟩
  | cons x xs ih =>
    intro pre k m nt f e hk ha hf
    have hH := L.here_of e
    have hz := L.arr_size (L.gpL m nt)
    have e2 : s = (pre ++ ⟨(L.gpL m nt).toArray⟩) ++ (⟨(L.wbL x.k x.nm x.n).toArray⟩ ++ (⟨(L.gpL (pik x.g 5) x.nt).toArray⟩ ++ L.tlB xs)) := by rw [e, tlB_cons, ByteArray.append_assoc]
    have z2 : (pre ++ ⟨(L.gpL m nt).toArray⟩).size = pre.size + (L.gpL m nt).length := by rw [ByteArray.size_append, hz]
    have hS := L.stops_of e2
    rw [z2] at hS
    obtain ⟨k1, g1, g2, g3, g4⟩ := gap_on G hk ha hH hS
    obtain ⟨k2, y1, y2, y3, y4⟩ := piece_on hs G x.k x.nm x.n (pik x.g 5) x.nt g2 (g3.trans z2.symm) e2
    have ht : T.tokR k = .tok (L.wrL x.k x.nm x.n).2.1 (L.wrL x.k x.nm x.n).2.2 (T.g k1).l (T.g k1).c k2 := by
      unfold Tx.tokR
      rw [g4, y4]
    obtain ⟨f, rfl⟩ : ∃ g, f = g + 1 := ⟨f - 1, by omega⟩
    have hz3 : ((pre ++ ⟨(L.gpL m nt).toArray⟩) ++ ⟨(L.wbL x.k x.nm x.n).toArray⟩).size = (pre ++ ⟨(L.gpL m nt).toArray⟩).size + (L.wbL x.k x.nm x.n).length := by
      have z4 := L.arr_size (L.wbL x.k x.nm x.n)
      generalize pre ++ ⟨(L.gpL m nt).toArray⟩ = A at *
      rw [ByteArray.size_append, z4]
    obtain ⟨L0, l, c, i1, i2⟩ := ih ((pre ++ ⟨(L.gpL m nt).toArray⟩) ++ ⟨(L.wbL x.k x.nm x.n).toArray⟩) k2 (pik x.g 5) x.nt f (by rw [e2]; simp only [ByteArray.append_assoc]) y2 (y3.trans hz3.symm) (by omega)
    refine ⟨((L.wrL x.k x.nm x.n).2.1, (L.wrL x.k x.nm x.n).2.2, (T.g k1).l, (T.g k1).c) :: L0, l, c, ?_, ?_⟩
    · rw [run_tok ht (by have := wr_kind x.k x.nm x.n; omega), i1]; rfl
    · rw [List.map_cons, List.map_cons, i2]
end
/-- a text of pieces and gaps is read as the pieces, and then the end -/
theorem scn_gaps (m : Int) (nt : ByteArray) (xs : List Pce) : ∃ (L0 : List Tkn) (l c : Int), L.scn (⟨(L.gpL m nt).toArray⟩ ++ L.tlB xs) = (L0 ++ [(5, ByteArray.empty, l, c)], none) ∧ L0.map (fun t => (t.1, t.2.1)) = xs.map (fun x => (L.wrL x.k x.nm x.n).2) := by
  obtain ⟨s, hs⟩ : ∃ s : ByteArray, s = ⟨(L.gpL m nt).toArray⟩ ++ L.tlB xs := ⟨_, rfl⟩
  rw [← hs]
  obtain ⟨M0, G⟩ := L.good_cx s
  have hlen := G.len
  unfold L.scn
  rw [hlen, show M0 + 1 - 1 = M0 by omega]
  obtain ⟨T, hT⟩ : ∃ T : Tx, T = ⟨s, L.cx s, M0, none, 0, 0, 0⟩ := ⟨_, rfl⟩
  rw [← hT]
  have TN : T.N = M0 := by rw [hT]
  have G' : L.Good s T.C T.N 0 (1, 1) := by rw [hT]; exact G
  have Ts : T.s = s := by rw [hT]
  exact pieces_run Ts G' xs ByteArray.empty 0 m nt _ (by rw [ByteArray.empty_append]; exact hs) (Nat.zero_le _) G'.zero.1 (by omega)
end Go.Proofs.YtpnkfbmdpgdbcaaDoor
