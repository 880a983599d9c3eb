import Derived.Test.YtpnkfbmdpgdbcaaDoorGpT
set_option linter.unusedVariables false
set_option linter.unusedSimpArgs false
namespace Go.Proofs.YtpnkfbmdpgdbcaaDoor
open Go.RowKit
namespace L
theorem le1_word : ∀ d : Fin 64, inWord ((le1 d.val).toNat : Int) = true ∧ (le1 d.val).toNat < 128 := by decide +kernel
theorem le1_letter : ∀ d : Fin 53, isLetter ((le1 d.val).toNat : Int) = true ∧ (le1 d.val).toNat < 128 := by decide +kernel
def sgL (c : Nat) : List UInt8 := [sgS.data.getD c 0]
theorem sg_all : ∀ c : Fin 4, sgS.extract c.val (c.val + 1) = ⟨(sgL c.val).toArray⟩ ∧ isSign ((sgS.data.getD c.val 0).toNat : Int) = true ∧ (sgS.data.getD c.val 0).toNat < 128 := by
  intro c
  have : ∀ c : Fin 4, (sgS.extract c.val (c.val + 1)).data = (sgL c.val).toArray ∧ isSign ((sgS.data.getD c.val 0).toNat : Int) = true ∧ (sgS.data.getD c.val 0).toNat < 128 := by decide +kernel
  exact ⟨ByteArray.ext (this c).1, (this c).2⟩
/-- a piece's bytes -/
def wbL (k : Int) (nm : ByteArray) (n : Int) : List UInt8 :=
  if pik k 4 = 0 ∧ N.valid nm = true then qtL nm
  else if pik k 4 = 1 then deL n
  else if pik k 4 = 2 then sgL (pik n 4).toNat
  else baL nm n
theorem wr_list (k : Int) (nm : ByteArray) (n : Int) : (wrL k nm n).1 = ⟨(wbL k nm n).toArray⟩ := by
  unfold wrL wbL
  have b := pik_bd n 4 (by omega)
  split
  · rfl
  split
  · rfl
  split
  · exact (sg_all ⟨(pik n 4).toNat, by omega⟩).1
  · rfl
/-- digits all through -/
theorem allD_dig (t : ByteArray) (h : ∀ j, j < t.size → 48 ≤ bt t j ∧ bt t j ≤ 57) : ∀ f i, allD t f i = true := by
  intro f
  induction f with
  | zero => intro i; rfl
  | succ f ih =>
    intro i
    unfold allD
    split
    · rename_i hi
      obtain ⟨h1, h2⟩ := h i hi
      rw [(rn_lt t i (by omega)).1, ih]
      simp only [isDigit, Bool.and_true, Bool.and_eq_true, decide_eq_true_eq]
      omega
    · rfl
theorem isNum_de (n : Int) : isNum ⟨(deL n).toArray⟩ = true := by
  unfold deL
  split
  · decide +kernel
  split
  · decide +kernel
  have b9 := pik_bd n 9 (by omega)
  obtain ⟨K, hK⟩ : ∃ K, K = (pik n 1000000007).toNat := ⟨_, rfl⟩
  obtain ⟨m, hm⟩ : ∃ m, m = 1 + (pik n 9).toNat := ⟨_, rfl⟩
  rw [← hK, ← hm]
  have hm1 : 1 ≤ m ∧ m ≤ 9 := by omega
  clear hK hm b9
  have hz : (⟨(48 :: 46 :: dgL K m).toArray⟩ : ByteArray).size = 2 + m := by
    show (48 :: 46 :: dgL K m).toArray.size = _
    simp [dgL_len]; omega
  have hd : ∀ j, j < m → 48 ≤ bt ⟨(48 :: 46 :: dgL K m).toArray⟩ (2 + j) ∧ bt ⟨(48 :: 46 :: dgL K m).toArray⟩ (2 + j) ≤ 57 := by
    intro j hj
    rw [bt_list _ _ (by simp [dgL_len]; omega)]
    have e : (48 :: 46 :: dgL K m : List UInt8).getD (2 + j) 0 = dg1 (K / 10 ^ j % 10) := by
      rw [show 2 + j = j + 1 + 1 by omega]
      simp [List.getD_eq_getElem?_getD, dgL, hj]
    rw [e]
    have := (dg1_all ⟨K / 10 ^ j % 10, Nat.mod_lt _ (by omega)⟩).2
    simp only at this
    rw [this]
    have : K / 10 ^ j % 10 < 10 := Nat.mod_lt _ (by omega)
    omega
  unfold isNum
  rw [hz]
  have h1 : Lib.hasPrefix (⟨(48 :: 46 :: dgL K m).toArray⟩ : ByteArray).data.toList [48, 46] = true := by simp [Lib.hasPrefix]
  have h2 : allD ((⟨(48 :: 46 :: dgL K m).toArray⟩ : ByteArray).extract 2 (2 + m)) (2 + m - 2) 0 = true := by
    refine allD_dig _ (fun j hj => ?_) _ _
    rw [ext_size _ _ _ (by rw [hz]; exact Nat.le_refl _)] at hj
    rw [bt_ext _ _ _ _ (by rw [hz]; exact Nat.le_refl _) (by omega)]
    exact hd j (by omega)
  rw [h1, h2]
  simp
  omega
/-- how a number begins and what it is made of -/
theorem de_run (n : Int) : (∀ c ∈ deL n, inRun (c.toNat : Int) = true ∧ c.toNat < 128) ∧ 1 ≤ (deL n).length ∧ isDigit (((deL n).getD 0 0).toNat : Int) = true := by
  unfold deL
  split
  · exact ⟨fun c hc => by obtain rfl : c = 49 := by simpa using hc
                          decide, by decide, by decide⟩
  split
  · exact ⟨fun c hc => by obtain rfl : c = 48 := by simpa using hc
                          decide, by decide, by decide⟩
  refine ⟨fun c hc => ?_, by simp, (show isDigit ((48 : UInt8).toNat : Int) = true by decide)⟩
  rcases List.mem_cons.1 hc with rfl | hc
  · decide
  rcases List.mem_cons.1 hc with rfl | hc
  · decide
  unfold dgL at hc
  obtain ⟨j, _, rfl⟩ := List.mem_map.1 hc
  have h10 : (pik n 1000000007).toNat / 10 ^ j % 10 < 10 := Nat.mod_lt _ (by omega)
  have := (dg1_all ⟨_, h10⟩).2
  simp only at this
  rw [this]
  generalize (pik n 1000000007).toNat / 10 ^ j % 10 = d at *
  refine ⟨?_, by omega⟩
  simp only [inRun, inWord, isDigit, Bool.or_eq_true, Bool.and_eq_true, decide_eq_true_eq]
  omega
theorem ba_run (s : ByteArray) (f : Int) : (∀ c ∈ baL s f, inWord (c.toNat : Int) = true ∧ c.toNat < 128) ∧ 1 ≤ (baL s f).length ∧ (baL s f).length ≤ 32 ∧ isLetter (((baL s f).getD 0 0).toNat : Int) = true := by
  have b := pik_bd f 53 (by omega)
  unfold baL
  have h0 := le1_letter ⟨(pik f 53).toNat, by omega⟩
  have h1 := le1_word ⟨(pik f 53).toNat, by omega⟩
  simp only at h0 h1
  refine ⟨fun c hc => ?_, by simp, by simp; omega, h0.1⟩
  rcases List.mem_cons.1 hc with rfl | hc
  · exact h1
  obtain ⟨x, _, rfl⟩ := List.mem_map.1 hc
  exact le1_word ⟨x.toNat % 64, Nat.mod_lt _ (by omega)⟩
theorem mem_getD {X : List UInt8} {j : Nat} (h : j < X.length) : X.getD j 0 ∈ X := by
  rw [List.getD_eq_getElem?_getD, List.getElem?_eq_getElem h]
  exact List.getElem_mem h
end L
section
variable {T : Tx} {s : ByteArray}
/-- a run of a class, and a gap behind it -/
theorem run_on (G : L.Good s T.C T.N 0 (1, 1)) {k p : Nat} (hk : k ≤ T.N) (ha : (T.g k).a = p) {X : List UInt8} (hX : L.Here s p X) (cl : Int → Bool) (hx : ∀ c ∈ X, cl (c.toNat : Int) = true ∧ c.toNat < 128) (he : L.Gapped s (p + X.length)) (hcl : cl 32 = false ∧ cl 9 = false ∧ cl 10 = false ∧ cl 35 = false) :
    k + X.length ≤ T.N ∧ (T.g (k + X.length)).a = p + X.length ∧ T.skp cl k = k + X.length ∧ ∀ j, j < X.length → (T.g (k + j)).r = ((X.getD j 0).toNat : Int) := by
  obtain ⟨hp, hb⟩ := hX
  obtain ⟨q1, q2, q3⟩ := run_asc G hk ha X.length hp (fun j hj => by rw [hb j hj]; exact (hx _ (L.mem_getD hj)).2)
  obtain ⟨e1, e2⟩ := he
  obtain ⟨c1, c2, c3⟩ := at_char G q1 q2 e1
  have hr : (T.g (k + X.length)).r = (L.bt s (p + X.length) : Int) := by rw [c2, (L.rn_lt s _ (by omega)).1]
  have q4 : ∀ j, j < X.length → (T.g (k + j)).r = ((X.getD j 0).toNat : Int) := fun j hj => by rw [q3 j hj, hb j hj]
  refine ⟨q1, q2, ?_, q4⟩
  unfold Tx.skp
  refine L.skp_run _ _ k X.length (fun j hj => ?_) ?_ T.N (by omega)
  · have := q4 j hj
    unfold Tx.g at this
    rw [this]
    exact (hx _ (L.mem_getD hj)).1
  · unfold Tx.g at hr
    rw [hr]
    rcases e2 with e | e | e | e <;> rw [e]
    · exact hcl.1
    · exact hcl.2.1
    · exact hcl.2.2.1
    · exact hcl.2.2.2
theorem txt_here (hs : T.s = s) {k k' p : Nat} {X : List UInt8} (ha : (T.g k).a = p) (ha' : (T.g k').a = p + X.length) (hX : L.Here s p X) : T.txt k k' = ⟨X.toArray⟩ := by
  obtain ⟨hp, hb⟩ := hX
  have hz : (⟨X.toArray⟩ : ByteArray).size = X.length := by show X.toArray.size = _; simp
  unfold Tx.txt
  rw [hs, ha, ha']
  refine L.ba_eq (by rw [L.ext_size _ _ _ hp, hz]; omega) (fun t ht => ?_)
  rw [L.ext_size _ _ _ hp] at ht
  rw [L.bt_ext _ _ _ _ hp ht, hb t (by omega), L.bt_list _ _ (by omega)]
theorem word_on (hs : T.s = s) (G : L.Good s T.C T.N 0 (1, 1)) {k p : Nat} (hk : k ≤ T.N) (ha : (T.g k).a = p) (nm : ByteArray) (n : Int) (hX : L.Here s p (L.baL nm n)) (he : L.Gapped s (p + (L.baL nm n).length)) :
    ∃ k', k < k' ∧ k' ≤ T.N ∧ (T.g k').a = p + (L.baL nm n).length ∧ T.tokAt k = .tok 1 ⟨(L.baL nm n).toArray⟩ (T.g k).l (T.g k).c k' := by
  obtain ⟨x1, x2, x3, x4⟩ := L.ba_run nm n
  obtain ⟨q1, q2, q3, q4⟩ := run_on G hk ha hX L.inWord x1 he (by decide)
  refine ⟨_, by omega, q1, q2, ?_⟩
  have r0 := q4 0 (by omega)
  rw [Nat.add_zero] at r0
  have hne : (T.g k).r ≠ -1 := by rw [r0]; omega
  unfold Tx.tokAt
  rw [if_neg hne, r0, if_pos x4]
  unfold Tx.wordR
  rw [q3, txt_here hs ha q2 hX]
  have hz : (⟨(L.baL nm n).toArray⟩ : ByteArray).size = (L.baL nm n).length := by show (L.baL nm n).toArray.size = _; simp
  rw [if_neg (by rw [hz]; omega)]
theorem num_on (hs : T.s = s) (G : L.Good s T.C T.N 0 (1, 1)) {k p : Nat} (hk : k ≤ T.N) (ha : (T.g k).a = p) (n : Int) (hX : L.Here s p (L.deL n)) (he : L.Gapped s (p + (L.deL n).length)) :
    ∃ k', k < k' ∧ k' ≤ T.N ∧ (T.g k').a = p + (L.deL n).length ∧ T.tokAt k = .tok 3 ⟨(L.deL n).toArray⟩ (T.g k).l (T.g k).c k' := by
  obtain ⟨x1, x2, x4⟩ := L.de_run n
  obtain ⟨q1, q2, q3, q4⟩ := run_on G hk ha hX L.inRun x1 he (by decide)
  refine ⟨_, by omega, q1, q2, ?_⟩
  have r0 := q4 0 (by omega)
  rw [Nat.add_zero] at r0
  have hne : (T.g k).r ≠ -1 := by rw [r0]; omega
  have hl : L.isLetter (((L.deL n).getD 0 0).toNat : Int) = false := by
    generalize (L.deL n).getD 0 0 = c at *
    unfold L.isDigit at x4
    simp only [Bool.and_eq_true, decide_eq_true_eq] at x4
    unfold L.isLetter
    simp only [Bool.or_eq_false_iff, Bool.and_eq_false_iff, decide_eq_false_iff_not, beq_eq_false_iff_ne]
    omega
  unfold Tx.tokAt
  rw [if_neg hne, r0, if_neg (by rw [hl]; decide), if_pos x4]
  unfold Tx.numberR
  rw [q3, txt_here hs ha q2 hX, if_pos (L.isNum_de n)]
theorem sign_on (hs : T.s = s) (G : L.Good s T.C T.N 0 (1, 1)) {k p : Nat} (hk : k ≤ T.N) (ha : (T.g k).a = p) (c : Fin 4) (hX : L.Here s p (L.sgL c.val)) :
    ∃ k', k < k' ∧ k' ≤ T.N ∧ (T.g k').a = p + (L.sgL c.val).length ∧ T.tokAt k = .tok 4 ⟨(L.sgL c.val).toArray⟩ (T.g k).l (T.g k).c k' := by
  have hc := (L.sg_all c).2
  have hl1 : (L.sgL c.val).length = 1 := rfl
  obtain ⟨hp, hb⟩ := hX
  have b0 := hb 0 (by omega)
  have e0 : (L.sgL c.val).getD 0 0 = L.sgS.data.getD c.val 0 := rfl
  rw [Nat.add_zero, e0] at b0
  obtain ⟨c1, c2, c3⟩ := at_char G hk ha (by omega)
  obtain ⟨r1, r2⟩ := L.rn_lt s p (by rw [b0]; exact hc.2)
  have r0 : (T.g k).r = ((L.sgS.data.getD c.val 0).toNat : Int) := by rw [c2, r1, b0]
  have ha' : (T.g (k + 1)).a = p + (L.sgL c.val).length := by rw [c3, r2, hl1]
  refine ⟨k + 1, by omega, by omega, ha', ?_⟩
  have hne : (T.g k).r ≠ -1 := by rw [r0]; omega
  have x : L.isSign ((L.sgS.data.getD c.val 0).toNat : Int) = true := hc.1
  have hl : L.isLetter ((L.sgS.data.getD c.val 0).toNat : Int) = false ∧ L.isDigit ((L.sgS.data.getD c.val 0).toNat : Int) = false := by
    clear hb b0 e0 c1 c2 c3 r1 r2 r0 ha' hne x hc hl1 hp
    revert c
    decide +kernel
  unfold Tx.tokAt
  rw [if_neg hne, r0, if_neg (by rw [hl.1]; decide), if_neg (by rw [hl.2]; decide), if_pos x, txt_here hs ha ha' ⟨hp, hb⟩]
end
end Go.Proofs.YtpnkfbmdpgdbcaaDoor
