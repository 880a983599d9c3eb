import Derived.Test.YtnlopepbcnegbaaGreatDoorFun
import Derived.Test.YtnlopepbcnegbaaGreatDoorFstP
set_option linter.unusedVariables false
set_option linter.unusedSimpArgs false
namespace Go.Proofs.YtnlopepbcnegbaaGreatDoor
open Go.RowKit
namespace L
/-- a text of letters below 128 without a line's end: its characters -/
structure Asc (s : ByteArray) (C : List Cx) (N : Nat) : Prop where
  n : N = s.size
  a : ∀ j, j ≤ N → (g C j).a = j ∧ (g C j).l = 1 ∧ (g C j).c = 1 + (j : Int)
  r : ∀ j, j < N → (g C j).r = (bt s j : Int)
  e : (g C N).r = -1
theorem asc {s : ByteArray} {C : List Cx} {N : Nat} (G : Good s C N 0 (1, 1)) (h : ∀ i, i < s.size → bt s i < 128 ∧ bt s i ≠ 10) : Asc s C N := by
  have ha : ∀ j, j ≤ N → (g C j).a = j ∧ (g C j).l = 1 ∧ (g C j).c = 1 + (j : Int) := by
    intro j
    induction j with
    | zero => intro _; obtain ⟨z1, z2, z3⟩ := G.zero; exact ⟨z1, z2, by rw [z3]; rfl⟩
    | succ j ih =>
      intro hj
      obtain ⟨a1, a2, a3⟩ := ih (by omega)
      obtain ⟨_, _, c3, c4⟩ := G.char j (by omega)
      obtain ⟨s1, s2, s3, s4⟩ := G.step j (by omega)
      rw [a1] at c3 c4 s1
      obtain ⟨b1, b2⟩ := h j c4
      obtain ⟨r1, r2⟩ := rn_lt s j b1
      rw [r2] at s1
      have hne : (g C j).r ≠ 10 := by rw [c3, r1]; omega
      unfold nxt at s4
      rw [if_neg hne] at s4
      simp only [Prod.mk.injEq] at s4
      exact ⟨s1, by rw [s4.1, a2], by rw [s4.2, a3]; push_cast; omega⟩
  refine ⟨?_, ha, fun j hj => ?_, G.last.1⟩
  · rw [← (ha N (Nat.le_refl _)).1]; exact G.last.2.1
  · obtain ⟨_, _, c3, c4⟩ := G.char j hj
    rw [(ha j (by omega)).1] at c3 c4
    rw [c3]
    exact (rn_lt s j (h j c4).1).1
theorem bt_list (D : List UInt8) (i : Nat) (h : i < D.length) : bt ⟨D.toArray⟩ i = (D.getD i 0).toNat := by
  rw [bt_data _ i (by simpa using h)]
  simp [List.getD_eq_getElem?_getD, h]
/-- a run of a class, and what ends it -/
theorem skp_run (C : List Cx) (p : Int → Bool) (i n : Nat) (h : ∀ k, k < n → p (g C (i + k)).r = true) (he : p (g C (i + n)).r = false) : ∀ f, n ≤ f → skp C p f i = i + n := by
  induction n generalizing i with
  | zero => intro f _; exact skp_no C p f i he
  | succ n ih =>
    intro f hf
    obtain ⟨f, rfl⟩ : ∃ g, f = g + 1 := ⟨f - 1, by omega⟩
    rw [skp_yes C p f i (h 0 (by omega)), ih (i + 1) (fun k hk => by have := h (k + 1) (by omega); rwa [show i + (k + 1) = i + 1 + k by omega] at this) (by rwa [show i + (n + 1) = i + 1 + n by omega] at he) f (by omega)]
    omega
end L
/-- an escape alone in quotes -/
def escD (H : List UInt8) : List UInt8 := [34, 92, 117, 123] ++ H ++ [125, 34]
theorem escD_len (H : List UInt8) : (escD H).length = 6 + H.length := by simp [escD]; omega
theorem escD_at (H : List UInt8) (i : Nat) : (escD H).getD i 0 = if i = 0 then 34 else if i = 1 then 92 else if i = 2 then 117 else if i = 3 then 123 else if i < 4 + H.length then H.getD (i - 4) 0 else if i = 4 + H.length then 125 else if i = 5 + H.length then 34 else 0 := by
  unfold escD
  match i with
  | 0 => rfl
  | 1 => rfl
  | 2 => rfl
  | 3 => rfl
  | k + 4 =>
    have e : ([34, 92, 117, 123] ++ H ++ [125, 34] : List UInt8).getD (k + 4) 0 = (H ++ [125, 34]).getD k 0 := by simp
    rw [e]
    simp only [show ¬ k + 4 = 0 by omega, show ¬ k + 4 = 1 by omega, show ¬ k + 4 = 2 by omega, show ¬ k + 4 = 3 by omega, if_false, show k + 4 - 4 = k by omega]
    by_cases h : k < H.length
    · rw [if_pos (by omega)]
      simp [List.getD_eq_getElem?_getD, List.getElem?_append_left h]
    · rw [if_neg (by omega)]
      by_cases h2 : k = H.length
      · subst h2; rw [if_pos (by omega)]; simp
      · rw [if_neg (by omega)]
        by_cases h3 : k = H.length + 1
        · subst h3; rw [if_pos (by omega)]; simp
        · rw [if_neg (by omega)]
          rw [List.getD_eq_getElem?_getD, List.getElem?_eq_none (by simp; omega)]
          rfl
theorem hexB_is (b : Nat) (h : L.hexB b) : L.isHex (b : Int) = true := by
  unfold L.hexB at h
  simp only [L.isHex, L.isDigit, Bool.or_eq_true, Bool.and_eq_true, decide_eq_true_eq]
  omega
theorem hexB_lt (b : Nat) (h : L.hexB b) : b < 128 ∧ b ≠ 10 := by unfold L.hexB at h; omega
def escV (H : List UInt8) : ByteArray := Utf8.encode ((L.hexN 0 H : Nat) : Int)
/-- what such a text is read as -/
def escR (H : List UInt8) : List Tkn × Option Flw :=
  if Lib.validRune ((L.hexN 0 H : Nat) : Int) then (if N.valid (escV H) then ([(2, escV H, 1, 1), (5, ByteArray.empty, 1, 7 + (H.length : Int))], none) else ([], some (10, 1, 1, escV H))) else ([], some (22, 1, 2, ⟨#[92, 117]⟩))
theorem scn_esc (H : List UInt8) (h1 : 1 ≤ H.length) (h6 : H.length ≤ 6) (hx : ∀ c ∈ H, L.hexB c.toNat) : L.scn ⟨(escD H).toArray⟩ = escR H := by
  obtain ⟨s, hs⟩ : ∃ s : ByteArray, s = ⟨(escD H).toArray⟩ := ⟨_, rfl⟩
  rw [← hs]
  have hsz : s.size = 6 + H.length := by rw [hs]; show (escD H).toArray.size = _; rw [List.size_toArray, escD_len]
  have hg : ∀ i, i < s.size → L.bt s i = ((escD H).getD i 0).toNat := fun i hi => by rw [hs]; exact L.bt_list _ i (by rw [escD_len]; omega)
  have hH : ∀ k, k < H.length → L.hexB (H.getD k 0).toNat := fun k hk => hx _ (by rw [List.getD_eq_getElem?_getD, List.getElem?_eq_getElem hk]; exact List.getElem_mem hk)
  have hbd : ∀ i, i < s.size → L.bt s i < 128 ∧ L.bt s i ≠ 10 := by
    intro i hi
    rw [hg i hi, escD_at]
    repeat' split
    all_goals first | (exact hexB_lt _ (hH _ (by omega))) | decide
  obtain ⟨M0, G⟩ := L.good_cx s
  have A := L.asc G hbd
  have hN : M0 = 6 + H.length := A.n.trans hsz
  have hlen := G.len
  unfold L.scn
  rw [hlen, show M0 + 1 - 1 = M0 by omega]
  obtain ⟨T, hT⟩ : ∃ T : Tx, T = ⟨s, L.cx s, M0, none, 0, 0, 0⟩ := ⟨_, rfl⟩
  rw [← hT]
  have TN : T.N = M0 := by rw [hT]
  have TC : T.C = L.cx s := by rw [hT]
  have Tg : ∀ j, T.g j = L.g (L.cx s) j := fun j => by rw [hT]; rfl
  have r_at : ∀ i, i < M0 → (T.g i).r = (((escD H).getD i 0).toNat : Nat) := fun i hi => by rw [Tg, A.r i hi, hg i (by rw [← A.n]; exact hi)]
  have r0 : (T.g 0).r = 34 := by rw [r_at 0 (by omega), escD_at]; rfl
  have r1 : (T.g 1).r = 92 := by rw [r_at 1 (by omega), escD_at]; rfl
  have r2 : (T.g 2).r = 117 := by rw [r_at 2 (by omega), escD_at]; rfl
  have r3 : (T.g 3).r = 123 := by rw [r_at 3 (by omega), escD_at]; rfl
  have rH : ∀ k, k < H.length → (T.g (4 + k)).r = ((H.getD k 0).toNat : Nat) := fun k hk => by
    rw [r_at (4 + k) (by omega), escD_at]
    rw [if_neg (by omega), if_neg (by omega), if_neg (by omega), if_neg (by omega), if_pos (by omega), show 4 + k - 4 = k by omega]
  have r4 : (T.g (4 + H.length)).r = 125 := by
    rw [r_at _ (by omega), escD_at]
    rw [if_neg (by omega), if_neg (by omega), if_neg (by omega), if_neg (by omega), if_neg (by omega), if_pos rfl]; rfl
  have r5 : (T.g (5 + H.length)).r = 34 := by
    rw [r_at _ (by omega), escD_at]
    rw [if_neg (by omega), if_neg (by omega), if_neg (by omega), if_neg (by omega), if_neg (by omega), if_neg (by omega), if_pos rfl]; rfl
  have r6 : (T.g (6 + H.length)).r = -1 := by rw [Tg, ← hN]; exact A.e
  have pl : ∀ j, j ≤ M0 → (T.g j).a = j ∧ (T.g j).l = 1 ∧ (T.g j).c = 1 + (j : Int) := fun j hj => by rw [Tg]; exact A.a j hj
  have hskp : T.skp L.isHex 4 = 4 + H.length := by
    unfold Tx.skp
    rw [TC, TN]
    refine L.skp_run _ _ 4 H.length (fun k hk => ?_) ?_ M0 (by omega)
    · rw [← Tg, rH k hk]; exact hexB_is _ (hH k hk)
    · rw [← Tg, r4]; rfl
  have hrs : T.rs 4 H.length = H.map fun c => (c.toNat : Int) := by
    apply List.ext_getElem?
    intro k
    unfold Tx.rs
    by_cases hk : k < H.length
    · simp only [List.getElem?_map, List.getElem?_range hk, Option.map_some]
      rw [rH k hk, List.getD_eq_getElem?_getD, List.getElem?_eq_getElem hk]; rfl
    · rw [List.getElem?_eq_none (by simp; omega), List.getElem?_eq_none (by simp; omega)]
  have hxv : L.hexV (T.rs 4 H.length) = L.hexN 0 H := by
    unfold L.hexV
    rw [hrs, List.map_map]
    congr 1
    conv => rhs; rw [← List.map_id H]
    exact List.map_congr_left (fun c _ => by simp)
  have hnumd : T.numd 3 = if Lib.validRune ((L.hexN 0 H : Nat) : Int) then some (escV H, 5 + H.length) else none := by
    unfold Tx.numd
    rw [if_neg (by rw [r3]; decide), show 3 + 1 = 4 from rfl, hskp, show 4 + H.length - 4 = H.length by omega, if_neg (by rw [r4]; omega), hxv, show 4 + H.length + 1 = 5 + H.length by omega]
    rfl
  have hesc : T.esc 1 = if Lib.validRune ((L.hexN 0 H : Nat) : Int) then some (escV H, 5 + H.length) else none := by
    unfold Tx.esc
    rw [show 1 + 1 = 2 from rfl, r2, if_neg (by decide), if_pos rfl]
    exact hnumd
  have hgap : ∀ i, (T.g i).r ≠ 35 → L.isBlank (T.g i).r = false → T.gap i = i := fun i h35 hb => by
    have e : T.skp L.isBlank i = i := by unfold Tx.skp; exact L.skp_no _ _ _ _ hb
    unfold Tx.gap
    rw [e]
    exact gapL_no _ _ _ _ h35
  have hq : T.tokR 0 = T.qloop 0 (M0 + 1) 1 ByteArray.empty := by
    unfold Tx.tokR
    rw [hgap 0 (by rw [r0]; decide) (by rw [r0]; rfl)]
    unfold Tx.tokAt
    rw [r0]
    rw [if_neg (by decide), if_neg (by decide), if_neg (by decide), if_neg (by decide), if_pos rfl]
    unfold Tx.quotedR
    rw [TN]
  have hq1 : T.qloop 0 (M0 + 1) 1 ByteArray.empty = (T.esc 1).elim (.flt 22 1 2 (T.txt 1 (T.escTo 1))) (fun tj => T.qloop 0 M0 tj.2 (ByteArray.empty ++ tj.1)) := by
    rw [Tx.qloop, if_neg (by rw [r1]; decide), if_neg (by rw [r1]; decide), if_pos r1]
    have := pl 1 (by omega)
    rw [this.2.1, this.2.2]
    rfl
  rw [hq1, hesc] at hq
  unfold escR
  by_cases hv : Lib.validRune ((L.hexN 0 H : Nat) : Int) = true
  · rw [if_pos hv] at hq ⊢
    simp only [Option.elim] at hq
    have hq2 : T.qloop 0 M0 (5 + H.length) (ByteArray.empty ++ escV H) = if N.valid (escV H) then .tok 2 (escV H) 1 1 (6 + H.length) else .flt 10 1 1 (escV H) := by
      obtain ⟨M, hM⟩ : ∃ M, M0 = M + 1 := ⟨M0 - 1, by omega⟩
      rw [hM, Tx.qloop, if_neg (by rw [r5]; decide), if_pos r5]
      have := pl 0 (by omega)
      rw [this.2.1, this.2.2, ByteArray.empty_append, show 5 + H.length + 1 = 6 + H.length by omega]
      rfl
    rw [hq2] at hq
    by_cases hn : N.valid (escV H) = true
    · rw [if_pos hn] at hq ⊢
      have hend : T.tokR (6 + H.length) = .tok 5 ByteArray.empty 1 (7 + (H.length : Int)) (6 + H.length) := by
        unfold Tx.tokR
        rw [hgap _ (by rw [r6]; decide) (by rw [r6]; rfl)]
        unfold Tx.tokAt
        rw [if_pos r6]
        have := pl (6 + H.length) (by omega)
        rw [this.2.1, this.2.2, show (1 : Int) + ((6 + H.length : Nat) : Int) = 7 + (H.length : Int) by push_cast; omega]
      rw [run_tok hq (by decide)]
      obtain ⟨M, hM⟩ : ∃ M, M0 + 1 = M + 1 := ⟨M0, rfl⟩
      rw [hM, run_end hend]
    · rw [if_neg hn] at hq ⊢
      rw [run_flt hq]
  · rw [if_neg hv] at hq ⊢
    simp only [Option.elim] at hq
    rw [run_flt hq]
    have : T.txt 1 (T.escTo 1) = ⟨#[92, 117]⟩ := by
      have e : T.escTo 1 = 3 := by unfold Tx.escTo; rw [if_pos ⟨by omega, by rw [show 1 + 1 = 2 from rfl, r2]; decide⟩]
      rw [e]
      unfold Tx.txt
      rw [(pl 1 (by omega)).1, (pl 3 (by omega)).1]
      have hTs : T.s = s := by rw [hT]
      rw [hTs, hs]
      apply ByteArray.ext
      simp [escD]
    rw [this]
end Go.Proofs.YtnlopepbcnegbaaGreatDoor
