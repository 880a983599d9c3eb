import Derived.Test.YtnlopepbcnegbaaGreatDoorFun
set_option linter.unusedVariables false
set_option linter.unusedSimpArgs false
namespace Go.Proofs.YtnlopepbcnegbaaGreatDoor
open Go.RowKit
namespace L
theorem bt_data (s : ByteArray) (i : Nat) (h : i < s.data.size) : bt s i = (s.data[i]'h).toNat := by
  unfold bt
  show (s.data[i]!).toNat = _
  rw [getElem!_pos s.data i h]
theorem bt_left (s t : ByteArray) (i : Nat) (h : i < s.size) : bt (s ++ t) i = bt s i := by
  have h' : i < s.data.size := h
  rw [bt_data s i h', bt_data (s ++ t) i (by rw [ByteArray.data_append, Array.size_append]; omega)]
  simp only [ByteArray.data_append]
  rw [Array.getElem_append_left h']
theorem bt_mid (s m : ByteArray) : bt (s ++ (⟨#[10]⟩ ++ m)) s.size = 10 := by
  have e : s.size = s.data.size := rfl
  rw [bt_data (s ++ (⟨#[10]⟩ ++ m)) s.size (by simp only [ByteArray.data_append, Array.size_append]; show s.data.size < _; simp; omega)]
  simp only [ByteArray.data_append]
  rw [Array.getElem_append_right (show s.data.size ≤ s.size from Nat.le_refl _)]
  simp
set_option maxHeartbeats 2000000 in
theorem decN_cut (n n' b0 b1 b2 b3 c1 c2 c3 : Nat) (hn : 1 ≤ n) (hn' : n + 1 ≤ n')
    (h1 : 2 ≤ n → c1 = b1) (h2 : 3 ≤ n → c2 = b2) (h3 : 4 ≤ n → c3 = b3) (e1 : n = 1 → c1 = 10) (e2 : n = 2 → c2 = 10) (e3 : n = 3 → c3 = 10) :
    Lib.decodeN n' b0 c1 c2 c3 = Lib.decodeN n b0 b1 b2 b3 := by
  have p1 : (1 < n' ∧ c1 / 64 = 2) = (1 < n ∧ b1 / 64 = 2) := propext (by
    by_cases q : 2 ≤ n
    · rw [h1 q]; omega
    · have := e1 (by omega); omega)
  have p2 : (2 < n' ∧ c2 / 64 = 2) = (2 < n ∧ b2 / 64 = 2) ∨ n = 1 := by
    by_cases q : 3 ≤ n
    · left; rw [h2 q]; exact propext (by omega)
    · by_cases q2 : n = 2
      · left; have := e2 q2; exact propext (by omega)
      · right; omega
  have p3 : (3 < n' ∧ c3 / 64 = 2) = (3 < n ∧ b3 / 64 = 2) ∨ n = 1 ∨ n = 2 := by
    by_cases q : 4 ≤ n
    · left; rw [h3 q]; exact propext (by omega)
    · by_cases q2 : n = 3
      · left; have := e3 q2; exact propext (by omega)
      · right; omega
  unfold Lib.decodeN
  simp only [p1]
  by_cases q1 : n = 1
  · subst q1; simp
  have p2 : (2 < n' ∧ c2 / 64 = 2) = (2 < n ∧ b2 / 64 = 2) := p2.resolve_right q1
  simp only [p2]
  by_cases q2 : n = 2
  · subst q2; obtain rfl := h1 (by omega); simp
  have p3 : (3 < n' ∧ c3 / 64 = 2) = (3 < n ∧ b3 / 64 = 2) := p3.resolve_right (by omega)
  simp only [p3]
  by_cases q3 : n = 3
  · subst q3; obtain rfl := h1 (by omega); obtain rfl := h2 (by omega); simp
  obtain rfl := h1 (by omega)
  obtain rfl := h2 (by omega)
  obtain rfl := h3 (by omega)
  rfl
theorem dec_cut (s m : ByteArray) (i : Nat) (h : i < s.size) : Utf8.decode (s ++ (⟨#[10]⟩ ++ m)) i = Utf8.decode s i := by
  rw [dec_at, dec_at, bt_left s _ i h]
  have hz : (s ++ (⟨#[10]⟩ ++ m)).size = s.size + (1 + m.size) := by simp only [ByteArray.size_append]; rfl
  rw [hz]
  refine decN_cut (s.size - i) _ _ _ _ _ _ _ _ (by omega) (by omega) (fun q => bt_left _ _ _ (by omega)) (fun q => bt_left _ _ _ (by omega)) (fun q => bt_left _ _ _ (by omega)) (fun q => ?_) (fun q => ?_) (fun q => ?_)
  · rw [show i + 1 = s.size by omega]; exact bt_mid s m
  · rw [show i + 2 = s.size by omega]; exact bt_mid s m
  · rw [show i + 3 = s.size by omega]; exact bt_mid s m
theorem ext_cut (s t : ByteArray) (a b : Nat) (h : b ≤ s.size) : (s ++ t).extract a b = s.extract a b := by
  apply ByteArray.ext
  simp only [ByteArray.data_extract, ByteArray.data_append]
  rw [Array.extract_append]
  have : b - s.data.size = 0 := by have : s.size = s.data.size := rfl; omega
  rw [this]
  simp
/-- the characters of a text that goes on with a line's end: those of the text, and one with the number 10 where its end was -/
theorem cxs_cut (s m : ByteArray) : ∀ (f f' p : Nat) (n : Int × Int), s.size ≤ p + f → (s ++ (⟨#[10]⟩ ++ m)).size ≤ p + f' → p ≤ s.size →
    ∃ A l c S D, cxs s f p n = A ++ [⟨ByteArray.empty, -1, l, c, s.size⟩] ∧ cxs (s ++ (⟨#[10]⟩ ++ m)) f' p n = A ++ ⟨S, 10, l, c, s.size⟩ :: D := by
  have hz : (s ++ (⟨#[10]⟩ ++ m)).size = s.size + (1 + m.size) := by simp only [ByteArray.size_append]; rfl
  intro f
  induction f with
  | zero =>
    intro f' p n h1 h2 h3
    have hp : p = s.size := by omega
    subst hp
    obtain ⟨g, hg, _⟩ := cxs_on (s ++ (⟨#[10]⟩ ++ m)) f' s.size n h2 (by omega)
    have hr : rn (s ++ (⟨#[10]⟩ ++ m)) s.size = 10 := (rn_ten _ _).2 (bt_mid s m)
    rw [hr] at hg
    exact ⟨[], n.1, n.2, _, _, rfl, hg⟩
  | succ f ih =>
    intro f' p n h1 h2 h3
    by_cases h : p < s.size
    · have w1 := wd_pos s p
      have w2 := wd_in s p h
      obtain ⟨g, hg, hgf⟩ := cxs_on (s ++ (⟨#[10]⟩ ++ m)) f' p n h2 (by omega)
      have hw : wd (s ++ (⟨#[10]⟩ ++ m)) p = wd s p := by unfold wd; rw [dec_cut s m p h]
      have hr : rn (s ++ (⟨#[10]⟩ ++ m)) p = rn s p := by unfold rn; rw [dec_cut s m p h]
      rw [hw, hr, ext_cut s _ _ _ w2] at hg
      rw [hw] at hgf
      obtain ⟨A, l, c, S, D, e1, e2⟩ := ih g (p + wd s p) (nxt n (rn s p)) (by omega) hgf w2
      refine ⟨⟨s.extract p (p + wd s p), rn s p, n.1, n.2, p⟩ :: A, l, c, S, D, ?_, ?_⟩
      · simp [cxs, h, e1]
      · rw [hg, e2]; rfl
    · have hp : p = s.size := by omega
      subst hp
      obtain ⟨g, hg, _⟩ := cxs_on (s ++ (⟨#[10]⟩ ++ m)) f' s.size n h2 (by omega)
      have hr : rn (s ++ (⟨#[10]⟩ ++ m)) s.size = 10 := (rn_ten _ _).2 (bt_mid s m)
      rw [hr] at hg
      exact ⟨[], n.1, n.2, _, _, cxs_end s _ _ n h, hg⟩
/-- two lists of characters: one is a text's, the other goes on with a line's end -/
structure Cut (C C' : List Cx) (N : Nat) : Prop where
  lt : ∀ i, i < N → g C' i = g C i
  l : (g C' N).l = (g C N).l
  c : (g C' N).c = (g C N).c
  a : (g C' N).a = (g C N).a
  r : (g C N).r = -1
  r' : (g C' N).r = 10
theorem cut_cx (s m : ByteArray) : Cut (cx s) (cx (s ++ (⟨#[10]⟩ ++ m))) ((cx s).length - 1) := by
  obtain ⟨A, l, c, S, D, e1, e2⟩ := cxs_cut s m s.size (s ++ (⟨#[10]⟩ ++ m)).size 0 (1, 1) (by omega) (by omega) (by omega)
  have e1 : cx s = A ++ [⟨ByteArray.empty, -1, l, c, s.size⟩] := e1
  have e2 : cx (s ++ (⟨#[10]⟩ ++ m)) = A ++ ⟨S, 10, l, c, s.size⟩ :: D := e2
  have hN : (cx s).length - 1 = A.length := by rw [e1]; simp
  rw [hN, e1, e2]
  refine ⟨fun i hi => ?_, ?_, ?_, ?_, ?_, ?_⟩
  · simp [g, List.getD_eq_getElem?_getD, List.getElem?_append_left hi]
  all_goals simp [g]
/-- a class that holds neither the end nor a line's end -/
theorem skp_cut {C C' : List Cx} {N : Nat} (h : Cut C C' N) (p : Int → Bool) (h1 : p (-1) = false) (h2 : p 10 = false) : ∀ f f' i, i ≤ N → N ≤ i + f → N ≤ i + f' → skp C' p f' i = skp C p f i := by
  intro f
  induction f with
  | zero =>
    intro f' i hi hf hf'
    obtain rfl : i = N := by omega
    rw [skp_no C' p f' i (by rw [h.r']; exact h2)]; rfl
  | succ f ih =>
    intro f' i hi hf hf'
    by_cases q : i = N
    · subst q
      rw [skp_no C' p f' i (by rw [h.r']; exact h2), skp_no C p _ i (by rw [h.r]; exact h1)]
    · cases f' with
      | zero => omega
      | succ f' =>
        unfold skp
        rw [h.lt i (by omega)]
        split
        · exact ih f' (i + 1) (by omega) (by omega) (by omega)
        · rfl
end L
end Go.Proofs.YtnlopepbcnegbaaGreatDoor
