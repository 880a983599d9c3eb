import Derived.Test.YtgkigcdpbopgbaaGreatDoorFstP
set_option linter.unusedVariables false
set_option linter.unusedSimpArgs false
namespace Go.Proofs.YtgkigcdpbopgbaaGreatDoor
open Go.RowKit
namespace L
theorem blank_cut {C C' : List Cx} {N : Nat} (h : Cut C C' N) : ∀ f f' i, i ≤ N → N ≤ i + f → N ≤ i + f' → skp C isBlank f i < N → skp C' isBlank f' i = skp C isBlank f i := by
  have h1 : isBlank (-1) = false := by decide
  intro f
  induction f with
  | zero =>
    intro f' i hi hf hf' hl
    have : skp C isBlank 0 i = i := rfl
    omega
  | succ f ih =>
    intro f' i hi hf hf' hl
    by_cases q : i = N
    · subst q
      rw [skp_no C isBlank _ i (by rw [h.r]; exact h1)] at hl
      omega
    · cases f' with
      | zero => omega
      | succ f' =>
        unfold skp at hl ⊢
        rw [h.lt i (by omega)]
        split
        · rename_i hb
          rw [if_pos hb] at hl
          exact ih f' (i + 1) (by omega) (by omega) (by omega) hl
        · rfl
theorem gapL_cut {C C' : List Cx} {N N' : Nat} (h : Cut C C' N) (hN : N ≤ N') : ∀ f f' i, i ≤ N → N < i + f → N < i + f' → gapL C N f i < N → gapL C' N' f' i = gapL C N f i := by
  intro f
  induction f with
  | zero => intro f' i h1 h2 h3 h4; omega
  | succ f ih =>
    intro f' i h1 h2 h3 h4
    cases f' with
    | zero => omega
    | succ f' =>
      by_cases q : i = N
      · subst q
        rw [gapL_no C i _ i (by rw [h.r]; decide)] at h4
        omega
      · by_cases q2 : (g C i).r = 35
        · have q2' : (g C' i).r = 35 := by rw [h.lt i (by omega)]; exact q2
          rw [gapL_yes C' N' f' i q2', gapL_yes C N f i q2]
          rw [gapL_yes C N f i q2] at h4
          rw [skp_cut h inLine (by decide) (by decide) N N' i h1 (by omega) (by omega)]
          have k1 := skp_le C inLine N N i h1 (by rw [h.r]; decide)
          have k1' : i < skp C inLine N i := by
            cases N with
            | zero => omega
            | succ M =>
              rw [skp_yes C inLine M i (by rw [q2]; decide)]
              have := skp_le C inLine (M + 1) M (i + 1) (by omega) (by rw [h.r]; decide)
              omega
          generalize skp C inLine N i = a at *
          have k2 := skp_le C isBlank N N a k1.2 (by rw [h.r]; decide)
          have k3 : skp C isBlank N a < N := by
            rcases Nat.lt_or_ge (skp C isBlank N a) N with e | e
            · exact e
            · exfalso
              have e' : skp C isBlank N a = N := by omega
              rw [e', gapL_no C N _ N (by rw [h.r]; decide)] at h4
              omega
          rw [blank_cut h N N' a k1.2 (by omega) (by omega) k3]
          exact ih f' _ (by omega) (by omega) (by omega) h4
        · have q2' : ¬ (g C' i).r = 35 := by rw [h.lt i (by omega)]; exact q2
          rw [gapL_no C' N' _ i q2', gapL_no C N _ i q2]
end L
/-- a text, and it going on with a line's end -/
structure TC (T T' : Tx) : Prop where
  cut : L.Cut T.C T'.C T.N
  le : T.N + 1 ≤ T'.N
  ext : ∀ a b, b ≤ T.s.size → T'.s.extract a b = T.s.extract a b
theorem TC.ga {T T' : Tx} (h : TC T T') {i : Nat} (hi : i ≤ T.N) : (T'.g i).a = (T.g i).a ∧ (T'.g i).l = (T.g i).l ∧ (T'.g i).c = (T.g i).c := by
  by_cases q : i = T.N
  · rw [q]; exact ⟨h.cut.a, h.cut.l, h.cut.c⟩
  · unfold Tx.g; rw [h.cut.lt i (by omega)]; exact ⟨rfl, rfl, rfl⟩
theorem TC.glt {T T' : Tx} (h : TC T T') {i : Nat} (hi : i < T.N) : T'.g i = T.g i := h.cut.lt i hi
theorem ok_a {T : Tx} (ok : T.Ok) {i : Nat} (hi : i ≤ T.N) : (T.g i).a ≤ T.s.size := by
  by_cases q : i = T.N
  · rw [q]; exact Nat.le_of_eq ok.good.last.2.1
  · exact Nat.le_of_lt (ok.good.char i (by omega)).2.2.2
theorem TC.txt {T T' : Tx} (h : TC T T') (ok : T.Ok) {i j : Nat} (hi : i ≤ T.N) (hj : j ≤ T.N) : T'.txt i j = T.txt i j := by
  unfold Tx.txt
  rw [(h.ga hi).1, (h.ga hj).1, h.ext _ _ (ok_a ok hj)]
theorem TC.skp {T T' : Tx} (h : TC T T') (p : Int → Bool) (h1 : p (-1) = false) (h2 : p 10 = false) {i : Nat} (hi : i ≤ T.N) : T'.skp p i = T.skp p i ∧ T.skp p i ≤ T.N := by
  have := h.le
  exact ⟨L.skp_cut h.cut p h1 h2 T.N T'.N i hi (by omega) (by omega), (L.skp_le T.C p T.N T.N i hi (by rw [h.cut.r]; exact h1)).2⟩
theorem TC.gap {T T' : Tx} (h : TC T T') (ok : T.Ok) {i : Nat} (hi : i ≤ T.N) (hl : T.gap i < T.N) : T'.gap i = T.gap i := by
  have hle := h.le
  unfold Tx.gap at hl ⊢
  have k : T.skp L.isBlank i ≤ T.N := (L.skp_le T.C L.isBlank T.N T.N i hi (by rw [h.cut.r]; decide)).2
  have k2 : T.skp L.isBlank i < T.N := by
    have := (gapL_le ok (T.N + 1) _ k).1
    omega
  have e : T'.skp L.isBlank i = T.skp L.isBlank i := L.blank_cut h.cut T.N T'.N i hi (by omega) (by omega) k2
  rw [e]
  exact L.gapL_cut h.cut (by omega) (T.N + 1) (T'.N + 1) _ k (by omega) (by omega) hl
theorem TC.numd {T T' : Tx} (h : TC T T') {i : Nat} (hi : i ≤ T.N) : T'.numd i = T.numd i := by
  unfold Tx.numd
  by_cases q : i = T.N
  · have e1 : (T.g i).r ≠ 123 := by rw [q]; have : (T.g T.N).r = -1 := h.cut.r; rw [this]; decide
    have e2 : (T'.g i).r ≠ 123 := by rw [q]; have : (T'.g T.N).r = 10 := h.cut.r'; rw [this]; decide
    rw [if_pos e1, if_pos e2]
  · rw [h.glt (show i < T.N by omega)]
    obtain ⟨e, hle⟩ := h.skp L.isHex (by decide) (by decide) (show i + 1 ≤ T.N by omega)
    rw [e]
    have hrs : T'.rs (i + 1) (T.skp L.isHex (i + 1) - (i + 1)) = T.rs (i + 1) (T.skp L.isHex (i + 1) - (i + 1)) := by
      unfold Tx.rs
      apply List.map_congr_left
      intro k hk
      rw [List.mem_range] at hk
      rw [h.glt (by omega)]
    rw [hrs]
    by_cases q2 : T.skp L.isHex (i + 1) = T.N
    · have e1 : (T.g (T.skp L.isHex (i + 1))).r ≠ 125 := by rw [q2]; have : (T.g T.N).r = -1 := h.cut.r; rw [this]; decide
      have e2 : (T'.g (T.skp L.isHex (i + 1))).r ≠ 125 := by rw [q2]; have : (T'.g T.N).r = 10 := h.cut.r'; rw [this]; decide
      simp only [e1, e2, ne_eq, not_false_eq_true, or_true, if_true]
    · rw [h.glt (show T.skp L.isHex (i + 1) < T.N by omega)]
theorem TC.esc {T T' : Tx} (h : TC T T') (ok : T.Ok) {i : Nat} (hi : i < T.N) : T'.esc i = T.esc i ∧ T'.escTo i = T.escTo i := by
  have hle := h.le
  unfold Tx.esc Tx.escTo
  by_cases q : i + 1 = T.N
  · have e1 : (T.g (i + 1)).r = -1 := by rw [q]; exact h.cut.r
    have e2 : (T'.g (i + 1)).r = 10 := by rw [q]; exact h.cut.r'
    rw [e1, e2]
    constructor
    · simp
    · rw [if_neg (by simp), if_neg (by omega)]
  · rw [h.glt (show i + 1 < T.N by omega), h.txt ok (show i + 1 ≤ T.N by omega) (show i + 2 ≤ T.N by omega), h.numd (show i + 2 ≤ T.N by omega)]
    refine ⟨rfl, ?_⟩
    have a1 : i + 1 < T.N := by omega
    have a2 : i + 1 < T'.N := by omega
    simp [a1, a2]
end Go.Proofs.YtgkigcdpbopgbaaGreatDoor
