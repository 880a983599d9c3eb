import Derived.Test.YtgkigcdpbopgbaaGreatDoorFstQ
set_option linter.unusedVariables false
set_option linter.unusedSimpArgs false
namespace Go.Proofs.YtgkigcdpbopgbaaGreatDoor
open Go.RowKit
theorem TC.qloop {T T' : Tx} (h : TC T T') (ok : T.Ok) {o : Nat} (ho : o < T.N) : ∀ f f' i acc, f ≤ f' → i ≤ T.N → (∀ l c w, T.qloop o f i acc ≠ .flt 0 l c w) → T'.qloop o f' i acc = T.qloop o f i acc := by
  intro f
  induction f with
  | zero => intro f' i acc h1 h2 h3; exact absurd rfl (h3 0 0 ByteArray.empty)
  | succ f ih =>
    intro f' i acc h1 h2 h3
    cases f' with
    | zero => omega
    | succ f' =>
      unfold Tx.qloop at h3 ⊢
      rw [h.glt ho]
      by_cases q : i = T.N
      · have e1 : (T.g i).r = -1 := by rw [q]; exact h.cut.r
        have e2 : (T'.g i).r = 10 := by rw [q]; exact h.cut.r'
        rw [if_pos (Or.inl e2), if_pos (Or.inr e1)]
      · have hi : i < T.N := by omega
        rw [h.glt hi]
        split
        · rfl
        · rename_i n1
          rw [if_neg n1] at h3
          split
          · rfl
          · rename_i n2
            rw [if_neg n2] at h3
            split
            · rename_i n3
              rw [if_pos n3] at h3
              obtain ⟨e1, e2⟩ := h.esc ok hi
              rw [e1, e2]
              cases he : T.esc i with
              | none =>
                simp only [Option.elim]
                rw [h.txt ok h2 (T.escTo_le i hi).2]
              | some tj =>
                obtain ⟨t, j⟩ := tj
                rw [he] at h3
                exact ih f' j (acc ++ t) (by omega) (esc_le ok hi he) h3
            · rename_i n3
              rw [if_neg n3] at h3
              rw [h.txt ok h2 (show i + 1 ≤ T.N by omega)]
              exact ih f' (i + 1) _ (by omega) (by omega) h3
theorem TC.tokAt {T T' : Tx} (h : TC T T') (ok : T.Ok) {j : Nat} (hj : j < T.N) (hn : ∀ l c w, T.tokAt j ≠ .flt 0 l c w) : T'.tokAt j = T.tokAt j := by
  have hle := h.le
  obtain ⟨w1, w2⟩ := h.skp L.inWord (by decide) (by decide) (show j ≤ T.N by omega)
  obtain ⟨r1, r2⟩ := h.skp L.inRun (by decide) (by decide) (show j ≤ T.N by omega)
  unfold Tx.tokAt at hn ⊢
  rw [h.glt hj]
  split
  · rfl
  rename_i n0
  rw [if_neg n0] at hn
  split
  · unfold Tx.wordR
    rw [w1, h.glt hj, h.txt ok (show j ≤ T.N by omega) w2]
  rename_i n1
  rw [if_neg n1] at hn
  split
  · unfold Tx.numberR
    rw [r1, h.glt hj, h.txt ok (show j ≤ T.N by omega) r2]
  rename_i n2
  rw [if_neg n2] at hn
  rw [h.txt ok (show j ≤ T.N by omega) (show j + 1 ≤ T.N by omega)]
  split
  · rfl
  rename_i n3
  rw [if_neg n3] at hn
  split
  · rename_i n4
    rw [if_pos n4] at hn
    exact h.qloop ok hj (T.N + 1) (T'.N + 1) (j + 1) _ (by omega) (by omega) hn
  · rfl
theorem TC.run {T T' : Tx} (h : TC T T') (ok : T.Ok) {k l c : Int} {word : ByteArray} (hk : k ≠ 0) : ∀ f f' i, f ≤ f' → i ≤ T.N → (T.run f i).2 = some (k, l, c, word) → (T'.run f' i).2 = some (k, l, c, word) := by
  intro f
  induction f with
  | zero => intro f' i h1 h2 h3; simp [Tx.run] at h3
  | succ f ih =>
    intro f' i h1 h2 h3
    cases f' with
    | zero => omega
    | succ f' =>
      have hg := gap_le ok i h2
      by_cases q : T.gap i = T.N
      · have e : T.tokR i = .tok 5 ByteArray.empty (T.g T.N).l (T.g T.N).c T.N := by
          unfold Tx.tokR Tx.tokAt
          rw [q, if_pos (show (T.g T.N).r = -1 from h.cut.r)]
        rw [run_end e] at h3
        cases h3
      · have hgl : T.gap i < T.N := by omega
        have eg := h.gap ok h2 hgl
        have ht : (∀ l c w, T.tokAt (T.gap i) ≠ .flt 0 l c w) → T'.tokR i = T.tokR i := fun hn => by
          unfold Tx.tokR
          rw [eg, h.tokAt ok hgl hn]
        cases hr : T.tokR i with
        | tok k' t' l' c' j' =>
          have hn : ∀ l c w, T.tokAt (T.gap i) ≠ .flt 0 l c w := fun l c w e => by
            have : T.tokR i = .flt 0 l c w := e
            rw [hr] at this; cases this
          have e := ht hn
          rw [hr] at e
          by_cases k5 : k' = 5
          · subst k5
            rw [run_end hr] at h3
            cases h3
          · rw [run_tok hr k5] at h3
            rw [run_tok e k5]
            exact ih f' j' (by omega) (tok_le ok h2 hr) h3
        | flt code l' c' word' =>
          rw [run_flt hr] at h3
          have h3' : (code, l', c', word') = (k, l, c, word) := Option.some.inj h3
          have hc : code = k := congrArg Prod.fst h3'
          have hn : ∀ l c w, T.tokAt (T.gap i) ≠ .flt 0 l c w := fun l c w e => by
            have : T.tokR i = .flt 0 l c w := e
            rw [hr] at this
            injection this with q1
            exact hk (hc ▸ q1)
          have e := ht hn
          rw [hr] at e
          rw [run_flt e]
          exact h3
/-- A FAULT STAYS, whatever stands behind a line's end -/
theorem scn_cut (s m : ByteArray) (hs : s.size ≤ 65536) {k l c : Int} {word : ByteArray} (hk : k ≠ 0) (h : (L.scn s).2 = some (k, l, c, word)) : (L.scn (s ++ ⟨#[10]⟩ ++ m)).2 = some (k, l, c, word) := by
  rw [ByteArray.append_assoc]
  have hc := L.cut_cx s m
  obtain ⟨N, G⟩ := L.good_cx s
  obtain ⟨N', G'⟩ := L.good_cx (s ++ (⟨#[10]⟩ ++ m))
  have e1 : (L.cx s).length = N + 1 := G.len
  have e2 : (L.cx (s ++ (⟨#[10]⟩ ++ m))).length = N' + 1 := G'.len
  unfold L.scn at h ⊢
  rw [e1] at h hc
  rw [e2]
  simp only [Nat.add_sub_cancel] at h hc ⊢
  rw [run_any s (L.cx s) N none none 0 0 0 N 0 0] at h
  have hlt : N < N' := by
    rcases Nat.lt_or_ge N N' with q | q
    · exact q
    · exfalso
      have r' := hc.r'
      by_cases q2 : N = N'
      · have := G'.last.1
        rw [← q2] at this
        rw [this] at r'
        cases r'
      · have z : L.g (L.cx (s ++ (⟨#[10]⟩ ++ m))) N = L.zc := by
          unfold L.g
          rw [List.getD_eq_getElem?_getD, List.getElem?_eq_none (by omega)]; rfl
        rw [z] at r'
        cases r'
  have ok : Tx.Ok ⟨s, L.cx s, N, none, N, 0, 0⟩ := ⟨G, hs, Nat.le_refl _⟩
  have t : TC ⟨s, L.cx s, N, none, N, 0, 0⟩ ⟨s ++ (⟨#[10]⟩ ++ m), L.cx (s ++ (⟨#[10]⟩ ++ m)), N', none, 0, 0, 0⟩ := ⟨hc, hlt, fun a b hb => L.ext_cut s _ a b hb⟩
  exact t.run ok hk (N + 1 + 1) (N' + 1 + 1) 0 (by omega) (Nat.zero_le _) h
end Go.Proofs.YtgkigcdpbopgbaaGreatDoor
