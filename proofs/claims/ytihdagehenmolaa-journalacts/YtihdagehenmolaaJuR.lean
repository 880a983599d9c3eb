import Derived.Test.YtihdagehenmolaaJuP
set_option linter.unusedVariables false
set_option linter.unusedSimpArgs false
namespace Go.Proofs.Ytihdagehenmolaa
namespace J
/-- the number that stands at a place -/
def nm (l : List UInt8) (k : Nat) : Nat := num4 (l.getD k 0) (l.getD (k + 1) 0) (l.getD (k + 2) 0) (l.getD (k + 3) 0)
theorem nm_lt (l : List UInt8) (k : Nat) : nm l k < 4294967296 := num4_lt _ _ _ _
/-- the entry that a head tells -/
def ent (l : List UInt8) : En := ⟨(nm l 1 : Nat), (l.drop 13).take (nm l 5)⟩
theorem nm_four {n : Nat} (h : n < 4294967296) (a b : List UInt8) : nm (a ++ (four n ++ b)) a.length = n := by
  unfold nm four
  simp only [List.getD_eq_getElem?_getD, List.getElem?_append_right (Nat.le_refl _), List.getElem?_append_right (Nat.le_add_right _ _), Nat.sub_self, Nat.add_sub_cancel_left]
  exact num4_four h
theorem nm_rec1 {e : En} (h : e.ok) (x : List UInt8) : nm (rcd e ++ x) 1 = e.v.toNat := by
  have := nm_four (n := e.v.toNat) (by have := h.1; have := h.2.1; omega) [165] (four e.t.length ++ ((four (sm (hd e.v.toNat e.t.length)) ++ (e.t ++ four (sm e.t))) ++ x))
  unfold rcd
  unfold hd at this ⊢
  simpa [List.append_assoc] using this
theorem nm_rec5 {e : En} (h : e.ok) (x : List UInt8) : nm (rcd e ++ x) 5 = e.t.length := by
  have := nm_four (n := e.t.length) (by have := h.2.2; omega) (165 :: four e.v.toNat) ((four (sm (hd e.v.toNat e.t.length)) ++ (e.t ++ four (sm e.t))) ++ x)
  unfold rcd
  rw [show (165 :: four e.v.toNat).length = 5 from rfl] at this
  unfold hd at this ⊢
  simpa [List.append_assoc] using this
theorem drop_app {α : Type} (a b : List α) {n : Nat} (h : a.length = n) : (a ++ b).drop n = b := by rw [← h]; exact List.drop_left
theorem take_app {α : Type} (a b : List α) {n : Nat} (h : a.length = n) : (a ++ b).take n = a := by rw [← h]; exact List.take_left
theorem rec_drop (e : En) (x : List UInt8) : (rcd e ++ x).drop 13 = e.t ++ (four (sm e.t) ++ x) := by
  have : rcd e ++ x = (hd e.v.toNat e.t.length ++ four (sm (hd e.v.toNat e.t.length))) ++ (e.t ++ (four (sm e.t) ++ x)) := by unfold rcd; simp [List.append_assoc]
  rw [this]
  exact drop_app _ _ rfl
theorem ent_rec {e : En} (h : e.ok) (x : List UInt8) : ent (rcd e ++ x) = e := by
  unfold ent
  rw [nm_rec1 h, nm_rec5 h, rec_drop, take_app _ _ rfl]
  cases e
  simp only [En.mk.injEq, and_true]
  have := h.1
  simp only at this ⊢
  omega
/-- where the entry that the head tells has no record here, there is none -/
theorem bare_of {l : List UInt8} (h : ∀ x, (ent l).ok → l ≠ rcd (ent l) ++ x) : Bare l := by
  intro e he x q
  have := ent_rec he x
  rw [← q] at this
  exact h x (by rw [this]; exact he) (by rw [this]; exact q)
theorem bare_long {l : List UInt8} (h : l.length < 17 + nm l 5) : Bare l := by
  intro e he x q
  have e5 := nm_rec5 he x
  rw [← q] at e5
  have := congrArg List.length q
  rw [List.length_append, rec_len] at this
  omega
theorem bare_text {l : List UInt8} (h : 65536 < nm l 5) : Bare l := by
  intro e he x q
  have e5 := nm_rec5 he x
  rw [← q] at e5
  have := he.2.2
  omega
theorem Rds.more {l : List UInt8} {es : List En} (e : En) (he : e.ok) (h : Rds l es) : Rds (rcd e ++ l) (e :: es) := by
  obtain ⟨r, h1, h2⟩ := h.rest
  refine ⟨fun q hq => ?_, r, by rw [h1, recs_cons, List.append_assoc], h2⟩
  rcases List.mem_cons.1 hq with rfl | hq
  · exact he
  · exact h.ok q hq
/-- a beginning of a record that is not whole is none -/
theorem bare_cut {e : En} (he : e.ok) {m : Nat} (h : m < (rcd e).length) : Bare ((rcd e).take m) := by
  intro e' he' x q
  have e1 : rcd e ++ [] = rcd e' ++ (x ++ (rcd e).drop m) := by
    rw [← List.append_assoc, ← q, List.take_append_drop, List.append_nil]
  obtain ⟨rfl, e2⟩ := rec_free he he' e1
  have := congrArg List.length q
  rw [List.length_append, List.length_take] at this
  omega
theorem recs_len_add (a b : List En) : (recs (a ++ b)).length = (recs a).length + (recs b).length := by rw [recs_add, List.length_append]
/-- CUT OFF ANYWHERE: what is there whole is read -/
theorem read_cut {es : List En} (h : ∀ e ∈ es, e.ok) {k w : Nat} (hw : w ≤ es.length) (h1 : (recs (es.take w)).length ≤ k) (h2 : w < es.length → k < (recs (es.take (w + 1))).length) : Rds ((recs es).take k) (es.take w) := by
  refine ⟨fun e he => h e (List.mem_of_mem_take he), ?_⟩
  have e1 : recs es = recs (es.take w) ++ recs (es.drop w) := by rw [← recs_add, List.take_append_drop]
  refine ⟨(recs (es.drop w)).take (k - (recs (es.take w)).length), ?_, ?_⟩
  · conv => lhs; rw [e1]
    rw [List.take_append, List.take_of_length_le h1]
  · by_cases q : w < es.length
    · have e2 : es.drop w = es[w] :: es.drop (w + 1) := List.drop_eq_getElem_cons q
      have h3 := h2 q
      have e3 : es.take (w + 1) = es.take w ++ [es[w]] := by rw [List.take_add_one, List.getElem?_eq_getElem q]; rfl
      rw [e3, recs_len_add, recs_one] at h3
      rw [e2, recs_cons, List.take_append_of_le_length (by omega)]
      exact bare_cut (h _ (List.getElem_mem q)) (by omega)
    · have : es.drop w = [] := List.drop_eq_nil_of_le (by omega)
      rw [this]
      simp only [recs, List.flatMap_nil, List.take_nil]
      exact bare_nil
theorem len44 (a b : Nat) : (four a).length = (four b).length := by rw [four_len, four_len]
theorem set_split {l : List UInt8} {k : Nat} (h : k < l.length) (c : UInt8) : l = l.take k ++ l[k] :: l.drop (k + 1) ∧ l.set k c = l.take k ++ c :: l.drop (k + 1) := by
  refine ⟨?_, List.set_eq_take_append_cons_drop.trans (if_pos h)⟩
  rw [List.getElem_cons_drop, List.take_append_drop]
theorem set_sm {l : List UInt8} {k : Nat} (h : k < l.length) {c : UInt8} (hc : c ≠ l[k]) : sm (l.set k c) ≠ sm l := by
  obtain ⟨e1, e2⟩ := set_split h c
  rw [e2]
  conv => rhs; rw [e1]
  exact sm_ne _ _ hc
theorem set_ne {l : List UInt8} {k : Nat} (h : k < l.length) {c : UInt8} (hc : c ≠ l[k]) : l.set k c ≠ l := by
  intro e
  have := congrArg (fun x => x[k]?) e
  simp only [List.getElem?_set_self h, List.getElem?_eq_getElem h, Option.some.injEq] at this
  exact hc this
/-- A RECORD OF WHICH ONE BYTE WAS TURNED IS NONE -/
theorem bare_turned {b : En} (hb : b.ok) {k : Nat} (hk : k < (rcd b).length) {c : UInt8} (hc : c ≠ (rcd b)[k]) (more : List UInt8) : Bare ((rcd b).set k c ++ more) := by
  intro e he x q
  obtain ⟨H, hH⟩ : ∃ H, H = hd b.v.toNat b.t.length := ⟨_, rfl⟩
  have hHl : H.length = 9 := by rw [hH]; rfl
  have er : rcd b = H ++ (four (sm H) ++ (b.t ++ four (sm b.t))) := by rw [hH]; rfl
  have hkl := rec_len b
  have ee : rcd e ++ x = hd e.v.toNat e.t.length ++ (four (sm (hd e.v.toNat e.t.length)) ++ (e.t ++ (four (sm e.t) ++ x))) := by unfold rcd; simp [List.append_assoc]
  rw [ee] at q
  clear ee
  have hsz : ∀ n, (four n).length = 4 := four_len
  have heq : H = hd e.v.toNat e.t.length → b.t.length = e.t.length := by
    intro z
    rw [hH] at z
    unfold hd at z
    rw [List.cons.injEq] at z
    have := (cut_eq z.2 (len44 _ _)).2
    exact four_inj (by have := hb.2.2; omega) (by have := he.2.2; omega) this
  simp only [er] at hc q
  by_cases k1 : k < 9
  · have hg : (H ++ (four (sm H) ++ (b.t ++ four (sm b.t))))[k]'(by rw [← er]; exact hk) = H[k]'(by omega) := List.getElem_append_left (by omega)
    rw [hg] at hc
    rw [List.set_append_left _ _ (by omega), List.append_assoc] at q
    obtain ⟨q1, q2⟩ := cut_eq q (by rw [List.length_set, hHl, hd_len])
    rw [List.append_assoc] at q2
    have q3 := (cut_eq q2 (len44 _ _)).1
    rw [← q1] at q3
    exact set_sm (by omega) hc (four_inj (sm_lt _) (sm_lt _) q3).symm
  · rw [List.set_append_right _ _ (by omega), hHl, List.append_assoc] at q
    have hg : (H ++ (four (sm H) ++ (b.t ++ four (sm b.t))))[k]'(by rw [← er]; exact hk) = (four (sm H) ++ (b.t ++ four (sm b.t)))[k - 9]'(by simp [hsz]; omega) := by
      rw [List.getElem_append_right (by omega)]; simp [hHl]
    rw [hg] at hc
    obtain ⟨q1, q2⟩ := cut_eq q (by rw [hHl, hd_len])
    have hl := heq q1
    rw [← q1] at q2
    clear q hg
    by_cases k2 : k - 9 < 4
    · have hg : (four (sm H) ++ (b.t ++ four (sm b.t)))[k - 9]'(by simp [hsz]; omega) = (four (sm H))[k - 9]'k2 := List.getElem_append_left k2
      rw [hg] at hc
      rw [List.set_append_left _ _ k2, List.append_assoc] at q2
      exact set_ne k2 hc (cut_eq q2 (List.length_set.trans (len44 _ _))).1
    · rw [List.set_append_right _ _ (by rw [hsz]; omega), hsz, List.append_assoc] at q2
      have hg : (four (sm H) ++ (b.t ++ four (sm b.t)))[k - 9]'(by simp [hsz]; omega) = (b.t ++ four (sm b.t))[k - 9 - 4]'(by simp [hsz]; omega) := by
        rw [List.getElem_append_right (by rw [hsz]; omega)]; simp [hsz]
      rw [hg] at hc
      have q3 := (cut_eq q2 (len44 _ _)).2
      clear q2 hg
      by_cases k3 : k - 9 - 4 < b.t.length
      · have hg : (b.t ++ four (sm b.t))[k - 9 - 4]'(by simp [hsz]; omega) = b.t[k - 9 - 4] := List.getElem_append_left k3
        rw [hg] at hc
        rw [List.set_append_left _ _ k3, List.append_assoc] at q3
        obtain ⟨q4, q5⟩ := cut_eq q3 (by rw [List.length_set]; exact hl)
        have q6 := (cut_eq q5 (len44 _ _)).1
        rw [← q4] at q6
        exact set_sm k3 hc (four_inj (sm_lt _) (sm_lt _) q6).symm
      · rw [List.set_append_right _ _ (by omega), List.append_assoc] at q3
        have hg : (b.t ++ four (sm b.t))[k - 9 - 4]'(by simp [hsz]; omega) = (four (sm b.t))[k - 9 - 4 - b.t.length]'(by simp [hsz]; omega) := List.getElem_append_right (by omega)
        rw [hg] at hc
        obtain ⟨q4, q5⟩ := cut_eq q3 hl
        rw [← q4] at q5
        exact set_ne _ hc (cut_eq q5 (List.length_set.trans (len44 _ _))).1
end J
end Go.Proofs.Ytihdagehenmolaa
