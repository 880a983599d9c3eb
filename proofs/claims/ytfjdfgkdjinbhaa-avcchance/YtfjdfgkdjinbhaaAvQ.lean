import Derived.Test.YtfjdfgkdjinbhaaAvJ
set_option linter.unusedVariables false
set_option linter.unusedSimpArgs false
namespace Go.Proofs.Ytfjdfgkdjinbhaa
open Go.RowKit
namespace C
def ti (j : Nat) : Tr := ⟨(j : Int), 0, 0⟩
theorem ti_inj {i j : Nat} (h : ti i = ti j) : i = j := by
  have : (ti i).s = (ti j).s := by rw [h]
  show i = j
  have : (i : Int) = (j : Int) := this
  omega
theorem spt1 (t : Tr) : spt 1 t = 0 := by have := spt_lt (n := 1) (by omega) t; omega
variable {v k j0 : Nat} {tag : Int} {bit : Nat → Bool} {s : St}
/-- behind k Puts -/
structure C1 (v k : Nat) (tag : Int) (s : St) : Prop where
  f : ∀ j, j < k → ∃ al, s.f 0 j = some ⟨ti j, tag, al, false⟩
  g : ∀ j, k ≤ j → j < v → s.f 0 j = none
  h : s.h 0 = 0
  ev : s.ev = 0
  hi : s.hi = 0
  mi : s.mi = 0
theorem c1_0 : C1 v 0 tag st0 := ⟨fun j h => by omega, fun _ _ _ => rfl, rfl, rfl, rfl, rfl⟩
theorem C1.put (h : C1 v k tag s) (hk : k < v) (al : Bool) : C1 v (k + 1) tag (pta 1 v s tag (ti k) al) := by
  have e0 := spt1 (ti k)
  have hno : fst (has (s.f (spt 1 (ti k))) (ti k)) v = none := fst_no (fun j hj => by
    rw [e0]
    by_cases q : j < k
    · obtain ⟨a, ha⟩ := h.f j q
      unfold has; rw [ha]; exact decide_eq_false (fun z => by have := ti_inj z; omega)
    · unfold has; rw [h.g j (by omega) hj])
  have hro : fst (fre (s.f (spt 1 (ti k)))) v = some k := fst_mk hk (by unfold fre; rw [e0, h.g k (Nat.le_refl _) hk]; rfl) (fun j hj => by
    obtain ⟨a, ha⟩ := h.f j hj
    unfold fre; rw [e0, ha]; rfl)
  rw [pta_room hno hro]
  refine ⟨fun j hj => ?_, fun j hj hv => ?_, h.h, h.ev, h.hi, h.mi⟩
  · simp only [fup2_at, e0]
    by_cases q : j = k
    · subst q; exact ⟨al, by simp⟩
    · obtain ⟨a, ha⟩ := h.f j (by omega)
      exact ⟨a, by rw [if_neg (by omega)]; exact ha⟩
  · simp only [fup2_at, e0]
    rw [if_neg (by omega)]; exact h.g j (by omega) hv
/-- behind k questions -/
structure C2 (v k : Nat) (tag : Int) (bit : Nat → Bool) (s : St) : Prop where
  f : ∀ j, j < v → ∃ al, s.f 0 j = some ⟨ti j, tag, al, decide (j < k) && bit j⟩
  h : s.h 0 = 0
  ev : s.ev = 0
  hi : s.hi ≤ k
  mi : s.mi = 0
theorem C1.all (h : C1 v v tag s) : C2 v 0 tag bit s := ⟨fun j hj => by obtain ⟨al, ha⟩ := h.f j hj; exact ⟨al, by rw [ha]; rfl⟩, h.h, h.ev, by rw [h.hi]; exact Nat.le_refl _, h.mi⟩
theorem C2.skip (h : C2 v k tag bit s) (hb : bit k = false) : C2 v (k + 1) tag bit s := ⟨fun j hj => by
    obtain ⟨al, ha⟩ := h.f j hj
    refine ⟨al, ?_⟩
    rw [ha]
    by_cases q : j = k
    · subst q; rw [hb, Bool.and_false, Bool.and_false]
    · rw [show decide (j < k) = decide (j < k + 1) from decide_eq_decide.2 (by omega)], h.h, h.ev, by have := h.hi; omega, h.mi⟩
theorem C2.get (h : C2 v k tag bit s) (hk : k < v) (hb : bit k = true) : (gta 1 v s tag (ti k)).2.1 = true ∧ C2 v (k + 1) tag bit (gta 1 v s tag (ti k)).2.2 := by
  have e0 := spt1 (ti k)
  obtain ⟨al, ha⟩ := h.f k hk
  have hf : fst (has (s.f (spt 1 (ti k))) (ti k)) v = some k := fst_mk hk (by rw [e0]; exact has_of ha rfl) (fun j hj => by
    rw [e0]
    obtain ⟨a, ha'⟩ := h.f j (by omega)
    unfold has; rw [ha']; exact decide_eq_false (fun z => by have := ti_inj z; omega))
  rw [gta_hit (tag := tag) hf (by rw [e0]; exact ha) rfl]
  refine ⟨rfl, fun j hj => ?_, h.h, h.ev, by show s.hi + 1 ≤ _; have := h.hi; omega, h.mi⟩
  simp only [fup2_at, e0]
  by_cases q : j = k
  · subst q
    exact ⟨al, by simp [mrk, hb]⟩
  · obtain ⟨a, ha'⟩ := h.f j hj
    refine ⟨a, ?_⟩
    rw [if_neg (by omega), ha', show decide (j < k) = decide (j < k + 1) from decide_eq_decide.2 (by omega)]
/-- the marks are taken away below r -/
def clr (f : Pf) (r : Nat) : Pf := fun j => if j < r then (f j).map umk else f j
theorem clr_unm (f : Pf) (r : Nat) : C.unm (clr f r) r = clr f (r + 1) := by
  funext j
  unfold C.unm clr
  by_cases q : j = r
  · subst q; rw [fup_self, if_neg (by omega), if_pos (by omega)]
  · rw [fup_ne _ _ q]
    by_cases q2 : j < r
    · rw [if_pos q2, if_pos (by omega)]
    · rw [if_neg q2, if_neg (by omega)]
theorem clr_0 (f : Pf) : clr f 0 = f := by funext j; unfold clr; rw [if_neg (by omega)]
theorem clr_mkd (f : Pf) (r : Nat) : mkd (clr f r) r = mkd f r := by unfold mkd clr; rw [if_neg (by omega)]
theorem trn_run (f : Pf) (hv : 1 ≤ v) : ∀ r, r < v → (∀ j, j < r → mkd f j = true) → trn v f 0 v = trn v (clr f r) r (v - r) := by
  intro r
  induction r with
  | zero => intro _ _; rw [clr_0]; rfl
  | succ r ih =>
    intro hr hm
    rw [ih (by omega) (fun j hj => hm j (by omega)), show v - r = (v - (r + 1)) + 1 by omega, trn_yes (by rw [clr_mkd]; exact hm r (by omega)), clr_unm]
    have : nx v r = r + 1 := by unfold nx; rw [if_neg (by omega)]
    rw [this]
/-- behind the Put of another: at j0 it stands -/
structure C3 (v j0 : Nat) (tag : Int) (k : Nat) (s : St) : Prop where
  f : ∀ j, j < v → j ≠ j0 → ∃ al mr, s.f 0 j = some ⟨ti j, tag, al, mr⟩
  g : ∃ al mr, s.f 0 j0 = some ⟨ti v, tag, al, mr⟩
  lt : j0 < v
  ev : s.ev = 1
  hi : s.hi + s.mi ≤ k
theorem C2.turn (h : C2 v v tag bit s) (hv : 1 ≤ v) (al : Bool) : ∃ j0, C3 v j0 tag v (pta 1 v s tag (ti v) al) ∧ (bit j0 = false ∨ ∀ j, j < v → bit j = true) := by
  have e0 := spt1 (ti v)
  have hno : fst (has (s.f (spt 1 (ti v))) (ti v)) v = none := fst_no (fun j hj => by
    rw [e0]
    obtain ⟨a, ha⟩ := h.f j hj
    unfold has; rw [ha]; exact decide_eq_false (fun z => by have := ti_inj z; omega))
  have hro : fst (fre (s.f (spt 1 (ti v)))) v = none := fst_no (fun j hj => by
    obtain ⟨a, ha⟩ := h.f j hj
    unfold fre; rw [e0, ha]; rfl)
  have hm : ∀ j, j < v → mkd (s.f 0) j = bit j := fun j hj => by
    obtain ⟨a, ha⟩ := h.f j hj
    unfold mkd; rw [ha]
    show (decide (j < v) && bit j) = bit j
    rw [decide_eq_true hj, Bool.true_and]
  have key : ∀ j0, j0 < v → (trn v (s.f 0) 0 v).2 = j0 → C3 v j0 tag v (pta 1 v s tag (ti v) al) := fun j0 hj0 ht => by
    rw [pta_turn hno hro, e0, h.h]
    refine ⟨fun j hj hne => ?_, ?_, hj0, by show s.ev + 1 = 1; rw [h.ev], by show s.hi + s.mi ≤ v; have := h.hi; have := h.mi; omega⟩
    · simp only [fup2_at, ht]
      rw [if_neg (fun q => hne q.2), fup_self]
      obtain ⟨a, ha⟩ := h.f j hj
      rcases trn_f v v (s.f 0) 0 j with q | q
      · exact ⟨a, _, by rw [q, ha]⟩
      · exact ⟨a, _, by rw [q, ha]; rfl⟩
    · simp only [fup2_at, ht]
      exact ⟨al, false, if_pos ⟨trivial, trivial⟩⟩
  cases hf : fst (fun j => !bit j) v with
  | some j0 =>
    obtain ⟨h1, h2, h3⟩ := fst_some hf
    have hb : bit j0 = false := by simpa using h2
    refine ⟨j0, key j0 h1 ?_, .inl hb⟩
    rw [trn_run (s.f 0) hv j0 h1 (fun j hj => by rw [hm j (by omega)]; have := h3 j hj; simpa using this), trn_no (by rw [clr_mkd, hm j0 h1]; exact hb)]
  | none =>
    have hall : ∀ j, j < v → bit j = true := fun j hj => by have := fst_none hf j hj; simpa using this
    refine ⟨0, key 0 (by omega) ?_, .inr hall⟩
    rw [trn_run (s.f 0) hv (v - 1) (by omega) (fun j hj => by rw [hm j (by omega)]; exact hall j (by omega)), show v - (v - 1) = 0 + 1 by omega, trn_yes (by rw [clr_mkd, hm (v - 1) (by omega)]; exact hall _ (by omega))]
    show nx v (v - 1) = 0
    unfold nx; rw [if_pos (by omega)]
theorem C3.mono {q : Nat} (h : C3 v j0 tag k s) (hq : k ≤ q) : C3 v j0 tag q s := ⟨h.f, h.g, h.lt, h.ev, Nat.le_trans h.hi hq⟩
theorem C3.hit {t : Tr} {j : Nat} (h : C3 v j0 tag k s) (hj : j < v) (ht : ∃ al mr, s.f 0 j = some ⟨t, tag, al, mr⟩) (hu : ∀ i d, i < v → i ≠ j → s.f 0 i = some d → d.t ≠ t) : (gta 1 v s tag t).2.1 = true ∧ C3 v j0 tag (k + 1) (gta 1 v s tag t).2.2 := by
  have e0 := spt1 t
  obtain ⟨al, mr, ha⟩ := ht
  have hf : fst (has (s.f (spt 1 t)) t) v = some j := fst_mk hj (by rw [e0]; exact has_of ha rfl) (fun i hi => by
    rw [e0]
    cases hd : s.f 0 i with
    | none => unfold has; rw [hd]
    | some d => unfold has; rw [hd]; exact decide_eq_false (hu i d (by omega) (by omega) hd))
  rw [gta_hit (tag := tag) hf (by rw [e0]; exact ha) rfl]
  refine ⟨rfl, fun i hi hne => ?_, ?_, h.lt, h.ev, by show s.hi + 1 + s.mi ≤ _; have := h.hi; omega⟩
  · simp only [fup2_at, e0]
    obtain ⟨a, m, hd⟩ := h.f i hi hne
    by_cases q : i = j
    · subst q
      rw [ha] at hd
      cases hd
      exact ⟨_, true, by rw [if_pos ⟨trivial, rfl⟩]; rfl⟩
    · exact ⟨a, m, by rw [if_neg (fun z => q z.2)]; exact hd⟩
  · simp only [fup2_at, e0]
    obtain ⟨a, m, hd⟩ := h.g
    by_cases q : j0 = j
    · subst q
      rw [ha] at hd
      cases hd
      exact ⟨_, true, by rw [if_pos ⟨trivial, rfl⟩]; rfl⟩
    · exact ⟨a, m, by rw [if_neg (fun z => q z.2)]; exact hd⟩
theorem C3.get (h : C3 v j0 tag k s) {i : Nat} (hi : i < v) : (gta 1 v s tag (ti i)).2.1 = decide (i ≠ j0) ∧ C3 v j0 tag (k + 1) (gta 1 v s tag (ti i)).2.2 := by
  by_cases q : i = j0
  · subst q
    have e0 := spt1 (ti i)
    have hf : fst (has (s.f (spt 1 (ti i))) (ti i)) v = none := fst_no (fun j hj => by
      rw [e0]
      by_cases z : j = i
      · subst z
        obtain ⟨a, m, hd⟩ := h.g
        unfold has; rw [hd]; exact decide_eq_false (fun y => by have := ti_inj y; omega)
      · obtain ⟨a, m, hd⟩ := h.f j hj z
        unfold has; rw [hd]; exact decide_eq_false (fun y => z (ti_inj y)))
    rw [gta_none hf]
    exact ⟨by simp, h.f, h.g, h.lt, h.ev, by show s.hi + (s.mi + 1) ≤ _; have := h.hi; omega⟩
  · have := h.hit hi (h.f i hi q) (fun j d hj hne hd => by
      by_cases z : j = j0
      · subst z
        obtain ⟨a, m, hg⟩ := h.g
        rw [hg] at hd; cases hd
        exact fun y => by have := ti_inj y; omega
      · obtain ⟨a, m, hg⟩ := h.f j hj z
        rw [hg] at hd; cases hd
        exact fun y => hne (ti_inj y))
    exact ⟨by rw [this.1]; simp [q], this.2⟩
theorem C3.getv (h : C3 v j0 tag k s) : (gta 1 v s tag (ti v)).2.1 = true ∧ C3 v j0 tag (k + 1) (gta 1 v s tag (ti v)).2.2 :=
  h.hit h.lt h.g (fun j d hj hne hd => by
    obtain ⟨a, m, hg⟩ := h.f j hj hne
    rw [hg] at hd; cases hd
    exact fun y => by have := ti_inj y; omega)
/-- how many bits are set below k -/
def cb (bit : Nat → Bool) : Nat → Nat
  | 0 => 0
  | k + 1 => cb bit k + (if bit k then 1 else 0)
theorem cb_le (k : Nat) : cb bit k ≤ k := by
  induction k with
  | zero => exact Nat.le_refl _
  | succ k ih => unfold cb; split <;> omega
theorem cb_all (h : ∀ j, j < k → bit j = true) : cb bit k = k := by
  induction k with
  | zero => rfl
  | succ k ih => unfold cb; rw [ih (fun j hj => h j (by omega)), if_pos (h k (by omega))]
end C
end Go.Proofs.Ytfjdfgkdjinbhaa
