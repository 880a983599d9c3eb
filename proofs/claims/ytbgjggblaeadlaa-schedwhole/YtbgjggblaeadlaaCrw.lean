import Derived.Test.YtbgjggblaeadlaaOnP
set_option linter.unusedVariables false
set_option linter.unusedSimpArgs false
namespace Go.Proofs.Ytbgjggblaeadlaa
open Go.RowKit
namespace O
open C
/-- a board of counters -/
structure Cw (w : World) (b T : Nat) (cs : Nat → Nat) (nn : Nat → Int) (ts : Nat → List Int) (now : Nat) (Db : Nat → Prop) (D : Nat → Nat → Prop) (X : World) : Prop where
  bel : Below w.heap.size w X
  bo : Bo Db w.heap.size b (Ls T cs nn ts) now X
  ct : ∀ i, i < T → Ct (D i) w.heap.size (cs i) (nn i) (ts i) X
  dis : ∀ i j, i < T → j < T → i ≠ j → ∀ x, D i x → ¬ D j x
/-- the blocks of it -/
def Sb (T : Nat) (Db : Nat → Prop) (D : Nat → Nat → Prop) (j : Nat) : Prop := Db j ∨ ∃ i, i < T ∧ D i j
variable {w X X' : World} {b T now : Nat} {cs : Nat → Nat} {nn : Nat → Int} {ts ts' : Nat → List Int} {Db : Nat → Prop} {D : Nat → Nat → Prop}
theorem Cw.kind (h : Cw w b T cs nn ts now Db D X) {j : Nat} (hj : Sb T Db D j) : ∃ c t r, X.heap[j]? = some (.cells c t r) ∧ (t = 72 ∨ t = 3 ∨ t = 75 ∨ t = 91) := by
  rcases hj with q | ⟨i, hi, q⟩
  · obtain ⟨c, t, r, h1, h2⟩ := h.bo.kind q
    exact ⟨c, t, r, h1, h2.elim (fun e => .inr (.inr (.inl e))) (fun e => .inr (.inr (.inr e)))⟩
  · obtain ⟨c, t, r, h1, h2⟩ := (h.ct i hi).kind q
    exact ⟨c, t, r, h1, h2.elim .inl (fun e => .inr (.inl e))⟩
theorem Cw.lo (h : Cw w b T cs nn ts now Db D X) {j : Nat} (hj : Sb T Db D j) : w.heap.size ≤ j ∧ j < X.heap.size := by
  rcases hj with q | ⟨i, hi, q⟩
  · exact h.bo.lo q
  · exact (h.ct i hi).lo q
/-- rows of another kind stay -/
theorem Cw.row (h : Cw w b T cs nn ts now Db D X) {B e size n rc : Nat} {ro : Option Addr} {xs : List Value} (r : X.ownsRow B e size (.slice ro n rc) n xs) (he : e ≠ 72 ∧ e ≠ 3 ∧ e ≠ 75 ∧ e ≠ 91) {S : Nat → Prop} (t : Turn S X X') (hS : ∀ j, j < X.heap.size → S j → Sb T Db D j) : X'.ownsRow B e size (.slice ro n rc) n xs := by
  refine t.row r (fun g hg q => ?_)
  rcases r.2 with ⟨hv, _⟩ | ⟨g', cap', cur, hv, hb, hg', _⟩
  · simp only [Value.slice.injEq] at hv
    obtain ⟨rfl, _, _⟩ := hv
    cases hg
  · simp only [Value.slice.injEq] at hv
    obtain ⟨rfl, _, _⟩ := hv
    have e1 : g' = g := by simpa [Value.ownBlock] using hg
    subst e1
    obtain ⟨c, t', r', h1, h2⟩ := h.kind (hS _ (lt_of_heap hg') q)
    rw [hg'] at h1
    cases h1
    obtain ⟨a1, a2, a3, a4⟩ := he
    rcases h2 with h2 | h2 | h2 | h2
    · exact a1 h2
    · exact a2 h2
    · exact a3 h2
    · exact a4 h2
theorem Cw.below (h : Cw w b T cs nn ts now Db D X) (t : Below X.heap.size X X') : Cw w b T cs nn ts now Db D X' :=
  ⟨h.bel.trans (t.mono h.bel.size), h.bo.kept (turn_below (S := fun _ => False) t) (fun _ _ q => q), fun i hi => (h.ct i hi).kept (turn_below (S := fun _ => False) t) (fun _ _ q => q), h.dis⟩
/-- another block is turned -/
theorem Cw.other (h : Cw w b T cs nn ts now Db D X) {S : Nat → Prop} (t : Turn S X X') (hn : ∀ j, Sb T Db D j → ¬ S j) (hl : ∀ j, S j → w.heap.size ≤ j) : Cw w b T cs nn ts now Db D X' :=
  ⟨h.bel.trans (t.below hl h.bel.size), h.bo.kept t (fun j q => hn j (.inl q)), fun i hi => (h.ct i hi).kept t (fun j q => hn j (.inr ⟨i, hi, q⟩)), h.dis⟩
theorem Cw.start (w0 : World) (hb : Below w.heap.size w w0) (cs : Nat → Nat) (nn : Nat → Int) (ts : Nat → List Int) (D : Nat → Nat → Prop) (hB : Bo Db w.heap.size b [] 0 X) (h : Below w0.heap.size w0 X) : Cw w b 0 cs nn ts 0 Db D X :=
  ⟨hb.trans (h.mono hb.size), hB, fun i hi => by omega, fun i j hi => by omega⟩
/-- a counter more -/
theorem Cw.join {X1 X2 : World} (h : Cw w b T cs nn ts now Db D X) (hts : ts T = []) (hnT : 1 ≤ nn T) (hc : Ct (fun j => j = X.heap.size) w.heap.size X.heap.size (nn T) [] X1) (b1 : Below X.heap.size X X1) (hj : BTo Db w.heap.size b (Ls T cs nn ts ++ [(ptr X.heap.size, -1)]) now X1 X2) :
    ∃ Db', Cw w b (T + 1) (fun j => if j = T then X.heap.size else cs j) nn ts now Db' (fun j => if j = T then (fun x => x = X.heap.size) else D j) X2 ∧ Turn (fun j => Db j) X1 X2 := by
  obtain ⟨Db', hbo, t2, hd⟩ := hj
  have h1 := h.below b1
  have he : ed (nn T) (ts T) = -1 := by rw [hts]; exact ed_no (by show ((0 : Nat) : Int) < _; omega)
  rw [Ls_more T cs (fun j => if j = T then X.heap.size else cs j) nn ts (fun j hj => if_neg (by omega)) X.heap.size (if_pos rfl) he] at hbo
  refine ⟨Db', ⟨h1.bel.trans (t2.below (fun j q => (h1.bo.lo q).1) h1.bel.size), hbo, fun i hi => ?_, fun i j hi hj hne x hx hy => ?_⟩, t2⟩
  · by_cases q : i = T
    · subst q
      rw [if_pos rfl, if_pos rfl, hts]
      exact hc.kept t2 (fun j q => by rw [q]; intro q'; have := (h.bo.lo q').2; omega)
    · rw [if_neg q, if_neg q]
      exact (h1.ct i (by omega)).kept t2 (fun j q q' => bo_ct h1.bo (h1.ct i (by omega)) j q' q)
  · by_cases q : i = T
    · subst q
      rw [if_pos rfl] at hx
      rw [if_neg (fun e => hne e.symm)] at hy
      have := ((h.ct j (by omega)).lo hy).2
      omega
    · rw [if_neg q] at hx
      by_cases q2 : j = T
      · subst q2
        rw [if_pos rfl] at hy
        have := ((h.ct i (by omega)).lo hx).2
        omega
      · rw [if_neg q2] at hy
        exact h.dis i j (by omega) (by omega) hne x hx hy
/-- a pick, whatever is picked -/
theorem Cw.pick (h : Cw w b T cs nn ts now Db D X) (v : Int) (hnn : ∀ i, i < T → 1 ≤ nn i) (hlen : ∀ i, i < T → ((ts i).length : Int) ≤ nn i ∧ (ts i).length ≤ now ∧ (((ts i).length : Int) = nn i → ed (nn i) (ts i) ≠ -1)) (hnow : now < 17592186043904)
    (hts : ∀ j, j < T → ts' j = if v = (j : Int) ∧ ((ts j).length : Int) < nn j then ts j ++ [(now : Int)] else ts j) (r : Bool) (hr : r = true ↔ ∃ i : Nat, i < T ∧ v = (i : Int) ∧ ((ts i).length : Int) < nn i) :
    Calls Try.prog 34 #[.pointer (some ⟨b, 0, none⟩), .int .i64 v] X fun e X' => e = .returned (.bool r) ∧ ∃ D', Cw w b T cs nn ts' (now + 1) Db D' X' ∧ Turn (Sb T Db D) X X' := by
  by_cases hex : ∃ i : Nat, i < T ∧ v = (i : Int) ∧ ((ts i).length : Int) < nn i
  · have hrt : r = true := hr.2 hex
    subst hrt
    obtain ⟨i, hi, rfl, hl⟩ := hex
    have hent := Ls_at cs nn ts hi
    rw [ed_no hl] at hent
    refine (pick_step i h.bo (h.ct i hi) hent h.bel.size (by have := (hlen i hi).2.1; omega) (by omega)).mono ?_
    rintro e X' ⟨rfl, h1, t1, Dc', h2, hd⟩
    have hti : ts' i = ts i ++ [(now : Int)] := by rw [hts i hi, if_pos ⟨rfl, hl⟩]
    have htj : ∀ j, j < T → j ≠ i → ts' j = ts j := fun j hj hne => by rw [hts j hj, if_neg (fun q => hne (by have := q.1; omega))]
    have hst : stp (nn i) (ts i) now = ts i ++ [(now : Int)] := if_pos hl
    rw [hst] at h1 h2
    have hL : (if lst (nn i) (ts i ++ [(now : Int)]) then (Ls T cs nn ts).set i (ptr (cs i), (now : Int)) else Ls T cs nn ts) = Ls T cs nn ts' := by
      unfold lst
      by_cases q : (((ts i ++ [(now : Int)]).length : Nat) : Int) = nn i
      · rw [decide_eq_true q, if_pos rfl]
        have e1 : (now : Int) = ed (nn i) (ts' i) := by rw [hti]; exact (ed_app (by simpa using q)).symm
        rw [e1]
        exact Ls_set cs nn hi (fun j hj hne => by rw [htj j hj hne])
      · rw [decide_eq_false q, if_neg (by decide)]
        refine (Ls_same cs nn (fun j hj => ?_)).symm
        by_cases q2 : j = i
        · subst q2
          rw [hti, ed_no hl]
          exact ed_no (by simp at q ⊢; omega)
        · rw [htj j hj q2]
    rw [hL] at h1
    have tS : Turn (Sb T Db D) X X' := t1.mono (fun j _ q => q.elim .inl (fun q => .inr ⟨i, hi, q⟩))
    refine ⟨rfl, fun j => if j = i then Dc' else D j, ⟨h.bel.trans (tS.below (fun j q => (h.lo q).1) h.bel.size), h1, fun j hj => ?_, fun j k hj hk hne x hx hy => ?_⟩, tS⟩
    · by_cases q : j = i
      · subst q
        rw [if_pos rfl, hti]
        exact h2
      · rw [if_neg q, htj j hj q]
        refine (h.ct j hj).kept t1 (fun x hx q' => ?_)
        rcases q' with q' | q'
        · exact bo_ct h.bo (h.ct j hj) x q' hx
        · exact h.dis j i hj hi q x hx q'
    · by_cases q : j = i
      · subst q
        rw [if_pos rfl] at hx
        rw [if_neg (fun e => hne e.symm)] at hy
        rcases hd x hx with q1 | q1
        · exact h.dis j k hj hk hne x q1 hy
        · have := ((h.ct k hk).lo hy).2; omega
      · rw [if_neg q] at hx
        by_cases q2 : k = i
        · subst q2
          rw [if_pos rfl] at hy
          rcases hd x hy with q1 | q1
          · exact h.dis j k hj hk hne x hx q1
          · have := ((h.ct j hj).lo hx).2; omega
        · rw [if_neg q2] at hy
          exact h.dis j k hj hk hne x hx hy
  · have hrf : r = false := by
      cases r with
      | false => rfl
      | true => exact absurd (hr.1 rfl) hex
    subst hrf
    have htj : ∀ j, j < T → ts' j = ts j := fun j hj => by rw [hts j hj, if_neg (fun q => hex ⟨j, hj, q⟩)]
    have hcond : en (Ls T cs nn ts) v ≠ -1 ∨ hs (Ls T cs nn ts) v = false := by
      by_cases hv : 0 ≤ v ∧ v < (T : Int)
      · obtain ⟨i, rfl⟩ : ∃ i : Nat, v = (i : Int) := ⟨v.toNat, by omega⟩
        have hi : i < T := by omega
        have hlt : ¬ ((ts i).length : Int) < nn i := fun q => hex ⟨i, hi, rfl, q⟩
        have heq : ((ts i).length : Int) = nn i := by have := (hlen i hi).1; omega
        refine .inl ?_
        unfold en hs
        rw [Ls_len, decide_eq_true hv, if_pos rfl, Int.toNat_natCast, Ls_at cs nn ts hi]
        exact (hlen i hi).2.2 heq
      · exact .inr (by unfold hs; rw [Ls_len]; exact decide_eq_false hv)
    refine (pick_none v h.bo hcond (by omega)).mono ?_
    rintro e X' ⟨rfl, h1, t1⟩
    have hL : Ls T cs nn ts' = Ls T cs nn ts := Ls_same cs nn (fun j hj => by rw [htj j hj])
    rw [← hL] at h1
    have tS : Turn (Sb T Db D) X X' := t1.mono (fun j _ q => .inl q)
    exact ⟨rfl, D, ⟨h.bel.trans (tS.below (fun j q => (h.lo q).1) h.bel.size), h1, fun j hj => by rw [htj j hj]; exact (h.ct j hj).kept t1 (fun x hx q => bo_ct h.bo (h.ct j hj) x q hx), h.dis⟩, tS⟩
end O
end Go.Proofs.Ytbgjggblaeadlaa
