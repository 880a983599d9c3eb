import Derived.Test.YtifbppjmdjdjbaaAlike
import Derived.WalkSmall
set_option linter.unusedVariables false
set_option linter.unusedSimpArgs false
namespace Go.Proofs.Ytifbppjmdjdjbaa
open Go.RowKit
theorem info31 : (Try.prog.info? 31).map (fun i => (i.zero, i.size, i.bytes)) = some (some (.agg #[.pointer none, .pointer none]), 2, 16) := by kernel_rfl
theorem Rs.mono {B B' x : Nat} {ao : Option Addr} {cap R : Nat} {p : Nat → Bool} {w : World} (h : Rs B x ao cap R p w) (hB : B' ≤ B) : Rs B' x ao cap R p w := by
  refine ⟨Nat.le_trans hB h.hB, h.hx, ⟨h.row.1, ?_⟩, h.out, h.le⟩
  rcases h.row.2 with a | ⟨g, cap', cur, hv, hb, rest⟩
  · exact .inl a
  · exact .inr ⟨g, cap', cur, hv, Nat.le_trans hB hb, rest⟩
/-- so many pairs, all alike, apart from one another -/
structure Ps (C n : Nat) (X G R Y : Nat → Nat) (AO : Nat → Option Addr) (CP : Nat → Nat) (P : Nat → Nat → Bool) (w : World) : Prop where
  pr : ∀ j, j < n → Pr (X j) (G j) (R j) C (Y j) (AO j) (CP j) (P j) w
  lo : ∀ j, j < n → C ≤ G j
  ng : ∀ i j, i < n → j < n → i ≠ j → G i ≠ G j
  nr : ∀ i j, i < n → j < n → i ≠ j → ∀ b, Rrow (AO i) b → ¬ Rrow (AO j) b
def upd {α : Type} (f : Nat → α) (n : Nat) (v : α) : Nat → α := fun j => if j = n then v else f j
theorem upd_at {α : Type} (f : Nat → α) (n : Nat) (v : α) : upd f n v n = v := by simp [upd]
theorem upd_ne {α : Type} (f : Nat → α) (n j : Nat) (v : α) (h : j ≠ n) : upd f n v j = f j := by simp [upd, h]
section
variable {C n : Nat} {X G R Y : Nat → Nat} {AO : Nat → Option Addr} {CP : Nat → Nat} {P : Nat → Nat → Bool} {w w' : World}
theorem Ps.below (h : Ps C n X G R Y AO CP P w) (b : Below w.heap.size w w') : Ps C n X G R Y AO CP P w' := ⟨fun j hj => (h.pr j hj).below b, h.lo, h.ng, h.nr⟩
theorem Ps.drewN (h : Ps C n X G R Y AO CP P w) (m : Nat) : Ps C n X G R Y AO CP P (w.drewN m) := ⟨fun j hj => (h.pr j hj).drewN m, h.lo, h.ng, h.nr⟩
/-- one more -/
theorem Ps.more (h : Ps C n X G R Y AO CP P w) {x g r y cap : Nat} {ao : Option Addr} {p : Nat → Bool} (hp : Pr x g r C y ao cap p w) (hg : C ≤ g) (h1 : ∀ j, j < n → G j ≠ g) (h2 : ∀ j, j < n → ∀ b, Rrow (AO j) b → ¬ Rrow ao b) :
    Ps C (n + 1) (upd X n x) (upd G n g) (upd R n r) (upd Y n y) (upd AO n ao) (upd CP n cap) (upd P n p) w := by
  refine ⟨fun j hj => ?_, fun j hj => ?_, fun i j hi hj hij => ?_, fun i j hi hj hij => ?_⟩
  · by_cases e : j = n
    · subst e; simp only [upd_at]; exact hp
    · simp only [upd_ne _ _ _ _ e]; exact h.pr j (by omega)
  · by_cases e : j = n
    · subst e; simp only [upd_at]; exact hg
    · simp only [upd_ne _ _ _ _ e]; exact h.lo j (by omega)
  · by_cases e : i = n
    · subst e
      have e2 : j ≠ i := fun q => hij q.symm
      simp only [upd_at, upd_ne _ _ _ _ e2]
      exact fun q => h1 j (by omega) q.symm
    · by_cases e2 : j = n
      · subst e2; simp only [upd_at, upd_ne _ _ _ _ e]; exact h1 i (by omega)
      · simp only [upd_ne _ _ _ _ e, upd_ne _ _ _ _ e2]; exact h.ng i j (by omega) (by omega) hij
  · by_cases e : i = n
    · subst e
      have e2 : j ≠ i := fun q => hij q.symm
      simp only [upd_at, upd_ne _ _ _ _ e2]
      exact fun b hb q => h2 j (by omega) b q hb
    · by_cases e2 : j = n
      · subst e2; simp only [upd_at, upd_ne _ _ _ _ e]; exact h2 i (by omega)
      · simp only [upd_ne _ _ _ _ e, upd_ne _ _ _ _ e2]; exact h.nr i j (by omega) (by omega) hij
/-- a pair's call leaves the others -/
theorem Ps.turn (h : Ps C n X G R Y AO CP P w) {i : Nat} (hi : i < n) {p : Nat → Bool} (hp : Pr (X i) (G i) (R i) C (Y i) (AO i) (CP i) p w') (t : Turn (Two (G i) (AO i)) w w') : Ps C n X G R Y AO CP (upd P i p) w' := by
  refine ⟨fun j hj => ?_, h.lo, h.ng, h.nr⟩
  by_cases e : j = i
  · subst e; rw [upd_at]; exact hp
  · rw [upd_ne _ _ _ _ e]
    have hi' := h.pr i hi
    have hj' := h.pr j hj
    have a := hj'.b.rs_ne hi'.r
    have c := hi'.b.rs_ne hj'.r
    refine hj'.kept t ?_ ?_ ?_ ?_
    · rintro (q | q)
      · exact (hi'.b.ne2 hj'.b) q
      · exact a.2.2 q
    · rintro (q | q)
      · exact h.ng j i hj hi e q
      · exact a.2.1 q
    · rintro (q | q)
      · exact c.1 q.symm
      · exact hi'.r.ne2 hj'.r q
    · rintro b hb (q | q)
      · exact c.2.1 (q ▸ hb)
      · exact h.nr j i hj hi e b hb q
theorem Ps.two_lo (h : Ps C n X G R Y AO CP P w) {i : Nat} (hi : i < n) : ∀ k, Two (G i) (AO i) k → C ≤ k := by
  rintro k (q | q)
  · rw [q]; exact h.lo i hi
  · exact ((h.pr i hi).r.apart k q).2.1
end
/-- the row of pairs -/
def prs (X Y : Nat → Nat) (n : Nat) : List Value := (List.range n).flatMap fun j => [.pointer (some ⟨X j, 0, none⟩), .pointer (some ⟨Y j, 0, none⟩)]
theorem prs_succ (X Y : Nat → Nat) (n : Nat) : prs X Y (n + 1) = prs X Y n ++ [.pointer (some ⟨X n, 0, none⟩), .pointer (some ⟨Y n, 0, none⟩)] := by simp [prs, List.range_succ, List.flatMap_append]
theorem prs_len (X Y : Nat → Nat) : ∀ n, (prs X Y n).length = n * 2 := by
  intro n
  induction n with
  | zero => rfl
  | succ n ih => rw [prs_succ, List.length_append, ih]; simp; omega
theorem prs_congr (X Y X' Y' : Nat → Nat) : ∀ n, (∀ j, j < n → X j = X' j ∧ Y j = Y' j) → prs X Y n = prs X' Y' n := by
  intro n
  induction n with
  | zero => intro _; rfl
  | succ n ih =>
    intro h
    rw [prs_succ, prs_succ, ih (fun j hj => h j (by omega)), (h n (by omega)).1, (h n (by omega)).2]
theorem prs_at (X Y : Nat → Nat) : ∀ n j, j < n → (prs X Y n)[j * 2]? = some (.pointer (some ⟨X j, 0, none⟩)) ∧ (prs X Y n)[j * 2 + 1]? = some (.pointer (some ⟨Y j, 0, none⟩)) := by
  intro n
  induction n with
  | zero => intro j hj; omega
  | succ n ih =>
    intro j hj
    rw [prs_succ]
    have hl := prs_len X Y n
    by_cases e : j = n
    · subst e
      rw [List.getElem?_append_right (by omega), List.getElem?_append_right (by omega), hl]
      simp
    · rw [List.getElem?_append_left (by omega), List.getElem?_append_left (by omega)]
      exact ih j (by omega)
/-- the pairs' own slice -/
structure Row (C : Nat) (ro : Option Addr) (rc n : Nat) (X Y : Nat → Nat) (w : World) : Prop where
  row : w.ownsRow C 31 2 (.slice ro n rc) n (prs X Y n)
theorem Row.at' {C : Nat} {ro : Option Addr} {rc n : Nat} {X Y : Nat → Nat} {w : World} (h : Row C ro rc n X Y w) (hn : 0 < n) : ∃ g, ro = some ⟨g, 0, none⟩ ∧ C ≤ g ∧ g < w.heap.size ∧ (∀ j, j < n → w.cell? ⟨g, j * 2, none⟩ = some (.pointer (some ⟨X j, 0, none⟩)) ∧ w.cell? ⟨g, j * 2 + 1, none⟩ = some (.pointer (some ⟨Y j, 0, none⟩))) ∧ ∃ cur, w.heap[g]? = some (.cells cur 31 (0, 0)) := by
  have hr := h.row
  rcases hr.2 with ⟨hv, h0⟩ | ⟨g, cap', cur, hv, hb, hg, h1, h2, h3, h4⟩
  · omega
  · simp only [Value.slice.injEq] at hv
    obtain ⟨rfl, _, rfl⟩ := hv
    have cell : ∀ k v, (prs X Y n)[k]? = some v → w.cell? ⟨g, k, none⟩ = some v := fun k v hk => by
      rw [Lib.cell_of_heap hg]
      have hkl : k < n * 2 := by
        rcases Nat.lt_or_ge k (prs X Y n).length with q | q
        · rw [prs_len] at q; exact q
        · rw [List.getElem?_eq_none q] at hk; cases hk
      rw [← h4, List.getElem?_take_of_lt hkl, Array.getElem?_toList] at hk
      exact hk
    exact ⟨g, rfl, hb, (Array.getElem?_eq_some_iff.1 hg).1, fun j hj => ⟨cell _ _ (prs_at X Y n j hj).1, cell _ _ (prs_at X Y n j hj).2⟩, cur, hg⟩
end Go.Proofs.Ytifbppjmdjdjbaa
