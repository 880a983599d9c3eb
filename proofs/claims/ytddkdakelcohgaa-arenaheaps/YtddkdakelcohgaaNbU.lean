import Derived.Test.YtddkdakelcohgaaNbT
import Derived.Test.YtddkdakelcohgaaLvy
set_option linter.unusedVariables false
set_option linter.unusedSimpArgs false
namespace Go.Proofs.Ytddkdakelcohgaa
open Go.RowKit Go.Sort
namespace Nb
open Th Hp Dh
/-- where a pair lies, and what it holds -/
structure Rc where
  nb : Nat
  h : Nat
  ob : Nat
  o : Int
  zs : List (Int × Nat)
  n : Nat
  ds : List (Int × Int)
  L : List (Int × Nat × Int)
  Q : Nat → Prop
def Rc.v (r : Rc) : Value := .pointer (some ⟨r.nb, 0, none⟩)
/-- some pairs, apart, and the row of their pointers -/
structure Fa (B K N : Nat) (R : Nat → Rc) (ro : Option Addr) (rc : Nat) (w : World) : Prop where
  pn : ∀ i, i < N → PN B (R i).nb (R i).h (R i).ob (R i).o (R i).zs (R i).n (R i).ds (R i).Q w
  cp : ∀ i, i < N → Cp (rk (R i).o) (R i).zs (R i).n (R i).ds (R i).L
  hq : ∀ i, i < N → ∀ q ∈ (R i).L, q.1 = q.2.2
  bd : ∀ i, i < N → (R i).n ≤ K ∧ (R i).L.length ≤ K
  dj : ∀ i, i < N → ∀ j, j < N → i ≠ j → ∀ b, (R i).Q b → ¬ (R j).Q b
  row : w.ownsRow B 26 1 (.slice ro N rc) N ((List.range N).map fun i => (R i).v)
  rq : ∀ i, i < N → ∀ b, M.At ro b → ¬ (R i).Q b
  lo : B ≤ w.heap.size
variable {B K N : Nat} {R : Nat → Rc} {ro : Option Addr} {rc : Nat} {w w' : World}
theorem Fa.kept {S : Nat → Prop} (f : Fa B K N R ro rc w) (t : Turn S w w') (h1 : ∀ i, i < N → ∀ b, (R i).Q b → ¬ S b) (h2 : ∀ b, M.At ro b → ¬ S b) : Fa B K N R ro rc w' :=
  ⟨fun i hi => (f.pn i hi).kept t (h1 i hi), f.cp, f.hq, f.bd, f.dj, t.row f.row (fun j hj => h2 j (M.own_at hj)), f.rq, Nat.le_trans f.lo t.size⟩
theorem Fa.below (f : Fa B K N R ro rc w) (b : Below w.heap.size w w') : Fa B K N R ro rc w' := f.kept (turn_below (S := fun _ => False) b) (fun _ _ _ _ q => q) (fun _ _ q => q)
def upd (R : Nat → Rc) (p : Nat) (r : Rc) : Nat → Rc := fun i => if i = p then r else R i
/-- one pair is asked -/
theorem Fa.step (f : Fa B K N R ro rc w) {p m : Nat} (hp : p < N) (c : CT B (R p).nb (R p).h (R p).ob (R p).o (R p).n m (R p).Q w w') (hm : m ≤ K + 1) : ∃ R', Fa B (K + 1) N R' ro rc w' ∧ Below B w w' ∧ (R' p).L.length = m ∧ (∀ i, (R' i).nb = (R i).nb) ∧ ∀ i, i ≠ p → R' i = R i := by
  obtain ⟨zs', n', ds', L', ⟨P', k', t, hn⟩, c', hq', hn', hl'⟩ := c
  let r : Rc := ⟨(R p).nb, (R p).h, (R p).ob, (R p).o, zs', n', ds', L', P'⟩
  have e1 : upd R p r p = r := by simp [upd]
  have e2 : ∀ i, i ≠ p → upd R p r i = R i := fun i hi => by simp [upd, hi]
  have hnb : ∀ i, (upd R p r i).nb = (R i).nb := fun i => by
    by_cases e : i = p
    · subst e; rw [e1]
    · rw [e2 i e]
  have lt : ∀ i, i < N → ∀ b, (R i).Q b → b < w.heap.size := fun i hi b hb => ((f.pn i hi).lt hb).1
  have oth : ∀ i, i < N → i ≠ p → ∀ b, (R i).Q b → ¬ P' b := fun i hi e b hb q => by
    rcases hn b q with a | a
    · exact f.dj i hi p hp e b hb a
    · have := lt i hi b hb; omega
  have rlt : ∀ b, M.At ro b → b < w.heap.size := fun b hb => by
    obtain ⟨a, rfl, rfl⟩ := hb
    rcases f.row.2 with ⟨hv, _⟩ | ⟨g', cap', cur, hv, hb', hg', _⟩
    · cases hv
    · simp only [Value.slice.injEq, Option.some.injEq] at hv
      obtain ⟨rfl, _, _⟩ := hv
      exact lt_of_heap hg'
  refine ⟨upd R p r, ⟨fun i hi => ?_, fun i hi => ?_, fun i hi => ?_, fun i hi => ?_, fun i hi j hj e b => ?_, ?_, fun i hi b hb => ?_, Nat.le_trans f.lo t.size⟩, t.below (fun b q => ((f.pn p hp).lt q).2) f.lo, by rw [e1]; exact hl', hnb, e2⟩
  · by_cases e : i = p
    · subst e; rw [e1]; exact k'
    · rw [e2 i e]; exact (f.pn i hi).kept t (fun b q => f.dj i hi p hp e b q)
  · by_cases e : i = p
    · subst e; rw [e1]; exact c'
    · rw [e2 i e]; exact f.cp i hi
  · by_cases e : i = p
    · subst e; rw [e1]; exact hq'
    · rw [e2 i e]; exact f.hq i hi
  · by_cases e : i = p
    · subst e
      rw [e1]
      have := (f.bd i hi).1
      exact ⟨Nat.le_trans hn' (by omega), by show L'.length ≤ _; omega⟩
    · rw [e2 i e]; have := f.bd i hi; omega
  · by_cases e3 : i = p
    · have e4 : j ≠ p := fun q => e (e3.trans q.symm)
      rw [e3, e1, e2 j e4]
      exact fun q a => oth j hj e4 b a q
    · rw [e2 i e3]
      by_cases e4 : j = p
      · rw [e4, e1]; exact fun a q => oth i hi e3 b a q
      · rw [e2 j e4]; exact f.dj i hi j hj e b
  · have : (List.range N).map (fun i => (upd R p r i).v) = (List.range N).map (fun i => (R i).v) := List.map_congr_left (fun i _ => by unfold Rc.v; rw [hnb i])
    rw [this]
    exact t.row f.row (fun j hj => f.rq p hp j (M.own_at hj))
  · by_cases e : i = p
    · subst e
      rw [e1]
      intro q
      rcases hn b q with a | a
      · exact f.rq i hi b hb a
      · have := rlt b hb; omega
    · rw [e2 i e]; exact f.rq i hi b hb
/-- a pair's pointer -/
theorem Fa.ptr (f : Fa B K N R ro rc w) {p : Nat} (hp : p < N) : ∃ g, ro = some ⟨g, 0, none⟩ ∧ w.cell? ⟨g, p, none⟩ = some (.pointer (some ⟨(R p).nb, 0, none⟩)) := by
  rcases f.row.2 with ⟨_, h0⟩ | ⟨g, cap', cur, hv, hb', hg', _⟩
  · omega
  · simp only [Value.slice.injEq] at hv
    obtain ⟨rfl, _, _⟩ := hv
    refine ⟨g, rfl, ?_⟩
    rw [f.row.cellAt p (by omega)]
    simp [hp, Rc.v]
/-- what one call of any kind leaves -/
theorem Fa.one (f : Fa B K N R ro rc w) {p : Nat} (hp : p < N) (d hpv x : Int) (hK : K < 1099511627776) : Calls Try.prog 16 #[.pointer (some ⟨(R p).nb, 0, none⟩), .agg #[.int .i64 d, .int .i64 hpv, .int .i64 x]] w fun e w' => e = .returned (.bool true) ∧ ∃ R', Fa B (K + 1) N R' ro rc w' ∧ Below B w w' ∧ (d = 2 → (R' p).L.length = (R p).L.length - 1) ∧ (∀ i, (R' i).nb = (R i).nb) ∧ ∀ i, i ≠ p → R' i = R i := by
  have hb := f.bd p hp
  by_cases h1 : d = 1
  · subst h1
    exact (one_push (f.pn p hp) (f.cp p hp) (f.hq p hp) hpv x (by omega) (by omega)).mono (fun e w' ⟨a, c⟩ => ⟨a, by
      obtain ⟨R', r1, r2, r3, r4, r5⟩ := f.step hp c (by omega)
      exact ⟨R', r1, r2, fun q => by omega, r4, r5⟩⟩)
  by_cases h2 : d = 2
  · subst h2
    by_cases h0 : 0 < (R p).L.length
    · exact (one_pop (f.pn p hp) (f.cp p hp) (f.hq p hp) hpv x (by omega) h0).mono (fun e w' ⟨a, c⟩ => ⟨a, by
        obtain ⟨R', r1, r2, r3, r4, r5⟩ := f.step hp c (by omega)
        exact ⟨R', r1, r2, fun _ => r3, r4, r5⟩⟩)
    · exact (one_idle 2 (.inl ⟨rfl, by omega⟩) (f.pn p hp) (f.cp p hp) (f.hq p hp) hpv x (by omega)).mono (fun e w' ⟨a, c⟩ => ⟨a, by
        obtain ⟨R', r1, r2, r3, r4, r5⟩ := f.step hp c (by omega)
        exact ⟨R', r1, r2, fun _ => by omega, r4, r5⟩⟩)
  by_cases h3 : d = 3
  · subst h3
    exact (one_idle 3 (.inr rfl) (f.pn p hp) (f.cp p hp) (f.hq p hp) hpv x (by omega)).mono (fun e w' ⟨a, c⟩ => ⟨a, by
      obtain ⟨R', r1, r2, r3, r4, r5⟩ := f.step hp c (by omega)
      exact ⟨R', r1, r2, fun q => by omega, r4, r5⟩⟩)
  by_cases h4 : d = 4
  · subst h4
    exact (one_len (f.pn p hp) (f.cp p hp) (f.hq p hp) hpv x).mono (fun e w' ⟨a, c⟩ => ⟨a, by
      obtain ⟨R', r1, r2, r3, r4, r5⟩ := f.step hp c (by omega)
      exact ⟨R', r1, r2, fun q => by omega, r4, r5⟩⟩)
  exact (one_none (f.pn p hp) (f.cp p hp) (f.hq p hp) d hpv x h1 h2 h3 h4).mono (fun e w' ⟨a, c⟩ => ⟨a, by
    obtain ⟨R', r1, r2, r3, r4, r5⟩ := f.step hp c (by omega)
    exact ⟨R', r1, r2, fun q => absurd q h2, r4, r5⟩⟩)
end Nb
end Go.Proofs.Ytddkdakelcohgaa
