import Derived.Test.YtjmkofdnlhfaiaaRaE
set_option linter.unusedVariables false
set_option linter.unusedSimpArgs false
namespace Go.Proofs.Ytjmkofdnlhfaiaa
open Go.RowKit
namespace C
variable {n v : Nat} {s : St} {L : List Dc} {B c g r hb : Nat} {b : Nat → Nat} {lo : Option Addr} {lc : Nat} {w w' : World}
theorem gta_sum (tag : Int) (t : Tr) : (gta n v s tag t).2.2.hi + (gta n v s tag t).2.2.mi + (gta n v s tag t).2.2.ev ≤ s.hi + s.mi + s.ev + 1 := by
  cases hf : fst (has (s.f (spt n t)) t) v with
  | none => rw [gta_none hf]; show s.hi + (s.mi + 1) + s.ev ≤ _; omega
  | some j =>
    obtain ⟨hj, hh, _⟩ := fst_some hf
    obtain ⟨d, hd, _⟩ := has_true hh
    by_cases e : d.tag = tag
    · rw [gta_hit hf hd e]; show s.hi + 1 + s.mi + s.ev ≤ _; omega
    · rw [gta_old hf hd e]; show s.hi + (s.mi + 1) + s.ev ≤ _; omega
theorem pta_sum (tag : Int) (t : Tr) (al : Bool) : (pta n v s tag t al).hi + (pta n v s tag t al).mi + (pta n v s tag t al).ev ≤ s.hi + s.mi + s.ev + 1 := by
  cases hf : fst (has (s.f (spt n t)) t) v with
  | some j =>
    obtain ⟨hj, hh, _⟩ := fst_some hf
    obtain ⟨d, hd, _⟩ := has_true hh
    rw [pta_same hf hd]; show s.hi + s.mi + s.ev ≤ _; omega
  | none =>
    cases hr : fst (fre (s.f (spt n t))) v with
    | some j => rw [pta_room hf hr]; show s.hi + s.mi + s.ev ≤ _; omega
    | none => rw [pta_turn hf hr]; show s.hi + s.mi + (s.ev + 1) ≤ _; omega
/-- act: the two answer alike, whatever is asked -/
theorem act_any (y : Act) (h : Pr B c g n v b r hb s lo w) (hl : s.hi + s.mi + s.ev < 9007199254740990) : Calls Try.prog 16 #[.agg #[.pointer (some ⟨c, 0, none⟩), .pointer (some ⟨r, 0, none⟩)], .agg #[.int .i64 y.d, .int .i64 y.tag, .int .i64 y.t.s, .int .i64 y.t.o, .int .i64 y.t.a, .bool y.al]] w fun e w' => e = .returned (.bool true) ∧ ∃ s', PT B c g n v b r hb s' lo w w' ∧ s'.hi + s'.mi + s'.ev ≤ s.hi + s.mi + s.ev + 1 := by
  by_cases d1 : y.d = 1
  · exact (act1 y d1 h (by omega) (by omega)).mono fun e w' ⟨he, hp⟩ => ⟨he, _, hp, gta_sum _ _⟩
  by_cases d2 : y.d = 2
  · exact (act2 y d2 h (by omega)).mono fun e w' ⟨he, hp⟩ => ⟨he, _, hp, pta_sum _ _ _⟩
  by_cases d3 : y.d = 3
  · exact (act3 y d3 h).mono fun e w' ⟨he, hp⟩ => ⟨he, _, hp, by omega⟩
  by_cases d4 : y.d = 4
  · exact (act4 y d4 h).mono fun e w' ⟨he, hp⟩ => ⟨he, _, hp, by omega⟩
  by_cases d5 : y.d = 5
  · exact (act5 y d5 h (by omega)).mono fun e w' ⟨he, hp⟩ => ⟨he, _, hp, by omega⟩
  · exact (act0 y ⟨d1, d2, d3, d4, d5⟩ h).mono fun e w' ⟨he, hp⟩ => ⟨he, _, hp, by omega⟩
/-- one made: nothing at all, or a pair -/
def Mk (B : Nat) (pc pr : Option Addr) (w w' : World) : Prop := (pc = none ∧ pr = none) ∨ ∃ c g n v b r hb, pc = some ⟨c, 0, none⟩ ∧ pr = some ⟨r, 0, none⟩ ∧ Pr B c g n v b r hb st0 none w'
theorem rf0 {W : World} (hn : 1 ≤ n ∧ n ≤ 256) (hv : 1 ≤ v ∧ v ≤ 8) (hB : B ≤ w.heap.size) (hw : W = (w.alloc (.cells (tab n (fun _ => .int .i64 0)) 3)).alloc (.cells #[.int .i64 (n : Nat), .int .i64 (v : Nat), .slice (some ⟨w.heap.size, 0, none⟩) n n, .slice none 0 0, .int .i64 0, .int .i64 0, .int .i64 0] 60)) : Rf B (w.heap.size + 1) w.heap.size n v st0 [] none 0 W ∧ Below w.heap.size w W := by
  subst hw
  refine ⟨⟨?_, ?_, ⟨rfl, .inl ⟨rfl, rfl⟩⟩, ⟨by omega, hB⟩, ⟨hn, hv⟩, fun i _ => by show 0 < v; omega, lr0⟩, ((Below.refl _ _).alloc (Nat.le_refl _) _).alloc (by simp) _⟩
  · have := heap_alloc_new (w.alloc (.cells (tab n (fun _ => .int .i64 0)) 3)) (.cells #[.int .i64 (n : Nat), .int .i64 (v : Nat), .slice (some ⟨w.heap.size, 0, none⟩) n n, .slice none 0 0, .int .i64 0, .int .i64 0, .int .i64 0] 60)
    rw [show (w.alloc (.cells (tab n (fun _ => .int .i64 0)) 3)).heap.size = w.heap.size + 1 by simp] at this
    exact this
  · exact (Below.heap_alloc _ _ _ (by simp)).trans (heap_alloc_new w _)
end C
end Go.Proofs.Ytjmkofdnlhfaiaa
