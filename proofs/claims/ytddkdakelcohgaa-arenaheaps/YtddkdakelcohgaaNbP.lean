import Derived.Test.YtddkdakelcohgaaDhX
import Derived.Test.YtddkdakelcohgaaHyI
set_option linter.unusedVariables false
set_option linter.unusedSimpArgs false
namespace Go.Proofs.Ytddkdakelcohgaa
open Go.RowKit Go.Sort
namespace Nb
open Th Hp Dh
/-- the rank of a number in an order -/
def rk (o x : Int) : Int := if o = 0 then x else if o = 1 then wrap64 (-1 - x) else if o = 2 then bits .and .i64 x 7 else 0
set_option maxRecDepth 100000 in
set_option maxHeartbeats 1000000 in
theorem rank_any (o x : Int) (w : World) : Calls Try.prog 14 #[.int .i64 o, .int .i64 x] w fun e w' => e = .returned (.int .i64 (rk o x)) ∧ w' = w := by
  unfold rk
  by_cases h0 : o = 0
  · subst h0
    rw [if_pos rfl]
    go_enter Try.func14, Try.ntmps14
    go_wp2
    go_ret
    exact ⟨rfl, rfl⟩
  · have e0 : (o == 0) = false := by simpa using h0
    rw [if_neg h0]
    by_cases h1 : o = 1
    · subst h1
      rw [if_pos rfl]
      go_enter Try.func14, Try.ntmps14
      go_wp2
      go_ret
      exact ⟨rfl, rfl⟩
    · have e1 : (o == 1) = false := by simpa using h1
      rw [if_neg h1]
      by_cases h2 : o = 2
      · subst h2
        rw [if_pos rfl]
        go_enter Try.func14, Try.ntmps14
        go_wp2
        go_ret
        exact ⟨rfl, rfl⟩
      · have e2 : (o == 2) = false := by simpa using h2
        rw [if_neg h2]
        go_enter Try.func14, Try.ntmps14
        go_wp2
        go_ret
        exact ⟨rfl, rfl⟩
def KO (ob : Nat) (o : Int) (w : World) : Prop := w.cell? ⟨ob, 0, none⟩ = some (.int .i64 o)
set_option maxRecDepth 100000 in
set_option maxHeartbeats 1000000 in
theorem lt13 {ob : Nat} {o : Int} (x y : Int) (w : World) (hK : KO ob o w) : Calls Try.prog 13 #[.int .i64 x, .int .i64 y, .pointer (some ⟨ob, 0, none⟩)] w fun e w' => e = .returned (.bool (rlt (rk o) x y)) ∧ Below w.heap.size w w' := by
  unfold KO at hK
  unfold rlt
  go_enter Try.func13, Try.ntmps13
  go_wp2_with fail
  go_quiet ((go_at_call 14; exact Calls.quiet_of_same (rank_any _ _ _)))
  go_wp2
  go_ret
  exact ⟨rfl, bel_drewN (Below.refl _ _) _⟩
theorem less13 {ob : Nat} {o : Int} : HI.Less 13 #[.pointer (some ⟨ob, 0, none⟩)] (rlt (rk o)) (fun j => j = ob) (KO ob o) where
  enters := Try.call13
  call x y w hK := lt13 x y w hK
  stay S w w' hK t hA := by
    have hlt : ob < w.heap.size := World.block_lt_of_cell? w _ hK
    exact (t.cell (p := ⟨ob, 0, none⟩) hlt (hA ob rfl)).trans hK
  old w j hK hj := by
    subst hj
    exact World.block_lt_of_cell? w _ hK
/-- a heap of numbers and the document's, in a struct: nb its block, h the heap's, ob the order's box -/
structure Pn (B nb h ob : Nat) (o : Int) (zs : List (Int × Nat)) (n : Nat) (ds : List (Int × Int)) (D : Nat → Prop) (ao : Option Addr) (cap : Nat) (w : World) : Prop where
  H : HI.Ho D B h (.func (.func 13) #[] #[.pointer (some ⟨ob, 0, none⟩)]) zs n w
  E : Dm B nb 2 ao cap ds w
  c0 : w.cell? ⟨nb, 0, none⟩ = some (.int .i64 o)
  c1 : w.cell? ⟨nb, 1, none⟩ = some (.pointer (some ⟨h, 0, none⟩))
  K : KO ob o w
  de : ∀ j, D j → ¬ Own nb ao j
  od : ¬ D ob ∧ ¬ Own nb ao ob
  lo : B ≤ w.heap.size ∧ B ≤ nb ∧ B ≤ ob
def PN (B nb h ob : Nat) (o : Int) (zs : List (Int × Nat)) (n : Nat) (ds : List (Int × Int)) (P : Nat → Prop) (w : World) : Prop := ∃ D ao cap, Pn B nb h ob o zs n ds D ao cap w ∧ ∀ j, P j ↔ (j = ob ∨ D j ∨ Own nb ao j)
end Nb
end Go.Proofs.Ytddkdakelcohgaa
