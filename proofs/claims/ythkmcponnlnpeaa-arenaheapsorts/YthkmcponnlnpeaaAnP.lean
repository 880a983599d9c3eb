import Derived.Test.YthkmcponnlnpeaaJH
import Derived.Test.YthkmcponnlnpeaaMade
import Derived.Test.YthkmcponnlnpeaaLvy
import Derived.Test.YthkmcponnlnpeaaChd
set_option linter.unusedVariables false
set_option linter.unusedSimpArgs false
namespace Go.Proofs.Ythkmcponnlnpeaa
open Go.RowKit Go.Sort
namespace An
set_option maxRecDepth 100000 in
set_option maxHeartbeats 1000000 in
/-- the place, counted round, of a longer list -/
theorem at_any (k n : Int) (w : World) (hn : 0 < n) (hn2 : n ≤ 1048576) : Calls Try.prog 15 #[.int .i64 k, .int .i64 n] w fun e w' => e = .returned (.int .i64 (k % n)) ∧ w' = w := by
  by_cases h : k < 0
  · obtain ⟨t1, t2, t3, t4⟩ := M.tmod_neg h hn
    by_cases hz : k.tmod n < 0
    · rw [t3 hz]
      clear t3 t4 h
      go_enter Try.func15, Try.ntmps15
      go_wp2
      go_ret
      exact ⟨rfl, rfl⟩
    · have e := t4 (by omega)
      have e2 : k.tmod n = 0 := by omega
      rw [e]
      clear t3 t4 h e
      go_enter Try.func15, Try.ntmps15
      go_wp2
      go_ret
      exact ⟨rfl, rfl⟩
  · have h3 := Int.emod_nonneg k (b := n) (by omega)
    go_enter Try.func15, Try.ntmps15
    go_wp2
    go_ret
    exact ⟨rfl, rfl⟩
/-- a slice of bools -/
def Bls (w : World) (a : Option Addr) (bs : List Bool) : Prop := bs = [] ∨ ∃ b off, a = some ⟨b, off, none⟩ ∧ b < w.heap.size ∧ ∀ j, j < bs.length → w.cell? ⟨b, off + j, none⟩ = some (.bool (bs.getD j false))
def tlt (tbl : List Bool) (x y : Int) : Bool := if tbl.length = 0 then true else tbl.getD (wrap64 (wrap64 (x * 7) + y) % (tbl.length : Int)).toNat false
/-- the table, in its box -/
def KT (tb : Nat) (ta : Option Addr) (tcap : Nat) (tbl : List Bool) (w : World) : Prop := w.cell? ⟨tb, 0, none⟩ = some (.slice ta tbl.length tcap) ∧ Bls w ta tbl
def AT (tb : Nat) (ta : Option Addr) (tbl : List Bool) (j : Nat) : Prop := j = tb ∨ (tbl ≠ [] ∧ M.At ta j)
set_option maxRecDepth 100000 in
set_option maxHeartbeats 2000000 in
theorem lt52 {tb : Nat} {ta : Option Addr} {tcap : Nat} {tbl : List Bool} (hl : tbl.length ≤ 1048576) (x y : Int) (w : World) (hK : KT tb ta tcap tbl w) : Calls Try.prog 52 #[.int .i64 x, .int .i64 y, .pointer (some ⟨tb, 0, none⟩)] w fun e w' => e = .returned (.bool (tlt tbl x y)) ∧ Below w.heap.size w w' := by
  obtain ⟨hc, hB⟩ := hK
  unfold tlt
  by_cases h0 : tbl.length = 0
  · rw [if_pos h0]
    rw [h0] at hc
    clear hB
    go_enter Try.func52, Try.ntmps52
    go_wp2
    go_ret
    exact ⟨rfl, Below.refl _ _⟩
  · rw [if_neg h0]
    have HP := hide' (fun w => at_any (wrap64 (wrap64 (x * 7) + y)) (tbl.length : Int) w (by omega) (by omega))
    obtain ⟨q1, q2⟩ : 0 ≤ wrap64 (wrap64 (x * 7) + y) % (tbl.length : Int) ∧ wrap64 (wrap64 (x * 7) + y) % (tbl.length : Int) < (tbl.length : Int) := ⟨Int.emod_nonneg _ (by omega), Int.emod_lt_of_pos _ (by omega)⟩
    generalize wrap64 (wrap64 (x * 7) + y) % (tbl.length : Int) = ix at *
    obtain ⟨i, rfl⟩ : ∃ i : Nat, ix = (i : Int) := ⟨ix.toNat, by omega⟩
    rcases hB with q | ⟨b, off, hta, hb, hcell⟩
    · rw [q] at h0; simp at h0
    have ci := hcell i (by omega)
    have hix : (i : Int) < (tbl.length : Int) := q2
    rw [Int.toNat_natCast]
    generalize tbl.getD i false = u at *
    obtain rfl := hta
    have h0' : ¬ ((tbl.length : Int) = 0) := by omega
    clear hcell q1 q2 hb
    go_enter Try.func52, Try.ntmps52
    go_wp2_with fail
    go_quiet ((go_at_call 15; exact Calls.quiet_of_same (HP.out _)))
    go_wp2
    go_ret
    exact ⟨rfl, Ar.bel_drewN (Below.refl _ _) _⟩
theorem less52 {tb : Nat} {ta : Option Addr} {tcap : Nat} {tbl : List Bool} (hl : tbl.length ≤ 1048576) : HI.Less 52 #[.pointer (some ⟨tb, 0, none⟩)] (tlt tbl) (AT tb ta tbl) (KT tb ta tcap tbl) where
  enters := Try.call52
  call x y w hK := lt52 hl x y w hK
  stay S w w' hK t hA := by
    obtain ⟨h1, h2⟩ := hK
    have hlt : tb < w.heap.size := World.block_lt_of_cell? w _ h1
    refine ⟨(t.cell (p := ⟨tb, 0, none⟩) hlt (hA tb (.inl rfl))).trans h1, ?_⟩
    by_cases h0 : tbl = []
    · exact .inl h0
    · rcases h2 with q | ⟨b, off, hta, hb, hc⟩
      · exact .inl q
      · exact .inr ⟨b, off, hta, Nat.lt_of_lt_of_le hb t.size, fun j hj => (t.cell (p := ⟨b, off + j, none⟩) hb (hA b (.inr ⟨h0, _, hta, rfl⟩))).trans (hc j hj)⟩
  old w j hK hj := by
    obtain ⟨h1, h2⟩ := hK
    rcases hj with rfl | ⟨h0, a, ha, rfl⟩
    · exact World.block_lt_of_cell? w _ h1
    · rcases h2 with q | ⟨b, off, hta, hb, hc⟩
      · exact absurd q h0
      · rw [ha] at hta
        cases hta
        exact hb
end An
end Go.Proofs.Ythkmcponnlnpeaa
