import Derived.Test.YtbbopkhgmgdlfaaRfC
import Derived.Deep.MidRow
set_option linter.unusedVariables false
set_option linter.unusedSimpArgs false
namespace Go.Proofs.Ytbbopkhgmgdlfaa
open Go.RowKit
namespace F
open M
variable {w w' : World}
/-- two traces that are one -/
def Acs (w : World) (ro : Option Addr) (tr : List Ac) : Prop := tr = [] ∨ ∃ g, ro = some ⟨g, 0, none⟩ ∧ g < w.heap.size ∧ ∀ k z, tr[k]? = some z → ∀ r, r < 5 → w.cell? ⟨g, k * 5 + r, none⟩ = z.cells[r]?
theorem acs_row {B rc : Nat} {ro : Option Addr} {tr : List Ac} (h : w.ownsRow B 75 5 (.slice ro tr.length rc) tr.length (acs tr)) : Acs w ro tr := by
  by_cases h0 : 0 < tr.length
  · obtain ⟨g, h1, _, h2, _, h3⟩ := acs_cells h h0
    exact .inr ⟨g, h1, h2, h3⟩
  · exact .inl (List.eq_nil_of_length_eq_zero (by omega))
set_option maxRecDepth 100000 in
set_option maxHeartbeats 1000000 in
theorem entries_eq (tr : List Ac) (a1 a2 : Option Addr) (c1 c2 : Nat) (w : World) (h1 : Acs w a1 tr) (h2 : Acs w a2 tr) (hl : tr.length < 2000000000000) : Calls Try.prog 13 #[.slice a1 tr.length c1, .slice a2 tr.length c2] w fun e w' => e = .returned (.bool true) ∧ ∃ n, w' = w.drewN n := by
  have H1 := hide' h1
  have H2 := hide' h2
  have HL := hide' hl
  clear h1 h2 hl
  go_enter Try.func13, Try.ntmps13
  go_wp2_with fail
  go_loopw [5] (fun i wx => ∃ (k n : Nat), k ≤ tr.length ∧ i = .int .i64 (k : Int) ∧ wx = w.drewN n) (fun i _ => tr.length - (intOf i).toNat)
  case atStart => exact ⟨0, 0, by omega, rfl, rfl⟩
  case round =>
    obtain ⟨k, n, hk, rfl, rfl⟩ := hrel
    by_cases hlt : k < tr.length
    · rcases H1.out with hI | ⟨g, rfl, hg, hc⟩
      · rw [hI] at hlt; simp at hlt
      rcases H2.out with hI | ⟨g2, rfl, hg2, hc2⟩
      · rw [hI] at hlt; simp at hlt
      have hz := List.getElem?_eq_getElem hlt
      have hcs := hc k _ hz
      have hcs2 := hc2 k _ hz
      have Hwk := hide' (wrap_kk k (Nat.lt_trans hlt HL.out))
      generalize tr[k] = z at *
      obtain ⟨zk, za, zv, zo, zg⟩ := z
      have t0 : w.cell? ⟨g, k * 5, none⟩ = some (.int .i8 zk) := hcs 0 (by omega)
      have t1 : w.cell? ⟨g, k * 5 + 1, none⟩ = some (.int .i64 za) := hcs 1 (by omega)
      have t2 : w.cell? ⟨g, k * 5 + 2, none⟩ = some (.int .i64 zv) := hcs 2 (by omega)
      have t3 : w.cell? ⟨g, k * 5 + 3, none⟩ = some (.int .i64 zo) := hcs 3 (by omega)
      have t4 : w.cell? ⟨g, k * 5 + 4, none⟩ = some (.bool zg) := hcs 4 (by omega)
      have u0 : w.cell? ⟨g2, k * 5, none⟩ = some (.int .i8 zk) := hcs2 0 (by omega)
      have u1 : w.cell? ⟨g2, k * 5 + 1, none⟩ = some (.int .i64 za) := hcs2 1 (by omega)
      have u2 : w.cell? ⟨g2, k * 5 + 2, none⟩ = some (.int .i64 zv) := hcs2 2 (by omega)
      have u3 : w.cell? ⟨g2, k * 5 + 3, none⟩ = some (.int .i64 zo) := hcs2 3 (by omega)
      have u4 : w.cell? ⟨g2, k * 5 + 4, none⟩ = some (.bool zg) := hcs2 4 (by omega)
      have hseq := fun w => struct_ne zk za zv zo zg w
      have hgrd := grd
      clear hc hc2 hcs hcs2 hz
      go_wp2_with fail
      go_quiet (fail)
      go_wp2
      exact ⟨⟨k + 1, n + nq, by omega, by rw [Hwk.out]; go_num, rfl⟩, msr' hlt _ Hwk.out⟩
    · obtain rfl : k = tr.length := by omega
      go_wp2
      go_ret
      exact ⟨rfl, n, rfl⟩
end F
end Go.Proofs.Ytbbopkhgmgdlfaa
