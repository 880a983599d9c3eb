import Derived.Test.YtbbopkhgmgdlfaaRfP
set_option linter.unusedVariables false
set_option linter.unusedSimpArgs false
namespace Go.Proofs.Ytbbopkhgmgdlfaa
open Go.RowKit
namespace F
open M
variable {B x n : Nat} {lo eo : Option Addr} {lc ec : Nat} {lg : List Wr} {tr : List Ac} {bad : Nat} {w w' : World}
theorem msr_dn (p : Nat) : (intOf (.int .i64 ((p : Int) - 1)) + 1).toNat < (intOf (.int .i64 (p : Int)) + 1).toNat := by
  show ((p : Int) - 1 + 1).toNat < ((p : Int) + 1).toNat
  omega
theorem wrap_dn (p : Nat) (h : p < 2000000000000) : wrap64 ((p : Int) - 1) = (p : Int) - 1 := by unfold wrap64; omega
set_option maxRecDepth 100000 in
set_option maxHeartbeats 1000000 in
theorem word_any (a : Int) (h : Re B x n lo lc lg eo ec tr bad w) (hok : ∀ e ∈ lg, e.ok) (hl : lg.length < 2000000000000) :
    Calls Try.prog 19 #[.pointer (some ⟨x, 0, none⟩), .int .i64 a] w fun e w' => e = .returned (.int .i64 (wv lg a)) ∧ Below w.heap.size w w' := by
  have H := hide' h
  have c1 := h.c1
  have HOK := hide' hok
  have HL := hide' hl
  have Hwl := hide' (wrap_dn lg.length hl)
  have Hx := hide' h.ltx
  clear h hok hl
  go_enter Try.func19, Try.ntmps19
  go_wp2_with fail
  go_loopw [5] (fun i wx => ∃ j : Nat, j ≤ lg.length ∧ i = .int .i64 ((j : Int) - 1) ∧ wv (lg.take j) a = wv lg a ∧ Below w.heap.size w wx) (fun i _ => (intOf i + 1).toNat)
  case atStart => exact ⟨lg.length, Nat.le_refl _, by rw [Hwl.out], by rw [List.take_length], Below.refl _ _⟩
  case round =>
    obtain ⟨j, hj, rfl, hv, bk⟩ := hrel
    have Hv := hide' hv
    have Hbk := hide' bk
    clear hv
    cases j with
    | zero =>
      rw [show ((0 : Nat) : Int) - 1 = -1 from rfl]
      clear bk
      go_wp2
      go_ret
      exact ⟨ret_int Hv.out, Hbk.out⟩
    | succ p =>
      rw [show ((p + 1 : Nat) : Int) - 1 = (p : Int) by omega]
      have hp : p < lg.length := by omega
      obtain ⟨g, rfl, hg, hc⟩ := H.out.lcell (by omega)
      have hcs := fun r hr => (bk.cell (p := ⟨g, p * 3 + r, none⟩) hg).trans (hc p hp r hr)
      have c1' := (bk.cell (p := ⟨x, 1, none⟩) Hx.out).trans c1
      have hek := HOK.out _ (List.getElem_mem hp)
      have hst := wv_take lg p hp a
      generalize lg[p] = e at *
      obtain ⟨ea, en, ev⟩ := e
      have d0 : wr.cell? ⟨g, p * 3, none⟩ = some (.int .i64 ea) := hcs 0 (by omega)
      have d1 : wr.cell? ⟨g, p * 3 + 1, none⟩ = some (.int .i64 en) := hcs 1 (by omega)
      have d2 : wr.cell? ⟨g, p * 3 + 2, none⟩ = some (.int .i64 ev) := hcs 2 (by omega)
      obtain ⟨k1, k2, k3⟩ := hek
      simp only at k1 k2 k3
      have e5 : wrap64 (ea + en) = ea + en := wrap_in (by omega) (by omega)
      have e6 := wrap_dn p (by have := HL.out; omega)
      have HbA := hide' (fun o => Hbk.out.alloc Hbk.out.size o)
      have hst' := Hv.out.symm.trans hst
      have Hst := hide' hst'
      clear hcs hc bk hst hst' k3
      by_cases q1 : ea ≤ a
      · have dq1 : decide (ea ≤ a) = true := by simpa using q1
        by_cases q2 : a < ea + en
        · have dq2 : decide (a < ea + en) = true := by simpa using q2
          have Hcy := hide' (show (⟨ea, en, ev⟩ : Wr).cov a = true by simp [Wr.cov, q1, q2])
          go_wp2
          go_ret
          exact ⟨ret_int (by rw [Hst.out, if_pos Hcy.out]), HbA.out _⟩
        · have dq2 : decide (a < ea + en) = false := by simpa using q2
          have Hcy := hide' (show ¬ (⟨ea, en, ev⟩ : Wr).cov a = true by simp [Wr.cov, q1]; omega)
          go_wp2
          go_roundw
          case rel => exact ⟨p, by omega, by rw [e6], by have := Hst.out; rw [if_neg Hcy.out] at this; exact this.symm, HbA.out _⟩
          case measure => rw [e6]; exact msr_dn p
      · have dq1 : decide (ea ≤ a) = false := by simpa using q1
        have Hcy := hide' (show ¬ (⟨ea, en, ev⟩ : Wr).cov a = true by simp [Wr.cov]; omega)
        go_wp2
        go_roundw
        case rel => exact ⟨p, by omega, by rw [e6], by have := Hst.out; rw [if_neg Hcy.out] at this; exact this.symm, HbA.out _⟩
        case measure => rw [e6]; exact msr_dn p
end F
end Go.Proofs.Ytbbopkhgmgdlfaa
