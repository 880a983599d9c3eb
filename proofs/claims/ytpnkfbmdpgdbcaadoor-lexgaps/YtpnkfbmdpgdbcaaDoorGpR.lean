import Derived.Test.YtpnkfbmdpgdbcaaDoorGpB
import Derived.Test.YtpnkfbmdpgdbcaaDoorVld
import Derived.OwnWalk
set_option linter.unusedVariables false
set_option linter.unusedSimpArgs false
namespace Go.Proofs.YtpnkfbmdpgdbcaaDoor
open Go.RowKit
namespace L
def sgS : ByteArray := ⟨#[44, 58, 59, 42]⟩
/-- a piece: its text, its kind, what it stands for -/
def wrL (k : Int) (nm : ByteArray) (n : Int) : ByteArray × Int × ByteArray :=
  if pik k 4 = 0 ∧ N.valid nm = true then (⟨(qtL nm).toArray⟩, 2, nm)
  else if pik k 4 = 1 then (⟨(deL n).toArray⟩, 3, ⟨(deL n).toArray⟩)
  else if pik k 4 = 2 then (sgS.extract (pik n 4).toNat ((pik n 4).toNat + 1), 4, sgS.extract (pik n 4).toNat ((pik n 4).toNat + 1))
  else (⟨(baL nm n).toArray⟩, 1, ⟨(baL nm n).toArray⟩)
end L
set_option maxHeartbeats 400000 in
set_option maxRecDepth 100000 in
/-- a piece that is no sign (a sign: its region of two slices is left) -/
theorem written_most (k : Int) (nm : ByteArray) (n g : Int) (nt : ByteArray) (hk : -9223372036854775808 ≤ k ∧ k ≤ 9223372036854775807) (hn : -9223372036854775808 ≤ n ∧ n ≤ 9223372036854775807) (hs : nm.size ≤ 140737488355328) (h2 : pik k 4 ≠ 2) (w : World) :
    Calls Tryd.prog 9 #[.agg #[.int .i64 k, .string nm, .int .i64 n, .int .i64 g, .string nt]] w fun e w' => e = .returned (.tuple #[.string (L.wrL k nm n).1, .int .i8 (L.wrL k nm n).2.1, .string (L.wrL k nm n).2.2]) ∧ Below w.heap.size w w' := by
  have HP := hide' (fun W => pick_any k 4 W hk (by omega))
  have HPN := hide' (fun W => pick_any n 4 W hn (by omega))
  have HBN := hide' (pik_bd n 4 (by omega))
  have HQ := hide' (fun W => quotes_any nm hs W)
  have HD := hide' (fun W => decimal_any n hn W)
  have HB := hide' (fun W => bare_any nm n hn hs W)
  have hp := pik_bd k 4 (by omega)
  unfold L.wrL
  obtain ⟨p, ep⟩ : ∃ p, pik k 4 = p := ⟨_, rfl⟩
  obtain ⟨c, ec⟩ : ∃ c : Nat, pik n 4 = (c : Int) := ⟨(pik n 4).toNat, by have := HBN.out; omega⟩
  rw [ep] at HP hp h2 ⊢
  rw [ec] at HPN HBN ⊢
  rw [Int.toNat_natCast]
  clear ep ec hk hn
  have HV := hide' (fun (hm : nm.size ≤ maxLen) W => valid_any nm W hm)
  have BA : Hid (Below w.heap.size w (w.alloc (.cells #[.int .i64 k, .string nm, .int .i64 n, .int .i64 g, .string nt] 36))) := hide' ((Below.refl _ w).alloc (Nat.le_refl _) _)
  have hcell : ∀ (o : Nat) {v : Value}, (#[.int .i64 k, .string nm, .int .i64 n, .int .i64 g, .string nt] : Array Value)[o]? = some v → (w.alloc (.cells #[.int .i64 k, .string nm, .int .i64 n, .int .i64 g, .string nt] 36)).cell? ⟨w.heap.size, o, none⟩ = some v := fun o v h => by
    have hh : (w.alloc (.cells #[.int .i64 k, .string nm, .int .i64 n, .int .i64 g, .string nt] 36)).heap[w.heap.size]? = some (.cells #[.int .i64 k, .string nm, .int .i64 n, .int .i64 g, .string nt] 36) := heap_alloc_new w _
    unfold World.cell?
    rw [hh]
    exact h
  rcases (show p = 0 ∨ p = 1 ∨ p = 2 ∨ p = 3 by omega) with rfl | rfl | rfl | rfl
  · clear hp
    obtain ⟨v, hv⟩ : ∃ v, N.valid nm = v := ⟨_, rfl⟩
    rw [hv] at HV ⊢
    go_enter Tryd.func9, Tryd.ntmps9
    go_wp2_with fail
    refine (HP.out _).mono ?_
    rintro e w5 ⟨rfl, h5⟩
    go_wp2_with fail
    refine (HV.out (by unfold maxLen; omega) _).mono ?_
    rintro e w6 ⟨rfl, b6⟩
    have hsz : (w.alloc (.cells #[.int .i64 k, .string nm, .int .i64 n, .int .i64 g, .string nt] 36)).heap.size = w.heap.size + 1 := by simp
    have hc1 : w6.cell? ⟨w.heap.size, 1, none⟩ = some (.string nm) := (b6.cell (p := ⟨w.heap.size, 1, none⟩) (by show w.heap.size < _; omega)).trans (hcell _ rfl)
    have hc2 : w6.cell? ⟨w.heap.size, 2, none⟩ = some (.int .i64 n) := (b6.cell (p := ⟨w.heap.size, 2, none⟩) (by show w.heap.size < _; omega)).trans (hcell _ rfl)
    have B6 := hide' (BA.out.trans (b6.mono (by omega)))
    clear b6
    cases v
    · go_wp2_with fail
      refine (HB.out _).mono ?_
      rintro e w7 ⟨rfl, rfl⟩
      go_wp2_with fail
      refine bodyPost_ret (results_tmp3 rfl _ _ _) rfl ?_
      exact ⟨rfl, B6.out⟩
    · go_wp2_with fail
      go_quiet (exact Calls.quiet_of_same (HQ.out _))
      go_wp2_with fail
      refine bodyPost_ret (results_tmp3 rfl _ _ _) rfl ?_
      exact ⟨rfl, below_drewN B6.out _⟩
  · clear hp HV
    go_enter Tryd.func9, Tryd.ntmps9
    go_wp2_with fail
    refine (HP.out _).mono ?_
    rintro e w5 ⟨rfl, h5⟩
    go_wp2_with fail
    refine (HD.out _).mono ?_
    rintro e w6 ⟨rfl, h6⟩
    go_wp2_with fail
    refine bodyPost_ret (results_tmp3 rfl _ _ _) rfl ?_
    exact ⟨rfl, BA.out⟩
  · exact absurd rfl h2
  · clear hp HV
    go_enter Tryd.func9, Tryd.ntmps9
    go_wp2_with fail
    refine (HP.out _).mono ?_
    rintro e w5 ⟨rfl, h5⟩
    go_wp2_with fail
    refine (HB.out _).mono ?_
    rintro e w6 ⟨rfl, h6⟩
    go_wp2_with fail
    refine bodyPost_ret (results_tmp3 rfl _ _ _) rfl ?_
    exact ⟨rfl, BA.out⟩
end Go.Proofs.YtpnkfbmdpgdbcaaDoor
