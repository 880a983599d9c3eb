import Derived.Test.YtgjdpgmffhihnabDoorProg
import Derived.WalkKit
import Derived.WalkLawsBesides
import Derived.WalkSpells
import Derived.Outline
import Derived.BigQuiet
import Derived.Deep.RegionWith
import Derived.Deep.QuietTactic
set_option linter.unusedVariables false
set_option linter.unusedSimpArgs false
namespace Go.Proofs.YtgjdpgmffhihnabDoor
open Go.RowKit

set_option maxRecDepth 100000 in
set_option maxHeartbeats 1000000 in
theorem itoa3 (w : World) : Calls Tryd.prog 7 #[.int .i64 3] w fun e w' => e = .returned (.string ⟨#[51]⟩) ∧ w' = w := by
  go_enter Tryd.func7, Tryd.ntmps7
  go_wp2
  go_ret
  exact ⟨rfl, rfl⟩
set_option maxRecDepth 100000 in
set_option maxHeartbeats 1000000 in
theorem itoa7 (w : World) : Calls Tryd.prog 7 #[.int .i64 7] w fun e w' => e = .returned (.string ⟨#[55]⟩) ∧ w' = w := by
  go_enter Tryd.func7, Tryd.ntmps7
  go_wp2
  go_ret
  exact ⟨rfl, rfl⟩
set_option maxRecDepth 100000 in
set_option maxHeartbeats 1000000 in
theorem itoa40 (w : World) : Calls Tryd.prog 7 #[.int .i64 40] w fun e w' => e = .returned (.string ⟨#[52, 48]⟩) ∧ w' = w := by
  go_enter Tryd.func7, Tryd.ntmps7
  go_wp2
  go_ret
  exact ⟨rfl, rfl⟩
set_option maxRecDepth 100000 in
set_option maxHeartbeats 1000000 in
theorem itoa60 (w : World) : Calls Tryd.prog 7 #[.int .i64 60] w fun e w' => e = .returned (.string ⟨#[54, 48]⟩) ∧ w' = w := by
  go_enter Tryd.func7, Tryd.ntmps7
  go_wp2
  go_ret
  exact ⟨rfl, rfl⟩
set_option maxRecDepth 100000 in
set_option maxHeartbeats 1000000 in
theorem err40 (w : World) : Calls Tryd.prog 5 #[.int .i64 40] w fun e w' => e = .returned (.string ⟨#[101, 114, 114, 111, 114, 32, 52, 48]⟩) ∧ w' = w := by
  go_enter Tryd.func5, Tryd.ntmps5
  go_wp2_with (go_at_call 7; refine (itoa40 _).mono ?_; rintro e w' ⟨rfl, rfl⟩)
  go_ret
  exact ⟨rfl, rfl⟩
set_option maxRecDepth 100000 in
set_option maxHeartbeats 1000000 in
theorem err60 (w : World) : Calls Tryd.prog 5 #[.int .i64 60] w fun e w' => e = .returned (.string ⟨#[101, 114, 114, 111, 114, 32, 54, 48]⟩) ∧ w' = w := by
  go_enter Tryd.func5, Tryd.ntmps5
  go_wp2_with (go_at_call 7; refine (itoa60 _).mono ?_; rintro e w' ⟨rfl, rfl⟩)
  go_ret
  exact ⟨rfl, rfl⟩

theorem drewN_heap (w : World) (n : Nat) : (w.drewN n).heap = w.heap := by
  induction n generalizing w with
  | zero => rfl
  | succ n ih => simp [World.drewN, ih]
theorem cell_drewN (w : World) (n : Nat) (a : Addr) : (w.drewN n).cell? a = w.cell? a := by
  simp only [World.cell?, drewN_heap]
set_option maxRecDepth 100000 in
set_option maxHeartbeats 1000000 in
theorem fault (w : World) (b : Nat) (h0 : w.cell? ⟨b, 0, none⟩ = some (.int .i64 40)) (h1 : w.cell? ⟨b, 1, none⟩ = some (.int .i64 3)) (h2 : w.cell? ⟨b, 2, none⟩ = some (.int .i64 7)) (h3 : w.cell? ⟨b, 3, none⟩ = some (.string ⟨#[98, 111, 98]⟩)) :
    Calls Tryd.prog 4 #[.pointer (some ⟨b, 0, none⟩)] w fun e w' => e = .returned (.string ⟨#[51, 58, 55, 58, 32, 101, 114, 114, 111, 114, 32, 52, 48, 58, 32, 98, 111, 98]⟩) ∧ ∃ n, w' = w.drewN n := by
  go_enter Tryd.func4, Tryd.ntmps4
  go_wp2_with fail
  go_quiet ((first
    | (go_at_call_of 7 (Value.int IntKind.i64 3); exact Calls.quiet_of_same (itoa3 _))
    | (go_at_call_of 7 (Value.int IntKind.i64 7); exact Calls.quiet_of_same (itoa7 _))
    | (go_at_call 5; exact Calls.quiet_of_same (err40 _))))
  go_wp2
  go_ret
  refine ⟨?_, nq, rfl⟩
  have e : (⟨#[51]⟩ ++ ⟨#[58]⟩ ++ ⟨#[55]⟩ ++ ⟨#[58, 32]⟩ ++ ⟨#[101, 114, 114, 111, 114, 32, 52, 48]⟩ ++ ⟨#[58, 32]⟩ ++ ⟨#[98, 111, 98]⟩ : ByteArray) = ⟨#[51, 58, 55, 58, 32, 101, 114, 114, 111, 114, 32, 52, 48, 58, 32, 98, 111, 98]⟩ := by decide +kernel
  show Ending.returned (.string (⟨#[51]⟩ ++ ⟨#[58]⟩ ++ ⟨#[55]⟩ ++ ⟨#[58, 32]⟩ ++ ⟨#[101, 114, 114, 111, 114, 32, 52, 48]⟩ ++ ⟨#[58, 32]⟩ ++ ⟨#[98, 111, 98]⟩)) = _
  rw [e]

section
variable {P : Program} (w : World)
theorem run_equalIn_iface (d : Nat) {ti tn : TypeId} {ms : Array (String × TypeId)} {i : TypeInfo} {k : IntKind} (a b : Int)
    (hi : P.underlying ti = some (.interface ms)) (hn : P.underlying tn = some (.int k)) (hinfo : P.info? tn = some i) (hcomp : i.comparable = true) :
    (Op.equalIn (d + 2) ti (.iface tn (.int k a)) (.iface tn (.int k b))).run P w = .ok (a == b) w := by
  simp [Op.equalIn, run_underlying hi, run_underlying hn, typeInfo, hinfo, hcomp]
theorem run_eql_iface {ti tn : TypeId} {ms : Array (String × TypeId)} {i : TypeInfo} {k : IntKind} (a b : Int)
    (hi : P.underlying ti = some (.interface ms)) (hn : P.underlying tn = some (.int k)) (hinfo : P.info? tn = some i) (hcomp : i.comparable = true) :
    (binOp .eql ti (.iface tn (.int k a)) (.iface tn (.int k b))).run P w = .ok (.bool (a == b)) w := by
  simp only [binOp]
  simp [Op.equal, Op.maxDepth, run_equalIn_iface w 9998 a b hi hn hinfo hcomp]
end

set_option maxRecDepth 100000 in
set_option maxHeartbeats 1000000 in
theorem unwrap (w : World) (b : Nat) (h0 : w.cell? ⟨b, 0, none⟩ = some (.int .i64 40)) :
    Calls Tryd.prog 6 #[.pointer (some ⟨b, 0, none⟩)] w fun e w' => e = .returned (.iface 22 (.int .i64 40)) ∧ w' = w := by
  go_enter Tryd.func6, Tryd.ntmps6
  go_wp2
  go_ret
  exact ⟨rfl, rfl⟩

theorem infoErrno : ∃ i, Tryd.prog.info? 22 = some i ∧ i.comparable = true := by
  have h : (Tryd.prog.info? 22).map (·.comparable) = some true := by kernel_rfl
  obtain ⟨i, hi, hc⟩ := Option.map_eq_some_iff.1 h
  exact ⟨i, hi, hc⟩

set_option maxRecDepth 100000 in
set_option maxHeartbeats 1000000 in
theorem walk (w : World) :
    Calls Tryd.prog 3 #[] w fun e w' => e = .returned (.bool true) ∧ Below w.heap.size w w' := by
  obtain ⟨i, hi, hc⟩ := infoErrno
  have heq := fun (wx : World) (a b : Int) => run_eql_iface (P := Tryd.prog) wx (ti := 27) (tn := 22) (k := .i64) a b Tryd.underlying27 Tryd.underlying22 hi hc
  go_enter Tryd.func3, Tryd.ntmps3
  go_wp2_with fail
  refine (fault _ w.heap.size (by simp) (by simp) (by simp) (by simp)).mono ?_
  rintro e w1 ⟨rfl, n, hw⟩
  have hcell : w1.cell? ⟨w.heap.size, 0, none⟩ = some (.int .i64 40) := by rw [hw, cell_drewN]; simp
  have hb : Below w.heap.size w w1 := by rw [hw]; exact below_drewN ((Below.refl _ _).alloc (Nat.le_refl _) _) n
  clear hw
  go_wp2_with (first | (go_at_call 5; refine (err60 _).mono ?_; rintro e w' ⟨rfl, rfl⟩) | (go_at_call 6; refine (unwrap _ _ hcell).mono ?_; rintro e w' ⟨rfl, rfl⟩))
  go_ret
  exact ⟨rfl, hb⟩
end Go.Proofs.YtgjdpgmffhihnabDoor
