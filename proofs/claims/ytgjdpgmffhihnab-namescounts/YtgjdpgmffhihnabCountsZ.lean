import Derived.Test.YtgjdpgmffhihnabCountsW
import Derived.LoopTactic
import Derived.Lib.Strings
import Derived.Deep.QuietTactic
set_option linter.unusedVariables false
set_option linter.unusedSimpArgs false
namespace Go.Proofs.Ytgjdpgmffhihnab
open Go.RowKit Go.Maps
namespace S
set_option maxRecDepth 100000 in
set_option maxHeartbeats 1000000 in
theorem walkZ (a0 : Option Addr) (cap : Nat) (other : ByteArray) (w : World) (hcm : cap ≤ maxLen) (hos : other.size ≤ maxLen) :
    Calls Try.prog 4 #[.slice a0 0 cap, .string other] w fun e w' => e = .returned (.bool true) ∧ Below w.heap.size w w' := by
  unfold maxLen at hcm
  have hf := fun x (hx : IxI w.heap.size (w.heap.size + 1) w.heap.size none 0 [] x) => find_any w.heap.size (w.heap.size + 1) w.heap.size none 0 [] other x hx hos
  have ha0 := fun x (hx : IxI w.heap.size (w.heap.size + 1) w.heap.size none 0 [] x) => at_no w.heap.size (w.heap.size + 1) w.heap.size none 0 [] 0 x hx (.inl (by omega))
  have ha1 := fun x (hx : IxI w.heap.size (w.heap.size + 1) w.heap.size none 0 [] x) => at_no w.heap.size (w.heap.size + 1) w.heap.size none 0 [] 1 x hx (.inr (by simp))
  have hl := fun x (hx : IxI w.heap.size (w.heap.size + 1) w.heap.size none 0 [] x) => len_any w.heap.size (w.heap.size + 1) w.heap.size none 0 [] x hx
  rw [show num ([] : List ByteArray) other = 0 from num_nil _, show isIn ([] : List ByteArray) other = false from isIn_no (by simp)] at hf
  have Hf := hide' hf
  have Ha0 := hide' ha0
  have Ha1 := hide' ha1
  have Hl := hide' hl
  clear hf ha0 ha1 hl
  go_enter Try.func4, Try.ntmps4
  go_wp2_with (go_at_call 13; refine (new_any _).mono ?_; rintro e w1 ⟨rfl, hix, hb, hsz1⟩)
  have Hix := hide' hix
  clear hix
  go_loopw [6, 7, 8] (fun v mst i w' => i = .int .i64 0 ∧ mst = .int .i64 0 ∧ v = .slice none 0 0 ∧ w' = w1) (fun _ _ _ _ => 0)
  case atStart => exact ⟨rfl, rfl, rfl, rfl⟩
  case round =>
    obtain ⟨rfl, rfl, rfl, hw⟩ := hrel
    go_wp2
    go_loopw [10, 11] (fun th i w' => i = .int .i64 0 ∧ th = .bool false ∧ w' = w1) (fun _ _ _ => 0)
    case atStart => exact ⟨rfl, rfl, rfl⟩
    case round =>
      obtain ⟨rfl, rfl, hw2⟩ := hrel
      clear hw
      have Hw2 := hide' hw2
      clear hw2
      go_wp2_with fail
      refine (Hf.out _ (by rw [Hw2.out]; exact Hix.out)).mono ?_
      rintro e x1 ⟨rfl, rfl⟩
      go_wp2_with fail
      refine (Ha0.out _ (by rw [Hw2.out]; exact Hix.out)).mono ?_
      rintro e x1 ⟨rfl, rfl⟩
      go_wp2_with fail
      refine (Ha1.out _ (by rw [Hw2.out]; exact Hix.out)).mono ?_
      rintro e x1 ⟨rfl, rfl⟩
      go_wp2_with fail
      refine (Hl.out _ (by rw [Hw2.out]; exact Hix.out)).mono ?_
      rintro e x1 ⟨rfl, rfl⟩
      go_wp2_with fail
      go_ret
      exact ⟨by simp, by rw [Hw2.out]; exact hb⟩
end S
end Go.Proofs.Ytgjdpgmffhihnab
