import Derived.Test.YtgjdpgmffhihnabIxI
import Derived.LoopTactic
set_option linter.unusedVariables false
set_option linter.unusedSimpArgs false
namespace Go.Proofs.Ytgjdpgmffhihnab
open Go.RowKit Go.Maps
namespace I
def th (m : Nat) : List Int := (List.range m).map fun j : Nat => 3 * (j : Int)
theorem th_len (m : Nat) : (th m).length = m := by simp [th]
theorem th_succ (m : Nat) : th (m + 1) = th m ++ [3 * (m : Int)] := by simp [th, List.range_succ]
theorem th_at (m j : Nat) (h : j < m) : (th m)[j]? = some (3 * (j : Int)) := by
  simp [th, h]
theorem th_mem (m : Nat) (k : Int) : k ∈ th m ↔ ∃ j : Nat, j < m ∧ k = 3 * (j : Int) := by
  simp [th, eq_comm]
theorem th_num (m j : Nat) (h : j < m) : num (th m) (3 * (j : Int)) = j + 1 := by
  have hin : 3 * (j : Int) ∈ th m := (th_mem m _).2 ⟨j, h, rfl⟩
  have h1 := num_at hin
  have h2 := num_pos hin
  have h3 := num_le (th m) (3 * (j : Int))
  rw [th_len] at h3
  rw [th_at m _ (by omega)] at h1
  simp only [Option.some.injEq] at h1
  omega
theorem wf_small {k : Int} (h1 : 0 ≤ k) (h2 : k ≤ 4000000) : okk k := WalkArith.wf_i64 (by omega)

set_option maxRecDepth 100000 in
set_option maxHeartbeats 1000000 in
theorem walk (w : World) :
    Calls Try.prog 5 #[] w fun e w' => e = .returned (.bool true) ∧ Below w.heap.size w w' := by
  go_enter Try.func5, Try.ntmps5
  go_wp2_with (go_at_call 18; refine (new_any _).mono ?_; rintro e w1 ⟨rfl, hix, hb, hsz⟩)
  generalize hB : w.heap.size = B at *
  have HB := hide' hB
  clear hB
  go_loopw [2] (fun i w' => ∃ (m : Nat) (ao : Option Addr) (cap : Nat), (m : Int) ≤ 1048576 ∧ i = .int .i64 m ∧ IxI B (B + 1) B ao cap (th m) w' ∧ Below B w w' ∧ B ≤ w'.heap.size) (fun i _ => 1048576 - (intOf i).toNat)
  case atStart => exact ⟨0, none, 0, by simp, rfl, hix, hb, by omega⟩
  case round =>
    obtain ⟨m, ao, cap, hm, rfl, hix, hb, hBs⟩ := hrel
    by_cases hlt : (m : Int) < 1048576
    · have hk : okk (3 * (m : Int)) := wf_small (by omega) (by omega)
      have hin : 3 * (m : Int) ∉ th m := by rw [th_mem]; rintro ⟨j, h1, h2⟩; omega
      have hlen : ((th m).length : Int) < 1048576 := by rw [th_len]; exact hlt
      have hof := fun x => of_new B (B + 1) B ao cap (th m) (3 * (m : Int)) x
      have Hof := hide' hof
      clear hof
      have hne : ((((m : Int) + 1) != (m : Int) + 1)) = false := by simp
      go_wp2_with fail
      refine (Hof.out _ hix hk hin hlen).mono ?_
      rintro e w2 ⟨rfl, g, cap', hix2, ht, hg⟩
      have hix3 : IxI B (B + 1) B (some ⟨g, 0, none⟩) cap' (th (m + 1)) w2 := by rw [th_succ]; exact hix2
      have hb3 : Below B w w2 := hb.trans (ht.below (fun k hk => by
        rcases hk with q | q | ⟨a, ha, q⟩
        · omega
        · omega
        · have := (hix.apart (by decide) a ha).2.2.1; omega) hBs)
      have hs3 : B ≤ w2.heap.size := Nat.le_trans hBs ht.size
      rw [th_len]
      clear hix hix2 hb ht hg hin hk hlen Hof
      go_wp2_with fail
      go_roundw
      case rel => exact ⟨m + 1, _, _, by omega, by go_num, hix3, hb3, hs3⟩
      case measure => simp [intOf]; omega
    · have hm2 : (m : Int) = 1048576 := by omega
      have l1 : ((th m).length : Int) = 1048576 := by rw [th_len]; exact hm2
      have n1 : (1 : Int) ∉ th m := by rw [th_mem]; rintro ⟨j, h1, h2⟩; omega
      have i3 : (3 : Int) ∈ th m := (th_mem m 3).2 ⟨1, by omega, by omega⟩
      have e3 : ((num (th m) 3 : Nat) : Int) = 2 := by
        have := th_num m 1 (by omega)
        simp at this; omega
      obtain ⟨j, hj⟩ : ∃ j : Nat, (j : Int) = 1048575 := ⟨1048575, rfl⟩
      have hjm : j < m := by omega
      have ej : (3 : Int) * (j : Int) = 3145725 := by omega
      have iL : (3145725 : Int) ∈ th m := (th_mem m _).2 ⟨j, hjm, ej.symm⟩
      have eL : ((num (th m) 3145725 : Nat) : Int) = 1048576 := by
        have := th_num m j hjm
        rw [ej] at this; omega
      have aL : (th m)[((1048576 : Int) - 1).toNat]? = some 3145725 := by
        have h1 : ((1048576 : Int) - 1).toNat = j := by omega
        rw [h1, th_at m j hjm, ej]
      generalize th m = zs at *
      have f1 := fun x => (of_full B (B + 1) B ao cap zs 1 x)
      have f2 := fun x => (find_any B (B + 1) B ao cap zs 1 x)
      have f3 := fun x => (at_yes B (B + 1) B ao cap zs 1048576 3145725 x)
      have f4 := fun x => (len_any B (B + 1) B ao cap zs x)
      have f5 := fun x => (of_old B (B + 1) B ao cap zs 3 x)
      have f6 := fun x => (of_old B (B + 1) B ao cap zs 3145725 x)
      have k1 : okk 1 := wf_small (by omega) (by omega)
      have k3 : okk 3 := wf_small (by omega) (by omega)
      have kL : okk 3145725 := wf_small (by omega) (by omega)
      have z1 : num zs 1 = 0 := num_zero n1
      have y1 : isIn zs 1 = false := isIn_no n1
      have F1 : Hid (∀ x, IxI B (B + 1) B ao cap zs x → Calls Try.prog 19 #[.pointer (some ⟨B + 1, 0, none⟩), .int .i64 1] x fun e w' => e = .returned (.int .i64 0) ∧ w' = x) := fun x hx => f1 x hx k1 n1 (by omega)
      have F2 : Hid (∀ x, IxI B (B + 1) B ao cap zs x → Calls Try.prog 20 #[.pointer (some ⟨B + 1, 0, none⟩), .int .i64 1] x fun e w' => e = .returned (.tuple #[.int .i64 0, .bool false]) ∧ w' = x) := fun x hx => by
        have := f2 x hx k1
        rw [z1, y1] at this
        exact this
      have F3 : Hid (∀ x, IxI B (B + 1) B ao cap zs x → Calls Try.prog 21 #[.pointer (some ⟨B + 1, 0, none⟩), .int .i64 1048576] x fun e w' => e = .returned (.tuple #[.int .i64 3145725, .bool true]) ∧ w' = x) := fun x hx => f3 x hx (by omega) (by omega) (by omega) aL
      have F4 : Hid (∀ x, IxI B (B + 1) B ao cap zs x → Calls Try.prog 22 #[.pointer (some ⟨B + 1, 0, none⟩)] x fun e w' => e = .returned (.int .i64 1048576) ∧ w' = x) := fun x hx => by
        have := f4 x hx
        rw [l1] at this
        exact this
      have F5 : Hid (∀ x, IxI B (B + 1) B ao cap zs x → Calls Try.prog 19 #[.pointer (some ⟨B + 1, 0, none⟩), .int .i64 3] x fun e w' => e = .returned (.int .i64 2) ∧ w' = x) := fun x hx => by
        have := f5 x hx k3 i3
        rw [e3] at this
        exact this
      have F6 : Hid (∀ x, IxI B (B + 1) B ao cap zs x → Calls Try.prog 19 #[.pointer (some ⟨B + 1, 0, none⟩), .int .i64 3145725] x fun e w' => e = .returned (.int .i64 1048576) ∧ w' = x) := fun x hx => by
        have := f6 x hx kL iL
        rw [eL] at this
        exact this
      have HX := hide' hix
      clear f1 f2 f3 f4 f5 f6 k1 k3 kL z1 y1 l1 n1 i3 e3 iL eL aL hj hjm ej hm2 hm hix
      go_wp2_with fail
      refine (F1.out _ HX.out).mono ?_
      rintro e w1 ⟨rfl, rfl⟩
      go_wp2_with fail
      refine (F2.out _ HX.out).mono ?_
      rintro e w1 ⟨rfl, rfl⟩
      go_wp2_with fail
      refine (F3.out _ HX.out).mono ?_
      rintro e w1 ⟨rfl, rfl⟩
      go_wp2_with fail
      refine (F4.out _ HX.out).mono ?_
      rintro e w1 ⟨rfl, rfl⟩
      go_wp2_with fail
      refine (F5.out _ HX.out).mono ?_
      rintro e w1 ⟨rfl, rfl⟩
      go_wp2_with fail
      refine (F6.out _ HX.out).mono ?_
      rintro e w1 ⟨rfl, rfl⟩
      go_wp2_with fail
      go_ret
      exact ⟨rfl, by rw [HB.out]; exact hb⟩
end I
end Go.Proofs.Ytgjdpgmffhihnab
