import Derived.Test.YtfkoacjfihaajaaMw1
set_option linter.unusedVariables false
set_option linter.unusedSimpArgs false
namespace Go.Proofs.Ytfkoacjfihaajaa
open Go.RowKit
namespace M
open Fl
variable {b h l r : Nat} {w w' : World}
set_option maxRecDepth 100000 in
set_option maxHeartbeats 1000000 in
theorem note_neg {n : Int} (p v : Value) (w : World) (hn : n < 0) : Calls Try.prog 17 #[p, v, .int .i64 n] w fun e w' => e = .returned (.int .i64 3) ∧ w' = w := by
  go_enter Try.func17, Try.ntmps17
  go_wp2
  go_ret
  exact ⟨rfl, rfl⟩
set_option maxRecDepth 100000 in
set_option maxHeartbeats 1000000 in
theorem note_neg2 {n : Int} {now : Int} (q : Mt b h l r w) (hn : 0 ≤ n) (hw : now < 0) : Calls Try.prog 17 #[.pointer (some ⟨b, 0, none⟩), .int .i64 now, .int .i64 n] w fun e w' => e = .returned (.int .i64 3) ∧ w' = w := by
  have HC := hide' (fun p w => rate_neg p w hw)
  have h0 : ¬ (n < 0) := by omega
  clear q hn hw
  go_enter Try.func17, Try.ntmps17
  go_wp2_with fail
  refine (HC.out _ _).mono ?_
  rintro e w2 ⟨rfl, rfl⟩
  go_wp2
  go_ret
  exact ⟨rfl, rfl⟩
set_option maxRecDepth 100000 in
set_option maxHeartbeats 1000000 in
theorem note_early {n : Int} {now : Nat} (q : Mt b h l r w) (hn : 0 ≤ n) (hw : now < l) : Calls Try.prog 17 #[.pointer (some ⟨b, 0, none⟩), .int .i64 (now : Nat), .int .i64 n] w fun e w' => e = .returned (.int .i64 1) ∧ w' = w := by
  have HC := hide' (rate_early q hw)
  have h0 : ¬ (n < 0) := by omega
  clear q hn hw
  go_enter Try.func17, Try.ntmps17
  go_wp2_with fail
  refine HC.out.mono ?_
  rintro e w2 ⟨rfl, rfl⟩
  go_wp2
  go_ret
  exact ⟨rfl, rfl⟩
theorem Mt.set (q : Mt b h l r w) (l' r' : Nat) : Mt b h l' r' ((w.setCell ⟨b, 2, none⟩ (.float .f64 r')).setCell ⟨b, 1, none⟩ (.int .i64 (l' : Nat))) := by
  have h1 := set_block (off := 2) (v := .float .f64 r') q
  have h2 := set_block (off := 1) (v := .int .i64 (l' : Nat)) h1
  exact h2
/-- what a call leaves that turns one block -/
structure Tb (b : Nat) (w w' : World) : Prop where
  t : Turn (fun j => j = b) w w'
theorem Tb.below {B : Nat} (h : Tb b w w') (hb : B ≤ b) (hw : B ≤ w.heap.size) : Below B w w' := h.t.below (fun k hk => by rw [hk]; exact hb) hw
set_option maxRecDepth 100000 in
set_option maxHeartbeats 1000000 in
theorem note_ok {n now r' : Nat} (q : Mt b h l r w) (hn : l ≤ now) (hh : 1 ≤ h) (hr : r < 9218868437227405312) (hnow : now < 9223372036854775808) (ha : Ieee.double.add (hvn (now / h - l / h) r) (FloatKind.f64.nearest (n : Int)) = some r') : Calls Try.prog 17 #[.pointer (some ⟨b, 0, none⟩), .int .i64 (now : Nat), .int .i64 (n : Nat)] w fun e w' => e = .returned (.int .i64 0) ∧ Mt b h now r' w' ∧ Turn (fun j => j = b) w w' := by
  have HC := hide' (rate_ok q hn hh hr hnow)
  have h0 : ¬ ((n : Int) < 0) := by omega
  have HQ := hide' q
  clear q hn hh hr hnow
  go_enter Try.func17, Try.ntmps17
  go_wp2_with fail
  refine HC.out.mono ?_
  rintro e w2 ⟨rfl, k2, rfl⟩
  clear HC
  generalize hvn (now / h - l / h) r = X at *
  have hq2 := HQ.out.drewN k2
  have c1 := hq2.c1
  have c2 := hq2.c2
  have f1 := hq2.f 1
  have f2 := hq2.f 2
  have K := hide' (hq2.set now r')
  have T : Hid (Turn (fun j => j = b) w (((w.drewN k2).setCell ⟨b, 2, none⟩ (.float .f64 r')).setCell ⟨b, 1, none⟩ (.int .i64 (now : Nat)))) := hide' ((((Turn.refl (fun j => j = b) w).drewN k2).setCell (p := ⟨b, 2, none⟩) (fun _ => rfl) _).setCell (p := ⟨b, 1, none⟩) (fun _ => rfl) _)
  have hsf : ∀ (a : Addr) (k : FloatKind) (b : Nat) (m : Mode) (w : World), (store a (.float k b) m).run Try.prog w = stored Try.prog w a (.float k b) m := fun a k b m w => run_store Try.prog w a _ m rfl
  have hra : ∀ w, (binOp .add 27 (.float .f64 X) (.float .f64 (floatOfInt .f64 (n : Int)))).run Try.prog w = .ok (.float .f64 r') w := fun w => run_add ha w
  clear hq2 HQ ha
  generalize w.drewN k2 = W at *
  go_wp2
  go_ret
  exact ⟨rfl, K.out, T.out⟩
end M
end Go.Proofs.Ytfkoacjfihaajaa
