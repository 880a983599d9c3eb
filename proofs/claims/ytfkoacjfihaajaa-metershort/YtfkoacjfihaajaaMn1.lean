import Derived.Test.YtfkoacjfihaajaaMw1
set_option linter.unusedVariables false
set_option linter.unusedSimpArgs false
namespace Go.Proofs.Ytfkoacjfihaajaa
open Go.RowKit
/-! floats of any kind, what is no number among them -/
namespace N
open Fl
def isn : Ieee.Datum → Bool
  | .nan _ _ => true
  | _ => false
/-- a float, if it is a number or an infinity -/
def vl (x : Nat) : Option Nat := if isn (Ieee.double.read x) then none else some x
/-- bits that stand for such a float -/
def lk (x : Nat) (o : Option Nat) : Prop := vl x = o
theorem lk_vl (x : Nat) : lk x (vl x) := rfl
theorem read_inf (s : Bool) : Ieee.double.read (Ieee.double.word s 9218868437227405312) = .infinity s := by cases s <;> decide
theorem isn_write (d : Ieee.Datum) (h : isn d = false) : isn (Ieee.double.read (Ieee.double.write d)) = false := by
  have key : ∀ s r, r ≤ 9218868437227405312 → isn (Ieee.double.read (Ieee.double.word s r)) = false := by
    intro s r hr
    rcases Nat.eq_or_lt_of_le hr with e | e
    · rw [e, read_inf]; rfl
    · obtain ⟨m, k, h1, _⟩ := read_word Ieee.double s (r := r) (by rw [d_inf]; exact e)
      rw [h1]; rfl
  cases d with
  | number s m p =>
    show isn (Ieee.double.read (Ieee.double.nearest s m p)) = false
    unfold Ieee.Format.nearest
    split
    · exact key s 0 (by omega)
    · exact key s _ (by rw [d_inf]; exact Nat.min_le_right _ _)
  | infinity s => exact key s _ (by rw [d_inf]; exact Nat.le_refl _)
  | nan s f => cases h
theorem isn_sum {a b c : Ieee.Datum} (h : a.sum b = some c) : isn c = false := by
  unfold Ieee.Datum.sum at h
  cases a <;> cases b <;> simp only at h <;> first | (cases h; done) | (split at h <;> first | (cases h; rfl) | (cases h; done)) | (cases h; rfl)
theorem isn_product {a b c : Ieee.Datum} (h : a.product b = some c) : isn c = false := by
  unfold Ieee.Datum.product at h
  cases a <;> cases b <;> simp only at h <;> first | (cases h; done) | (split at h <;> first | (cases h; rfl) | (cases h; done)) | (cases h; rfl)
theorem isn_quotient {n : Nat} {a b c : Ieee.Datum} (h : a.quotient n b = some c) : isn c = false := by
  unfold Ieee.Datum.quotient at h
  cases a <;> cases b <;> simp only at h <;> first | (cases h; done) | (split at h <;> first | (cases h; rfl) | (cases h; done) | (split at h <;> first | (cases h; rfl) | (cases h; done))) | (cases h; rfl)
theorem isn_map {o : Option Ieee.Datum} {r : Nat} (h : o.map Ieee.double.write = some r) (k : ∀ c, o = some c → isn c = false) : isn (Ieee.double.read r) = false := by
  cases o with
  | none => cases h
  | some d => cases h; exact isn_write d (k d rfl)
theorem bits_num {op : BinOp} {x y r : Nat} (h : floatBits op .f64 x y = some r) : isn (Ieee.double.read r) = false := by
  unfold floatBits at h
  split at h
  · exact isn_map h (fun c hc => isn_sum hc)
  · exact isn_map h (fun c hc => isn_sum hc)
  · exact isn_map h (fun c hc => isn_product hc)
  · exact isn_map h (fun c hc => isn_quotient hc)
  · cases h
theorem nan_sum {a b : Ieee.Datum} (h : isn a = true ∨ isn b = true) : a.sum b = none := by
  rcases h with h | h
  · cases a <;> first | (cases h; done) | rfl
  · cases b <;> first | (cases h; done) | (cases a <;> rfl)
theorem nan_product {a b : Ieee.Datum} (h : isn a = true ∨ isn b = true) : a.product b = none := by
  rcases h with h | h
  · cases a <;> first | (cases h; done) | rfl
  · cases b <;> first | (cases h; done) | (cases a <;> rfl)
theorem nan_quotient {n : Nat} {a b : Ieee.Datum} (h : isn a = true ∨ isn b = true) : a.quotient n b = none := by
  rcases h with h | h
  · cases a <;> first | (cases h; done) | rfl
  · cases b <;> first | (cases h; done) | (cases a <;> rfl)
theorem isn_opp (a : Ieee.Datum) : isn a.opposite = isn a := by cases a <;> rfl
theorem bits_nan {op : BinOp} {x y : Nat} (h : isn (Ieee.double.read x) = true ∨ isn (Ieee.double.read y) = true) : floatBits op .f64 x y = none := by
  unfold floatBits
  split
  · show ((Ieee.double.read x).sum (Ieee.double.read y)).map _ = none
    rw [nan_sum h]; rfl
  · show ((Ieee.double.read x).sum (Ieee.double.read y).opposite).map _ = none
    rw [nan_sum (by rw [isn_opp]; exact h)]; rfl
  · show ((Ieee.double.read x).product (Ieee.double.read y)).map _ = none
    rw [nan_product h]; rfl
  · show ((Ieee.double.read x).quotient _ (Ieee.double.read y)).map _ = none
    rw [nan_quotient h]; rfl
  · rfl
def opO (op : BinOp) (a b : Option Nat) : Option Nat := a.bind fun x => b.bind fun y => floatBits op .f64 x y
theorem vl_num {x r : Nat} (h : vl x = some r) : x = r ∧ isn (Ieee.double.read x) = false := by
  unfold vl at h
  split at h
  · cases h
  · rename_i q; cases h; exact ⟨rfl, by simpa using q⟩
theorem vl_nan {x : Nat} (h : vl x = none) : isn (Ieee.double.read x) = true := by
  unfold vl at h
  split at h
  · assumption
  · cases h
theorem vl_of {x : Nat} (h : isn (Ieee.double.read x) = false) : vl x = some x := by unfold vl; rw [h]; rfl
theorem vl_of_nan {x : Nat} (h : isn (Ieee.double.read x) = true) : vl x = none := by unfold vl; rw [h]; rfl
theorem vl_fin {x : Nat} {v : Int} (h : Fin x v) : vl x = some x := by
  obtain ⟨s, m, e, h1, _⟩ := h.read
  exact vl_of (by rw [h1]; rfl)
theorem cut_nan (x y t : Nat) : isn (Ieee.double.read ((Question.nanBits .f64 x y).cut t)) = true := by
  show isn (Ieee.double.read ((t % 2) * 2 ^ 63 + 0x7ff0000000000000 + 1 + (t / 2) % (2 ^ 52 - 1))) = true
  have h1 : t / 2 % (2 ^ 52 - 1) < 4503599627370495 := Nat.mod_lt _ (by decide)
  generalize t / 2 % (2 ^ 52 - 1) = u at *
  have h2 : t % 2 = 0 ∨ t % 2 = 1 := by omega
  have hs : Ieee.double.signWeight = 9223372036854775808 := by decide
  have hb : Ieee.double.binade = 4503599627370496 := by decide
  have p63 : (2 : Nat) ^ 63 = 9223372036854775808 := by decide
  unfold Ieee.Format.read
  simp only [hs, hb, d_inf, p63]
  generalize hX : t % 2 * 9223372036854775808 + 9218868437227405312 + 1 + u = X
  have e : X % 9223372036854775808 = 9218868437227405312 + 1 + u := by omega
  rw [e, if_neg (by omega), if_neg (by omega), if_neg (by omega)]
  rfl
theorem op_any {x y : Nat} {a b : Option Nat} (op : BinOp) (hop : op = .add ∨ op = .sub ∨ op = .mul ∨ op = .quo) (hx : lk x a) (hy : lk y b) (w : World) : ∃ r k, (binOp op 27 (.float .f64 x) (.float .f64 y)).run Try.prog w = .ok (.float .f64 r) (w.drewN k) ∧ lk r (opO op a b) := by
  cases hb : floatBits op .f64 x y with
  | some r =>
    refine ⟨r, 0, run_float_arith w op 27 .f64 x y r hb, ?_⟩
    have hnx : isn (Ieee.double.read x) = false := by
      cases q : isn (Ieee.double.read x) with
      | false => rfl
      | true => rw [bits_nan (.inl q)] at hb; cases hb
    have hny : isn (Ieee.double.read y) = false := by
      cases q : isn (Ieee.double.read y) with
      | false => rfl
      | true => rw [bits_nan (.inr q)] at hb; cases hb
    unfold lk at *
    rw [vl_of hnx] at hx
    rw [vl_of hny] at hy
    subst hx; subst hy
    rw [vl_of (bits_num hb)]
    exact hb.symm
  | none =>
    have e : opO op a b = none := by
      unfold opO lk at *
      cases a with
      | none => rfl
      | some x' =>
        cases b with
        | none => rfl
        | some y' =>
          obtain ⟨rfl, _⟩ := vl_num hx
          obtain ⟨rfl, _⟩ := vl_num hy
          exact hb
    rw [e]
    refine ⟨(Question.nanBits .f64 x y).cut (w.tape w.drawn (Question.nanBits .f64 x y)), 1, ?_, vl_of_nan (cut_nan _ _ _)⟩
    have hu := Try.underlying27
    rcases hop with rfl | rfl | rfl | rfl
    · have h' : FloatKind.f64.format.add x y = none := hb
      simp [binOp, underlying, hu, Op.floatArith, h', Question.forced]; rfl
    · have h' : FloatKind.f64.format.sub x y = none := hb
      simp [binOp, underlying, hu, Op.floatArith, h', Question.forced]; rfl
    · have h' : FloatKind.f64.format.mul x y = none := hb
      simp [binOp, underlying, hu, Op.floatArith, h', Question.forced]; rfl
    · have h' : FloatKind.f64.format.div x y = none := hb
      simp [binOp, underlying, hu, Op.floatArith, h', Question.forced]; rfl
theorem order_num {x : Nat} (h : isn (Ieee.double.read x) = false) : FloatKind.f64.format.order x x = some .eq := by
  show (Ieee.double.read x).order (Ieee.double.read x) = some .eq
  generalize Ieee.double.read x = d at *
  cases d with
  | number s m p => unfold Ieee.Datum.order; simp only [Option.some.injEq]; exact Int.compare_eq_eq.2 rfl
  | infinity s => unfold Ieee.Datum.order; simp only [Option.some.injEq]; exact Nat.compare_eq_eq.2 rfl
  | nan s f => cases h
theorem order_nan {x y : Nat} (h : isn (Ieee.double.read x) = true ∨ isn (Ieee.double.read y) = true) : FloatKind.f64.format.order x y = none := by
  show (Ieee.double.read x).order (Ieee.double.read y) = none
  generalize Ieee.double.read x = d at *
  generalize Ieee.double.read y = e at *
  rcases h with h | h
  · cases d <;> first | (cases h; done) | rfl
  · cases e <;> first | (cases h; done) | (cases d <;> rfl)
set_option maxRecDepth 100000 in
set_option maxHeartbeats 1000000 in
theorem same_any {x y : Nat} {o : Option Nat} (w : World) (hx : lk x o) (hy : lk y o) : Calls Try.prog 24 #[.float .f64 x, .float .f64 y] w fun e w' => e = .returned (.bool true) ∧ w' = w := by
  cases o with
  | some r =>
    obtain ⟨rfl, h1⟩ := vl_num hx
    obtain ⟨rfl, h2⟩ := vl_num hy
    have ho := order_num h1
    clear hx hy h1 h2
    go_enter Try.func24, Try.ntmps24
    go_wp2
    go_ret
    exact ⟨rfl, rfl⟩
  | none =>
    have h1 := vl_nan hx
    have h2 := vl_nan hy
    have o1 := order_nan (y := y) (.inl h1)
    have o2 := order_nan (y := x) (.inl h1)
    have o3 := order_nan (y := y) (.inl h2)
    clear hx hy h1 h2
    go_enter Try.func24, Try.ntmps24
    go_wp2
    go_ret
    exact ⟨rfl, rfl⟩
theorem fin_same {x y : Nat} {v : Int} (hx : Fin x v) (hy : Fin y v) : FloatKind.f64.format.order x y = some .eq := by
  have := order_fin hx hy
  rw [Int.compare_eq_eq.2 rfl] at this
  exact this
set_option maxRecDepth 100000 in
set_option maxHeartbeats 1000000 in
theorem same_eq {x y : Nat} (w : World) (h : FloatKind.f64.format.order x y = some .eq) : Calls Try.prog 24 #[.float .f64 x, .float .f64 y] w fun e w' => e = .returned (.bool true) ∧ w' = w := by
  go_enter Try.func24, Try.ntmps24
  go_wp2
  go_ret
  exact ⟨rfl, rfl⟩
set_option maxRecDepth 100000 in
set_option maxHeartbeats 1000000 in
theorem square_any {x : Nat} {a : Option Nat} (w : World) (hx : lk x a) : Calls Try.prog 37 #[.float .f64 x] w fun e w' => ∃ r k, e = .returned (.float .f64 r) ∧ lk r (opO .mul a a) ∧ w' = w.drewN k := by
  obtain ⟨r, k, e, hr⟩ := op_any .mul (.inr (.inr (.inl rfl))) hx hx w
  have HR := hide' hr
  clear hx hr
  go_enter Try.func37, Try.ntmps37
  go_wp2
  go_ret
  exact ⟨r, k, rfl, HR.out, rfl⟩
end N
end Go.Proofs.Ytfkoacjfihaajaa
