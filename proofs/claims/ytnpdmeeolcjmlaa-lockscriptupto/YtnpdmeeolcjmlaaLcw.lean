import Derived.Test.YtnpdmeeolcjmlaaLcs
set_option linter.unusedVariables false
set_option linter.unusedSimpArgs false
namespace Go.Proofs.Ytnpdmeeolcjmlaa
open Go.RowKit
namespace M
variable {D : Nat → Prop} {B x : Nat} {ws : List Int} {tr : List Ac} {bad : Nat} {w w' : World}
variable {l b nx sv : Nat} {t : Int} {has ho : Bool}
/-- what a waiter's call leaves -/
def WTo (D : Nat → Prop) (B x b l : Nat) (ws : List Int) (tr : List Ac) (bad : Nat) (t : Int) (has ho : Bool) (w w' : World) : Prop :=
  ∃ D', Mem D' B x ws tr bad w' ∧ Wt b l t has ho w' ∧ Turn (fun j => D j ∨ j = b) w w' ∧ ∀ j, D' j → D j ∨ w.heap.size ≤ j
theorem WTo.same (h : Mem D B x ws tr bad w) (hw : Wt b l t has ho w) : WTo D B x b l ws tr bad t has ho w w := ⟨D, h, hw, Turn.refl _ _, fun j hj => .inl hj⟩
theorem WTo.of_to {ws' : List Int} {tr' : List Ac} {bad' : Nat} (h : Mem D B x ws tr bad w) (hw : Wt b l t has ho w) (tm : To D B x ws' tr' bad' w w') : WTo D B x b l ws' tr' bad' t has ho w w' := by
  have hw' := tm.wt h hw
  obtain ⟨D', h', tt, s⟩ := tm
  exact ⟨D', h', hw', tt.mono (fun j _ q => .inl q), s⟩
theorem Wt.set1 (h : Wt b l t has ho w) (t' : Int) : Wt b l t' has ho (w.setCell ⟨b, 1, none⟩ (.int .i64 t')) := by have := set_block (off := 1) (v := .int .i64 t') h; exact this
theorem Wt.set2 (h : Wt b l t has ho w) (q : Bool) : Wt b l t q ho (w.setCell ⟨b, 2, none⟩ (.bool q)) := by have := set_block (off := 2) (v := .bool q) h; exact this
theorem Wt.set3 (h : Wt b l t has ho w) (q : Bool) : Wt b l t has q (w.setCell ⟨b, 3, none⟩ (.bool q)) := by have := set_block (off := 3) (v := .bool q) h; exact this
theorem turn_b (b off : Nat) (v : Value) (w : World) : Turn (fun j => j = b) w (w.setCell ⟨b, off, none⟩ v) := (Turn.refl (fun k => k = b) w).setCell (p := ⟨b, off, none⟩) (fun _ => rfl) _
/-- the waiter's own block is written -/
theorem WTo.put {t1 : Int} {h1 o1 : Bool} {w1 : World} (hk : WTo D B x b l ws tr bad t has ho w w1) (tt : Turn (fun j => j = b) w1 w') (hw : Wt b l t1 h1 o1 w') : WTo D B x b l ws tr bad t1 h1 o1 w w' := by
  obtain ⟨D', hm, hwt, tu, s⟩ := hk
  exact ⟨D', hm.kept tt (fun j hj e => hwt.nd hm (e ▸ hj)), hw, tu.trans (tt.mono (fun j _ e => .inr e)), s⟩
theorem WTo.fromDrew (hk : WTo D B x b l ws tr bad t has ho w.drew w') : WTo D B x b l ws tr bad t has ho w w' := by
  obtain ⟨D', hm, hwt, tu, s⟩ := hk
  exact ⟨D', hm, hwt, ((Turn.refl _ w).drew).trans tu, s⟩
theorem WTo.drewn (hk : WTo D B x b l ws tr bad t has ho w w') : WTo D B x b l ws tr bad t has ho w w'.drew := by
  obtain ⟨D', hm, hwt, tu, s⟩ := hk
  exact ⟨D', hm.drew, hwt, tu.drew, s⟩
/-- a waiter's state behind a step -/
def wT (ws : List Int) (nx : Nat) (t : Int) (has : Bool) : Int := if has = false ∧ er ws nx = 0 then std ws nx else t
def wH (ws : List Int) (nx : Nat) (has : Bool) : Bool := has || good ws nx
def wO (ws : List Int) (sv : Nat) (t : Int) (has ho : Bool) : Bool := has && (ho || srv ws sv t)
def wM (ws : List Int) (nx : Nat) (has : Bool) : List Int := if has = false then put ws nx (wrap64 (std ws nx + 1)) else ws
def wR (ws : List Int) (nx sv : Nat) (has ho : Bool) : List Ac := if has = false then [⟨4, nx, 1, std ws nx, good ws nx⟩] else if ho = false then [⟨1, sv, std ws sv, 0, good ws sv⟩] else []
def wB (ws : List Int) (nx sv : Nat) (has ho : Bool) : Nat := if has = false then bd ws nx else if ho = false then bd ws sv else 0
set_option maxRecDepth 100000 in
set_option maxHeartbeats 1000000 in
theorem take_any (h : Mem D B x ws tr bad w) (hk : Lk l x nx sv w) (hw : Wt b l t false ho w) (hl : tr.length < 1999999999999) :
    Calls Try.prog 27 #[.pointer (some ⟨b, 0, none⟩)] w fun e w' => e = .returned (.tuple #[]) ∧ WTo D B x b l (wM ws nx false) (tr ++ wR ws nx sv false ho) (bad + wB ws nx sv false ho) (wT ws nx t false) (wH ws nx false) ho w w' := by
  have c0 := hw.c0
  have HC := hide' (draw_any h hk hl)
  have HW := hide' (fun w' ws' tr' bad' (tm : To D B x ws' tr' bad' w w') => WTo.of_to h hw tm)
  unfold wM wR wB wT wH
  rw [if_pos rfl, if_pos rfl, if_pos rfl]
  clear h hk hw hl
  unfold good at *
  by_cases hE : er ws nx = 0
  · rw [if_pos ⟨rfl, hE⟩]
    rw [show (false || decide (er ws nx = 0)) = true by simp [hE]]
    generalize put ws nx (wrap64 (std ws nx + 1)) = ws1 at *
    generalize tr ++ [(⟨4, nx, 1, std ws nx, decide (er ws nx = 0)⟩ : Ac)] = tr1 at *
    generalize bad + bd ws nx = bad1 at *
    rw [hE] at HC
    generalize std ws nx = V at *
    clear hE
    go_enter Try.func27, Try.ntmps27
    go_wp2_with fail
    refine HC.out.mono ?_
    rintro e w3 ⟨rfl, t3⟩
    have K := hide' (HW.out _ _ _ _ t3)
    obtain ⟨D', hm, hwt, tu, s⟩ := K.out
    have d1 := hwt.c1
    have d2 := hwt.c2
    have f1 := hwt.f 1
    have f2 := hwt.f 2
    have K2 := hide' ((K.out.put (turn_b b 1 (.int .i64 V) w3) (hwt.set1 V)).put (turn_b b 2 (.bool true) _) ((hwt.set1 V).set2 true))
    clear hm hwt tu s t3 HC HW K
    go_wp2
    go_end0
    exact ⟨rfl, K2.out⟩
  · rw [if_neg (fun q => hE q.2)]
    have hE' : (er ws nx == 0) = false := by simpa using hE
    rw [show (false || decide (er ws nx = 0)) = false by simp [hE]]
    generalize put ws nx (wrap64 (std ws nx + 1)) = ws1 at *
    generalize tr ++ [(⟨4, nx, 1, std ws nx, decide (er ws nx = 0)⟩ : Ac)] = tr1 at *
    generalize bad + bd ws nx = bad1 at *
    generalize std ws nx = V at *
    generalize er ws nx = E at *
    clear hE
    go_enter Try.func27, Try.ntmps27
    go_wp2_with fail
    refine HC.out.mono ?_
    rintro e w3 ⟨rfl, t3⟩
    have K := hide' (HW.out _ _ _ _ t3)
    clear t3 HC HW
    go_wp2
    go_end0
    exact ⟨rfl, K.out⟩
set_option maxRecDepth 100000 in
set_option maxHeartbeats 1000000 in
theorem step_any (h : Mem D B x ws tr bad w) (hk : Lk l x nx sv w) (hw : Wt b l t has ho w) (hho : has = false → ho = false) (hl : tr.length < 1999999999999) :
    Calls Try.prog 11 #[.pointer (some ⟨b, 0, none⟩)] w fun e w' => e = .returned (.bool (wO ws sv t has ho)) ∧ WTo D B x b l (wM ws nx has) (tr ++ wR ws nx sv has ho) (bad + wB ws nx sv has ho) (wT ws nx t has) (wH ws nx has) (wO ws sv t has ho) w w' := by
  cases has with
  | false =>
    have := hho rfl
    subst this
    have c2 := hw.c2
    have HC := hide' (take_any h hk hw hl)
    rw [show wO ws sv t false false = false from rfl]
    clear h hk hw hl hho
    generalize wM ws nx false = ws1 at *
    generalize tr ++ wR ws nx sv false false = tr1 at *
    generalize bad + wB ws nx sv false false = bad1 at *
    generalize wT ws nx t false = t1 at *
    generalize wH ws nx false = h1 at *
    go_enter Try.func11, Try.ntmps11
    go_wp2_with fail
    refine HC.out.mono ?_
    rintro e w3 ⟨rfl, K⟩
    obtain ⟨D', hm, hwt, tu, s⟩ := id K
    have d3 := hwt.c3
    have K := hide' K
    clear hm hwt tu s HC
    go_wp2
    go_ret
    exact ⟨rfl, K.out⟩
  | true =>
    cases ho with
    | false =>
      have c0 := hw.c0
      have c1 := hw.c1
      have c2 := hw.c2
      have c3 := hw.c3
      rw [show wO ws sv t true false = srv ws sv t by simp [wO], show wT ws nx t true = t by simp [wT], show wH ws nx true = true by simp [wH], show wM ws nx true = ws by simp [wM], show wR ws nx sv true false = [⟨1, sv, std ws sv, 0, good ws sv⟩] by simp [wR], show wB ws nx sv true false = bd ws sv by simp [wB]]
      have HC : Hid (Calls Try.prog 28 #[.pointer (some ⟨l, 0, none⟩), .int .i64 t] w.drew fun e w' => e = .returned (.bool (srv ws sv t)) ∧ WTo D B x b l ws (tr ++ [⟨1, sv, std ws sv, 0, good ws sv⟩]) (bad + bd ws sv) t true false w w') := hide' ((serves_any t h.drew (show Lk l x nx sv w.drew from hk) hl).mono fun e w' ⟨he, ht⟩ => ⟨he, WTo.of_to h hw (To.drew ht)⟩)
      generalize srv ws sv t = r at *
      generalize tr ++ [(⟨1, sv, std ws sv, 0, good ws sv⟩ : Ac)] = tr1 at *
      generalize bad + bd ws sv = bad1 at *
      clear h hk hw hl hho
      go_enter Try.func11, Try.ntmps11
      go_wp2_with fail
      go_region_held3 (fun w' => w'.cell? ⟨b, 0, none⟩ = some (.pointer (some ⟨l, 0, none⟩)) ∧ w'.cell? ⟨b, 1, none⟩ = some (.int .i64 t)) (first | exact ⟨c0, c1⟩ | exact ⟨k0, k1⟩ | exact ⟨(hwt.set3 r).c0, (hwt.set3 r).c1⟩) ((go_at_call 28; refine HC.out.mono ?_; rintro e w3 ⟨rfl, K⟩; obtain ⟨D', hm, hwt, tu, s⟩ := id K; have k0 := hwt.c0; have k1 := hwt.c1; have k3 := hwt.c3; have f3 := hwt.f 3))
      rename_i hHeld
      clear hHeld
      have d3 := (hwt.set3 r).c3
      have K2 := hide' (K.put (turn_b b 3 (.bool r) w3) (hwt.set3 r))
      clear K hm hwt tu s k0 k1 k3 f3 HC c0 c1 c2 c3
      generalize w3.setCell ⟨b, 3, none⟩ (.bool r) = w4 at *
      go_wp2
      go_ret
      exact ⟨rfl, K2.out⟩
    | true =>
      have c2 := hw.c2
      have c3 := hw.c3
      have K : Hid (WTo D B x b l (wM ws nx true) (tr ++ wR ws nx sv true true) (bad + wB ws nx sv true true) (wT ws nx t true) (wH ws nx true) (wO ws sv t true true) w w) := by
        apply hide'
        simpa [wM, wR, wB, wT, wH, wO] using WTo.same h hw
      rw [show wO ws sv t true true = true by simp [wO]] at K ⊢
      clear h hk hw hl hho
      go_enter Try.func11, Try.ntmps11
      go_wp2
      go_ret
      exact ⟨rfl, K.out⟩
end M
end Go.Proofs.Ytnpdmeeolcjmlaa
