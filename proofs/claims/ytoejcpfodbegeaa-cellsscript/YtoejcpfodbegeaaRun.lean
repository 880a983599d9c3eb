import Derived.Test.YtoejcpfodbegeaaPoP
import Derived.Test.YtoejcpfodbegeaaStp
set_option linter.unusedVariables false
set_option linter.unusedSimpArgs false
namespace Go.Proofs.Ytoejcpfodbegeaa
open Go.RowKit
namespace M
variable {D : Nat → Prop} {B x : Nat} {ws : List Int} {tr : List Ac} {bad : Nat} {w w' : World}
/-- some memory of so many words, with at most so long a trace -/
def Some' (D : Nat → Prop) (B x n l : Nat) (w w' : World) : Prop := ∃ ws tr bad, ws.length = n ∧ tr.length ≤ l ∧ To D B x ws tr bad w w'
theorem put_len (ws : List Int) (a v : Int) : (put ws a v).length = ws.length := by unfold put; split <;> simp
theorem swp_len (ws : List Int) (a o v : Int) : (swp ws a o v).length = ws.length := by unfold swp; split <;> simp
theorem pfill_len (ws : List Int) (a n c : Int) : (pfill ws a n c).length = ws.length := by unfold pfill; split <;> simp [fil_len]
theorem To.alloc {ws' : List Int} {tr' : List Ac} {bad' : Nat} {o : Obj} (t : To D B x ws' tr' bad' (w.alloc o) w') : To D B x ws' tr' bad' w w' := by
  obtain ⟨D', h, t, s⟩ := t
  refine ⟨D', h, ((Turn.refl D w).alloc o).trans t, fun j hj => ?_⟩
  rcases s j hj with q | q
  · exact .inl q
  · simp at q; exact .inr (by omega)
theorem To.same (h : Mem D B x ws tr bad w) : To D B x ws tr bad w w := ⟨D, h, Turn.refl _ _, fun j hj => .inl hj⟩
theorem Mem.alloc (h : Mem D B x ws tr bad w) (o : Obj) : Mem D B x ws tr bad (w.alloc o) := h.below ((Below.refl _ _).alloc (Nat.le_refl _) o)
set_option maxRecDepth 100000 in
set_option maxHeartbeats 2000000 in
theorem run_any (s : St) (hs : s.ok) (h : Mem D B x ws tr bad w) (hl : tr.length < 1999999999999) :
    Calls Try.prog 30 #[.pointer (some ⟨x, 0, none⟩), .agg s.arr] w fun e w' => e = .returned (.tuple #[]) ∧ Some' D B x ws.length (tr.length + 1) w w' := by
  obtain ⟨sd, sa, sb, sc, ⟨xk, xa, xv, xo, xg⟩⟩ := s
  have hs2 := hide' hs.2.2
  unfold St.arr
  simp only at hs2 ⊢
  have hA := hide' (fun o => h.alloc o)
  have H0 := hide' h
  have HL := hide' hl
  clear hs h hl
  by_cases h1 : sd = 1
  · subst h1
    have Hc := hide' (load_any sa (hA.out (.cells #[.int .i64 1, .int .i64 sa, .int .i64 sb, .int .i64 sc, .int .i8 xk, .int .i64 xa, .int .i64 xv, .int .i64 xo, .bool xg] 39)) HL.out)
    go_enter Try.func30, Try.ntmps30
    go_wp2_with fail
    refine Hc.out.mono ?_
    rintro e w2 ⟨rfl, t2⟩
    have K : Hid (Some' D B x ws.length (tr.length + 1) w w2) := ⟨_, _, _, rfl, (by simp), t2.alloc⟩
    clear Hc t2
    go_wp2
    go_end0
    exact ⟨rfl, K.out⟩
  have d1 : (sd == 1) = false := by simpa using h1
  by_cases h2 : sd = 2
  · subst h2
    have Hc := hide' (store_any sa sb (hA.out (.cells #[.int .i64 2, .int .i64 sa, .int .i64 sb, .int .i64 sc, .int .i8 xk, .int .i64 xa, .int .i64 xv, .int .i64 xo, .bool xg] 39)) HL.out)
    go_enter Try.func30, Try.ntmps30
    go_wp2_with fail
    refine Hc.out.mono ?_
    rintro e w2 ⟨rfl, t2⟩
    have K : Hid (Some' D B x ws.length (tr.length + 1) w w2) := ⟨_, _, _, put_len _ _ _, (by simp), t2.alloc⟩
    clear Hc t2
    go_wp2
    go_end0
    exact ⟨rfl, K.out⟩
  have d2 : (sd == 2) = false := by simpa using h2
  by_cases h3 : sd = 3
  · subst h3
    have Hc := hide' (swap_any sa sb sc (hA.out (.cells #[.int .i64 3, .int .i64 sa, .int .i64 sb, .int .i64 sc, .int .i8 xk, .int .i64 xa, .int .i64 xv, .int .i64 xo, .bool xg] 39)) HL.out)
    go_enter Try.func30, Try.ntmps30
    go_wp2_with fail
    refine Hc.out.mono ?_
    rintro e w2 ⟨rfl, t2⟩
    have K : Hid (Some' D B x ws.length (tr.length + 1) w w2) := ⟨_, _, _, swp_len _ _ _ _, (by simp), t2.alloc⟩
    clear Hc t2
    go_wp2
    go_end0
    exact ⟨rfl, K.out⟩
  have d3 : (sd == 3) = false := by simpa using h3
  by_cases h4 : sd = 4
  · subst h4
    have Hc := hide' (add_any sa sb (hA.out (.cells #[.int .i64 4, .int .i64 sa, .int .i64 sb, .int .i64 sc, .int .i8 xk, .int .i64 xa, .int .i64 xv, .int .i64 xo, .bool xg] 39)) HL.out)
    go_enter Try.func30, Try.ntmps30
    go_wp2_with fail
    refine Hc.out.mono ?_
    rintro e w2 ⟨rfl, t2⟩
    have K : Hid (Some' D B x ws.length (tr.length + 1) w w2) := ⟨_, _, _, put_len _ _ _, (by simp), t2.alloc⟩
    clear Hc t2
    go_wp2
    go_end0
    exact ⟨rfl, K.out⟩
  have d4 : (sd == 4) = false := by simpa using h4
  by_cases h6 : sd = 6
  · subst h6
    have Hc := hide' (poison_any sa sb (hA.out (.cells #[.int .i64 6, .int .i64 sa, .int .i64 sb, .int .i64 sc, .int .i8 xk, .int .i64 xa, .int .i64 xv, .int .i64 xo, .bool xg] 39)) hs2.out)
    go_enter Try.func30, Try.ntmps30
    go_wp2_with fail
    refine Hc.out.mono ?_
    rintro e w2 ⟨rfl, h2, t2⟩
    have K : Hid (Some' D B x ws.length (tr.length + 1) w w2) := ⟨_, _, _, pfill_len _ _ _ _, (by simp), To.alloc ⟨D, h2, t2, fun j hj => .inl hj⟩⟩
    clear Hc t2 h2
    go_wp2
    go_end0
    exact ⟨rfl, K.out⟩
  have d6 : (sd == 6) = false := by simpa using h6
  by_cases h7 : sd = 7
  · subst h7
    have Hc := hide' (clear_any sa sb (hA.out (.cells #[.int .i64 7, .int .i64 sa, .int .i64 sb, .int .i64 sc, .int .i8 xk, .int .i64 xa, .int .i64 xv, .int .i64 xo, .bool xg] 39)) hs2.out)
    go_enter Try.func30, Try.ntmps30
    go_wp2_with fail
    refine Hc.out.mono ?_
    rintro e w2 ⟨rfl, h2, t2⟩
    have K : Hid (Some' D B x ws.length (tr.length + 1) w w2) := ⟨_, _, _, pfill_len _ _ _ _, (by simp), To.alloc ⟨D, h2, t2, fun j hj => .inl hj⟩⟩
    clear Hc t2 h2
    go_wp2
    go_end0
    exact ⟨rfl, K.out⟩
  have d7 : (sd == 7) = false := by simpa using h7
  have K : Hid (∀ o, Some' D B x ws.length (tr.length + 1) w (w.alloc o)) := fun o => ⟨_, _, _, rfl, (by simp), To.alloc (To.same (H0.out.alloc o))⟩
  clear h1 h2 h3 h4 h6 h7
  go_enter Try.func30, Try.ntmps30
  go_wp2
  go_end0
  exact ⟨rfl, K.out _⟩
end M
end Go.Proofs.Ytoejcpfodbegeaa
