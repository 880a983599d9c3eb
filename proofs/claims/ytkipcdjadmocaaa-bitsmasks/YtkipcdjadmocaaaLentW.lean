import Derived.Test.YtkipcdjadmocaaaRefM4
import Derived.Deep.Upon
set_option linter.unusedVariables false
set_option linter.unusedSimpArgs false
namespace Go.Proofs.Ytkipcdjadmocaaa
open Go.RowKit
def zs (l : List Int) : List Value := l.map (Value.int .i64)
theorem zs_len (l : List Int) : (zs l).length = l.length := by simp [zs]
/-- an empty list, whatever it points to -/
theorem run_nothing (w : World) (a : Option Addr) (cap : Nat) (i : TypeInfo) (hi : Try.prog.info? 3 = some i) (ty : TypeId) : (Builtin.append_ #[22, 22] ty #[.slice none 0 0, .slice a 0 cap]).run Try.prog w = .ok (.slice none 0 0) w := by
  cases a <;> simp [Builtin.append_, run_underlying Try.underlying22, sizeOf, typeInfo, hi, Builtin.lenOf, Builtin.firstCells, loadCells, loadCellsFrom, storeCells]
theorem app_ints {ops : Array Oper} {rest : List Oper} {o : Oper} {act : Act} {Q : Exit → Act → World → Prop} (hgd : o.guard = none) (s x : Operand)
    (ho : o.op = .call { callee := .builtin .append, args := #[s, x], argTypes := #[22, 22] }) (w : World) {a : Option Addr} {len cap : Nat} {ns : List Int}
    (hs : act.eval s = .slice none 0 0) (hx : act.eval x = .slice a len cap) (h : IsInts w a len cap ns) (hn : len ≤ 17592186043904)
    (hK : ∀ ro rc w', w'.ownsRow w.heap.size 3 1 (.slice ro len rc) len (zs ns) → Below w.heap.size w w' → wpList Try.prog ops Q rest (act.put o.dst (.slice ro len rc)) w') : wpList Try.prog ops Q (o :: rest) act w := by
  obtain ⟨i0, hi, hz0, hz1, hz2⟩ := info_parts info3
  obtain ⟨h1, h2, h3, h4⟩ := h
  by_cases h0 : len = 0
  · subst h0
    have hnil : ns = [] := List.length_eq_zero_iff.1 h3
    subst hnil
    refine wpList_plain hgd fun K hK' => ?_
    have hrun := run_nothing w a cap i0 hi o.type
    unfold Oper.wp
    simp [execOp, ho, resolve, invoke, builtin, hs, hx, hrun, Result.andThen]
    exact hK' _ _ (hK none 0 w (World.ownsRow_nil _ _ _ _) (Below.refl _ _))
  · rcases h4 with q | ⟨b, off, rfl, hb, hc⟩
    · exact absurd q h0
    · refine wpList_append_lies w hgd s x 22 ho w.heap.size 3 i0 (.int .i64 0) 1 8 Try.underlying22 hi hz0 hz1 hz2 rfl (by decide) (.slice none 0 0) 0 [] hs (World.ownsRow_nil _ _ _ _) ⟨b, off, none⟩ len cap (zs ns) hx (by rw [zs_len, h3, Nat.mul_one]) (fun j u hu => ?_) (fun u hu => ?_) (by omega) (by unfold maxLen; omega) (by omega) (Nat.le_refl _) w.heap.size rfl (fun g rc w' hrow hgrow _ _ => ?_)
      · have hj : j < ns.length := by have := (List.getElem?_eq_some_iff.1 hu).1; rwa [zs_len] at this
        have e := hc j (by omega)
        have ea : (⟨b, off, none⟩ : Addr).add j = ⟨b, off + j, none⟩ := by unfold Addr.add; split <;> simp_all
        rw [ea, e]
        simp [zs, List.getElem?_eq_getElem hj] at hu
        simp [List.getD, List.getElem?_eq_getElem hj, hu]
      · simp [zs] at hu
        obtain ⟨z, _, rfl⟩ := hu
        rfl
      · rw [Nat.zero_add, List.nil_append] at hrow
        have := hK (some ⟨g, 0, none⟩) rc w' hrow ((Below.refl _ _).grown hgrow (Nat.le_refl _) (fun j hj => by cases hj))
        rwa [← Nat.zero_add len] at this
/-- the marks behind a list -/
def marks (k : Nat) : List Int := (List.range k).map fun (i : Nat) => 1000 + (i : Int)
theorem marks_succ (k : Nat) : marks (k + 1) = marks k ++ [1000 + (k : Int)] := by simp [marks, List.range_succ]
theorem marks_len (k : Nat) : (marks k).length = k := by simp [marks]
set_option maxHeartbeats 2000000 in
set_option maxRecDepth 100000 in
theorem lent_any (a : Option Addr) (len cap : Nat) (ns : List Int) (w : World) (h : IsInts w a len cap ns) (hn : len ≤ 17592186043904) : Calls Try.prog 49 #[.slice a len cap] w fun e w' => ∃ ro rc, e = .returned (.slice ro (len + 64) rc) ∧ w'.ownsRow w.heap.size 3 1 (.slice ro (len + 64) rc) (len + 64) (zs (ns ++ marks 64)) ∧ Below w.heap.size w w' := by
  obtain ⟨i0, hi, hz0, hz1, hz2⟩ := info_parts info3
  have HI := hide' h
  have hn' : (len : Int) ≤ 17592186043904 := by omega
  have Hlen : Hid (len ≤ 17592186043904) := hn
  have H0 : Hid (zs (ns ++ marks 0) = zs ns) := by show _ = _; simp [marks]
  have HS : Hid (∀ k : Nat, zs (ns ++ marks (k + 1)) = zs (ns ++ marks k) ++ [.int .i64 (1000 + (k : Int))]) := fun k => by rw [marks_succ]; simp [zs]
  clear h hn
  obtain ⟨C, hC⟩ : ∃ C, w.heap.size = C := ⟨_, rfl⟩
  have HC := hide' hC
  rw [hC]
  go_enter Try.func49, Try.ntmps49
  go_wp2_with (first | (at_builtin; refine app_ints rfl _ _ rfl _ rfl rfl HI.out Hlen.out ?_; intro ro1 rc1 w1 hrow1 b1))
  rw [hC] at hrow1 b1
  clear hC
  rw [← H0.out] at hrow1
  go_loopw [3, 4] (fun v i wx => ∃ (k : Nat) (ro : Option Addr) (rc : Nat), k ≤ 64 ∧ i = .int .i64 (k : Int) ∧ v = .slice ro (len + k) rc ∧ wx.ownsRow C 3 1 (.slice ro (len + k) rc) (len + k) (zs (ns ++ marks k)) ∧ Below C w wx) (fun _ i _ => 64 - (intOf i).toNat)
  case atStart => exact ⟨0, ro1, rc1, by omega, rfl, rfl, hrow1, b1⟩
  case round =>
    clear hrow1 b1
    obtain ⟨k, ro, rc, hk, rfl, rfl, hrow, bk⟩ := hrel
    have hsk : C ≤ wr.heap.size := by rw [← HC.out]; exact bk.size
    by_cases hlt : k < 64
    · have hlt' : (k : Int) < 64 := by omega
      have hs := HS.out k
      have hrB := own_ge hrow
      have HK := hide' hs
      have hbd : len + k + 1 ≤ 17592186044000 := by have := Hlen.out; omega
      have HB := hide' hbd
      generalize zs (ns ++ marks k) = L at *
      clear hs hbd
      go_wp2_with (first | (at_builtin; refine wpList_append_lies _ rfl _ _ 22 rfl C 3 i0 (.int .i64 0) 1 8 Try.underlying22 hi hz0 hz1 hz2 rfl (by decide) _ _ _ rfl (hrow.alloc _) ⟨wr.heap.size, 0, none⟩ 1 1 [.int .i64 (1000 + (k : Int))] rfl rfl (cell_one_new _ _ _) (by simp [Value.oneCell']) (by decide) (by have := HB.out; unfold maxLen; omega) (by have := HB.out; omega) (by simp; omega) (wr.heap.size + 1) (by simp) ?_; intro g3 rc' w3 hrow3 hgrow3 hat3 hlt3))
      have b3 : Below C w w3 := bk.grown ((World.grownBy_alloc wr _ _).trans hgrow3) hsk hrB
      exact ⟨⟨k + 1, some ⟨g3, 0, none⟩, rc', by omega, by go_num, rfl, by rw [HK.out]; exact hrow3, b3⟩, by simp [intOf]; omega⟩
    · have hk64 : k = 64 := by omega
      subst hk64
      go_wp2
      go_ret
      exact ⟨ro, rc, rfl, hrow, bk⟩
theorem zs_row {B n rc : Nat} {ro : Option Addr} {l : List Int} {w : World} (h : w.ownsRow B 3 1 (.slice ro n rc) n (zs l)) (hl : l.length = n) : IsInts w ro n rc l := by
  rcases h.2 with ⟨hv, h0⟩ | ⟨g, cap, cur, hv, hb, hg, h1, h2, h3, h4⟩
  · simp only [Value.slice.injEq] at hv
    obtain ⟨rfl, rfl, rfl⟩ := hv
    exact ⟨Nat.le_refl _, Nat.zero_le _, hl, .inl rfl⟩
  · simp only [Value.slice.injEq] at hv
    obtain ⟨rfl, _, rfl⟩ := hv
    refine ⟨h1, h2, hl, .inr ⟨g, 0, rfl, (Array.getElem?_eq_some_iff.1 hg).1, fun j hj => ?_⟩⟩
    rw [Nat.zero_add]
    refine row_at h j _ ?_
    have hjl : j < l.length := by omega
    simp [zs, List.getD, List.getElem?_eq_getElem hjl]
set_option maxHeartbeats 1000000 in
set_option maxRecDepth 100000 in
/-- a lent list stands -/
theorem stands_any (x a : Option Addr) (len cap xc : Nat) (ns : List Int) (w : World) (hx : IsInts w x (len + 64) xc (ns ++ marks 64)) (h : IsInts w a len cap ns) (hn : len ≤ 17592186043904) : Calls Try.prog 50 #[.slice x (len + 64) xc, .slice a len cap] w fun e w' => e = .returned (.bool true) ∧ Below w.heap.size w w' := by
  have HL := hide' (lent_any a len cap ns w h hn)
  have hlen : ns.length = len := h.2.2.1
  have Hx := hide' hx
  have Hl : Hid ((ns ++ marks 64).length = len + 64) := by show _ = _; rw [List.length_append, marks_len, hlen]
  clear hx h hn
  generalize ns ++ marks 64 = L at *
  generalize len + 64 = n at *
  go_enter Try.func50, Try.ntmps50
  go_wp2_with fail
  refine HL.out.mono ?_
  rintro e w1 ⟨ro, rc, rfl, hrow, b1⟩
  have HS := hide' (sameInts_any x ro n xc rc L w1 (Hx.out.below (Nat.le_refl _) b1) (zs_row hrow Hl.out))
  have HB := hide' b1
  clear hrow b1
  go_wp2_with fail
  refine HS.out.mono ?_
  rintro e w2 ⟨rfl, nn, rfl⟩
  go_wp2_with fail
  go_ret
  exact ⟨rfl, below_drewN HB.out nn⟩
end Go.Proofs.Ytkipcdjadmocaaa
