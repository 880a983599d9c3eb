import Derived.Test.YtfeehnfpfheojaaMade
import Derived.Lib.SliceRun
import Derived.Test.YtfeehnfpfheojaaHl2
import Derived.Test.YtfeehnfpfheojaaSumP
import Derived.Deep.QuietTactic
import Derived.Test.YtfeehnfpfheojaaJA
import Derived.Test.YtfeehnfpfheojaaJB
import Derived.Laws.StructEq
import Derived.Deep.CutBlock
set_option linter.unusedVariables false
set_option linter.unusedSimpArgs false
namespace Go.Proofs.Ytfeehnfpfheojaa
open Go.RowKit
namespace M
variable {D : Nat → Prop} {B x : Nat} {ws : List Int} {tr : List Ac} {bad : Nat} {w w' : World}
theorem eq_no (w : World) (a : Addr) (n c : Nat) : (binOp .eql 90 (.slice (some a) n c) (.slice none 0 0)).run Try.prog w = .ok (.bool false) w := Lib.run_eql_slice_nil w 90 152 (some a) n c 0 0 Try.underlying90
theorem eq_yes (w : World) : (binOp .eql 90 (.slice none 0 0) (.slice none 0 0)).run Try.prog w = .ok (.bool true) w := Lib.run_eql_slice_nil w 90 152 none 0 0 0 0 Try.underlying90
set_option maxHeartbeats 400000 in
theorem clone_nil (w : World) : Calls Try.prog 85 #[.slice none 0 0] w fun e w' => e = .returned (.slice none 0 0) ∧ w' = w := by
  have h := eq_yes
  go_enter Try.func85, Try.ntmps85
  go_wp2
  go_ret
  exact ⟨rfl, rfl⟩
def acs (tr : List Ac) : List Value := tr.flatMap Ac.cells
theorem acs_len (tr : List Ac) : (acs tr).length = tr.length * 5 := by
  induction tr with
  | nil => rfl
  | cons a r ih => simp only [acs, List.flatMap_cons, List.length_append, List.length_cons] at ih ⊢; rw [ih]; simp [Ac.cells]; omega
theorem acs_one (tr : List Ac) : ∀ u ∈ acs tr, u.oneCell' = true := by
  intro u hu
  obtain ⟨z, _, hz⟩ := List.mem_flatMap.1 hu
  simp only [Ac.cells, List.mem_cons, List.not_mem_nil, or_false] at hz
  rcases hz with rfl | rfl | rfl | rfl | rfl <;> rfl
theorem row_cell {B e size n cap g : Nat} {xs : List Value} (h : w.ownsRow B e size (.slice (some ⟨g, 0, none⟩) n cap) n xs) : ∀ j u, xs[j]? = some u → w.cell? ((⟨g, 0, none⟩ : Addr).add j) = some u := by
  intro j u hj
  rcases h.2 with ⟨hv, _⟩ | ⟨g', cap', cur, hv, hb, hg', h1, h2, h3, h4⟩
  · cases hv
  · simp only [Value.slice.injEq, Option.some.injEq] at hv
    obtain ⟨hv1, _, _⟩ := hv
    cases hv1
    have : (⟨g, 0, none⟩ : Addr).add j = ⟨g, j, none⟩ := by unfold Addr.add; split <;> simp_all
    rw [this, Lib.cell_of_heap hg']
    rw [← h4] at hj
    have hlt := (List.getElem?_eq_some_iff.1 hj).1
    rw [List.length_take] at hlt
    rw [List.getElem?_take_of_lt (by omega), Array.getElem?_toList] at hj
    exact hj
theorem wpList_clone (w0 : World) {ops : Array Oper} {rest : List Oper} {o : Oper} {a : Act} {Q : Exit → Act → World → Prop} (hgd : o.guard = none) (s y : Operand)
    (ho : o.op = .call { callee := .builtin .append, args := #[s, y], argTypes := #[90, 90] }) (hs : a.eval s = .slice (some ⟨w0.heap.size, 0, none⟩) 0 0) (gt cap B : Nat) (tr : List Ac) (hx : a.eval y = .slice (some ⟨gt, 0, none⟩) tr.length cap)
    (hrow : w0.ownsRow B 152 5 (.slice (some ⟨gt, 0, none⟩) tr.length cap) tr.length (acs tr)) (hne : 0 < tr.length) (hl : tr.length < 2000000000000)
    (h : ∀ g cap' w', w'.ownsRow w0.heap.size 152 5 (.slice (some ⟨g, 0, none⟩) tr.length cap') tr.length (acs tr) → Below w0.heap.size w0 w' → wpList Try.prog ops Q rest (a.put o.dst (.slice (some ⟨g, 0, none⟩) tr.length cap')) w') :
    wpList Try.prog ops Q (o :: rest) a (w0.alloc (.cells #[] 152)) := by
  obtain ⟨i0, hi0, hz0, hz1, hz2⟩ := info_parts info37
  refine wpList_append_lies _ hgd s y 90 ho w0.heap.size 152 i0 _ 5 40 Try.underlying90 hi0 hz0 hz1 hz2 rfl (by omega) _ 0 [] hs (World.ownsRow_made w0 #[] 0 (Nat.le_refl _) (by decide) rfl) ⟨gt, 0, none⟩ tr.length cap (acs tr) hx (acs_len tr) (row_cell (World.ownsRow.alloc hrow _)) (acs_one tr) hne (by unfold maxLen; omega) (by omega) (by simp) _ rfl ?_
  intro g cap' w1 hown hgrow hat hlt
  rw [Nat.zero_add, List.nil_append] at hown
  rw [Nat.zero_add]
  have t : Turn (fun j => j = w0.heap.size) w0 w1 := ((Turn.refl _ w0).alloc _).grown hgrow (fun k hk _ => by simpa [Value.ownBlock] using hk.symm)
  exact h g cap' w1 hown (t.below (fun k hk => by rw [hk]; exact Nat.le_refl _) (Nat.le_refl _))
set_option maxRecDepth 100000 in
set_option maxHeartbeats 400000 in
theorem clone_some (gt cap : Nat) (w : World) (hrow : w.ownsRow B 152 5 (.slice (some ⟨gt, 0, none⟩) tr.length cap) tr.length (acs tr)) (hne : 0 < tr.length) (hl : tr.length < 2000000000000) : Calls Try.prog 85 #[.slice (some ⟨gt, 0, none⟩) tr.length cap] w fun e w' => ∃ g rc, e = .returned (.slice (some ⟨g, 0, none⟩) tr.length rc) ∧ w'.ownsRow w.heap.size 152 5 (.slice (some ⟨g, 0, none⟩) tr.length rc) tr.length (acs tr) ∧ Below w.heap.size w w' := by
  have h := eq_no
  have HL := hide' hl
  have HN := hide' hne
  clear hl hne
  go_enter Try.func85, Try.ntmps85
  go_wp2_with (at_builtin; refine wpList_clone w rfl _ _ rfl rfl gt cap B tr rfl hrow HN.out HL.out ?_; intro g cap' w1 h1 b1)
  go_ret
  exact ⟨g, cap', rfl, h1, b1⟩
theorem clone_any (ao : Option Addr) (cap : Nat) (w : World) (hrow : w.ownsRow B 152 5 (.slice ao tr.length cap) tr.length (acs tr)) (hn : tr = [] → ao = none) (hl : tr.length < 2000000000000) : Calls Try.prog 85 #[.slice ao tr.length cap] w fun e w' => ∃ ro rc, e = .returned (.slice ro tr.length rc) ∧ w'.ownsRow w.heap.size 152 5 (.slice ro tr.length rc) tr.length (acs tr) ∧ Below w.heap.size w w' := by
  by_cases h0 : tr = []
  · have := hn h0
    subst this
    subst h0
    rcases hrow.2 with ⟨hv, _⟩ | ⟨g', cap', cur, hv, _⟩
    · simp only [Value.slice.injEq] at hv
      obtain ⟨_, _, rfl⟩ := hv
      exact (clone_nil w).mono fun e w' ⟨he, hw⟩ => by subst hw; exact ⟨none, 0, he, World.ownsRow_nil _ _ _ _, Below.refl _ _⟩
    · cases hv
  · have h1 : 0 < tr.length := List.length_pos_iff.2 h0
    obtain ⟨g, cap', hv, _, _⟩ := hrow.form h1
    simp only [Value.slice.injEq] at hv
    obtain ⟨rfl, _, rfl⟩ := hv
    exact (clone_some g cap w hrow h1 hl).mono fun e w' ⟨g', rc, he, h2, h3⟩ => ⟨_, rc, he, h2, h3⟩
set_option maxRecDepth 100000 in
set_option maxHeartbeats 400000 in
theorem trace_any (h : Mem D B x ws tr bad w) (hl : tr.length < 2000000000000) : Calls Try.prog 41 #[.pointer (some ⟨x, 0, none⟩)] w fun e w' => ∃ ro rc, e = .returned (.slice ro tr.length rc) ∧ w'.ownsRow w.heap.size 152 5 (.slice ro tr.length rc) tr.length (acs tr) ∧ Below w.heap.size w w' := by
  obtain ⟨hb, g, ao, cap, hm, hd⟩ := h
  have c1 := hm.c1
  have H := hide' (clone_any ao cap w hm.row hm.nn hl)
  clear hm hd hb hl
  go_enter Try.func41, Try.ntmps41
  go_wp2_with fail
  refine H.out.mono ?_
  rintro e w2 ⟨ro, rc, rfl, h2, b2⟩
  go_wp2
  go_ret
  exact ⟨ro, rc, rfl, h2, b2⟩
end M
end Go.Proofs.Ytfeehnfpfheojaa
set_option linter.unusedVariables false
set_option linter.unusedSimpArgs false
namespace Go.Proofs.Ytfeehnfpfheojaa
open Go.RowKit Go.Sort
namespace Ar
open Fr
variable {B : Nat} {w w' : World}
theorem row_ints {ro : Option Addr} {rc : Nat} {ns : List Int} (h : w.ownsRow B 3 1 (.slice ro ns.length rc) ns.length (M.ivs ns)) : M.Ints w ro ns := by
  by_cases h0 : ns = []
  · exact .inl h0
  · have hp : 0 < ns.length := List.length_pos_iff.2 h0
    obtain ⟨g, cap', hv, h2, h3⟩ := h.form hp
    simp only [Value.slice.injEq] at hv
    obtain ⟨rfl, _, rfl⟩ := hv
    refine .inr ⟨g, 0, rfl, h3, fun j hj => ?_⟩
    rw [Nat.zero_add, h.cellAt j (by omega)]
    simp [M.ivs, List.getD, hj]
theorem bel_drewN {B : Nat} {w w' : World} (b : RowKit.Below B w w') (n : Nat) : RowKit.Below B w (w'.drewN n) := ⟨b.os, b.tape, b.output, b.size, b.block⟩
set_option maxRecDepth 100000 in
set_option maxHeartbeats 4000000 in
theorem changed_any (a n c : Int) {ro ro' : Option Addr} {rc rc' : Nat} {ws ns : List Int} (hI : M.Ints w ro ws) (hJ : M.Ints w ro' ns) (hl : ns.length = ws.length) (hl2 : ws.length < 1000000) (e0 : wrap64 (a + n) = a + n)
    (hc : ∀ i, i < ws.length → ns.getD i 0 = if a ≤ (i : Int) ∧ (i : Int) < a + n then c else ws.getD i 0) :
    Calls Try.prog 59 #[.slice ro ws.length rc, .slice ro' ns.length rc', .int .i64 a, .int .i64 n, .int .i64 c] w fun r w' => r = .returned (.bool true) ∧ Below w.heap.size w w' := by
  rw [hl]
  have HI := hide' hI
  have HJ := hide' hJ
  have Hc := hide' hc
  have Hl2 := hide' hl2
  have Hl := hide' hl
  clear hI hJ hc hl2 hl
  go_enter Try.func59, Try.ntmps59
  go_wp2_with fail
  go_loopw [11] (fun t11 wx => ∃ (k : Nat), t11 = .int .i64 (k : Int) ∧ k ≤ ws.length ∧ Below w.heap.size w wx) (fun t11 _ => ws.length - (intOf t11).toNat)
  case atStart => exact ⟨0, rfl, Nat.zero_le _, Below.refl _ _⟩
  case round =>
    obtain ⟨k, rfl, hk, hb⟩ := hrel
    by_cases hlt : k < ws.length
    · have e1 := vk k (by have := Hl2.out; omega)
      have hlt' : (k : Int) < (ws.length : Int) := by omega
      have Hend := hide' (hend hlt)
      have hcc := Hc.out k hlt
      rcases HI.out with q | ⟨g, off, hro, hg, hI⟩
      · rw [q] at hlt; simp at hlt
      rcases HJ.out with q | ⟨g', off', hro', hg', hJ⟩
      · have := Hl.out; rw [q] at this; simp at this; omega
      have i0 := (hb.cell (p := ⟨g, off + k, none⟩) hg).trans (hI k hlt)
      have j0 := (hb.cell (p := ⟨g', off' + k, none⟩) hg').trans (hJ k (by have := Hl.out; omega))
      obtain rfl := hro
      obtain rfl := hro'
      have Hb := hide' hb
      by_cases hin : a ≤ (k : Int) ∧ (k : Int) < a + n
      · rw [if_pos hin] at hcc
        rw [hcc] at j0
        obtain ⟨h1, h2⟩ := hin
        generalize ws.getD k 0 = u at *
        clear hcc hI hJ hg hg' hb hk
        go_wp2_with fail
        go_quiet (fail)
        go_wp2
        go_roundw
        case rel => exact ⟨k + 1, by go_num, hlt, by first | exact Hb.out | exact bel_drewN Hb.out _⟩
        case measure => first | exact Hend.out | (rw [e1]; exact Hend.out)
      · rw [if_neg hin] at hcc
        rw [hcc] at j0
        have hin' : ¬ (a ≤ (k : Int)) ∨ (a ≤ (k : Int) ∧ ¬ ((k : Int) < a + n)) := by omega
        generalize ws.getD k 0 = u at *
        clear hcc hI hJ hg hg' hb hk hin
        rcases hin' with h1 | ⟨h1, h2⟩
        all_goals
          go_wp2_with fail
          go_quiet (fail)
          go_wp2
          go_roundw
          case rel => exact ⟨k + 1, by go_num, hlt, by first | exact Hb.out | exact bel_drewN Hb.out _⟩
          case measure => first | exact Hend.out | (rw [e1]; exact Hend.out)
    · obtain rfl : k = ws.length := by omega
      have Hb := hide' hb
      clear hb hk
      go_wp2
      go_ret
      exact ⟨rfl, Hb.out⟩
end Ar
end Go.Proofs.Ytfeehnfpfheojaa
set_option linter.unusedVariables false
set_option linter.unusedSimpArgs false
namespace Go.Proofs.Ytfeehnfpfheojaa
open Go.RowKit Go.Sort
namespace Bk
open Fr
theorem fof : Try.prog.underlying 110 = some (.struct (Try.prog.fieldsOf 110)) := by kernel_rfl
theorem hld : Try.prog.stoodInHeld 110 = false := by kernel_rfl
set_option maxRecDepth 100000 in
theorem flds (d : Nat) (a b : Int) (g : Bool) (w : World) : (Op.eqFields (d + 1) #[.int .i64 a, .int .i64 b, .bool g] #[.int .i64 a, .int .i64 b, .bool g] (Try.prog.fieldsOf 110).toList).run Try.prog w = .ok true w := by
  have h1 : (Try.prog.fieldsOf 110) = (match Try.prog.underlying 110 with | some (.struct fs) => fs | _ => #[]) := rfl
  rw [h1, Try.underlying110]
  simp [Op.eqFields, go_sem, Try.underlying3, Try.underlying4]
theorem struct_eq (a b : Int) (e : Bool) (w : World) : (binOp .eql 110 (.agg #[.int .i64 a, .int .i64 b, .bool e]) (.agg #[.int .i64 a, .int .i64 b, .bool e])).run Try.prog w = .ok (.bool true) w := by
  rw [run_eql_struct]
  have := run_equalIn_agg (P := Try.prog) w 9999 110 #[.int .i64 a, .int .i64 b, .bool e] #[.int .i64 a, .int .i64 b, .bool e] fof hld
  rw [show (10000 : Nat) = 9999 + 1 from rfl, this, show (9999 : Nat) = 9998 + 1 from rfl, flds]
  rfl
set_option maxRecDepth 100000 in
set_option maxHeartbeats 1000000 in
theorem at_any (k n : Int) (w : World) (hn : 0 < n) (hn2 : n ≤ 1048576) : Calls Try.prog 15 #[.int .i64 k, .int .i64 n] w fun e w' => e = .returned (.int .i64 (k % n)) ∧ w' = w := by
  by_cases h : k < 0
  · obtain ⟨t1, t2, t3, t4⟩ := M.tmod_neg h hn
    by_cases hz : k.tmod n < 0
    · rw [t3 hz]
      clear t3 t4 h
      go_enter Try.func15, Try.ntmps15
      go_wp2
      go_ret
      exact ⟨rfl, rfl⟩
    · have e := t4 (by omega)
      have e2 : k.tmod n = 0 := by omega
      rw [e]
      clear t3 t4 h e
      go_enter Try.func15, Try.ntmps15
      go_wp2
      go_ret
      exact ⟨rfl, rfl⟩
  · have h3 := Int.emod_nonneg k (b := n) (by omega)
    go_enter Try.func15, Try.ntmps15
    go_wp2
    go_ret
    exact ⟨rfl, rfl⟩
/-- the arena, what is out ('all'), and the row of what was got -/
def Bs (w0 : World) (e ab x cb : Nat) (got all : List Int) (ro : Option Addr) (rc : Nat) (w : World) : Prop :=
  ∃ D ws L O, Ar.AtO D w0.heap.size ab x ws [] 0 0 L O cb w ∧ ws.length = e ∧ Got all O ∧ w.ownsRow w0.heap.size 3 1 (.slice ro got.length rc) got.length (M.ivs got) ∧ (∀ j, M.At ro j → ¬ D j) ∧ Below w0.heap.size w0 w
variable {w0 w w' : World} {e ab x cb : Nat} {got all : List Int} {ro : Option Addr} {rc : Nat}
theorem own_lt {B ee size n cap : Nat} {ao : Option Addr} {xs : List Value} (h : w.ownsRow B ee size (.slice ao n cap) n xs) {j : Nat} (hj : M.At ao j) : B ≤ j ∧ j < w.heap.size := by
  obtain ⟨a, rfl, rfl⟩ := hj
  rcases h.2 with ⟨hv, _⟩ | ⟨g', cap', cur, hv, hb, hg', _⟩
  · cases hv
  · simp only [Value.slice.injEq, Option.some.injEq] at hv
    obtain ⟨rfl, _, _⟩ := hv
    exact ⟨hb, lt_of_heap hg'⟩
theorem ato_lo {D : Nat → Prop} {B : Nat} {ws : List Int} {tr : List M.Ac} {bad : Nat} {s : Int} {L : List Bk} {O : List (Int × Int)} (H : Ar.AtO D B ab x ws tr bad s L O cb w) {j : Nat} (hj : D j) : B ≤ j ∧ j < w.heap.size := H.atl.lo hj
/-- the arena has turned: what it leaves -/
theorem Bs.oto {D : Nat → Prop} {ws' : List Int} {L' : List Bk} {O O' : List (Int × Int)} {all' : List Int} {cb' : Nat} {ws : List Int} {L : List Bk} (h1 : Ar.AtO D w0.heap.size ab x ws [] 0 0 L O cb w) (h4 : w.ownsRow w0.heap.size 3 1 (.slice ro got.length rc) got.length (M.ivs got)) (h5 : ∀ j, M.At ro j → ¬ D j) (h6 : Below w0.heap.size w0 w) (t : Ar.OTo D w0.heap.size ab x ws' [] 0 0 L' O' cb' w w') (hl : ws'.length = e) (hg : Got all' O') : Bs w0 e ab x cb' got all' ro rc w' := by
  obtain ⟨D', hA, tt, ss⟩ := t
  refine ⟨D', ws', L', O', hA, hl, hg, tt.row h4 (fun j hj => h5 j (M.own_at hj)), fun j hj q => ?_, h6.trans (tt.below (fun j hj => (ato_lo h1 hj).1) h6.size)⟩
  rcases ss j q with z | z
  · exact h5 j hj z
  · have := (own_lt h4 hj).2; omega
theorem Bs.take (n : Int) (h : Bs w0 e ab x cb got all ro rc w) (hc : cb < 4611686018425000000) (hn2 : n ≤ 9223372036854775807) : Calls Try.prog 46 #[.pointer (some ⟨ab, 0, none⟩), .int .i64 n] w fun r w' => (∃ er : Int, (er == 0) = false ∧ r = .returned (.tuple #[.int .i64 0, .int .i64 er]) ∧ Bs w0 e ab x (cb + 65537) got all ro rc w') ∨ (∃ a, r = .returned (.tuple #[.int .i64 a, .int .i64 0]) ∧ Bs w0 e ab x (cb + 65537) got (all ++ [a]) ro rc w') := by
  obtain ⟨D, ws, L, O, h1, h2, h3, h4, h5, h6⟩ := h
  refine (Ar.take_o n h1 hc hn2).mono ?_
  rintro r w' (⟨er, q1, q2, q3⟩ | ⟨a, ws', L', q1, q2, q3, q4⟩)
  · exact .inl ⟨er, q1, q2, Bs.oto h1 h4 h5 h6 q3 h2 h3⟩
  · exact .inr ⟨a, q1, Bs.oto h1 h4 h5 h6 q2 (q3.trans h2) (h3.more a n)⟩
theorem Bs.give {k : Nat} {a : Int} (h : Bs w0 e ab x cb got all ro rc w) (hk : all[k]? = some a) (hc : cb < 4611686018425000000) : Calls Try.prog 44 #[.pointer (some ⟨ab, 0, none⟩), .int .i64 a] w fun r w' => r = .returned (.int .i64 0) ∧ Bs w0 e ab x (cb + 65537) got (all.eraseIdx k) ro rc w' := by
  obtain ⟨D, ws, L, O, h1, h2, h3, h4, h5, h6⟩ := h
  refine (Ar.give_o a h1 (h3.has (List.mem_of_getElem? hk)) hc).mono ?_
  rintro r w' ⟨q1, ws', L', q2, q3⟩
  exact ⟨q1, Bs.oto h1 h4 h5 h6 q2 (q3.trans h2) (h3.less h1.nd hk)⟩
theorem Bs.again {a : Int} (h : Bs w0 e ab x cb got all ro rc w) (hn : a ∉ all) (ha : 0 ≤ a ∧ a ≤ 65536) : Calls Try.prog 44 #[.pointer (some ⟨ab, 0, none⟩), .int .i64 a] w fun r w' => r = .returned (.int .i64 151) ∧ w' = w := by
  obtain ⟨D, ws, L, O, h1, h2, h3, h4, h5, h6⟩ := h
  refine Ar.give_again a (Oo.okk_of (by omega) (by omega)) h1 ?_
  cases hh : Oo.hasK O a with
  | false => rfl
  | true =>
    exfalso
    obtain ⟨p, hp, e1⟩ := List.any_eq_true.1 hh
    exact hn (h3.mem_iff.2 (List.mem_map.2 ⟨p, hp, by simpa using e1⟩))
theorem Bs.key (h : Bs w0 e ab x cb got all ro rc w) {a : Int} (ha : a ∈ all) : 0 ≤ a ∧ a ≤ 65536 := by
  obtain ⟨D, ws, L, O, h1, h2, h3, h4, h5, h6⟩ := h
  exact h1.key (h3.has ha)
theorem Bs.nodup (h : Bs w0 e ab x cb got all ro rc w) : all.Nodup := by
  obtain ⟨D, ws, L, O, h1, h2, h3, h4, h5, h6⟩ := h
  refine h3.nodup_iff.2 ?_
  rw [List.nodup_iff_pairwise_ne]
  exact List.pairwise_map.2 h1.nd
theorem Bs.live (h : Bs w0 e ab x cb got all ro rc w) : Calls Try.prog 39 #[.pointer (some ⟨ab, 0, none⟩)] w fun r w' => r = .returned (.int .i64 (all.length : Nat)) ∧ w' = w := by
  obtain ⟨D, ws, L, O, h1, h2, h3, h4, h5, h6⟩ := h
  have := Ar.atl_live h1.atl
  rw [h1.len.1, ← h3.len] at this
  exact this
theorem Bs.len (h : Bs w0 e ab x cb got all ro rc w) : all.length ≤ e := by
  obtain ⟨D, ws, L, O, h1, h2, h3, h4, h5, h6⟩ := h
  have := h1.len.2
  rw [h3.len]
  omega
theorem Bs.bel (h : Bs w0 e ab x cb got all ro rc w) : Below w0.heap.size w0 w := by
  obtain ⟨D, ws, L, O, h1, h2, h3, h4, h5, h6⟩ := h
  exact h6
theorem Bs.row (h : Bs w0 e ab x cb got all ro rc w) : w.ownsRow w0.heap.size 3 1 (.slice ro got.length rc) got.length (M.ivs got) := by
  obtain ⟨D, ws, L, O, h1, h2, h3, h4, h5, h6⟩ := h
  exact h4
theorem Bs.cell (h : Bs w0 e ab x cb got all ro rc w) {k : Nat} {a : Int} (hk : got[k]? = some a) : ∃ g, ro = some ⟨g, 0, none⟩ ∧ w.cell? ⟨g, k, none⟩ = some (.int .i64 a) := by
  have hr := h.row
  have hl := (List.getElem?_eq_some_iff.1 hk).1
  obtain ⟨g, cap', hv, _, _⟩ := hr.form (by omega)
  simp only [Value.slice.injEq] at hv
  obtain ⟨rfl, _, rfl⟩ := hv
  refine ⟨g, rfl, ?_⟩
  have := M.row_cell hr k (.int .i64 a) (by simp [M.ivs, hk])
  rw [show (⟨g, 0, none⟩ : Addr).add k = ⟨g, k, none⟩ by unfold Addr.add; split <;> simp_all] at this
  exact this
/-- another row is turned, or grows -/
theorem Bs.turned {S : Nat → Prop} (h : Bs w0 e ab x cb got all ro rc w) (t : Turn S w w') (hS : ∀ j, S j → w0.heap.size ≤ j) (hn : ∀ D : Nat → Prop, (∃ ws L O, Ar.AtO D w0.heap.size ab x ws [] 0 0 L O cb w) → ∀ j, S j → ¬ D j) (hr : ∀ j, M.At ro j → ¬ S j) : Bs w0 e ab x cb got all ro rc w' := by
  obtain ⟨D, ws, L, O, h1, h2, h3, h4, h5, h6⟩ := h
  exact ⟨D, ws, L, O, h1.kept t (fun j hj q => hn D ⟨ws, L, O, h1⟩ j q hj), h2, h3, t.row h4 (fun j hj => hr j (M.own_at hj)), h5, h6.trans (t.below hS h6.size)⟩
/-- the row of what was got has grown -/
theorem Bs.grown (h : Bs w0 e ab x cb got all ro rc w) {a : Int} {gg cap' : Nat} (hr1 : w'.ownsRow w0.heap.size 3 1 (.slice (some ⟨gg, 0, none⟩) (got.length + 1) cap') (got.length + 1) (M.ivs got ++ [.int .i64 a])) (t : Turn (M.At ro) w w') (hg : M.At ro gg ∨ w.heap.size ≤ gg) : Bs w0 e ab x cb (got ++ [a]) all (some ⟨gg, 0, none⟩) cap' w' := by
  obtain ⟨D, ws, L, O, h1, h2, h3, h4, h5, h6⟩ := h
  refine ⟨D, ws, L, O, h1.kept t (fun j hj q => h5 j q hj), h2, h3, ?_, fun j hj q => ?_, h6.trans (t.below (fun j hj => (own_lt h4 hj).1) h6.size)⟩
  · rw [List.length_append, M.ivs, List.map_append]
    exact hr1
  · obtain ⟨a', ha, rfl⟩ := hj
    cases ha
    rcases hg with z | z
    · exact h5 _ z q
    · have := (ato_lo h1 q).2; simp only at this; omega
/-- the rest, as it is copied -/
def rj (got : List Int) (k j : Nat) : List Int := (got.take j).eraseIdx k
theorem rj_zero (got : List Int) (k : Nat) : rj got k 0 = [] := by simp [rj]
theorem rj_end (got : List Int) (k : Nat) : rj got k got.length = got.eraseIdx k := by simp [rj]
theorem rj_same (got : List Int) (k : Nat) (h : k < got.length) : rj got k (k + 1) = rj got k k := by
  unfold rj
  have hm : (got.take k).length = k := by rw [List.length_take]; omega
  rw [List.take_succ_eq_append_getElem h, List.eraseIdx_append_of_length_le (by omega), List.eraseIdx_of_length_le (l := got.take k) (by omega), hm, Nat.sub_self, List.eraseIdx_cons_zero, List.append_nil]
theorem rj_more (got : List Int) {k j : Nat} {a : Int} (h : got[j]? = some a) (hne : j ≠ k) : rj got k (j + 1) = rj got k j ++ [a] := by
  have hl := (List.getElem?_eq_some_iff.1 h).1
  have he := (List.getElem?_eq_some_iff.1 h).2
  unfold rj
  rw [List.take_succ_eq_append_getElem hl, he]
  by_cases hk : k < j
  · rw [List.eraseIdx_append_of_lt_length (by simp; omega)]
  · rw [List.eraseIdx_append_of_length_le (by simp; omega), List.eraseIdx_of_length_le (l := got.take j) (by simp; omega)]
    congr 1
    rw [List.eraseIdx_of_length_le (by simp; omega)]
theorem rj_len (got : List Int) (k j : Nat) : (rj got k j).length ≤ got.length := by
  unfold rj
  exact Nat.le_trans (List.length_eraseIdx_le ..) (by rw [List.length_take]; omega)
/-- amid the copying: the row of what was got, and the rest's -/
def B2 (w0 : World) (e ab x cb : Nat) (got all : List Int) (ro : Option Addr) (rc : Nat) (rest : List Int) (so : Option Addr) (sc : Nat) (w : World) : Prop :=
  ∃ D ws L O, Ar.AtO D w0.heap.size ab x ws [] 0 0 L O cb w ∧ ws.length = e ∧ Got all O ∧ w.ownsRow w0.heap.size 3 1 (.slice ro got.length rc) got.length (M.ivs got) ∧ (∀ j, M.At ro j → ¬ D j) ∧ Below w0.heap.size w0 w ∧ w.ownsRow w0.heap.size 3 1 (.slice so rest.length sc) rest.length (M.ivs rest) ∧ (∀ j, M.At so j → ¬ D j) ∧ ∀ j, M.At so j → ¬ M.At ro j
variable {rest : List Int} {so : Option Addr} {sc : Nat}
theorem B2.start (h : Bs w0 e ab x cb got all ro rc w) : B2 w0 e ab x cb got all ro rc [] none 0 w := by
  obtain ⟨D, ws, L, O, h1, h2, h3, h4, h5, h6⟩ := h
  exact ⟨D, ws, L, O, h1, h2, h3, h4, h5, h6, World.ownsRow_nil _ _ _ _, fun j hj => (by obtain ⟨a, ha, _⟩ := hj; cases ha), fun j hj => (by obtain ⟨a, ha, _⟩ := hj; cases ha)⟩
theorem B2.bs (h : B2 w0 e ab x cb got all ro rc rest so sc w) : Bs w0 e ab x cb got all ro rc w := by
  obtain ⟨D, ws, L, O, h1, h2, h3, h4, h5, h6, _⟩ := h
  exact ⟨D, ws, L, O, h1, h2, h3, h4, h5, h6⟩
theorem B2.fin (h : B2 w0 e ab x cb got all ro rc rest so sc w) : Bs w0 e ab x cb rest all so sc w := by
  obtain ⟨D, ws, L, O, h1, h2, h3, h4, h5, h6, h7, h8, h9⟩ := h
  exact ⟨D, ws, L, O, h1, h2, h3, h7, h8, h6⟩
theorem B2.grown (h : B2 w0 e ab x cb got all ro rc rest so sc w) {a : Int} {gg cap' : Nat} (hr1 : w'.ownsRow w0.heap.size 3 1 (.slice (some ⟨gg, 0, none⟩) (rest.length + 1) cap') (rest.length + 1) (M.ivs rest ++ [.int .i64 a])) (t : Turn (M.At so) w w') (hg : M.At so gg ∨ w.heap.size ≤ gg) : B2 w0 e ab x cb got all ro rc (rest ++ [a]) (some ⟨gg, 0, none⟩) cap' w' := by
  obtain ⟨D, ws, L, O, h1, h2, h3, h4, h5, h6, h7, h8, h9⟩ := h
  refine ⟨D, ws, L, O, h1.kept t (fun j hj q => h8 j q hj), h2, h3, t.row h4 (fun j hj q => h9 j q (M.own_at hj)), h5, h6.trans (t.below (fun j hj => (own_lt h7 hj).1) h6.size), ?_, fun j hj q => ?_, fun j hj z => ?_⟩
  · rw [List.length_append, M.ivs, List.map_append]
    exact hr1
  · obtain ⟨a', ha, rfl⟩ := hj
    cases ha
    rcases hg with z | z
    · exact h8 _ z q
    · have := (ato_lo h1 q).2; simp only at this; omega
  · obtain ⟨a', ha, rfl⟩ := hj
    cases ha
    rcases hg with y | y
    · exact h9 _ y z
    · have := (own_lt h4 z).2; simp only at this; omega
/-- all is given back -/
theorem Bs.one (h : Bs w0 e ab x cb [] [] ro rc w) : ∃ D ws, Ar.Atl D w0.heap.size ab x ws [] 0 0 [⟨0, (e : Int), true⟩] cb w ∧ ws.length = e ∧ Below w0.heap.size w0 w := by
  obtain ⟨D, ws, L, O, h1, h2, h3, h4, h5, h6⟩ := h
  have hO : O = [] := by
    have := h3.len
    exact List.eq_nil_of_length_eq_zero (by simpa using this.symm)
  subst hO
  have := Ar.one_left h1
  subst this
  refine ⟨D, ws, ?_, h2, h6⟩
  have e1 := h1.atl
  rw [show ((ws.length : Int) - 0) = (e : Int) by omega] at e1
  exact e1
theorem fit_whole (e : Nat) : Ar.fit [⟨0, (e : Int), true⟩] (e : Int) = 0 := by simp [Ar.fit, Ar.pf, List.find?]
theorem fit_more (e : Nat) : Ar.fit [⟨0, (e : Int), true⟩] ((e : Int) + 1) = -1 := by
  unfold Ar.fit
  rw [show List.find? (Ar.pf ((e : Int) + 1)) [(⟨0, (e : Int), true⟩ : Bk)] = none by
    rw [List.find?_eq_none]
    intro b hb
    rw [List.mem_singleton] at hb
    subst hb
    simp [Ar.pf]
    omega]
def lenOf : Value → Nat
  | .slice _ n _ => n
  | _ => 0
theorem wsuc (k : Nat) (h : k < 1999999999999999) : wrap64 ((k : Int) + 1) = (k : Int) + 1 := by unfold wrap64; omega
theorem ends_of (words : Int) : ∃ e : Nat, 1 ≤ e ∧ e ≤ 200 ∧ (e : Int) = 1 + words % 200 := by
  have h3 := Int.emod_nonneg words (b := 200) (by omega)
  have h4 := Int.emod_lt_of_pos words (b := 200) (by omega)
  exact ⟨1 + (words % 200).toNat, by omega, by omega, by omega⟩
theorem mod_of (z : Int) (n : Nat) (h : 0 < n) : ∃ k : Nat, k < n ∧ z % (n : Int) = (k : Int) := by
  have h3 := Int.emod_nonneg z (b := (n : Int)) (by omega)
  have h4 := Int.emod_lt_of_pos z (b := (n : Int)) (by omega)
  exact ⟨(z % (n : Int)).toNat, by omega, by omega⟩
end Bk
end Go.Proofs.Ytfeehnfpfheojaa
set_option linter.unusedVariables false
set_option linter.unusedSimpArgs false
namespace Go.Proofs.Ytfeehnfpfheojaa
open Go.RowKit Go.Sort
namespace Ra
open Fr Ar
variable {B b : Nat} {s : Int} {ws of : List Int} {cnt : Nat} {wo oo : Option Addr} {wc oc : Nat} {w w' : World}
variable {D : Nat → Prop} {L : List Bk}
theorem struct_neq (a b : Int) (e : Bool) (w : World) : (binOp .neq 110 (.agg #[.int .i64 a, .int .i64 b, .bool e]) (.agg #[.int .i64 a, .int .i64 b, .bool e])).run Try.prog w = .ok (.bool false) w := by
  rw [run_neq_struct]
  have := run_equalIn_agg (P := Try.prog) w 9999 110 #[.int .i64 a, .int .i64 b, .bool e] #[.int .i64 a, .int .i64 b, .bool e] Bk.fof Bk.hld
  rw [show (10000 : Nat) = 9999 + 1 from rfl, this, show (9999 : Nat) = 9998 + 1 from rfl, Bk.flds]
  rfl
theorem BkS.below {a : Option Addr} (h : BkS w a L) (t : Below w.heap.size w w') : BkS w' a L := by
  rcases h with h | ⟨g, off, e, hl, hc⟩
  · exact .inl h
  · refine .inr ⟨g, off, e, Nat.lt_of_lt_of_le hl t.size, fun j hj => ?_⟩
    obtain ⟨z1, z2, z3⟩ := hc j hj
    exact ⟨(t.cell (p := ⟨g, off + j * 3, none⟩) hl).trans z1, (t.cell (p := ⟨g, off + j * 3 + 1, none⟩) hl).trans z2, (t.cell (p := ⟨g, off + j * 3 + 2, none⟩) hl).trans z3⟩
set_option maxRecDepth 100000 in
set_option maxHeartbeats 4000000 in
/-- two lists of the same pieces are alike -/
theorem same_blocks {x y : Option Addr} {xc yc : Nat} (hx : BkS w x L) (hy : BkS w y L) (hl : L.length ≤ 65536) : Calls Try.prog 36 #[.slice x L.length xc, .slice y L.length yc] w fun r w' => r = .returned (.bool true) ∧ ∃ m, w' = w.drewN m := by
  have HX := hide' hx
  have HY := hide' hy
  have HL := hide' hl
  obtain ⟨N, hN⟩ : ∃ N, N = L.length := ⟨_, rfl⟩
  have HN := hide' hN
  rw [← hN]
  clear hx hy hl hN
  go_enter Try.func36, Try.ntmps36
  go_wp2_with fail
  go_loopw [5] (fun z wx => ∃ k : Nat, z = .int .i64 (k : Int) ∧ k ≤ N ∧ ∃ m, wx = w.drewN m) (fun z _ => N - (intOf z).toNat)
  case atStart => exact ⟨0, rfl, Nat.zero_le _, 0, rfl⟩
  case round =>
    obtain ⟨k, rfl, hk, m, rfl⟩ := hrel
    by_cases hlt : k < N
    · have hltI : (k : Int) < (N : Int) := by omega
      have e2 : wrap64 ((k : Int) + 1) = (k : Int) + 1 := by have := HL.out; have := HN.out; unfold wrap64; omega
      have Hend := hide' (msr2 hlt _ e2)
      have hkL : k < L.length := by rw [← HN.out]; exact hlt
      rcases HX.out with q | ⟨gx, ox, ex, lx, cx⟩
      · rw [q] at hkL; simp at hkL
      rcases HY.out with q | ⟨gy, oy, ey, ly, cy⟩
      · rw [q] at hkL; simp at hkL
      obtain ⟨x1, x2, x3⟩ := cx k hkL
      obtain ⟨y1, y2, y3⟩ := cy k hkL
      obtain ⟨p, hp⟩ : ∃ p, p = L[k].addr := ⟨_, rfl⟩
      obtain ⟨q, hq⟩ : ∃ p, p = L[k].size := ⟨_, rfl⟩
      obtain ⟨f, hf⟩ : ∃ p, p = L[k].free := ⟨_, rfl⟩
      rw [← hp] at x1 y1
      rw [← hq] at x2 y2
      rw [← hf] at x3 y3
      replace x1 : (w.drewN m).cell? ⟨gx, ox + k * 3, none⟩ = some (.int .i64 p) := x1
      replace x2 : (w.drewN m).cell? ⟨gx, ox + k * 3 + 1, none⟩ = some (.int .i64 q) := x2
      replace x3 : (w.drewN m).cell? ⟨gx, ox + k * 3 + 2, none⟩ = some (.bool f) := x3
      replace y1 : (w.drewN m).cell? ⟨gy, oy + k * 3, none⟩ = some (.int .i64 p) := y1
      replace y2 : (w.drewN m).cell? ⟨gy, oy + k * 3 + 1, none⟩ = some (.int .i64 q) := y2
      replace y3 : (w.drewN m).cell? ⟨gy, oy + k * 3 + 2, none⟩ = some (.bool f) := y3
      obtain rfl := ex
      obtain rfl := ey
      have hse := struct_neq p q f
      have K := hide' hlt
      clear hk hlt hkL hp hq hf cx cy lx ly HX HY
      generalize hW : w.drewN m = W at *
      go_wp2_with fail
      go_quiet (fail)
      go_wp2
      exact ⟨⟨k + 1, by rw [e2]; rfl, K.out, by rw [← hW]; exact ⟨_, World.drewN_drewN ..⟩⟩, Hend.out⟩
    · obtain rfl : k = N := by omega
      clear hk hlt
      go_wp2
      go_ret
      exact ⟨rfl, _, rfl⟩
end Ra
end Go.Proofs.Ytfeehnfpfheojaa
set_option linter.unusedVariables false
set_option linter.unusedSimpArgs false
namespace Go.Proofs.Ytfeehnfpfheojaa
open Go.RowKit Go.Sort
namespace Ra
open Fr Ar
variable {B b : Nat} {s : Int} {ws of : List Int} {cnt : Nat} {wo oo : Option Addr} {wc oc : Nat} {w w' : World}
variable {D : Nat → Prop} {L : List Bk}
theorem set_block {w : World} {b off : Nat} {cs : Array Value} {t : TypeId} {r : Nat × Nat} {v : Value} (h : w.heap[b]? = some (.cells cs t r)) : (w.setCell ⟨b, off, none⟩ v).heap[b]? = some (.cells (cs.setIfInBounds off v) t r) := by
  simp [World.setCell, Array.getElem?_modify, h]
theorem row_set {g rc i : Nat} {zs : List Int} (h : w.ownsRow B 3 1 (.slice (some ⟨g, 0, none⟩) zs.length rc) zs.length (M.ivs zs)) (v : Int) : (w.setCell ⟨g, i, none⟩ (.int .i64 v)).ownsRow B 3 1 (.slice (some ⟨g, 0, none⟩) (zs.set i v).length rc) (zs.set i v).length (M.ivs (zs.set i v)) := by
  refine ⟨by simp [M.ivs], ?_⟩
  rcases h.2 with ⟨hv, _⟩ | ⟨g', cap', cur, hv, hb, hg', h1, h2, h3, h4⟩
  · cases hv
  · simp only [Value.slice.injEq, Option.some.injEq] at hv
    obtain ⟨hv1, _, rfl⟩ := hv
    cases hv1
    refine .inr ⟨g, rc, cur.setIfInBounds i (.int .i64 v), by rw [List.length_set], hb, set_block hg', by rw [List.length_set]; exact h1, h2, by simpa using h3, ?_⟩
    rw [Array.toList_setIfInBounds, List.take_set, List.length_set, h4]
    unfold M.ivs
    rw [List.map_set]
theorem turn_one (g i : Nat) (v : Value) (w : World) : Turn (fun j => j = g) w (w.setCell ⟨g, i, none⟩ v) := (Turn.refl (fun k => k = g) w).setCell (p := ⟨g, i, none⟩) (fun _ => rfl) _
theorem Da.setO {g i : Nat} (h : Da B b s ws of cnt wo (some ⟨g, 0, none⟩) wc oc w) (v : Int) : Da B b s ws (of.set i v) cnt wo (some ⟨g, 0, none⟩) wc oc (w.setCell ⟨g, i, none⟩ (.int .i64 v)) := by
  have t := turn_one g i (.int .i64 v) w
  have hg : M.At (some ⟨g, 0, none⟩) g := ⟨_, rfl, rfl⟩
  refine ⟨?_, t.row h.rw_ (fun j q e => h.ne j (M.own_at q) (e ▸ hg)), row_set h.ro v, h.ne, h.lo⟩
  rw [List.length_set]
  exact (t.block b (lt_of_heap h.hb) (fun e => h.nb.2 (e ▸ hg))).trans h.hb
theorem Da.setW {g i : Nat} (h : Da B b s ws of cnt (some ⟨g, 0, none⟩) oo wc oc w) (v : Int) : Da B b s (ws.set i v) of cnt (some ⟨g, 0, none⟩) oo wc oc (w.setCell ⟨g, i, none⟩ (.int .i64 v)) := by
  have t := turn_one g i (.int .i64 v) w
  have hg : M.At (some ⟨g, 0, none⟩) g := ⟨_, rfl, rfl⟩
  refine ⟨?_, row_set h.rw_ v, t.row h.ro (fun j q e => h.ne j (e ▸ hg) (M.own_at q)), h.ne, h.lo⟩
  rw [List.length_set]
  exact (t.block b (lt_of_heap h.hb) (fun e => h.nb.1 (e ▸ hg))).trans h.hb
theorem Da.setC (h : Da B b s ws of cnt wo oo wc oc w) (v : Nat) : Da B b s ws of v wo oo wc oc (w.setCell ⟨b, 3, none⟩ (.int .i64 (v : Int))) := by
  have t := turn_one b 3 (.int .i64 (v : Int)) w
  refine ⟨?_, t.row h.rw_ (fun j q e => h.nb.1 (e ▸ M.own_at q)), t.row h.ro (fun j q e => h.nb.2 (e ▸ M.own_at q)), h.ne, h.lo⟩
  rw [set_block h.hb]
  rfl
/-- a step of filling: both rows -/
def Fl (w0 : World) (B b : Nat) (s : Int) (ws of : List Int) (cnt : Nat) (g h : Nat) (wc oc : Nat) (a : Nat) (c1 c2 : Int) (k : Nat) (w : World) : Prop :=
  Da B b s (M.fil ws a c1 k) (M.fil of a c2 k) cnt (some ⟨g, 0, none⟩) (some ⟨h, 0, none⟩) wc oc w ∧ Turn (Own b (some ⟨g, 0, none⟩) (some ⟨h, 0, none⟩)) w0 w
theorem Fl.step {w0 : World} {g h a k : Nat} {c1 c2 : Int} (z : Fl w0 B b s ws of cnt g h wc oc a c1 c2 k w) : Fl w0 B b s ws of cnt g h wc oc a c1 c2 (k + 1) ((w.setCell ⟨h, a + k, none⟩ (.int .i64 c2)).setCell ⟨g, a + k, none⟩ (.int .i64 c1)) := by
  obtain ⟨z1, z2⟩ := z
  refine ⟨(z1.setO (i := a + k) c2).setW (i := a + k) c1, (z2.trans ((turn_one h (a + k) _ w).mono (fun j _ e => .inr (.inr ⟨_, rfl, e⟩)))).trans ((turn_one g (a + k) _ _).mono (fun j _ e => .inr (.inl ⟨_, rfl, e⟩)))⟩
/-- what the document's Take makes of the pieces -/
def tkL (L : List Bk) (n : Int) : List Bk := L.takeWhile (fun x => !pf n x) ++ (match L.dropWhile (fun x => !pf n x) with | p :: r => ⟨p.addr, n, false⟩ :: (rem p n ++ r) | [] => [])
theorem tkL_of {L1 L2 : List Bk} {p : Bk} {n : Int} (h1 : ∀ x ∈ L1, pf n x = false) (hp : pf n p = true) : tkL (L1 ++ p :: L2) n = L1 ++ ⟨p.addr, n, false⟩ :: (rem p n ++ L2) := by
  unfold tkL
  rw [List.takeWhile_append_of_pos (fun x hx => by rw [h1 x hx]; rfl), List.dropWhile_append_of_pos (fun x hx => by rw [h1 x hx]; rfl), List.takeWhile_cons_of_neg (by rw [hp]; decide), List.dropWhile_cons_of_neg (by rw [hp]; decide)]
  simp
/-- what Give makes of the pieces -/
def gvL (L : List Bk) (a : Int) : List Bk := normT (L.map (fun x => if ps a x then { x with free := true } else x))
theorem gvL_of {L1 L2 : List Bk} {a v : Int} (h1 : ∀ x ∈ L1, x.addr ≠ a) (h2 : ∀ x ∈ L2, x.addr ≠ a) : gvL (L1 ++ ⟨a, v, false⟩ :: L2) a = normT (L1 ++ ⟨a, v, true⟩ :: L2) := by
  unfold gvL
  congr 1
  rw [List.map_append, List.map_cons]
  have e : ∀ (X : List Bk), (∀ x ∈ X, x.addr ≠ a) → X.map (fun x => if ps a x then { x with free := true } else x) = X := by
    intro X hX
    conv => rhs; rw [← List.map_id X]
    refine List.map_congr_left (fun x hx => ?_)
    rw [if_neg (by unfold ps; simp [hX x hx])]
    rfl
  rw [e L1 h1, e L2 h2, if_pos (by unfold ps; simp)]
end Ra
end Go.Proofs.Ytfeehnfpfheojaa
set_option linter.unusedVariables false
set_option linter.unusedSimpArgs false
namespace Go.Proofs.Ytfeehnfpfheojaa
open Go.RowKit Go.Sort
namespace Ra
open Fr Ar
variable {B b : Nat} {s : Int} {ws of : List Int} {cnt : Nat} {wo oo : Option Addr} {wc oc : Nat} {w w' : World}
variable {D : Nat → Prop} {L : List Bk}
theorem og_fil {zs : List Int} {a k : Nat} {c : Int} (h : a + k ≤ zs.length) (i : Int) (hi : 0 ≤ i) : og (M.fil zs a c k) i = if (a : Int) ≤ i ∧ i < (a : Int) + (k : Int) then c else og zs i := by
  unfold og
  rw [M.fil_at _ _ _ _ _ h]
  by_cases q : (a : Int) ≤ i ∧ i < (a : Int) + (k : Int)
  · rw [if_pos q, if_pos (by omega)]
  · rw [if_neg q, if_neg (by omega)]
theorem Fl.below {w0 : World} {g h a k : Nat} {c1 c2 : Int} {wc oc : Nat} (z : Fl w0 B b s ws of cnt g h wc oc a c1 c2 k w) (t : Below w.heap.size w w') : Fl w0 B b s ws of cnt g h wc oc a c1 c2 k w' := ⟨z.1.below t, z.2.trans (turn_below t)⟩
set_option maxRecDepth 100000 in
set_option maxHeartbeats 4000000 in
theorem take_none (n : Int) (h : Dl D B b s L ws cnt w) (h1 : 1 ≤ n) (hf : ∀ x ∈ L, pf n x = false) : Calls Try.prog 47 #[.pointer (some ⟨b, 0, none⟩), .int .i64 n] w fun r w' => r = .returned (.tuple #[.int .i64 0, .int .i64 150]) ∧ Below w.heap.size w w' := by
  have hb := h.few
  have HB := hide' (dl_blocks h)
  have HL := hide' hb.1
  have HF := hide' hf
  obtain ⟨N, hN⟩ : ∃ N, N = L.length := ⟨_, rfl⟩
  have HN := hide' hN
  rw [← hN] at HB
  have h1' : ¬ n < 1 := by omega
  clear h hb hN hf h1
  go_enter Try.func47, Try.ntmps47
  go_wp2_with fail
  refine HB.out.mono ?_
  rintro e w1 ⟨g, rc, rfl, k1, k2⟩
  have H1 := hide' (And.intro k1 k2)
  clear k1 k2 HB
  go_wp2_with fail
  go_loopw [7] (fun y wx => ∃ k : Nat, y = .int .i64 (k : Int) ∧ k ≤ N ∧ ∃ V, V = wx ∧ V = w1) (fun y _ => N - (intOf y).toNat)
  case atStart => exact ⟨0, rfl, Nat.zero_le _, _, rfl, rfl⟩
  case round =>
    obtain ⟨k, rfl, hk, V, rfl, rfl⟩ := hrel
    by_cases hlt : k < N
    · have hltI : (k : Int) < (N : Int) := by omega
      have e2 : wrap64 ((k : Int) + 1) = (k : Int) + 1 := by have := HL.out; have := HN.out; unfold wrap64; omega
      have Hend := hide' (msr2 hlt _ e2)
      have hkL : k < L.length := by rw [← HN.out]; exact hlt
      obtain ⟨g', eg, z0, z1, z2, z3⟩ := H1.out.1.item (List.getElem?_eq_getElem hkL)
      cases eg
      have hp := HF.out L[k] (List.getElem_mem hkL)
      obtain ⟨f, hff⟩ : ∃ f, f = L[k].free := ⟨_, rfl⟩
      obtain ⟨x, hx⟩ : ∃ f, f = L[k].size := ⟨_, rfl⟩
      rw [← hff] at z3
      rw [← hx] at z2
      have hp2 : (f && decide (n ≤ x)) = false := by rw [hff, hx]; exact hp
      have K := hide' hlt
      clear hk hlt z0 z1 hkL hp hff hx
      cases f with
      | true =>
        have hn : ¬ n ≤ x := by simpa using hp2
        clear hp2
        go_wp2
        exact ⟨⟨k + 1, by rw [e2]; rfl, K.out, _, rfl, rfl⟩, Hend.out⟩
      | false =>
        clear hp2
        go_wp2
        exact ⟨⟨k + 1, by rw [e2]; rfl, K.out, _, rfl, rfl⟩, Hend.out⟩
    · obtain rfl : k = N := by omega
      clear hk hlt
      go_wp2
      go_ret2
      exact ⟨rfl, H1.out.2⟩
set_option maxRecDepth 100000 in
set_option maxHeartbeats 400000 in
theorem take_bad (n : Int) (h1 : n < 1) : Calls Try.prog 47 #[.pointer (some ⟨b, 0, none⟩), .int .i64 n] w fun r w' => r = .returned (.tuple #[.int .i64 0, .int .i64 1]) ∧ w' = w := by
  go_enter Try.func47, Try.ntmps47
  go_wp2
  go_ret2
  exact ⟨rfl, rfl⟩
set_option maxRecDepth 100000 in
set_option maxHeartbeats 8000000 in
theorem take_some (n : Int) {L1 L2 : List Bk} {p : Bk} (h : Dl D B b s L ws cnt w) (h1 : 1 ≤ n) (hL : L = L1 ++ p :: L2) (hf : ∀ x ∈ L1, pf n x = false) (hpf : pf n p = true) (hcn : cnt < 4611686018427387904) : Calls Try.prog 47 #[.pointer (some ⟨b, 0, none⟩), .int .i64 n] w fun r w' => r = .returned (.tuple #[.int .i64 p.addr, .int .i64 0]) ∧ Dl D B b s (tkL L n) (M.pfill ws p.addr n 0) (cnt + 1) w' ∧ Turn D w w' := by
  have hb := h.few
  have HB := hide' (dl_blocks h)
  have HL := hide' hb.1
  have HF := hide' hf
  obtain ⟨of, wo, oo, wc, oc, d1, d2, d3, d4, d5, d6, d7, d8⟩ := h
  obtain ⟨N, hN⟩ : ∃ N, N = L.length := ⟨_, rfl⟩
  have HN := hide' hN
  rw [← hN] at HB
  have h1' : ¬ n < 1 := by omega
  have hpm := cov_mem (show Cov s L (of.length : Int) by rw [d5]; exact hb.2.2) p (by rw [hL]; exact List.mem_append_right _ List.mem_cons_self)
  obtain ⟨hpfr, hpn⟩ : p.free = true ∧ n ≤ p.size := by
    unfold pf at hpf
    simpa using hpf
  obtain ⟨a, ha⟩ : ∃ a : Nat, p.addr = (a : Int) := ⟨p.addr.toNat, by omega⟩
  obtain ⟨m, hm⟩ : ∃ m : Nat, n = (m : Int) := ⟨n.toNat, by omega⟩
  obtain ⟨g, e1, _⟩ := row_at d1.rw_ (show a < ws.length by omega)
  obtain ⟨hh, e2, _⟩ := row_at d1.ro (show a < of.length by omega)
  subst e1
  subst e2
  subst hm
  have Ham : Hid (a + m ≤ ws.length ∧ a + m ≤ of.length ∧ 1 ≤ m ∧ ws.length ≤ 65536) := hide' (by omega)
  have HQ := hide' (And.intro hL (And.intro hpf (And.intro hf (And.intro ha (And.intro hpfr hpn)))))
  have HD := hide' (And.intro d1 (And.intro d2 (And.intro d3 (And.intro d4 (And.intro d5 (And.intro d6 (And.intro d7 d8)))))))
  obtain ⟨K0, hK0⟩ : ∃ K0, K0 = L1.length := ⟨_, rfl⟩
  have HK0 : Hid (K0 = L1.length ∧ K0 < N ∧ L[K0]? = some p) := hide' (by
    refine ⟨hK0, ?_, ?_⟩
    · rw [hN, hL, hK0]; simp
    · rw [hL, hK0]; simp)
  have HW : Hid (wrap64 ((cnt : Int) + 1) = ((cnt + 1 : Nat) : Int)) := hide' (by unfold wrap64; omega)
  have lb := lt_of_heap d1.hb
  clear hb hN hf h1 hL hpf hpm hpfr hpn ha d1 d2 d3 d4 d5 d6 d7 d8 hK0 hcn
  go_enter Try.func47, Try.ntmps47
  go_wp2_with fail
  refine HB.out.mono ?_
  rintro e w1 ⟨gl, rc, rfl, k1, k2⟩
  have H1 := hide' (And.intro k1 k2)
  clear k1 k2 HB
  go_wp2_with fail
  go_loopw [7] (fun y wx => ∃ k : Nat, y = .int .i64 (k : Int) ∧ k ≤ K0 ∧ ∃ V, V = wx ∧ V = w1) (fun y _ => N - (intOf y).toNat)
  case atStart => exact ⟨0, rfl, Nat.zero_le _, _, rfl, rfl⟩
  case round =>
    obtain ⟨k, rfl, hk, V, rfl, rfl⟩ := hrel
    have hltN : k < N := by have := HK0.out.2.1; omega
    have hltI : (k : Int) < (N : Int) := by omega
    have hkL : k < L.length := by rw [← HN.out]; exact hltN
    obtain ⟨g', eg, z0, z1, z2, z3⟩ := H1.out.1.item (List.getElem?_eq_getElem hkL)
    cases eg
    by_cases hlt : k < K0
    · have e2 : wrap64 ((k : Int) + 1) = (k : Int) + 1 := by have := HL.out; have := HN.out; unfold wrap64; omega
      have Hend := hide' (msr2 hltN _ e2)
      have hp := HF.out L[k] (by
        have hk1 : k < L1.length := by rw [← HK0.out.1]; exact hlt
        have : L[k] = L1[k] := by
          have e := HQ.out.1
          simp only [e]
          rw [List.getElem_append_left hk1]
        rw [this]
        exact List.getElem_mem hk1)
      obtain ⟨f, hff⟩ : ∃ f, f = L[k].free := ⟨_, rfl⟩
      obtain ⟨x, hx⟩ : ∃ f, f = L[k].size := ⟨_, rfl⟩
      rw [← hff] at z3
      rw [← hx] at z2
      have hp2 : (f && decide ((m : Int) ≤ x)) = false := by rw [hff, hx]; exact hp
      have K := hide' hlt
      clear hk hlt z0 z1 hkL hp hff hx hltN lb
      cases f with
      | true =>
        have hn : ¬ (m : Int) ≤ x := by simpa using hp2
        clear hp2
        go_wp2
        exact ⟨⟨k + 1, by rw [e2]; rfl, K.out, _, rfl, rfl⟩, Hend.out⟩
      | false =>
        clear hp2
        go_wp2
        exact ⟨⟨k + 1, by rw [e2]; rfl, K.out, _, rfl, rfl⟩, Hend.out⟩
    · obtain rfl : k = K0 := by omega
      have hLk : L[k] = p := by
        have := HK0.out.2.2
        rw [List.getElem?_eq_getElem hkL] at this
        exact Option.some.inj this
      rw [hLk, HQ.out.2.2.2.1] at z1
      rw [hLk] at z2
      rw [hLk, HQ.out.2.2.2.2.1] at z3
      have hpn := HQ.out.2.2.2.2.2
      obtain ⟨x, hx⟩ : ∃ f, f = p.size := ⟨_, rfl⟩
      rw [← hx] at z2 hpn
      have dV := HD.out.1.below H1.out.2
      have c3 := dV.c3
      have f3 := dV.f 3
      obtain ⟨w2, hw2⟩ : ∃ w2, w2 = V.setCell ⟨b, 3, none⟩ (.int .i64 ((cnt + 1 : Nat) : Int)) := ⟨_, rfl⟩
      have Hw2 := hide' hw2
      obtain ⟨cc, hcc⟩ : ∃ cc : Int, cc = ((cnt + 1 : Nat) : Int) := ⟨_, rfl⟩
      have Hcc := hide' hcc
      have F0 : Hid (Fl V B b s ws of (cnt + 1) g hh wc oc a 0 cc 0 w2) := hide' (by
        rw [hw2]
        exact ⟨dV.setC (cnt + 1), (turn_one b 3 _ V).mono (fun j _ e => .inl e)⟩)
      have nlB : ∀ j, Own b (some ⟨g, 0, none⟩) (some ⟨hh, 0, none⟩) j → ¬ M.At (some ⟨gl, 0, none⟩) j := fun j q q2 => by
        have y1 := (HD.out.1.lt q).2
        have y2 := (H1.out.1.lt q2).1
        omega
      have HnlB := hide' nlB
      have R0 : Hid (RowB w.heap.size (some ⟨gl, 0, none⟩) rc L w2) := hide' (H1.out.1.kept F0.out.2 (fun j q q2 => nlB j q2 q))
      have Hit : Hid (∀ X, RowB w.heap.size (some ⟨gl, 0, none⟩) rc L X → X.cell? ⟨gl, k * 3, none⟩ = some (.int .i64 (a : Int))) := hide' (fun X hX => by
        obtain ⟨g', eg, _, y1, _, _⟩ := hX.item (List.getElem?_eq_getElem hkL)
        cases eg
        rw [hLk, HQ.out.2.2.2.1] at y1
        exact y1)
      have y1 := Hit.out w2 R0.out
      clear hk hlt z0 hltN dV nlB hw2 hLk hx lb hkL hcc
      go_upto_region 9 with fail
      rw [HW.out, ← Hw2.out]
      clear z1 z2 z3 c3 f3 Hw2
      go_wp2_with fail
      clear y1
      go_loopw [8] (fun y wx => ∃ j : Nat, y = .int .i64 ((a + j : Nat) : Int) ∧ j ≤ m ∧ ∃ X, X = wx ∧ Fl V B b s ws of (cnt + 1) g hh wc oc a 0 cc j X ∧ RowB w.heap.size (some ⟨gl, 0, none⟩) rc L X) (fun y _ => (a + m) - (intOf y).toNat)
      case atStart => exact ⟨0, rfl, Nat.zero_le _, _, rfl, F0.out, R0.out⟩
      case round =>
        obtain ⟨j, rfl, hj, X, rfl, hF, hR⟩ := hrel
        obtain ⟨I, hI⟩ : ∃ I, I = a + j := ⟨_, rfl⟩
        rw [← hI]
        have y1 := Hit.out X hR
        have e1 : wrap64 ((a : Int) + (m : Int)) = ((a + m : Nat) : Int) := by have := Ham.out; unfold wrap64; omega
        by_cases hjm : j < m
        · have q1 : (I : Int) < ((a + m : Nat) : Int) := by omega
          have e2 : wrap64 ((I : Int) + 1) = ((I + 1 : Nat) : Int) := by have := Ham.out; unfold wrap64; omega
          have Hend : Hid (a + m - (intOf (.int .i64 (wrap64 ((I : Int) + 1)))).toNat < a + m - (intOf (.int .i64 (I : Int))).toNat) := hide' (by
            rw [e2]
            show a + m - (((I + 1 : Nat) : Int)).toNat < a + m - (I : Int).toNat
            omega)
          have c1 := hF.1.c1
          have c2 := hF.1.c2
          have c3 : X.cell? ⟨b, 3, none⟩ = some (.int .i64 cc) := by rw [Hcc.out]; exact hF.1.c3
          rw [M.fil_len] at c1 c2
          obtain ⟨_, e3, r1, r2⟩ := row_at hF.1.rw_ (i := I) (by rw [M.fil_len]; have := Ham.out; omega)
          cases e3
          obtain ⟨_, e3, r3, r4⟩ := row_at hF.1.ro (i := I) (by rw [M.fil_len]; have := Ham.out; omega)
          cases e3
          obtain ⟨n1, hn1⟩ : ∃ n, n = ws.length := ⟨_, rfl⟩
          obtain ⟨n2, hn2⟩ : ∃ n, n = of.length := ⟨_, rfl⟩
          rw [← hn1] at c1
          rw [← hn2] at c2
          have q2 : (I : Int) < (n1 : Int) := by have := Ham.out; omega
          have q3 : (I : Int) < (n2 : Int) := by have := Ham.out; omega
          generalize og (M.fil ws a 0 j) (I : Int) = v1 at *
          generalize og (M.fil of a cc j) (I : Int) = v2 at *
          have hFs := hF.step
          rw [← hI] at hFs
          have hgh : g ≠ hh := fun e => hF.1.ne g ⟨_, rfl, rfl⟩ ⟨_, rfl, e⟩
          have hbg : b ≠ g := fun e => hF.1.nb.1 ⟨_, rfl, e⟩
          have hbh : b ≠ hh := fun e => hF.1.nb.2 ⟨_, rfl, e⟩
          have hRs : RowB w.heap.size (some ⟨gl, 0, none⟩) rc L ((X.setCell ⟨hh, I, none⟩ (.int .i64 cc)).setCell ⟨g, I, none⟩ (.int .i64 0)) := (hR.kept (turn_one hh I _ X) (fun j q e => HnlB.out j (.inr (.inr ⟨_, rfl, e⟩)) q)).kept (turn_one g I _ _) (fun j q e => HnlB.out j (.inr (.inl ⟨_, rfl, e⟩)) q)
          have K := hide' (And.intro hFs (And.intro hRs (And.intro hI hjm)))
          have c1' : (X.setCell ⟨hh, I, none⟩ (.int .i64 cc)).cell? ⟨b, 1, none⟩ = some (.slice (some ⟨g, 0, none⟩) n1 wc) := ((turn_one hh I _ X).cell (p := ⟨b, 1, none⟩) (lt_of_heap hF.1.hb) hbh).trans c1
          have lg : g < X.heap.size := (row_kd hF.1.rw_ ⟨_, rfl, rfl⟩).2.2
          have r1' : (X.setCell ⟨hh, I, none⟩ (.int .i64 cc)).cell? ⟨g, I, none⟩ = some (.int .i64 v1) := ((turn_one hh I _ X).cell (p := ⟨g, I, none⟩) lg hgh).trans r1
          have r2' : (X.setCell ⟨hh, I, none⟩ (.int .i64 cc)).frozen? ⟨g, I, none⟩ = false := (World.frozen?_of_block ((turn_one hh I (.int .i64 cc) X).block g lg hgh)).trans r2
          clear hF hR hFs hRs hI hjm hj hn1 hn2 F0 R0
          go_wp2_with fail
          go_region
          generalize X.setCell ⟨hh, I, none⟩ (.int .i64 cc) = X1 at *
          have b1 : X1.drew.cell? ⟨b, 1, none⟩ = some (.slice (some ⟨g, 0, none⟩) n1 wc) := c1'
          have b2 : X1.drew.cell? ⟨g, I, none⟩ = some (.int .i64 v1) := r1'
          have b3 : X1.drew.frozen? ⟨g, I, none⟩ = false := r2'
          have K2 : Hid (Fl V B b s ws of (cnt + 1) g hh wc oc a 0 cc (j + 1) (X1.drew.setCell ⟨g, I, none⟩ (.int .i64 0)) ∧ RowB w.heap.size (some ⟨gl, 0, none⟩) rc L (X1.drew.setCell ⟨g, I, none⟩ (.int .i64 0))) := hide' ⟨K.out.1.below (w' := (X1.setCell ⟨g, I, none⟩ (.int .i64 0)).drew) (Below.refl _ _).drew, K.out.2.1.kept (w' := (X1.setCell ⟨g, I, none⟩ (.int .i64 0)).drew) ((Turn.refl (fun _ => False) _).drew) (fun _ _ q => q)⟩
          clear c1 c2 c3 r1 r2 r3 r4 c1' r1' r2' y1 hgh hbg hbh lg
          go_wp2
          refine ⟨⟨j + 1, ?_, K.out.2.2.2, _, rfl, K2.out.1, K2.out.2⟩, Hend.out⟩
          rw [e2, K.out.2.2.1]
          rfl
        · obtain rfl : j = m := by omega
          have q1 : ¬ (I : Int) < ((a + j : Nat) : Int) := by omega
          have K : Hid (Fl V B b s ws of (cnt + 1) g hh wc oc a 0 cc j X) := hide' hF
          clear hF hR hj hjm hI F0 R0
          go_wp2_with fail
          go_ret2
          obtain ⟨d1, d2, d3, d4, d5, d6, d7, d8⟩ := HD.out
          obtain ⟨l1, l2, l3, l4, l5, l6⟩ := HQ.out
          have hAm := Ham.out
          have hw1 : M.pfill ws p.addr (j : Int) 0 = M.fil ws a 0 j := by
            unfold M.pfill
            rw [if_pos (show M.Wi ws p.addr (j : Int) from ⟨by omega, by omega, by omega⟩), l4]
            rfl
          have hlen : (M.fil of a cc j).length = of.length := M.fil_len _ _ _ _
          have hlw : (M.fil ws a 0 j).length = ws.length := M.fil_len _ _ _ _
          have hcc := Hcc.out
          refine ⟨by rw [l4]; rfl, ⟨M.fil of a cc j, _, _, _, _, by rw [hw1]; exact K.out.1, ?_, d3, by rw [hlen]; exact d4, by rw [hlen, hw1, hlw]; exact d5, by rw [hw1, hlw]; exact d6, fun i => ?_, d8⟩, ?_⟩
          · rw [l1, tkL_of l3 l2]
            refine Seg.take (of := of) (c := cc) (by rw [← l1]; exact d2) d3 (by omega) l6 l5 hlen (fun i q1 q2 => by have := d7 i; omega) (by omega) (fun i q1 q2 => ?_)
            rw [og_fil (by omega) i (by omega), l4]
          · by_cases hi : 0 ≤ i
            · rw [og_fil (by omega) i hi]
              split
              · omega
              · have := d7 i; omega
            · have e : og (M.fil of a cc j) i = og (M.fil of a cc j) 0 := by unfold og; rw [show i.toNat = (0 : Int).toNat by omega]
              rw [e, og_fil (by omega) 0 (by omega)]
              split
              · omega
              · have := d7 0; omega
          · exact ((turn_below H1.out.2).trans K.out.2).mono (fun j _ q => (d8 j).2 q)
end Ra
end Go.Proofs.Ytfeehnfpfheojaa
