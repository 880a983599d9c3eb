import Derived.Test.YtoejcpfodbegeaaRfB
set_option linter.unusedVariables false
set_option linter.unusedSimpArgs false
namespace Go.Proofs.Ytoejcpfodbegeaa
open Go.RowKit
namespace F
open M
variable {D : Nat → Prop} {B x n m : Nat} {lo eo : Option Addr} {lc ec : Nat} {lg : List Wr} {ws : List Int} {tr : List Ac} {bad : Nat} {w w' : World}
/-- one number more in a row of numbers -/
theorem wpList_int (t : TypeId) (ht : Try.prog.underlying t = some (.slice 3)) (w : World) {ops : Array Oper} {rest : List Oper} {o : Oper} {a : Act} {Q : Exit → Act → World → Prop} (hgd : o.guard = none) (s y : Operand)
    (ho : o.op = .call { callee := .builtin .append, args := #[s, y], argTypes := #[t, t] }) {B : Nat} {ro : Option Addr} {rc k : Nat} {zs : List Int} (hz : zs.length = k) (hrow : w.ownsRow B 3 1 (.slice ro k rc) k (ivs zs)) (hl : k < 100000) (hB : B ≤ w.heap.size) (v : Int) (c : Nat) (hs : a.eval s = .slice ro k rc) (hx : a.eval y = .slice (some ⟨w.heap.size, 0, none⟩) 1 c)
    (hk : ∀ gg cap' w1, w1.ownsRow B 3 1 (.slice (some ⟨gg, 0, none⟩) (k + 1) cap') (k + 1) (ivs (zs ++ [v])) → Below B w w1 → wpList Try.prog ops Q rest (a.put o.dst (.slice (some ⟨gg, 0, none⟩) (k + 1) cap')) w1) :
    wpList Try.prog ops Q (o :: rest) a (w.alloc (.cells #[.int .i64 v] 3)) := by
  obtain ⟨i0, hi0, hz0, hz1, hz2⟩ := info_parts info3
  refine wpList_append_lies _ hgd s y t ho B 3 i0 _ 1 8 ht hi0 hz0 hz1 hz2 rfl (by omega) _ k (ivs zs) hs (World.ownsRow.alloc hrow _) ⟨w.heap.size, 0, none⟩ 1 c [.int .i64 v] hx rfl (World.news_of_block (cs := #[.int .i64 v]) (t := 3) (fr := (0, 0)) (heap_alloc_new _ _)) (by simp [Value.oneCell']) (by omega) (by unfold maxLen; omega) (by omega) (by simp; omega) (w.heap.size + 1) (by simp) ?_
  intro gg cap' w1 hown1 hgrow hat hlt
  have t0 : Turn (At ro) w w1 := ((Turn.refl _ w).alloc _).grown hgrow (fun k hk _ => own_at hk)
  exact hk gg cap' w1 (by rw [ivs, List.map_append]; exact hown1) (t0.below (fun j hj => (row_at hrow hj).1) hB)
set_option maxRecDepth 100000 in
set_option maxHeartbeats 1000000 in
theorem words_in (a q : Nat) (h : Rem D B x ws m tr bad w) (hm' : m < 1999999999999) (hin : a + q ≤ ws.length) : Calls Try.prog 20 #[.pointer (some ⟨x, 0, none⟩), .int .i64 (a : Nat), .int .i64 (q : Nat)] w fun e w' => ∃ ro rc, e = .returned (.tuple #[.slice ro q rc, .int .i64 0]) ∧ w'.ownsRow w.heap.size 3 1 (.slice ro q rc) q (ivs ((ws.drop a).take q)) ∧ Below w.heap.size w w' := by
  obtain ⟨hb, few, lo, lc, lg, eo, ec, hm, hr, hl, hd⟩ := h
  have Hw := hide' (within_yes a q hm few hin)
  have H := hide' hm
  have HR := hide' hr
  have HLL := hide' (show lg.length < 2000000000000 by omega)
  have Few := hide' few
  have HIN := hide' hin
  have Hs := hide' (fun k (hk : k < q) => drop_take_succ ws a k (by omega))
  have Hlen := hide' (fun k (hk : k ≤ q) => show ((ws.drop a).take k).length = k by rw [List.length_take, List.length_drop]; omega)
  have E3 := hide' (fun (k : Nat) (hk : k < q) => show wrap64 ((k : Int) + 1) = (k : Int) + 1 from wrap_in (by omega) (by omega))
  have E4 := hide' (fun (k : Nat) (hk : k < q) => show wrap64 ((a : Int) + (k : Int)) = ((a + k : Nat) : Int) by rw [wrap_in (by omega) (by omega)]; omega)
  clear hm hr hl hd hb few hin hm'
  go_enter Try.func20, Try.ntmps20
  go_wp2_with fail
  refine Hw.out.mono ?_
  rintro e w1 ⟨rfl, hw1⟩
  replace hw1 := hw1.symm
  subst hw1
  clear Hw
  go_wp2_with fail
  go_loopw [9, 10] (fun l i wx => ∃ (k : Nat) (ro : Option Addr) (rc : Nat), k ≤ q ∧ i = .int .i64 (k : Int) ∧ l = .slice ro k rc ∧ wx.ownsRow w.heap.size 3 1 (.slice ro k rc) k (ivs ((ws.drop a).take k)) ∧ Below w.heap.size w wx) (fun _ i _ => q - (intOf i).toNat)
  case atStart => exact ⟨0, none, 0, by omega, rfl, rfl, World.ownsRow_nil _ _ _ _, Below.refl _ _⟩
  case round =>
    obtain ⟨k, ro, rc, hk, rfl, rfl, hrow, bk⟩ := hrel
    have Hrow := hide' hrow
    have Hbk := hide' bk
    by_cases hlt : k < q
    · have e3 := E3.out k hlt
      have e4 := E4.out k hlt
      have hm2 := H.out.kept (turn_below bk (S := fun _ => False)) (fun _ _ q => q)
      have Hwd := hide' (word_any ((a + k : Nat) : Int) hm2 HR.out.1 HLL.out)
      rw [HR.out.2 (a + k) (by have := HIN.out; omega)] at Hwd
      have hst := Hs.out k hlt
      generalize ws.getD (a + k) 0 = v at *
      have Hst := hide' hst
      clear hrow bk hm2 hst
      go_wp2_with fail
      refine Hwd.out.mono ?_
      rintro e w2 ⟨rfl, b2⟩
      have Hrow2 := hide' ((turn_below (S := fun _ => False) b2).row Hrow.out (fun _ _ q => q))
      have Hb2 := hide' (Hbk.out.trans (b2.mono Hbk.out.size))
      clear b2 Hwd
      go_wp2_with (at_builtin; refine wpList_int 42 Try.underlying42 w2 rfl _ _ rfl (Hlen.out k hk) Hrow2.out (by have := HIN.out; have := Few.out; omega) Hb2.out.size v _ rfl rfl ?_; intro gg cap' w3 hr3 b3)
      rw [← Hst.out] at hr3
      exact ⟨⟨k + 1, some ⟨gg, 0, none⟩, cap', by omega, by rw [e3]; go_num, rfl, hr3, Hb2.out.trans b3⟩, msr' hlt _ e3⟩
    · obtain rfl : k = q := by omega
      clear hrow bk
      go_wp2
      go_ret2
      exact ⟨ro, rc, rfl, Hrow.out, Hbk.out⟩
set_option maxRecDepth 100000 in
set_option maxHeartbeats 400000 in
theorem words_out (a n : Int) (h : Rem D B x ws m tr bad w) (hw : ¬ Wi ws a n) (hn2 : n ≤ 9223372036854775807) : Calls Try.prog 20 #[.pointer (some ⟨x, 0, none⟩), .int .i64 a, .int .i64 n] w fun e w' => e = .returned (.tuple #[.slice none 0 0, .int .i64 140]) ∧ w' = w := by
  obtain ⟨hb, few, lo, lc, lg, eo, ec, hm, hr, hl, hd⟩ := h
  have Hw := hide' (within_no a n hm few hw hn2)
  clear hd hb hl hm hr few hn2 hw
  go_enter Try.func20, Try.ntmps20
  go_wp2_with fail
  refine Hw.out.mono ?_
  rintro e w1 ⟨rfl, hw1⟩
  replace hw1 := hw1.symm
  subst hw1
  go_wp2
  go_ret2
  exact ⟨rfl, rfl⟩
theorem words_any (a n : Int) (h : Rem D B x ws m tr bad w) (hm' : m < 1999999999999) (hn2 : n ≤ 9223372036854775807) : Calls Try.prog 20 #[.pointer (some ⟨x, 0, none⟩), .int .i64 a, .int .i64 n] w fun e w' => ∃ ro rc, e = .returned (.tuple #[.slice ro (piece ws a n).length rc, .int .i64 (pe ws a n)]) ∧ w'.ownsRow w.heap.size 3 1 (.slice ro (piece ws a n).length rc) (piece ws a n).length (ivs (piece ws a n)) ∧ Below w.heap.size w w' := by
  by_cases hw : Wi ws a n
  · obtain ⟨k1, k2, k3⟩ := id hw
    obtain ⟨k, rfl⟩ : ∃ k : Nat, a = (k : Int) := ⟨a.toNat, by omega⟩
    obtain ⟨q, rfl⟩ : ∃ k : Nat, n = (k : Int) := ⟨n.toNat, by omega⟩
    rw [show pe ws k q = 0 from if_pos hw, show piece ws k q = (ws.drop k).take q by unfold piece; rw [if_pos hw, Int.toNat_natCast, Int.toNat_natCast], show ((ws.drop k).take q).length = q by rw [List.length_take, List.length_drop]; omega]
    exact words_in k q h hm' (by omega)
  · rw [show pe ws a n = 140 from if_neg hw, show piece ws a n = [] from if_neg hw]
    exact (words_out a n h hw hn2).mono fun e w' ⟨he, hw'⟩ => by subst hw'; exact ⟨none, 0, he, World.ownsRow_nil _ _ _ _, Below.refl _ _⟩
end F
end Go.Proofs.Ytoejcpfodbegeaa
