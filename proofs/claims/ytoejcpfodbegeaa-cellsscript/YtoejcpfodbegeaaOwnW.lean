import Derived.Test.YtoejcpfodbegeaaOwn
set_option linter.unusedVariables false
set_option linter.unusedSimpArgs false
namespace Go.Proofs.Ytoejcpfodbegeaa
open Go.RowKit
namespace F
open M
variable {w w' : World}
/-- one thing more in a row: what turns is the row's block, and new ones -/
theorem wpList_more {t e m bytes : Nat} {z : Value} (ht : Try.prog.underlying t = some (.slice e)) (hinf : (Try.prog.info? e).map (fun i => (i.zero, i.size, i.bytes)) = some (some z, m, bytes)) (hz : z.cells.size = m) (hm : 0 < m) (hby : bytes ≤ 40) (w : World) {ops : Array Oper} {rest : List Oper} {o : Oper} {a : Act} {Q : Exit → Act → World → Prop} (hgd : o.guard = none) (s y : Operand)
    (ho : o.op = .call { callee := .builtin .append, args := #[s, y], argTypes := #[t, t] }) {B : Nat} {ro : Option Addr} {rc k : Nat} {xs : List Value} (hrow : w.ownsRow B e m (.slice ro k rc) k xs) (hl : k < 3000000000000) (hB : B ≤ w.heap.size) (cs : List Value) (hcl : cs.length = m) (h1 : ∀ u ∈ cs, u.oneCell' = true) (c : Nat) (hs : a.eval s = .slice ro k rc) (hx : a.eval y = .slice (some ⟨w.heap.size, 0, none⟩) 1 c)
    (hk : ∀ gg cap' w1, w1.ownsRow B e m (.slice (some ⟨gg, 0, none⟩) (k + 1) cap') (k + 1) (xs ++ cs) → Turn (At ro) w w1 → (At ro gg ∨ w.heap.size ≤ gg) → wpList Try.prog ops Q rest (a.put o.dst (.slice (some ⟨gg, 0, none⟩) (k + 1) cap')) w1) :
    wpList Try.prog ops Q (o :: rest) a (w.alloc (.cells cs.toArray e)) := by
  obtain ⟨i0, hi0, hz0, hz1, hz2⟩ := info_parts hinf
  refine wpList_append_lies _ hgd s y t ho B e i0 _ m bytes ht hi0 hz0 hz1 hz2 hz hm _ k xs hs (World.ownsRow.alloc hrow _) ⟨w.heap.size, 0, none⟩ 1 c cs hx (by omega) (fun j u hj => World.news_of_block (heap_alloc_new w (.cells cs.toArray e)) j u (by simpa using hj)) h1 (by omega) (by unfold maxLen; omega) (Nat.le_trans (Nat.mul_le_mul_left _ hby) (by omega)) (by simp; omega) (w.heap.size + 1) (by simp) ?_
  intro gg cap' w1 hown1 hgrow hat hlt
  have t0 : Turn (At ro) w w1 := ((Turn.refl _ w).alloc _).grown hgrow (fun k hk _ => own_at hk)
  refine hk gg cap' w1 hown1 t0 ?_
  rcases hat with q | q
  · exact .inl (own_at q)
  · exact .inr (by omega)
theorem row_put {g rc n k : Nat} {B : Nat} {zs : List Int} (h : w.ownsRow B 3 1 (.slice (some ⟨g, 0, none⟩) n rc) n (ivs zs)) (hk : k < n) (v : Int) : (w.setCell ⟨g, k, none⟩ (.int .i64 v)).ownsRow B 3 1 (.slice (some ⟨g, 0, none⟩) n rc) n (ivs (zs.set k v)) := by
  refine ⟨by rw [ivs, List.length_map, List.length_set]; have := h.1; rw [ivs, List.length_map] at this; exact this, ?_⟩
  rcases h.2 with ⟨hv, _⟩ | ⟨g', cap', cur, hv, hb, hg', h1, h2, h3, h4⟩
  · cases hv
  · simp only [Value.slice.injEq, Option.some.injEq] at hv
    obtain ⟨hv1, _, rfl⟩ := hv
    cases hv1
    refine .inr ⟨g, rc, cur.setIfInBounds k (.int .i64 v), rfl, hb, set_block hg', h1, h2, by simpa using h3, ?_⟩
    rw [Array.toList_setIfInBounds, List.take_set, h4]
    simp [ivs, List.map_set]
theorem turn_at {g k : Nat} {v : Value} : Turn (At (some ⟨g, 0, none⟩)) w (w.setCell ⟨g, k, none⟩ v) := (Turn.refl _ w).setCell (p := ⟨g, k, none⟩) (fun _ => ⟨_, rfl, rfl⟩) _
set_option maxRecDepth 100000 in
set_option maxHeartbeats 1000000 in
/-- a list of words is spoilt -/
theorem ownWords_any {B n rc : Nat} {ro : Option Addr} {zs : List Int} (h : w.ownsRow B 3 1 (.slice ro n rc) n (ivs zs)) (hn : n ≤ 65536) (hB : B ≤ w.heap.size) : Calls Try.prog 19 #[.slice ro n rc] w fun e w' => e = .returned (.tuple #[]) ∧ Turn (At ro) w w' := by
  have H := hide' h
  have HB := hide' hB
  have HN := hide' hn
  have Hw := hide' (fun (k : Nat) (hk : k < n) => show wrap64 ((k : Int) + 1) = (k : Int) + 1 from wrap_in (by omega) (by omega))
  clear h hB hn
  go_enter Try.func19, Try.ntmps19
  go_wp2_with fail
  go_loopw [2] (fun i wx => ∃ (k : Nat) (zs : List Int), k ≤ n ∧ i = .int .i64 (k : Int) ∧ wx.ownsRow B 3 1 (.slice ro n rc) n (ivs zs) ∧ Turn (At ro) w wx) (fun i _ => n - (intOf i).toNat)
  case atStart => exact ⟨0, zs, by omega, rfl, H.out, Turn.refl _ _⟩
  case round =>
    obtain ⟨k, zs', hk, rfl, hrow, tk⟩ := hrel
    have Hrow := hide' hrow
    have Htk := hide' tk
    by_cases hlt : k < n
    · obtain ⟨g, rfl, _, _, hrc, hc⟩ := row_ints hrow (by have := hrow.1; simpa [ivs] using this) (by omega)
      have cw := hc k hlt
      have fw : wr.frozen? ⟨g, k, none⟩ = false := by
        rcases hrow.2 with ⟨hv, _⟩ | ⟨g', cap', cur, hv, hb, hg', _⟩
        · cases hv
        · simp only [Value.slice.injEq, Option.some.injEq] at hv
          obtain ⟨hv1, _, _⟩ := hv
          cases hv1
          exact Lib.frozen_of_heap hg' k
      have e3 := Hw.out k hlt
      clear hrow tk hc
      go_wp2
      exact ⟨⟨k + 1, zs'.set k (-7), by omega, by rw [e3]; go_num, row_put Hrow.out hlt _, Htk.out.trans turn_at⟩, msr' hlt _ e3⟩
    · clear hrow tk
      go_wp2_with fail
      go_loopw [0, 3] (fun l i wx => ∃ (j : Nat) (ro' : Option Addr) (rc' : Nat) (xs : List Value), j ≤ 20 ∧ i = .int .i64 (j : Int) ∧ l = .slice ro' (n + j) rc' ∧ wx.ownsRow B 3 1 (.slice ro' (n + j) rc') (n + j) xs ∧ Turn (At ro) w wx ∧ ∀ q, At ro' q → At ro q ∨ w.heap.size ≤ q) (fun _ i _ => 20 - (intOf i).toNat)
      case atStart => exact ⟨0, ro, rc, _, by omega, rfl, rfl, Hrow.out, Htk.out, fun q hq => .inl hq⟩
      case round =>
        obtain ⟨j, ro', rc', xs, hj, rfl, rfl, hrow, tj, hsub⟩ := hrel
        by_cases hlt2 : j < 20
        · have hB2 : B ≤ wr.heap.size := Nat.le_trans HB.out tj.size
          have HR := hide' hrow
          have HT := hide' tj
          have HS := hide' hsub
          have HB2 := hide' hB2
          clear hrow tj hsub hB2
          go_wp2_with (at_builtin; refine wpList_more (e := 3) (m := 1) Try.underlying42 info3 rfl (by omega) (by omega) wr rfl _ _ rfl HR.out (by have := HN.out; omega) HB2.out [.int .i64 (-8)] rfl (by simp [Value.oneCell']) _ rfl rfl ?_; intro gg cap' w1 hr1 t1 hg1)
          refine ⟨⟨j + 1, some ⟨gg, 0, none⟩, cap', _, by omega, by go_num, rfl, hr1, HT.out.then t1 (fun i hi q => ?_), ?_⟩, msr2 hlt2⟩
          · rcases HS.out i q with q | q
            · exact q
            · omega
          · rintro q ⟨a, ha, rfl⟩
            cases ha
            rcases hg1 with q | q
            · exact HS.out _ q
            · exact .inr (Nat.le_trans HT.out.size q)
        · have HT := hide' tj
          clear hrow tj hsub
          go_wp2
          go_end0
          exact ⟨rfl, HT.out⟩
end F
end Go.Proofs.Ytoejcpfodbegeaa
