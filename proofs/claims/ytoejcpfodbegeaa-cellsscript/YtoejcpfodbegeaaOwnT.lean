import Derived.Test.YtoejcpfodbegeaaOwnW
set_option linter.unusedVariables false
set_option linter.unusedSimpArgs false
namespace Go.Proofs.Ytoejcpfodbegeaa
open Go.RowKit
namespace F
open M
variable {w w' : World}
theorem setCells_block {b : Nat} {t : TypeId} : ∀ (vs : List Value) (o : Nat) (w : World) (cs : Array Value), w.heap[b]? = some (.cells cs t (0, 0)) → ∃ cs', (w.setCells b o vs).heap[b]? = some (.cells cs' t (0, 0)) ∧ cs'.size = cs.size ∧ Turn (fun j => j = b) w (w.setCells b o vs) := by
  intro vs
  induction vs with
  | nil => intro o w cs h; exact ⟨cs, h, rfl, Turn.refl _ _⟩
  | cons v r ih =>
    intro o w cs h
    obtain ⟨cs', h1, h2, h3⟩ := ih (o + 1) (w.setCell ⟨b, o, none⟩ v) _ (set_block h)
    have t1 : Turn (fun k => k = b) w (w.setCell ⟨b, o, none⟩ v) := (Turn.refl (fun k => k = b) w).setCell (p := ⟨b, o, none⟩) (fun _ => rfl) _
    exact ⟨cs', h1, by rw [h2]; simp, t1.trans h3⟩
/-- a row whose contents are of no matter -/
def Any5 (B : Nat) (ro : Option Addr) (n rc : Nat) (w : World) : Prop := (ro = none ∧ n = 0 ∧ rc = 0) ∨ ∃ g cur, ro = some ⟨g, 0, none⟩ ∧ B ≤ g ∧ w.heap[g]? = some (.cells cur 37 (0, 0)) ∧ n ≤ rc ∧ rc ≤ maxLen ∧ cur.size = rc * 5
theorem any5_of {B n rc : Nat} {ro : Option Addr} {xs : List Value} (h : w.ownsRow B 37 5 (.slice ro n rc) n xs) : Any5 B ro n rc w := by
  rcases h.2 with ⟨hv, h0⟩ | ⟨g, cap, cur, hv, hb, hg, h1, h2, h3, h4⟩
  · simp only [Value.slice.injEq] at hv
    exact .inl ⟨hv.1, hv.2.1, hv.2.2⟩
  · simp only [Value.slice.injEq] at hv
    obtain ⟨rfl, _, rfl⟩ := hv
    exact .inr ⟨g, cur, rfl, hb, hg, h1, h2, h3⟩
theorem any5_to {B n rc : Nat} {ro : Option Addr} (h : Any5 B ro n rc w) : ∃ xs, w.ownsRow B 37 5 (.slice ro n rc) n xs := by
  rcases h with ⟨rfl, rfl, rfl⟩ | ⟨g, cur, rfl, hb, hg, h1, h2, h3⟩
  · exact ⟨[], World.ownsRow_nil _ _ _ _⟩
  · refine ⟨cur.toList.take (n * 5), ?_, .inr ⟨g, rc, cur, rfl, hb, hg, h1, h2, h3, rfl⟩⟩
    rw [List.length_take, Array.length_toList, h3]
    have := Nat.mul_le_mul_right 5 h1
    omega
set_option maxRecDepth 100000 in
set_option maxHeartbeats 1000000 in
/-- a trace is spoilt -/
theorem ownTrace_any {B n rc : Nat} {ro : Option Addr} {xs : List Value} (h : w.ownsRow B 37 5 (.slice ro n rc) n xs) (hn : n ≤ 1999999999999) (hB : B ≤ w.heap.size) : Calls Try.prog 18 #[.slice ro n rc] w fun e w' => e = .returned (.tuple #[]) ∧ Turn (At ro) w w' := by
  have H := hide' (any5_of h)
  have HB := hide' hB
  have HN := hide' hn
  have Hw := hide' (fun (k : Nat) (hk : k < n) => wrap_kk k (by omega))
  clear h hB hn
  go_enter Try.func18, Try.ntmps18
  go_wp2_with fail
  go_loopw [2] (fun i wx => ∃ (k : Nat), k ≤ n ∧ i = .int .i64 (k : Int) ∧ Any5 B ro n rc wx ∧ Turn (At ro) w wx) (fun i _ => n - (intOf i).toNat)
  case atStart => exact ⟨0, by omega, rfl, H.out, Turn.refl _ _⟩
  case round =>
    obtain ⟨k, hk, rfl, hrow, tk⟩ := hrel
    have Hrow := hide' hrow
    have Htk := hide' tk
    by_cases hlt : k < n
    · rcases hrow with ⟨_, q, _⟩ | ⟨g, cur, rfl, hb, hg, h1, h2, h3⟩
      · omega
      have e3 := Hw.out k hlt
      have Hth : Hid (wr.there g (k * 5) 5) := fun j hj => by
        have hlt5 : k * 5 + j < cur.size := by rw [h3]; have := Nat.mul_le_mul_right 5 (show k + 1 ≤ rc by omega); omega
        refine ⟨?_, Lib.frozen_of_heap hg _⟩
        rw [Lib.cell_of_heap hg, Array.getElem?_eq_getElem hlt5]
        rfl
      have Hg := hide' hg
      have H123 := hide' (And.intro hb (And.intro h1 (And.intro h2 h3)))
      clear tk hb hg h1 h2 h3
      go_wp2_with (with_reducible refine stay_store 37 _ _ rfl ?_)
      unfold Stay
      refine wpList_store_mid rfl 37 _ _ rfl g (k * 5) #[.int .i8 99, .int .i64 0, .int .i64 0, .int .i64 0, .bool false] rfl rfl Hth.out (by kernel_rfl) (by simp [Value.oneCell']) ?_
      obtain ⟨cs', g1, g2, g3⟩ := setCells_block [.int .i8 99, .int .i64 0, .int .i64 0, .int .i64 0, .bool false] (k * 5) wr cur Hg.out
      have K : Hid (Any5 B (some ⟨g, 0, none⟩) n rc (wr.setCells g (k * 5) [.int .i8 99, .int .i64 0, .int .i64 0, .int .i64 0, .bool false]) ∧ Turn (At (some ⟨g, 0, none⟩)) w (wr.setCells g (k * 5) [.int .i8 99, .int .i64 0, .int .i64 0, .int .i64 0, .bool false])) := ⟨.inr ⟨g, cs', rfl, H123.out.1, g1, H123.out.2.1, H123.out.2.2.1, by rw [g2]; exact H123.out.2.2.2⟩, Htk.out.trans (g3.mono (fun j _ q => ⟨_, rfl, q⟩))⟩
      clear g1 g2 g3
      simp only [List.toList_toArray]
      generalize wr.setCells g (k * 5) [.int .i8 99, .int .i64 0, .int .i64 0, .int .i64 0, .bool false] = w2 at *
      go_wp2
      exact ⟨⟨k + 1, by omega, by rw [e3]; go_num, K.out.1, K.out.2⟩, msr' hlt _ e3⟩
    · clear hrow tk
      obtain ⟨xs0, hx0⟩ := any5_to Hrow.out
      have HX0 := hide' hx0
      clear hx0
      go_wp2_with fail
      go_loopw [0, 3] (fun l i wx => ∃ (j : Nat) (ro' : Option Addr) (rc' : Nat) (xs : List Value), j ≤ 20 ∧ i = .int .i64 (j : Int) ∧ l = .slice ro' (n + j) rc' ∧ wx.ownsRow B 37 5 (.slice ro' (n + j) rc') (n + j) xs ∧ Turn (At ro) w wx ∧ ∀ q, At ro' q → At ro q ∨ w.heap.size ≤ q) (fun _ i _ => 20 - (intOf i).toNat)
      case atStart => exact ⟨0, ro, rc, _, by omega, rfl, rfl, HX0.out, Htk.out, fun q hq => .inl hq⟩
      case round =>
        obtain ⟨j, ro', rc', xs, hj, rfl, rfl, hrow, tj, hsub⟩ := hrel
        by_cases hlt2 : j < 20
        · have hB2 : B ≤ wr.heap.size := Nat.le_trans HB.out tj.size
          have HR := hide' hrow
          have HT := hide' tj
          have HS := hide' hsub
          have HB2 := hide' hB2
          clear hrow tj hsub hB2
          go_wp2_with (at_builtin; refine wpList_more (e := 37) (m := 5) Try.underlying40 info37 rfl (by omega) (by omega) wr rfl _ _ rfl HR.out (by have := HN.out; omega) HB2.out [.int .i8 98, .int .i64 0, .int .i64 0, .int .i64 0, .bool false] rfl (by simp [Value.oneCell']) _ rfl rfl ?_; intro gg cap' w1 hr1 t1 hg1)
          refine ⟨⟨j + 1, some ⟨gg, 0, none⟩, cap', _, by omega, by go_num, rfl, hr1, HT.out.then t1 (fun i hi q => ?_), ?_⟩, msr2 hlt2⟩
          · rcases HS.out i q with q | q
            · exact q
            · omega
          · rintro q ⟨a, ha, rfl⟩
            cases ha
            rcases hg1 with q | q
            · exact HS.out _ q
            · exact .inr (Nat.le_trans HT.out.size q)
        · have HT := hide' tj
          clear hrow tj hsub
          go_wp2
          go_end0
          exact ⟨rfl, HT.out⟩
end F
end Go.Proofs.Ytoejcpfodbegeaa
