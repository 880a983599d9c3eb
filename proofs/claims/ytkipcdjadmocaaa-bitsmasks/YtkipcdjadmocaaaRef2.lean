import Derived.Test.YtkipcdjadmocaaaRef
import Derived.Test.YtkipcdjadmocaaaBackW
set_option linter.unusedVariables false
set_option linter.unusedSimpArgs false
namespace Go.Proofs.Ytkipcdjadmocaaa
open Go.RowKit
theorem Rs.apart {B x : Nat} {ao : Option Addr} {cap R : Nat} {p : Nat → Bool} {w : World} (h : Rs B x ao cap R p w) : ∀ j, Rrow ao j → j ≠ x ∧ B ≤ j ∧ j < w.heap.size := by
  rintro j ⟨a, ha, rfl⟩
  rcases h.row.2 with ⟨hv, h0⟩ | ⟨g, cap', cur, hv, hb, hg, h1, h2, h3, h4⟩
  · rw [ha] at hv; cases hv
  · rw [ha] at hv
    simp only [Value.slice.injEq, Option.some.injEq] at hv
    obtain ⟨rfl, _, rfl⟩ := hv
    refine ⟨fun e => ?_, hb, (Array.getElem?_eq_some_iff.1 hg).1⟩
    have hx := h.hx
    have e' : g = x := e
    rw [← e', hg] at hx
    simp at hx
theorem Rs.below {B x : Nat} {ao : Option Addr} {cap R : Nat} {p : Nat → Bool} {w w' : World} (h : Rs B x ao cap R p w) (b : Below w.heap.size w w') : Rs B x ao cap R p w' := h.kept (turn_below' (S := fun _ => False) b) (fun q => q) (fun _ _ q => q)
theorem own_row {ao : Option Addr} {n cap j : Nat} (h : (Value.slice ao n cap).ownBlock = some j) : Rrow ao j := by
  cases ao with
  | none => cases h
  | some a => cases h; exact ⟨a, rfl, rfl⟩
set_option maxHeartbeats 2000000 in
set_option maxRecDepth 100000 in
theorem rnew_any (n : Int) (w : World) : Calls Try.prog 10 #[.int .i64 n] w fun e w' => ∃ x, e = .returned (.pointer (some ⟨x, 0, none⟩)) ∧ ∃ ao cap, Rs w.heap.size x ao cap (roomOf n) (fun _ => false) w' ∧ Below w.heap.size w w' := by
  obtain ⟨i0, hi, hz0, hz1, hz2⟩ := info_parts info4
  obtain ⟨R, hR⟩ : ∃ R, roomOf n = R := ⟨_, rfl⟩
  have hRn : (R : Int) = min (max n 0) 65536 := by rw [← hR]; unfold roomOf; omega
  rw [hR]
  have hR2 : R ≤ 65536 := by omega
  have Hc := hide' hRn
  clear hRn hR
  obtain ⟨B, hB⟩ : ∃ B, w.heap.size = B := ⟨_, rfl⟩
  have HB := hide' hB
  rw [hB]
  have h0 : Rs B B none 0 0 (fun _ => false) (w.alloc (.cells #[.slice none 0 0] 72)) := ⟨Nat.le_refl _, by rw [← hB]; exact heap_alloc_new _ _, World.ownsRow_nil _ _ _ _, fun _ _ => rfl, by omega⟩
  have b0 : Below B w (w.alloc (.cells #[.slice none 0 0] 72)) := (Below.refl _ _).alloc (by omega) _
  go_enter Try.func10, Try.ntmps10
  go_wp2
  clear hB
  go_loopw [4] (fun i wx => ∃ (k : Nat) (ao : Option Addr) (cap : Nat), k ≤ R ∧ i = .int .i64 (k : Int) ∧ Rs B B ao cap k (fun _ => false) wx ∧ Below B w wx) (fun i _ => R - (intOf i).toNat)
  case atStart => exact ⟨0, none, 0, by omega, rfl, h0, b0⟩
  case round =>
    clear h0 b0
    obtain ⟨k, ao, cap, hk, rfl, hs, bk⟩ := hrel
    have c0 := hs.c0
    have f0 : wr.frozen? ⟨B, 0, none⟩ = false := Lib.frozen_of_heap hs.hx 0
    have hBl := hs.lt
    by_cases hlt : k < R
    · have e1 : decide ((k : Int) < n) = true := by have := Hc.out; simp; omega
      have e2 : decide ((k : Int) < 65536) = true := by simp; omega
      have hrow := hs.row
      have hap := hs.apart
      have hbx : some B ≠ (Value.slice ao k cap).ownBlock := fun q => (hap B (own_row q.symm)).1 rfl
      go_wp2_with (first | (at_builtin; refine wpList_append_lies _ rfl _ _ 53 rfl B 4 i0 (.bool false) 1 1 Try.underlying53 hi hz0 hz1 hz2 rfl (by decide) _ _ _ rfl (hrow.alloc _) ⟨wr.heap.size, 0, none⟩ 1 1 [.bool false] rfl rfl (cell_one_new _ _ _) (by simp [Value.oneCell']) (by decide) (by unfold maxLen; omega) (by omega) (by simp; omega) (wr.heap.size + 1) (by simp) ?_; intro g3 cap' w3 hrow3 hgrow3 hat3 hlt3; have hb3 : w3.heap[B]? = some (.cells #[.slice ao k cap] 72 (0, 0)) := (hgrow3.block B (by simp; omega) hbx).trans ((Below.heap_alloc _ _ _ hBl).trans hs.hx); have c3 : w3.cell? ⟨B, 0, none⟩ = some (.slice ao k cap) := (by rw [Lib.cell_of_heap hb3]; rfl); have f3 : w3.frozen? ⟨B, 0, none⟩ = false := Lib.frozen_of_heap hb3 0; clear c0 f0))
      have hrow4 : (w3.setCell ⟨B, 0, none⟩ (.slice (some ⟨g3, 0, none⟩) (k + 1) cap')).ownsRow B 4 1 (.slice (some ⟨g3, 0, none⟩) (k + 1) cap') (k + 1) (bools (fun _ => false) (k + 1)) := by
        rw [bools_succ]
        refine ((Turn.refl (fun j => j = B) w3).setCell (p := ⟨B, 0, none⟩) (fun _ => rfl) _).row hrow3 (fun g' hg' => ?_)
        cases hg'
        intro e
        rcases hrow3.2 with ⟨hv, _⟩ | ⟨g5, cap5, cur, hv, hb, hg5, _⟩
        · cases hv
        · simp only [Value.slice.injEq, Option.some.injEq, Addr.mk.injEq] at hv
          obtain ⟨⟨rfl, _⟩, _⟩ := hv
          have e' : g3 = B := e
          rw [e', hb3] at hg5
          simp at hg5
      have hb4 : (w3.setCell ⟨B, 0, none⟩ (.slice (some ⟨g3, 0, none⟩) (k + 1) cap')).heap[B]? = some (.cells #[.slice (some ⟨g3, 0, none⟩) (k + 1) cap'] 72 (0, 0)) := by
        simp [World.setCell, Array.getElem?_modify, hb3]
      have b3 : Below B w w3 := bk.grown ((World.grownBy_alloc wr _ _).trans hgrow3) (by omega) (fun j hj => (hap j (own_row hj)).2.1)
      exact ⟨⟨k + 1, some ⟨g3, 0, none⟩, cap', by omega, by go_num, ⟨Nat.le_refl _, hb4, hrow4, fun _ _ => rfl, by omega⟩, b3.setCell (Nat.le_refl _) _⟩, by simp [intOf]; omega⟩
    · have hkR : k = R := by omega
      subst hkR
      have hn2 : ¬ (k : Int) < n ∨ (k : Int) = 65536 := by have := Hc.out; omega
      by_cases hn3 : (k : Int) < n
      · have e1 : decide ((k : Int) < n) = true := by simpa using hn3
        have e2 : decide ((k : Int) < 65536) = false := by simp; omega
        clear hn2 hn3 hlt
        go_wp2
        go_ret
        exact ⟨B, rfl, ao, cap, hs, bk⟩
      · have e1 : decide ((k : Int) < n) = false := by simpa using hn3
        clear hn2 hn3 hlt
        go_wp2
        go_ret
        exact ⟨B, rfl, ao, cap, hs, bk⟩
/-- what is in, rising -/
def lp (p : Nat → Bool) (k : Nat) : List Nat := (List.range k).filter fun i => p i
theorem lp_yes (p : Nat → Bool) (k : Nat) (h : p k = true) : lp p (k + 1) = lp p k ++ [k] := by simp [lp, List.range_succ, List.filter_append, h]
theorem lp_no (p : Nat → Bool) (k : Nat) (h : p k = false) : lp p (k + 1) = lp p k := by simp [lp, List.range_succ, List.filter_append, h]
theorem lp_len (p : Nat → Bool) (k : Nat) : (lp p k).length ≤ k := by
  have := List.length_filter_le (fun i => p i) (List.range k)
  simpa [lp] using this
theorem lp_cnt (p : Nat → Bool) : ∀ k, (lp p k).length = B.cnt p k 0 := by
  intro k
  induction k with
  | zero => rfl
  | succ k ih =>
    have hc : B.cnt p (k + 1) 0 = B.cnt p k 0 + (p k).toNat := by rw [B.cnt_add]; simp [B.cnt]
    cases h : p k
    · rw [lp_no p k h, hc, ih, h]; rfl
    · rw [lp_yes p k h, hc, h]; simp [ih]
set_option maxHeartbeats 2000000 in
set_option maxRecDepth 100000 in
theorem rall_any {B x : Nat} {ao : Option Addr} {cap R : Nat} {p : Nat → Bool} {w : World} (h : Rs B x ao cap R p w) : Calls Try.prog 61 #[.pointer (some ⟨x, 0, none⟩)] w fun e w' => ∃ ro rc, e = .returned (.slice ro (lp p R).length rc) ∧ w'.ownsRow w.heap.size 3 1 (.slice ro (lp p R).length rc) (lp p R).length (i64s (lp p R)) ∧ Below w.heap.size w w' := by
  obtain ⟨i0, hi, hz0, hz1, hz2⟩ := info_parts info3
  have hle := h.le
  have H := hide' h
  have Hc : Hid (∀ wx, Below w.heap.size w wx → wx.cell? ⟨x, 0, none⟩ = some (.slice ao R cap)) := fun wx b => (h.below b).c0
  have Hat : Hid (∀ k, k < R → ∃ g, ao = some ⟨g, 0, none⟩ ∧ ∀ wx, Below w.heap.size w wx → wx.cell? ⟨g, k, none⟩ = some (.bool (p k))) := fun k hk => by
    obtain ⟨g, hg, hb, hl, hc, hf, hgx⟩ := h.at' (by omega)
    exact ⟨g, hg, fun wx b => (b.cell (p := ⟨g, k, none⟩) hl).trans (hc k hk)⟩
  have Hy := hide' (lp_yes p)
  have Hn := hide' (lp_no p)
  have Hl := hide' (lp_len p)
  clear h
  obtain ⟨C, hC⟩ : ∃ C, w.heap.size = C := ⟨_, rfl⟩
  have HC := hide' hC
  rw [hC] at Hc Hat ⊢
  clear hC
  go_enter Try.func61, Try.ntmps61
  go_wp2
  go_loopw [3, 4] (fun v i wx => ∃ (k : Nat) (ro : Option Addr) (rc : Nat), k ≤ R ∧ i = .int .i64 (k : Int) ∧ v = .slice ro (lp p k).length rc ∧ wx.ownsRow C 3 1 (.slice ro (lp p k).length rc) (lp p k).length (i64s (lp p k)) ∧ Below C w wx) (fun _ i _ => R - (intOf i).toNat)
  case atStart => exact ⟨0, none, 0, by omega, rfl, rfl, World.ownsRow_nil _ _ _ _, Below.refl _ _⟩
  case round =>
    obtain ⟨k, ro, rc, hk, rfl, rfl, hrow, bk⟩ := hrel
    have c0 := Hc.out _ bk
    have hlen := Hl.out k
    have hsk : C ≤ wr.heap.size := by rw [← HC.out]; exact bk.size
    by_cases hlt : k < R
    · have hlt' : (k : Int) < (R : Int) := by omega
      obtain ⟨g, hao, hcg⟩ := Hat.out k hlt
      have ck := hcg _ bk
      subst hao
      clear hcg
      cases hb : p k
      · rw [hb] at ck
        have Hl2 := hide' (Hn.out k hb)
        clear hb
        go_wp2
        exact ⟨⟨k + 1, ro, rc, by omega, by go_num, by rw [Hl2.out], by rw [Hl2.out]; exact hrow, bk⟩, by simp [intOf]; omega⟩
      · rw [hb] at ck
        have Hl2 := hide' (Hy.out k hb)
        have hrB := own_ge hrow
        generalize hL : lp p k = L at *
        clear hb hL
        go_wp2_with (first | (at_builtin; refine wpList_append_lies _ rfl _ _ 22 rfl C 3 i0 (.int .i64 0) 1 8 Try.underlying22 hi hz0 hz1 hz2 rfl (by decide) _ _ _ rfl (hrow.alloc _) ⟨wr.heap.size, 0, none⟩ 1 1 [.int .i64 (k : Int)] rfl rfl (cell_one_new _ _ _) (by simp [Value.oneCell']) (by decide) (by unfold maxLen; omega) (by omega) (by simp; omega) (wr.heap.size + 1) (by simp) ?_; intro g3 rc' w3 hrow3 hgrow3 hat3 hlt3))
        have b3 : Below C w w3 := bk.grown ((World.grownBy_alloc wr _ _).trans hgrow3) hsk hrB
        have hlq : (lp p (k + 1)).length = L.length + 1 := by rw [Hl2.out]; simp
        have hiq : i64s (lp p (k + 1)) = i64s L ++ [.int .i64 (k : Int)] := by rw [Hl2.out]; simp [i64s]
        exact ⟨⟨k + 1, some ⟨g3, 0, none⟩, rc', by omega, by go_num, by rw [hlq], by rw [hlq, hiq]; exact hrow3, b3⟩, by simp [intOf]; omega⟩
    · have hkR : k = R := by omega
      subst hkR
      have hlt' : ¬ (k : Int) < (k : Int) := by omega
      go_wp2
      go_ret
      exact ⟨ro, rc, rfl, hrow, bk⟩
set_option maxHeartbeats 1000000 in
set_option maxRecDepth 100000 in
theorem rcount_any {B0 x : Nat} {ao : Option Addr} {cap R : Nat} {p : Nat → Bool} {w : World} (h : Rs B0 x ao cap R p w) : Calls Try.prog 40 #[.pointer (some ⟨x, 0, none⟩)] w fun e w' => e = .returned (.int .i64 (B.cnt p R 0 : Nat)) ∧ Below w.heap.size w w' := by
  have Ha := hide' (rall_any h)
  have Hc := hide' (lp_cnt p R)
  clear h
  generalize lp p R = L at *
  go_enter Try.func40, Try.ntmps40
  go_wp2_with fail
  refine Ha.out.mono ?_
  rintro e w1 ⟨ro, rc, rfl, hrow, b1⟩
  go_wp2
  go_ret
  exact ⟨ret_int (by rw [Hc.out]), b1⟩
end Go.Proofs.Ytkipcdjadmocaaa
