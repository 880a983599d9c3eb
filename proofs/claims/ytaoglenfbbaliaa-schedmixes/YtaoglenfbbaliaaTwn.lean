import Derived.Test.YtaoglenfbbaliaaSam
set_option linter.unusedVariables false
set_option linter.unusedSimpArgs false
namespace Go.Proofs.Ytaoglenfbbaliaa
open Go.RowKit
namespace F
open C
/-- numbers, and marked room behind them -/
def mk (zs : List Int) (k : Nat) : List Int := zs ++ List.replicate k (-77)
theorem mk_len (zs : List Int) (k : Nat) : (mk zs k).length = zs.length + k := by simp [mk]
theorem mk_more (zs : List Int) (k : Nat) : mk zs k ++ [-77] = mk zs (k + 1) := by simp [mk, List.replicate_succ']
theorem mk_take (zs : List Int) (k : Nat) : (mk zs k).take zs.length = zs := by simp [mk]
/-- what twin answers -/
structure Tw (B g cap : Nat) (zs : List Int) (w : World) : Prop where
  row : w.ownsRow B 3 1 (.slice (some ⟨g, 0, none⟩) (mk zs 24).length cap) (mk zs 24).length (ivs (mk zs 24))
variable {B g cap : Nat} {zs : List Int} {w w' : World}
theorem Tw.blk (h : Tw B g cap zs w) : B ≤ g ∧ g < w.heap.size := by
  have := row_int h.row (k := 0) (by rw [mk_len]; omega)
  exact this.2.2
theorem Tw.kept {S : Nat → Prop} (h : Tw B g cap zs w) (t : Turn S w w') (hn : ¬ S g) : Tw B g cap zs w' := ⟨t.row h.row (fun j hj => by have : g = j := (by simpa [Value.ownBlock] using hj); rw [← this]; exact hn)⟩
theorem Tw.below (h : Tw B g cap zs w) (b : Below w.heap.size w w') : Tw B g cap zs w' := h.kept (turn_below (S := fun _ => False) b) (fun q => q)
theorem Tw.ints (h : Tw B g cap zs w) : Ints w (some ⟨g, 0, none⟩) zs := by
  refine .inr ⟨g, 0, rfl, h.blk.2, fun j hj => ?_⟩
  have := (row_int h.row (k := j) (by rw [mk_len]; omega)).1
  rw [Nat.zero_add, this]
  rw [F.mk, List.getD, List.getD, List.getElem?_append_left hj]
theorem Tw.room (h : Tw B g cap zs w) : zs.length + 24 ≤ cap := by
  rcases h.row.2 with ⟨hv, _⟩ | ⟨g', cap', cur, hv, hb, hg', h1, _⟩
  · cases hv
  · simp only [Value.slice.injEq, Option.some.injEq] at hv
    obtain ⟨_, _, rfl⟩ := hv
    rw [mk_len] at h1
    exact h1
set_option maxRecDepth 100000 in
set_option maxHeartbeats 2000000 in
/-- numbers in memory of their own, with marked room behind them -/
theorem twin_any (a : Option Addr) (c : Nat) (zs : List Int) (w : World) (hI : Ints w a zs) (hn : a = none → c = 0) (hl : zs.length ≤ 17592186043904) :
    Calls Try.prog 27 #[.slice a zs.length c] w fun e w' => ∃ g cap, e = .returned (.slice (some ⟨g, 0, none⟩) zs.length cap) ∧ Tw w.heap.size g cap zs w' ∧ Below w.heap.size w w' := by
  have E3 : Hid (∀ k : Nat, k < 24 → wrap64 ((k : Int) + 1) = (k : Int) + 1) := hide' (fun k hk => wrap_in (by omega) (by omega))
  have HL : Hid (∀ k : Nat, k ≤ 24 → (F.mk zs k).length < 17592186044000) := hide' (fun k hk => by rw [mk_len]; omega)
  have H0 : Hid (([] : List Int).length + zs.length ≤ 17592186044100) := hide' (by simp; omega)
  have HR0 := hide' (World.ownsRow_nil w w.heap.size 3 1)
  have HI := hide' hI
  have HN := hide' hn
  have HZ := hide' hl
  clear hI hn hl
  go_enter Try.func27, Try.ntmps27
  go_wp2_with (at_builtin; refine wpList_ints w rfl _ _ rfl (zs := []) HR0.out (Nat.le_refl _) a c zs H0 HI.out HN.out rfl rfl ?_; intro ro rc w1 r1 t1 hg1; rw [List.nil_append] at r1; have K1 : Hid (w1.ownsRow w.heap.size 3 1 (.slice ro (F.mk zs 0).length rc) (F.mk zs 0).length (ivs (F.mk zs 0)) ∧ Below w.heap.size w w1) := hide' ⟨by simpa [F.mk] using r1, t1.below (fun j hj => by obtain ⟨a, ha, _⟩ := hj; cases ha) (Nat.le_refl _)⟩; clear r1 t1 hg1)
  go_loopw [4, 3] (fun i m wx => ∃ (k : Nat) (ro : Option Addr) (rc : Nat), i = .int .i64 (k : Int) ∧ m = .slice ro (F.mk zs k).length rc ∧ k ≤ 24 ∧ wx.ownsRow w.heap.size 3 1 (.slice ro (F.mk zs k).length rc) (F.mk zs k).length (ivs (F.mk zs k)) ∧ Below w.heap.size w wx) (fun i _ _ => 24 - (intOf i).toNat)
  case atStart => exact ⟨0, ro, rc, rfl, by simp [F.mk], Nat.zero_le _, K1.out⟩
  case round =>
    obtain ⟨k, ro, rc, rfl, rfl, hk, hrow, hb⟩ := hrel
    have HR := hide' hrow
    have HB := hide' hb
    clear hrow hb K1
    by_cases hlt : k < 24
    · have hlt' : (k : Int) < 24 := by omega
      have e1 := E3.out k hlt
      have Hend := hide' (msr' hlt _ e1)
      have n1 := hide' (HL.out k (by omega))
      go_wp2_with (at_builtin; refine wpList_num wr rfl _ _ rfl HR.out n1 HB.out.size (-77) _ rfl rfl ?_; intro gg cap' w2 r2 t2 hg2; rw [mk_more] at r2; have K2 := hide' (And.intro r2 (HB.out.trans (t2.below (fun j hj => (HR.out.lt j (at_own hj)).1) HB.out.size))); clear r2 t2 hg2)
      refine ⟨⟨k + 1, _, _, by go_num, ?_, hlt, K2.out⟩, by first | exact Hend.out | (rw [← e1]; exact Hend.out)⟩
      rw [← mk_more, List.length_append]; rfl
    · obtain rfl : k = 24 := by omega
      have hpos : 0 < (F.mk zs 24).length := by rw [mk_len]; omega
      obtain ⟨g, cap, hv, _, _⟩ := HR.out.form hpos
      simp only [Value.slice.injEq] at hv
      obtain ⟨rfl, _, rfl⟩ := hv
      have hT : Tw w.heap.size g rc zs wr := ⟨HR.out⟩
      have hroom := hT.room
      have hz := HZ.out
      have hm := mk_len zs 24
      have HT := hide' hT
      obtain ⟨L, hL⟩ : ∃ L, zs.length = L := ⟨_, rfl⟩
      rw [hL] at hm hroom hz
      rw [hm, hL]
      have r1 : L ≤ rc := by omega
      have HLL := hide' hL
      clear hz hm hlt hL hpos hk hT
      go_wp2
      go_ret
      exact ⟨g, rc, by rw [HLL.out]; rfl, HT.out, HB.out⟩
set_option maxRecDepth 100000 in
set_option maxHeartbeats 2000000 in
/-- they are as they were -/
theorem kept_any {B g cap : Nat} (a : Option Addr) (c : Nat) (zs : List Int) (w : World) (hT : Tw B g cap zs w) (hI : Ints w a zs) (hl : zs.length ≤ 17592186043904) :
    Calls Try.prog 29 #[.slice (some ⟨g, 0, none⟩) zs.length cap, .slice a zs.length c] w fun e w' => e = .returned (.bool true) ∧ ∃ m, w' = w.drewN m := by
  have hroom := hT.room
  have HC : Hid (∀ m, zs.length ≤ m → m < zs.length + 24 → w.cell? ⟨g, m, none⟩ = some (.int .i64 (-77))) := hide' (fun m h1 h2 => by
    have := (row_int hT.row (k := m) (by rw [mk_len]; omega)).1
    rw [this, F.mk, List.getD, List.getElem?_append_right h1, List.getElem?_replicate, if_pos (by omega)]
    rfl)
  have HS := hide' (same_any (some ⟨g, 0, none⟩) cap zs a c zs w hT.ints hI (by omega))
  rw [decide_eq_true (rfl : zs = zs)] at HS
  have HL := hide' hl
  obtain ⟨L, hL⟩ : ∃ L, zs.length = L := ⟨_, rfl⟩
  rw [hL] at hroom hl HS HC
  rw [hL]
  have e0 : wrap64 ((L : Int) + 24) = ((L + 24 : Nat) : Int) := by rw [wrap_in (by omega) (by omega)]; omega
  have E3 : Hid (∀ m : Nat, m < L + 24 → wrap64 ((m : Int) + 1) = (m : Int) + 1) := hide' (fun k hk => wrap_in (by omega) (by omega))
  have r1 : L ≤ cap := by omega
  clear hT hI HL hL
  go_enter Try.func29, Try.ntmps29
  go_wp2_with fail
  go_loopw [6] (fun i wx => ∃ m : Nat, i = .int .i64 (m : Int) ∧ L ≤ m ∧ m ≤ L + 24 ∧ wx = w) (fun i _ => L + 24 - (intOf i).toNat)
  case atStart => exact ⟨L, rfl, Nat.le_refl _, by omega, rfl⟩
  case round =>
    obtain ⟨m, rfl, h1, h2, rfl⟩ := hrel
    by_cases hlt : m < L + 24
    · have hlt' : (m : Int) < (L : Int) + 24 := by omega
      have e1 := E3.out m hlt
      have Hend := hide' (msr' hlt _ e1)
      have ic := HC.out m h1 hlt
      have H12 := hide' (And.intro h1 hlt)
      clear h1 h2
      go_wp2
      exact ⟨⟨m + 1, by go_num, by have := H12.out; omega, H12.out.2, by trivial⟩, by first | exact Hend.out | (rw [← e1]; exact Hend.out)⟩
    · obtain rfl : m = L + 24 := by omega
      have hlt' : ¬ (((L + 24 : Nat) : Int) < (L : Int) + 24) := by omega
      clear h1 h2 hlt
      go_wp2_with fail
      refine HS.out.mono ?_
      rintro e w2 ⟨rfl, hm⟩
      go_wp2
      go_ret
      exact ⟨rfl, hm⟩
end F
end Go.Proofs.Ytaoglenfbbaliaa
