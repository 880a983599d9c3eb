import Derived.Test.YtbgjggblaeadlaaMxb
import Derived.Test.YtbgjggblaeadlaaFrW
set_option linter.unusedVariables false
set_option linter.unusedSimpArgs false
namespace Go.Proofs.Ytbgjggblaeadlaa
open Go.RowKit
namespace X
open C
/-- the first of the lists, up to a number -/
def fz (zs : List Int) : Nat → List Int
  | 0 => []
  | k + 1 => fz zs k ++ List.replicate (max (zs.getD k 0) 0).toNat (k : Int)
theorem fz_len (zs : List Int) : ∀ k, k ≤ zs.length → (fz zs k).length = sm (zs.take k) := by
  intro k
  induction k with
  | zero => intro _; simp [fz, sm]
  | succ k ih =>
    intro h
    rw [sm_take h]
    show (fz zs k ++ _).length = _
    rw [List.length_append, ih (by omega), List.length_replicate]
set_option maxRecDepth 100000 in
set_option maxHeartbeats 2000000 in
theorem first_any (a : Option Addr) (c : Nat) (zs : List Int) (w : World) (hI : Ints w a zs) (h0 : zs.length ≤ 64) (hs : sm zs ≤ 1048576) : Calls Try.prog 62 #[.slice a zs.length c] w fun e w' => ∃ ro rc, e = .returned (.slice ro (fz zs zs.length).length rc) ∧ w'.ownsRow w.heap.size 3 1 (.slice ro (fz zs zs.length).length rc) (fz zs zs.length).length (ivs (fz zs zs.length)) ∧ Below w.heap.size w w' := by
  have E3 : Hid (∀ k : Nat, k < 64 → wrap64 ((k : Int) + 1) = (k : Int) + 1) := hide' (fun k hk => wrap_in (by omega) (by omega))
  have HI := hide' hI
  have H0 := hide' h0
  have HSM : Hid (∀ k, k ≤ zs.length → (fz zs k).length ≤ 1048576) := hide' (fun k hk => by rw [fz_len zs k hk]; exact Nat.le_trans (sm_le zs k) hs)
  have HN := hide' (World.ownsRow_nil w w.heap.size 3 1)
  clear hI h0 hs
  go_enter Try.func62, Try.ntmps62
  go_wp2_with fail
  go_loopw [8, 3] (fun i l wx => ∃ (k : Nat) (ro : Option Addr) (rc : Nat), i = .int .i64 (k : Int) ∧ l = .slice ro (fz zs k).length rc ∧ k ≤ zs.length ∧ wx.ownsRow w.heap.size 3 1 (.slice ro (fz zs k).length rc) (fz zs k).length (ivs (fz zs k)) ∧ Below w.heap.size w wx) (fun i _ _ => zs.length - (intOf i).toNat)
  case atStart => exact ⟨0, none, 0, rfl, rfl, Nat.zero_le _, HN.out, Below.refl _ _⟩
  case round =>
    obtain ⟨k, ro, rc, rfl, rfl, hk, hrow, hb⟩ := hrel
    have HR := hide' hrow
    have HB := hide' hb
    by_cases hlt : k < zs.length
    · have hlt' : (k : Int) < (zs.length : Int) := by omega
      have e1 := E3.out k (by have := H0.out; omega)
      have Hend := hide' (msr' hlt _ e1)
      have Hk := hide' hlt
      rcases HI.out with q | ⟨xb, off, ha, hxb, hc⟩
      · rw [q] at hlt; simp at hlt
      have ic := (hb.cell (p := ⟨xb, off + k, none⟩) hxb).trans (hc k hlt)
      obtain ⟨u, hu⟩ : ∃ u, zs.getD k 0 = u := ⟨_, rfl⟩
      rw [hu] at ic
      obtain ⟨m, hm⟩ : ∃ m : Nat, (m : Int) = max u 0 := ⟨(max u 0).toNat, by omega⟩
      have hfz : fz zs (k + 1) = fz zs k ++ List.replicate m (k : Int) := by
        show fz zs k ++ List.replicate (max (zs.getD k 0) 0).toNat (k : Int) = _
        rw [hu, ← hm, Int.toNat_natCast]
      have hml : m ≤ 1048576 := by have := HSM.out (k + 1) hlt; rw [hfz, List.length_append, List.length_replicate] at this; omega
      have HC := hide' (repeat_any (k : Int) wr.heap.size m (wr.alloc (.cells #[.int .i64 (k : Int)] 3)) (by rw [Lib.cell_of_heap (heap_alloc_new _ _)]; rfl) (by omega))
      have HFZ := hide' hfz
      have hl2 : Hid ((fz zs k).length + (List.replicate m (k : Int)).length ≤ 17592186044100) := hide' (by have := HSM.out k (by omega); simp; omega)
      have hlen : (List.replicate m (k : Int)).length = m := by simp
      have HLen := hide' hlen
      have e2 : max u 0 = (m : Int) := hm.symm
      obtain rfl := ha
      clear hc hxb hu hk hrow hb hm hml hlen hfz
      go_wp2_with fail
      refine HC.out.mono ?_
      rintro e w2 ⟨g, rfl, r2, b2⟩
      have K2 : Hid (w2.ownsRow w.heap.size 3 1 (.slice ro (fz zs k).length rc) (fz zs k).length (ivs (fz zs k)) ∧ Below w.heap.size w w2 ∧ Ints w2 (some ⟨g, 0, none⟩) (List.replicate m (k : Int))) := hide' (by
        have bb : Below wr.heap.size wr w2 := ((Below.refl _ _).alloc (Nat.le_refl _) _).trans (b2.mono (by simp))
        refine ⟨(turn_below (S := fun _ => False) bb).row HR.out (fun _ _ q => q), HB.out.trans (bb.mono HB.out.size), ?_⟩
        have r3 : w2.ownsRow (wr.alloc (.cells #[.int .i64 (k : Int)] 3)).heap.size 3 1 (.slice (some ⟨g, 0, none⟩) (List.replicate m (k : Int)).length m) (List.replicate m (k : Int)).length (ivs (List.replicate m (k : Int))) := by rw [HLen.out]; exact r2
        exact Ints.of_row r3)
      clear r2 b2 HC HR HB
      obtain ⟨ys, hys⟩ : ∃ ys, ys = List.replicate m (k : Int) := ⟨_, rfl⟩
      rw [← hys] at K2 hl2 HFZ HLen
      have hm2 : m = ys.length := HLen.out.symm
      clear hys HLen
      subst hm2
      go_wp2_with (at_builtin; refine wpList_ints w2 rfl _ _ rfl K2.out.1 K2.out.2.1.size (some ⟨g, 0, none⟩) ys.length ys hl2 K2.out.2.2 (fun q => by cases q) rfl rfl ?_; intro ro' rc' w3 r3 t3 hg3; rw [← HFZ.out] at r3; have K3 := hide' (And.intro r3 (K2.out.2.1.trans (t3.below (fun j hj => (K2.out.1.lt j (at_own hj)).1) K2.out.2.1.size))); clear r3 t3 hg3)
      refine ⟨⟨k + 1, ro', rc', by first | rfl | (rw [e1]; rfl), ?_, Hk.out, K3.out⟩, by first | exact Hend.out | (rw [← e1]; exact Hend.out)⟩
      rw [HFZ.out, List.length_append]
    · obtain rfl : k = zs.length := by omega
      clear hrow hb hlt hk
      go_wp2_with fail
      go_ret
      exact ⟨ro, rc, rfl, HR.out, HB.out⟩
end X
end Go.Proofs.Ytbgjggblaeadlaa
