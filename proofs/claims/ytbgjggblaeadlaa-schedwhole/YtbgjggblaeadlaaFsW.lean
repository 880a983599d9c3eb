import Derived.Test.YtbgjggblaeadlaaSuW
set_option linter.unusedVariables false
set_option linter.unusedSimpArgs false
namespace Go.Proofs.Ytbgjggblaeadlaa
open Go.RowKit
namespace X
open C F
/-- a row of numbers in the making -/
structure Gr (B : Nat) (l : List Int) (ro : Option Addr) (rc : Nat) (w : World) : Prop where
  row : w.ownsRow B 3 1 (.slice ro l.length rc) l.length (ivs l)
theorem Gr.nil (B : Nat) (w : World) : Gr B [] none 0 w := ⟨World.ownsRow_nil w B 3 1⟩
theorem Gr.at {B : Nat} {l : List Int} {ro : Option Addr} {rc : Nat} {w : World} (h : Gr B l ro rc w) {j : Nat} (hj : At ro j) : B ≤ j ∧ j < w.heap.size := by
  obtain ⟨a, rfl, rfl⟩ := hj
  rcases h.row.2 with ⟨hv, h0⟩ | ⟨g, cap', cur, hv, hb, hg, _⟩
  · cases hv
  · simp only [Value.slice.injEq, Option.some.injEq] at hv
    obtain ⟨rfl, _, _⟩ := hv
    exact ⟨hb, lt_of_heap hg⟩
theorem Gr.bel {B : Nat} {l : List Int} {ro : Option Addr} {rc : Nat} {w w1 : World} (h : Gr B l ro rc w) (t : Turn (At ro) w w1) (hB : B ≤ w.heap.size) : Below B w w1 := t.below (fun j hj => (h.at hj).1) hB
set_option maxRecDepth 100000 in
set_option maxHeartbeats 4000000 in
theorem rfirst_any (a : Option Addr) (c : Nat) (zs : List Int) (w : World) (hI : Ints w a zs) (h0 : zs.length ≤ 64) (hs : sm zs ≤ 1048576) : Calls Try.prog 49 #[.slice a zs.length c] w fun e w' => ∃ ro rc, e = .returned (.slice ro (fz zs zs.length).length rc) ∧ w'.ownsRow w.heap.size 3 1 (.slice ro (fz zs zs.length).length rc) (fz zs zs.length).length (ivs (fz zs zs.length)) ∧ Below w.heap.size w w' := by
  have HI := hide' (fun w' (b : Below w.heap.size w w') => hI.below b)
  have H0 := hide' h0
  have HSM : Hid (∀ k, k ≤ zs.length → (fz zs k).length ≤ 1048576) := hide' (fun k hk => by rw [fz_len zs k hk]; exact Nat.le_trans (sm_le zs k) hs)
  clear hI h0 hs
  go_enter Try.func49, Try.ntmps49
  go_wp2_with fail
  go_loopw [3, 4] (fun l i wx => ∃ (k : Nat) (ro : Option Addr) (rc : Nat), l = .slice ro (fz zs k).length rc ∧ i = .int .i64 (k : Int) ∧ k ≤ zs.length ∧ Gr w.heap.size (fz zs k) ro rc wx ∧ Below w.heap.size w wx) (fun _ i _ => zs.length - (intOf i).toNat)
  case atStart => exact ⟨0, none, 0, rfl, rfl, Nat.zero_le _, Gr.nil _ _, Below.refl _ _⟩
  case round =>
    obtain ⟨k, ro, rc, rfl, rfl, hk, hG, hb⟩ := hrel
    by_cases hlt : k < zs.length
    · have hlt' : (k : Int) < (zs.length : Int) := by omega
      have ek := hide' (wsucN k (by have := H0.out; omega))
      have Hend := hide' (msr' hlt _ rfl)
      have Hk := hide' hlt
      obtain ⟨u, hu⟩ : ∃ u, zs.getD k 0 = u := ⟨_, rfl⟩
      obtain ⟨m, hm⟩ : ∃ m : Nat, (m : Int) = max u 0 := ⟨(max u 0).toNat, by omega⟩
      have hfz : fz zs (k + 1) = fz zs k ++ List.replicate m (k : Int) := by
        show fz zs k ++ List.replicate (max (zs.getD k 0) 0).toNat (k : Int) = _
        rw [hu, ← hm, Int.toNat_natCast]
      have hml : (fz zs k).length + m ≤ 1048576 := by have := HSM.out (k + 1) hlt; rw [hfz, List.length_append, List.length_replicate] at this; omega
      have HC : Hid (∃ xb off, a = some ⟨xb, off, none⟩ ∧ ∀ w', Below w.heap.size w w' → w'.cell? ⟨xb, off + k, none⟩ = some (.int .i64 u)) := hide' (by
        rcases HI.out _ (Below.refl _ _) with q | ⟨xb, off, ha, hxb, hc⟩
        · rw [q] at hlt; simp at hlt
        · refine ⟨xb, off, ha, fun w' b => ?_⟩
          rcases HI.out _ b with q | ⟨xb', off', ha', hxb', hc'⟩
          · rw [q] at hlt; simp at hlt
          · rw [ha] at ha'
            cases ha'
            rw [hc' k hlt, hu])
      obtain ⟨xb, off, ha, hcell⟩ := HC.out
      subst ha
      have HCell := hide' hcell
      have HG := hide' (And.intro hG hb)
      have HF := hide' (And.intro hfz (And.intro hml hm))
      obtain ⟨L0, hL0⟩ : ∃ L, L = fz zs k := ⟨_, rfl⟩
      rw [← hL0] at HG HF ⊢
      clear hu hfz hml hm hk hG hb hcell HC hlt hL0
      go_wp2_with fail
      go_loopw [3, 5] (fun l i wx => ∃ (j : Nat) (ro' : Option Addr) (rc' : Nat), l = .slice ro' (L0 ++ List.replicate j (k : Int)).length rc' ∧ i = .int .i64 (j : Int) ∧ j ≤ m ∧ Gr w.heap.size (L0 ++ List.replicate j (k : Int)) ro' rc' wx ∧ Below w.heap.size w wx) (fun _ i _ => m - (intOf i).toNat)
      case atStart => exact ⟨0, ro, rc, by simp, rfl, Nat.zero_le _, by simpa using HG.out.1, HG.out.2⟩
      case round =>
        obtain ⟨j, ro', rc', rfl, rfl, hj, hG, hb⟩ := hrel
        have ic := HCell.out _ hb
        by_cases hjm : j < m
        · have hju : (j : Int) < u := by have := HF.out.2.2; omega
          have ej := hide' (wsucN j (by have := HF.out.2.1; omega))
          have Hjend := hide' (msr' hjm _ rfl)
          have Hjm := hide' hjm
          have hrep : L0 ++ List.replicate (j + 1) (k : Int) = (L0 ++ List.replicate j (k : Int)) ++ [(k : Int)] := by rw [List.replicate_succ', List.append_assoc]
          obtain ⟨L1, hL1⟩ : ∃ L, L = L0 ++ List.replicate j (k : Int) := ⟨_, rfl⟩
          have hl1 : L1.length < 17592186044000 := by rw [hL1, List.length_append, List.length_replicate]; have := HF.out.2.1; omega
          rw [← hL1] at hG hrep ⊢
          have HR := hide' hrep
          have HG1 := hide' (And.intro hG hb)
          have HL1 := hide' hl1
          clear hrep hl1 hL1 hG hb hjm hj
          go_wp2_with (at_builtin; go_loud (refine wpList_num wr rfl _ _ rfl (ro := ro') (rc := rc') (zs := L1) HG1.out.1.row HL1 HG1.out.2.size (k : Int) _ rfl rfl ?_); intro gg cc w3 r3 t3 p3; have O3 := hide' (And.intro r3 t3); clear r3 t3 p3)
          have K3 : Hid (Gr w.heap.size (L0 ++ List.replicate (j + 1) (k : Int)) (some ⟨gg, 0, none⟩) cc w3 ∧ Below w.heap.size w w3) := hide' ⟨⟨by rw [HR.out]; exact O3.out.1⟩, HG1.out.2.trans (HG1.out.1.bel O3.out.2 HG1.out.2.size)⟩
          have hlen : Hid ((L0 ++ List.replicate (j + 1) (k : Int)).length = L1.length + 1) := hide' (by rw [HR.out, List.length_append]; rfl)
          clear O3 HG1
          exact ⟨⟨j + 1, _, _, by rw [hlen.out], by first | rfl | (rw [ej.out]), Hjm.out, K3.out.1, K3.out.2⟩, by first | exact Hjend.out | (rw [ej.out]; exact Hjend.out)⟩
        · obtain rfl : j = m := by omega
          have hju : ¬ ((j : Int) < u) := by have := HF.out.2.2; omega
          rw [← HF.out.1] at hG ⊢
          have HG1 := hide' (And.intro hG hb)
          clear hG hb hj hjm
          go_wp2
          exact ⟨⟨k + 1, _, _, rfl, by first | rfl | (rw [ek.out]), Hk.out, HG1.out.1, HG1.out.2⟩, by first | exact Hend.out | (rw [ek.out]; exact Hend.out)⟩
    · obtain rfl : k = zs.length := by omega
      have HG1 := hide' (And.intro hG hb)
      clear hG hb hk hlt
      go_wp2
      go_ret
      exact ⟨_, _, rfl, HG1.out.1.row, HG1.out.2⟩
end X
end Go.Proofs.Ytbgjggblaeadlaa
