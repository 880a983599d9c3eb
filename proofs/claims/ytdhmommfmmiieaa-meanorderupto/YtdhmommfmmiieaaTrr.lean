import Derived.Test.YtdhmommfmmiieaaOnl
set_option linter.unusedVariables false
set_option linter.unusedSimpArgs false
namespace Go.Proofs.Ytdhmommfmmiieaa
open Go.RowKit Go.Maps
namespace Q
theorem tmod_in {z n : Int} (h : 0 ≤ z) (hn : 0 < n) : 0 ≤ z.tmod n ∧ z.tmod n < n := ⟨Int.tmod_nonneg _ h, Int.tmod_lt_of_pos _ hn⟩
set_option maxRecDepth 100000 in
set_option maxHeartbeats 4000000 in
/-- the pairs of a list, as many, in another order -/
theorem turned_any (ro : Option Addr) (rc : Nat) (l : List K2) (z : Int) (w : World) (hI : Ints ro l w) (hc : l.length ≤ rc) (hb : (l.length : Int) ≤ 1048576) (hz : -9223372036854775808 ≤ z ∧ z ≤ 9223372036854775807) :
    Calls Try.prog 38 #[.slice ro l.length rc, .int .i64 z] w fun e w' => ∃ o c, ∃ zs : List K2, e = .returned (.slice o l.length c) ∧ zs.length = l.length ∧ (∀ q ∈ zs, q ∈ l) ∧ RowI w.heap.size o c zs w' ∧ Below w.heap.size w w' := by
  have HI := hide' hI
  have Hz := hide' hz
  clear hI hz
  go_enter Try.func38, Try.ntmps38
  go_wp2
  go_loopw [5, 6] (fun ov iv wx => ∃ (i : Nat) (oo : Option Addr) (oc : Nat), iv = .int .i64 (i : Int) ∧ i ≤ l.length ∧ ov = .slice oo i oc ∧ Hid (∃ zs : List K2, zs.length = i ∧ (∀ q ∈ zs, q ∈ l) ∧ RowI w.heap.size oo oc zs wx ∧ Below w.heap.size w wx)) (fun _ iv _ => l.length - (intOf iv).toNat)
  case atStart => exact ⟨0, none, 0, rfl, Nat.zero_le _, rfl, [], rfl, (fun q hq => by cases hq), RowI.nil _ _, Below.refl _ _⟩
  case round =>
    obtain ⟨i, oo, oc, rfl, hi, rfl, HM⟩ := hrel
    by_cases hlt : i < l.length
    · have hlt' : (i : Int) < (l.length : Int) := by omega
      obtain ⟨zs, hzl, hzm, hzr, hzb⟩ := HM.out
      have HZ := hide' (And.intro hzl (And.intro hzm (And.intro hzr hzb)))
      clear HM hzl hzm hzr hzb
      have hL : Hid (((l.length : Int)) = l.length) := rfl
      have step : ∀ (j : Nat) (k : K2), l[j]? = some k → ∃ b off, ro = some ⟨b, off, none⟩ ∧ wr.cell? ⟨b, off + j * 2, none⟩ = some (.string k.1) ∧ wr.cell? ⟨b, off + j * 2 + 1, none⟩ = some (.string k.2) := fun j k hk => by
        obtain ⟨b, off, e, _, c1, c2⟩ := (HI.out.below HZ.out.2.2.2).at hk
        exact ⟨b, off, e, c1, c2⟩
      have Hstep := hide' step
      clear step
      by_cases hneg : z < 0
      · obtain ⟨j, hj⟩ : ∃ j : Nat, l.length - 1 - i = j := ⟨_, rfl⟩
        have hjl : j < l.length := by omega
        obtain ⟨k, hk⟩ : ∃ k, l[j]? = some k := ⟨_, List.getElem?_eq_getElem hjl⟩
        obtain ⟨b, off, rfl, c1, c2⟩ := Hstep.out j k hk
        have Hkm := hide' (List.mem_of_getElem? hk)
        have ej : (l.length : Int) - 1 - (i : Int) = (j : Int) := by omega
        have hjl' : (j : Int) < (l.length : Int) := by omega
        clear hk hj Hstep hL
        go_wp2_with (at_builtin; refine U.stay_app _ _ _ rfl ?_)
        unfold U.Stay
        refine wpList_app1 wr rfl _ _ rfl w.heap.size oo oc zs k 98 _ (by rw [HZ.out.1]; rfl) HZ.out.2.2.1 rfl (by show _ < _; rw [HZ.out.1]; omega) HZ.out.2.2.2.size ?_
        intro g cap w1 r1 t1 hg hl1
        rw [HZ.out.1]
        have HM2 : Hid (∃ zs' : List K2, zs'.length = i + 1 ∧ (∀ q ∈ zs', q ∈ l) ∧ RowI w.heap.size (some ⟨g, 0, none⟩) cap zs' w1 ∧ Below w.heap.size w w1) := ⟨zs ++ [k], by rw [List.length_append, HZ.out.1]; rfl, (fun q hq => by
          rcases List.mem_append.1 hq with q1 | q1
          · exact HZ.out.2.1 q q1
          · rw [List.mem_singleton.1 q1]; exact Hkm.out), r1, HZ.out.2.2.2.trans (below_own t1 (fun j q => (HZ.out.2.2.1.lt j q).1) HZ.out.2.2.2.size)⟩
        clear r1 t1 hg hl1 HZ
        go_wp2_with fail
        exact ⟨⟨i + 1, _, _, by go_num, by omega, rfl, HM2⟩, by simp [intOf]; omega⟩
      · have hpos : (0 : Int) < (l.length : Int) := by omega
        have hne : ¬ (l.length : Int) = 0 := by omega
        obtain ⟨r, hr⟩ : ∃ r : Int, r = z.tmod l.length := ⟨_, rfl⟩
        have hr0 := (tmod_in (z := z) (by omega) hpos).1
        have hr1 := (tmod_in (z := z) (by omega) hpos).2
        rw [← hr] at hr0 hr1
        obtain ⟨s, hs⟩ : ∃ s : Int, s = ((i : Int) + r).tmod l.length := ⟨_, rfl⟩
        have hs0 := (tmod_in (z := (i : Int) + r) (by omega) hpos).1
        have hs1 := (tmod_in (z := (i : Int) + r) (by omega) hpos).2
        rw [← hs] at hs0 hs1
        obtain ⟨j, hj⟩ : ∃ j : Nat, s = (j : Int) := ⟨s.toNat, by omega⟩
        subst hj
        have hjl : j < l.length := by omega
        obtain ⟨k, hk⟩ : ∃ k, l[j]? = some k := ⟨_, List.getElem?_eq_getElem hjl⟩
        obtain ⟨b, off, rfl, c1, c2⟩ := Hstep.out j k hk
        have Hkm := hide' (List.mem_of_getElem? hk)
        have er : z.tmod l.length = r := hr.symm
        have es : ((i : Int) + r).tmod l.length = (j : Int) := hs.symm
        clear hk Hstep hL hr hs
        go_wp2_with (at_builtin; refine U.stay_app _ _ _ rfl ?_)
        unfold U.Stay
        refine wpList_app1 wr rfl _ _ rfl w.heap.size oo oc zs k 98 _ (by rw [HZ.out.1]; rfl) HZ.out.2.2.1 rfl (by show _ < _; rw [HZ.out.1]; omega) HZ.out.2.2.2.size ?_
        intro g cap w1 r1 t1 hg hl1
        rw [HZ.out.1]
        have HM2 : Hid (∃ zs' : List K2, zs'.length = i + 1 ∧ (∀ q ∈ zs', q ∈ l) ∧ RowI w.heap.size (some ⟨g, 0, none⟩) cap zs' w1 ∧ Below w.heap.size w w1) := ⟨zs ++ [k], by rw [List.length_append, HZ.out.1]; rfl, (fun q hq => by
          rcases List.mem_append.1 hq with q1 | q1
          · exact HZ.out.2.1 q q1
          · rw [List.mem_singleton.1 q1]; exact Hkm.out), r1, HZ.out.2.2.2.trans (below_own t1 (fun j q => (HZ.out.2.2.1.lt j q).1) HZ.out.2.2.2.size)⟩
        clear r1 t1 hg hl1 HZ
        go_wp2_with fail
        exact ⟨⟨i + 1, _, _, by go_num, by omega, rfl, HM2⟩, by simp [intOf]; omega⟩
    · have hi' : i = l.length := by omega
      have hlt' : ¬ (i : Int) < (l.length : Int) := by omega
      clear hlt
      go_wp2_with fail
      go_ret
      subst hi'
      obtain ⟨zs, h1, h2, h3⟩ := HM.out
      exact ⟨oo, oc, rfl, zs, h1, (fun a b q => h2 (a, b) q), h3⟩
end Q
end Go.Proofs.Ytdhmommfmmiieaa
