import Derived.Test.YtmcdifmbblbhgaaPlw
import Derived.Test.YtmcdifmbblbhgaaApp
import Derived.Laws.BitsAllLaws
set_option linter.unusedVariables false
set_option linter.unusedSimpArgs false
namespace Go.Proofs.Ytmcdifmbblbhgaa
open Go.RowKit Go.Maps
namespace V
open U D
theorem mx_if (g z : Int) : (if g < z then z else g) = max g z := by split <;> omega
theorem gre_hi {zs : List Int} (h : ∀ z ∈ zs, z ≤ 9223372036854775807) : gre 0 zs ≤ 9223372036854775807 := by
  have q : ∀ (zs : List Int) (g : Int), g ≤ 9223372036854775807 → (∀ z ∈ zs, z ≤ 9223372036854775807) → gre g zs ≤ 9223372036854775807 := by
    intro zs
    induction zs with
    | nil => intro g hg _; exact hg
    | cons a zs ih => intro g hg h; exact ih (max g a) (Int.max_le.2 ⟨hg, h a (by simp)⟩) (fun z hz => h z (by simp [hz]))
  exact q zs 0 (by decide) h
set_option maxHeartbeats 4000000 in
set_option maxRecDepth 100000 in
theorem numbered_any (ao : Option Addr) (cap : Nat) (zs : List Int) (w : World) (h : Lies 1 ao (zs.map fun z => [Value.int .i64 z]) w) (hc : zs.length ≤ cap) (hl : (zs.length : Int) ≤ 65536) (hz : ∀ z ∈ zs, -9223372036854775808 ≤ z ∧ z ≤ 9223372036854775807) :
    Calls Try.prog 32 #[.slice ao zs.length cap] w fun e w' => e = .returned (.bool (nmb 0 zs)) ∧ Below w.heap.size w w' := by
  have H := hide' h
  have HZ := hide' hz
  have HL := hide' hl
  clear h hz
  go_enter Try.func32, Try.ntmps32
  go_wp2
  go_loopw [3, 8] (fun gv iv wx => ∃ (i : Nat) (g : Int), iv = .int .i64 (i : Int) ∧ i ≤ zs.length ∧ gv = .int .i64 g ∧ 0 ≤ g ∧ g ≤ 65536 ∧ Hid (nmb 0 (zs.take i) = true ∧ g = gre 0 (zs.take i)) ∧ wx = w) (fun _ iv _ => zs.length - (intOf iv).toNat)
  case atStart => exact ⟨0, 0, rfl, Nat.zero_le _, rfl, by decide, by decide, ⟨rfl, rfl⟩, rfl⟩
  case round =>
    obtain ⟨i, g, rfl, hi, rfl, hg0, hg1, HM, rfl⟩ := hrel
    by_cases hlt : i < zs.length
    · have hlt' : (i : Int) < (zs.length : Int) := by omega
      obtain ⟨z, hz⟩ : ∃ z, zs[i]? = some z := ⟨_, List.getElem?_eq_getElem hlt⟩
      obtain ⟨x, off, rfl, _, c1⟩ := H.out.one hz
      have htk : Hid (zs.take (i + 1) = zs.take i ++ [z]) := by show _ = _; rw [List.take_add_one, hz]; rfl
      have hb := HZ.out z (List.mem_of_getElem? hz)
      have hdr : Hid (zs = zs.take (i + 1) ++ zs.drop (i + 1)) := (List.take_append_drop (i + 1) zs).symm
      have hall : Hid (∀ b : Bool, (decide (1 ≤ z) && decide (z ≤ g + 1)) = false → nmb 0 zs = false) := fun _ q => by
        rw [hdr.out, nmb_app, htk.out, nmb_snoc, ← HM.out.2, q, Bool.and_false, Bool.false_and]
      clear hz
      by_cases q1 : z < 1
      · have hf : Hid (nmb 0 zs = false) := hall.out true (by rw [decide_eq_false (by omega)]; rfl)
        go_wp2
        go_ret
        exact ⟨ret_b hf.out.symm, Below.refl _ _⟩
      · by_cases q2 : g + 1 < z
        · have hf : Hid (nmb 0 zs = false) := hall.out true (by rw [decide_eq_false (p := z ≤ g + 1) (by omega), Bool.and_false])
          go_wp2
          go_ret
          exact ⟨ret_b hf.out.symm, Below.refl _ _⟩
        · have hn : Hid (nmb 0 (zs.take (i + 1)) = true ∧ max g z = gre 0 (zs.take (i + 1))) := by
            refine ⟨?_, ?_⟩
            · rw [htk.out, nmb_snoc, ← HM.out.2, HM.out.1, decide_eq_true (p := 1 ≤ z) (by omega), decide_eq_true (p := z ≤ g + 1) (by omega)]; rfl
            · rw [htk.out, gre_snoc, ← HM.out.2]
          have hb6 : Hid (max g z ≤ 65536) := by
            have a1 := nmb_gre hn.out.1
            have a2 := List.length_take_le (i + 1) zs
            have a3 := HL.out
            show _ ≤ _
            rw [hn.out.2]
            omega
          have hmx : Hid (0 ≤ max g z) := Int.le_trans hg0 (Int.le_max_left g z)
          clear hall hdr htk HM
          go_wp2
          exact ⟨⟨i + 1, max g z, by go_num, by omega, congrArg (Value.int .i64) (mx_if g z), hmx.out, hb6.out, hn, trivial⟩, by simp [intOf]; omega⟩
    · have hi' : i = zs.length := by omega
      have hlt' : ¬ (i : Int) < (zs.length : Int) := by omega
      have HM2 := HM
      rw [hi', List.take_length] at HM2
      clear HM hi' hlt hi
      go_wp2
      go_ret
      exact ⟨ret_b HM2.out.1.symm, Below.refl _ _⟩
end V
end Go.Proofs.Ytmcdifmbblbhgaa
