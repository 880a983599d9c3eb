import Derived.Test.YtmcdifmbblbhgaaVld
import Derived.Deep.QuietTactic
set_option linter.unusedVariables false
set_option linter.unusedSimpArgs false
namespace Go.Proofs.Ytmcdifmbblbhgaa
open Go.RowKit Go.Maps
namespace V
open U D
theorem nun_iff (zs : List ByteArray) : nun zs = true ↔ zs.Nodup := by unfold nun; rw [beq_iff_eq, dst_eq]
theorem nun_no {zs : List ByteArray} {i k : Nat} {z : ByteArray} (hk : k < i) (h1 : zs[k]? = some z) (h2 : zs[i]? = some z) : nun zs = false := by
  rw [Bool.eq_false_iff, Ne, nun_iff]
  intro q
  have l1 := (List.getElem?_eq_some_iff.1 h1).1
  have l2 := (List.getElem?_eq_some_iff.1 h2).1
  have e1 := (List.getElem?_eq_some_iff.1 h1).2
  have e2 := (List.getElem?_eq_some_iff.1 h2).2
  exact List.pairwise_iff_getElem.1 q k i l1 l2 hk (e1.trans e2.symm)
theorem nodup_snoc {α : Type} {zs : List α} {i : Nat} {z : α} (h : (zs.take i).Nodup) (hz : zs[i]? = some z) (hn : ∀ j, j < i → zs[j]? ≠ some z) : (zs.take (i + 1)).Nodup := by
  rw [List.take_add_one, hz, Option.toList_some, List.nodup_append]
  refine ⟨h, by simp, ?_⟩
  intro a ha b hb
  simp at hb
  subst hb
  intro e
  subst e
  obtain ⟨j, hj, e⟩ := List.mem_iff_getElem.1 ha
  have hj' : j < i := by rw [List.length_take] at hj; omega
  refine hn j hj' ?_
  rw [List.getElem_take] at e
  have hl : j < zs.length := by rw [List.length_take] at hj; omega
  rw [List.getElem?_eq_getElem hl, e]
set_option maxHeartbeats 4000000 in
set_option maxRecDepth 100000 in
theorem twice_any (ao : Option Addr) (cap : Nat) (zs : List ByteArray) (w : World) (h : Lies 1 ao (zs.map fun z => [Value.string z]) w) (hc : zs.length ≤ cap) (hl : (zs.length : Int) ≤ 65536) :
    Calls Try.prog 60 #[.slice ao zs.length cap] w fun e w' => e = .returned (.bool (!nun zs)) ∧ Below w.heap.size w w' := by
  have H := hide' h
  clear h
  go_enter Try.func60, Try.ntmps60
  go_wp2
  go_loopw [3] (fun iv wx => ∃ i : Nat, iv = .int .i64 (i : Int) ∧ i ≤ zs.length ∧ Hid ((zs.take i).Nodup) ∧ Hid (Below w.heap.size w wx)) (fun iv _ => zs.length - (intOf iv).toNat)
  case atStart => exact ⟨0, rfl, Nat.zero_le _, List.nodup_nil, Below.refl _ _⟩
  case round =>
    obtain ⟨i, rfl, hi, HN, HB⟩ := hrel
    by_cases hlt : i < zs.length
    · have hlt' : (i : Int) < (zs.length : Int) := by omega
      obtain ⟨z, hz⟩ : ∃ z, zs[i]? = some z := ⟨_, List.getElem?_eq_getElem hlt⟩
      have Hz := hide' hz
      clear hz
      go_wp2
      go_loopw [4] (fun kv wx => ∃ k : Nat, kv = .int .i64 (k : Int) ∧ k ≤ i ∧ Hid (∀ j, j < k → zs[j]? ≠ some z) ∧ Hid (Below w.heap.size w wx)) (fun kv _ => i - (intOf kv).toNat)
      case atStart => exact ⟨0, rfl, Nat.zero_le _, (fun j hj => by omega), HB⟩
      case round =>
        obtain ⟨k, rfl, hk, HK, HB2⟩ := hrel
        by_cases hkt : k < i
        · have hkt' : (k : Int) < (i : Int) := by omega
          have hkz : (k : Int) < (zs.length : Int) := by omega
          obtain ⟨y, hy⟩ : ∃ y, zs[k]? = some y := ⟨_, List.getElem?_eq_getElem (by omega)⟩
          have Hy := hide' hy
          obtain ⟨x, off, rfl, _, c1⟩ := (H.out.below HB2.out).one hy
          obtain ⟨x', off', e', _, c2⟩ := (H.out.below HB2.out).one Hz.out
          cases e'
          clear hy
          by_cases he : y = z
          · subst he
            have hF : Hid (nun zs = false) := nun_no hkt Hy.out Hz.out
            have he1 := text_eq y
            go_wp2
            go_quiet (fail)
            go_wp2
            go_ret
            exact ⟨ret_b (by rw [hF.out]; rfl), HB2.out.trans (bdrew _ _)⟩
          · have he1 : (y.toList == z.toList) = false := text_ne he
            have hs : Hid (∀ j, j < k + 1 → zs[j]? ≠ some z) := fun j hj => by
              by_cases q : j < k
              · exact HK.out j q
              · rw [show j = k by omega, Hy.out]; exact fun e => he (Option.some.inj e)
            go_wp2
            go_quiet (fail)
            go_wp2
            exact ⟨⟨k + 1, by go_num, by omega, hs, HB2.out.trans (bdrew _ _)⟩, by simp [intOf]; omega⟩
        · have hk' : k = i := by omega
          subst hk'
          have hkt' : ¬ (k : Int) < (k : Int) := by omega
          have HN2 : Hid ((zs.take (k + 1)).Nodup) := nodup_snoc HN.out Hz.out HK.out
          clear hkt hk
          go_wp2
          exact ⟨⟨k + 1, by go_num, by omega, HN2, HB2⟩, by simp [intOf]; omega⟩
    · have hi' : i = zs.length := by omega
      have hlt' : ¬ (i : Int) < (zs.length : Int) := by omega
      have hT : Hid (nun zs = true) := by show _ = _; rw [nun_iff]; have q := HN.out; rw [hi', List.take_length] at q; exact q
      clear hlt hi hi'
      go_wp2
      go_ret
      exact ⟨ret_b (by rw [hT.out]; rfl), HB.out⟩
/-- the greatest, if they are numbered as they come -/
def gI (zs : List Int) : Int := if nmb 0 zs then gre 0 zs else 0
theorem gI_no {zs : List Int} (h : nmb 0 zs = false) : gI zs = 0 := by unfold gI; rw [h]; rfl
theorem gI_yes {zs : List Int} (h : nmb 0 zs = true) : gI zs = gre 0 zs := by unfold gI; rw [h]; rfl
theorem ret_ib {a b : Int} {x y : Bool} (h : a = b) (k : x = y) : Ending.returned (.tuple #[.int .i64 a, .bool x]) = .returned (.tuple #[.int .i64 b, .bool y]) := by rw [h, k]
set_option maxHeartbeats 4000000 in
set_option maxRecDepth 100000 in
theorem greatest_any (ao : Option Addr) (cap : Nat) (zs : List Int) (w : World) (h : Lies 1 ao (zs.map fun z => [Value.int .i64 z]) w) (hc : zs.length ≤ cap) (hl : (zs.length : Int) ≤ 65536) (hz : ∀ z ∈ zs, -9223372036854775808 ≤ z ∧ z ≤ 9223372036854775807) :
    Calls Try.prog 61 #[.slice ao zs.length cap] w fun e w' => e = .returned (.tuple #[.int .i64 (gI zs), .bool (nmb 0 zs)]) ∧ w' = w := by
  have H := hide' h
  have HZ := hide' hz
  have HL := hide' hl
  clear h hz
  go_enter Try.func61, Try.ntmps61
  go_wp2
  go_loopw [4, 5] (fun gv iv wx => ∃ (i : Nat) (g : Int), iv = .int .i64 (i : Int) ∧ i ≤ zs.length ∧ gv = .int .i64 g ∧ 0 ≤ g ∧ g ≤ 65536 ∧ Hid (nmb 0 (zs.take i) = true ∧ g = gre 0 (zs.take i)) ∧ wx = w) (fun _ iv _ => zs.length - (intOf iv).toNat)
  case atStart => exact ⟨0, 0, rfl, Nat.zero_le _, rfl, by decide, by decide, ⟨rfl, rfl⟩, rfl⟩
  case round =>
    obtain ⟨i, g, rfl, hi, rfl, hg0, hg1, HM, rfl⟩ := hrel
    by_cases hlt : i < zs.length
    · have hlt' : (i : Int) < (zs.length : Int) := by omega
      obtain ⟨z, hz⟩ : ∃ z, zs[i]? = some z := ⟨_, List.getElem?_eq_getElem hlt⟩
      obtain ⟨x, off, rfl, _, c1⟩ := H.out.one hz
      have htk : Hid (zs.take (i + 1) = zs.take i ++ [z]) := by show _ = _; rw [List.take_add_one, hz]; rfl
      have hb := HZ.out z (List.mem_of_getElem? hz)
      have hdr : Hid (zs = zs.take (i + 1) ++ zs.drop (i + 1)) := (List.take_append_drop (i + 1) zs).symm
      have hall : Hid (∀ b : Bool, (decide (1 ≤ z) && decide (z ≤ g + 1)) = false → nmb 0 zs = false) := fun _ q => by
        rw [hdr.out, nmb_app, htk.out, nmb_snoc, ← HM.out.2, q, Bool.and_false, Bool.false_and]
      clear hz
      by_cases q1 : z < 1
      · have hf : Hid (nmb 0 zs = false) := hall.out true (by rw [decide_eq_false (by omega)]; rfl)
        go_wp2
        go_ret2
        exact ⟨ret_ib (gI_no hf.out).symm hf.out.symm, rfl⟩
      · by_cases q2 : g + 1 < z
        · have hf : Hid (nmb 0 zs = false) := hall.out true (by rw [decide_eq_false (p := z ≤ g + 1) (by omega), Bool.and_false])
          go_wp2
          go_ret2
          exact ⟨ret_ib (gI_no hf.out).symm hf.out.symm, rfl⟩
        · have hn : Hid (nmb 0 (zs.take (i + 1)) = true ∧ max g z = gre 0 (zs.take (i + 1))) := by
            refine ⟨?_, ?_⟩
            · rw [htk.out, nmb_snoc, ← HM.out.2, HM.out.1, decide_eq_true (p := 1 ≤ z) (by omega), decide_eq_true (p := z ≤ g + 1) (by omega)]; rfl
            · rw [htk.out, gre_snoc, ← HM.out.2]
          have hb6 : Hid (max g z ≤ 65536) := by
            have a1 := nmb_gre hn.out.1
            have a2 := List.length_take_le (i + 1) zs
            have a3 := HL.out
            show _ ≤ _
            rw [hn.out.2]
            omega
          have hmx : Hid (0 ≤ max g z) := Int.le_trans hg0 (Int.le_max_left g z)
          clear hall hdr htk HM
          by_cases q3 : g < z
          · have e : Hid (z = max g z) := by show _ = _; omega
            go_wp2
            exact ⟨⟨i + 1, max g z, by go_num, by omega, congrArg (Value.int .i64) e.out, hmx.out, hb6.out, hn, trivial⟩, by simp [intOf]; omega⟩
          · have e : Hid (g = max g z) := by show _ = _; omega
            go_wp2
            exact ⟨⟨i + 1, max g z, by go_num, by omega, congrArg (Value.int .i64) e.out, hmx.out, hb6.out, hn, trivial⟩, by simp [intOf]; omega⟩
    · have hi' : i = zs.length := by omega
      have hlt' : ¬ (i : Int) < (zs.length : Int) := by omega
      have HM2 := HM
      rw [hi', List.take_length] at HM2
      clear HM hi' hlt hi
      go_wp2
      go_ret2
      exact ⟨ret_ib (by rw [gI_yes HM2.out.1]; exact HM2.out.2) HM2.out.1.symm, rfl⟩
end V
end Go.Proofs.Ytmcdifmbblbhgaa
