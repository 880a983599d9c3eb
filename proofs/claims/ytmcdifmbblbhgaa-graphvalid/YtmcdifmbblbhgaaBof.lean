import Derived.Test.YtmcdifmbblbhgaaMxx
set_option linter.unusedVariables false
set_option linter.unusedSimpArgs false
namespace Go.Proofs.Ytmcdifmbblbhgaa
open Go.RowKit Go.Maps
namespace V
open U D
theorem or_step (i : Nat) (hi : i < 16) : bits .or .u16 ((2 ^ i - 1 : Nat) : Int) ((mk1 (i : Int) : Nat) : Int) = ((2 ^ (i + 1) - 1 : Nat) : Int) := by
  have q : ∀ j : Fin 16, bits .or .u16 ((2 ^ j.1 - 1 : Nat) : Int) ((mk1 (j.1 : Int) : Nat) : Int) = ((2 ^ (j.1 + 1) - 1 : Nat) : Int) := by decide +kernel
  exact q ⟨i, hi⟩
set_option maxHeartbeats 4000000 in
set_option maxRecDepth 100000 in
theorem bitsOf_any (ao : Option Addr) (cap n : Nat) (w : World) (hl : (n : Int) ≤ 16) :
    Calls Try.prog 71 #[.slice ao n cap] w fun e w' => e = .returned (.int .u16 ((2 ^ n - 1 : Nat) : Int)) ∧ Below w.heap.size w w' := by
  go_enter Try.func71, Try.ntmps71
  go_wp2
  go_loopw [3, 7] (fun mv iv wx => ∃ (i : Nat), iv = .int .i64 (i : Int) ∧ i ≤ n ∧ mv = .int .u16 ((2 ^ i - 1 : Nat) : Int) ∧ Hid (Below w.heap.size w wx)) (fun _ iv _ => n - (intOf iv).toNat)
  case atStart => exact ⟨0, rfl, Nat.zero_le _, rfl, Below.refl _ _⟩
  case round =>
    obtain ⟨i, rfl, hi, rfl, HM⟩ := hrel
    by_cases hlt : i < n
    · have hlt' : (i : Int) < (n : Int) := by omega
      have K := hide' (or_step i (by omega))
      have C := hide' (fun V (hb : V.heap[wr.heap.size]? = some (.cells #[.int .i64 (i : Int)] 3 (0, 0))) => mask_one wr.heap.size (i : Int) V hb)
      have HB : Hid (Below w.heap.size w (wr.alloc (.cells #[.int .i64 (i : Int)] 3))) := HM.out.alloc HM.out.size _
      generalize ((2 ^ i - 1 : Nat) : Int) = mm at *
      generalize ((mk1 (i : Int) : Nat) : Int) = kk at *
      go_wp2_with (go_at_call 38; refine (C.out _ (heap_alloc_new _ _)).mono ?_; rintro e V ⟨rfl, rfl⟩)
      exact ⟨⟨i + 1, by go_num, by omega, congrArg (Value.int .u16) K.out, HB⟩, by simp [intOf]; omega⟩
    · have hi' : i = n := by omega
      subst hi'
      have hlt' : ¬ (i : Int) < (i : Int) := by omega
      clear hlt hi
      go_wp2
      go_ret
      exact ⟨rfl, HM.out⟩
/-- has a mask a bit that is none of these? -/
def out (m k : Nat) : Bool := !(bits .andNot .u16 (m : Int) (k : Int) == 0)
set_option maxHeartbeats 4000000 in
set_option maxRecDepth 100000 in
theorem cl73 (m k xb : Nat) (w : World) (hx : w.cell? ⟨xb, 0, none⟩ = some (.int .u16 (k : Int))) :
    Calls Try.prog 73 #[.int .u16 (m : Int), .pointer (some ⟨xb, 0, none⟩)] w fun e w' => e = .returned (.bool (out m k)) ∧ w' = w := by
  go_enter Try.func73, Try.ntmps73
  go_wp2
  go_ret
  exact ⟨rfl, rfl⟩
set_option maxHeartbeats 4000000 in
set_option maxRecDepth 100000 in
theorem indexFunc_any (ro : Option Addr) (rc k xb : Nat) (l : List Nat) (w : World) (h : Lies 1 ro (l.map fun z : Nat => [Value.int .u16 (z : Int)]) w) (hc : l.length ≤ rc) (hl : (l.length : Int) ≤ 65536) (hx : w.cell? ⟨xb, 0, none⟩ = some (.int .u16 (k : Int))) :
    Calls Try.prog 94 #[.slice ro l.length rc, .func (.func 73) #[] #[.pointer (some ⟨xb, 0, none⟩)]] w fun e w' => ∃ z : Int, e = .returned (.int .i64 z) ∧ decide (0 ≤ z) = l.any (fun m => out m k) ∧ w' = w := by
  have hent := Try.call73
  have H := hide' h
  have C := hide' (fun m => cl73 m k xb w hx)
  clear h hx
  go_enter Try.func94, Try.ntmps94
  go_wp2
  go_loopw [8] (fun iv wx => ∃ (i : Nat), iv = .int .i64 (i : Int) ∧ i ≤ l.length ∧ Hid ((l.take i).any (fun m => out m k) = false) ∧ wx = w) (fun iv _ => l.length - (intOf iv).toNat)
  case atStart => exact ⟨0, rfl, Nat.zero_le _, rfl, rfl⟩
  case round =>
    obtain ⟨i, rfl, hi, HM, rfl⟩ := hrel
    by_cases hlt : i < l.length
    · have hlt' : (i : Int) < (l.length : Int) := by omega
      obtain ⟨z, hz⟩ : ∃ z, l[i]? = some z := ⟨_, List.getElem?_eq_getElem hlt⟩
      obtain ⟨x, off, rfl, _, c1⟩ := H.out.one hz
      have htk : Hid (l.take (i + 1) = l.take i ++ [z]) := by show _ = _; rw [List.take_add_one, hz]; rfl
      have hmem := hide' (List.mem_of_getElem? hz)
      clear hz
      cases ho : out z k with
      | true =>
        have hA : Hid (l.any (fun m => out m k) = true) := by show _ = _; rw [List.any_eq_true]; exact ⟨z, hmem.out, ho⟩
        have C1 := hide' (C.out z)
        rw [ho] at C1
        clear ho
        go_wp2_with fail
        refine C1.out.mono ?_
        rintro e V ⟨rfl, rfl⟩
        go_wp2_with fail
        go_ret
        exact ⟨(i : Int), rfl, by rw [hA.out]; exact decide_eq_true (by omega), rfl⟩
      | false =>
        have hn : Hid ((l.take (i + 1)).any (fun m => out m k) = false) := by show _ = _; rw [htk.out, List.any_append, HM.out]; simp [ho]
        have C1 := hide' (C.out z)
        rw [ho] at C1
        clear ho
        go_wp2_with fail
        refine C1.out.mono ?_
        rintro e V ⟨rfl, rfl⟩
        go_wp2_with fail
        exact ⟨⟨i + 1, by go_num, by omega, hn, trivial⟩, by simp [intOf]; omega⟩
    · have hi' : i = l.length := by omega
      have hlt' : ¬ (i : Int) < (l.length : Int) := by omega
      have HM2 := HM
      rw [hi', List.take_length] at HM2
      clear HM hi' hlt hi
      go_wp2_with fail
      go_ret
      exact ⟨-1, rfl, by rw [HM2.out]; rfl, rfl⟩
set_option maxHeartbeats 4000000 in
set_option maxRecDepth 100000 in
theorem containsFunc_any (ro : Option Addr) (rc k xb : Nat) (l : List Nat) (w : World) (h : Lies 1 ro (l.map fun z : Nat => [Value.int .u16 (z : Int)]) w) (hc : l.length ≤ rc) (hl : (l.length : Int) ≤ 65536) (hx : w.cell? ⟨xb, 0, none⟩ = some (.int .u16 (k : Int))) :
    Calls Try.prog 72 #[.slice ro l.length rc, .func (.func 73) #[] #[.pointer (some ⟨xb, 0, none⟩)]] w fun e w' => e = .returned (.bool (l.any (fun m => out m k))) ∧ w' = w := by
  have C := hide' (indexFunc_any ro rc k xb l w h hc hl hx)
  clear h hx
  go_enter Try.func72, Try.ntmps72
  go_wp2_with (go_at_call 94; refine C.out.mono ?_; rintro e V ⟨z, rfl, hz, rfl⟩)
  go_ret
  exact ⟨rfl, rfl⟩
end V
end Go.Proofs.Ytmcdifmbblbhgaa
