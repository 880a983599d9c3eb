import Derived.Test.YtmcdifmbblbhgaaGdp
set_option linter.unusedVariables false
set_option linter.unusedSimpArgs false
namespace Go.Proofs.Ytmcdifmbblbhgaa
open Go.RowKit
namespace D
/-- a row of masks as it lies -/
structure Mr where
  ro : Option Addr
  rc : Nat
  l : List Nat
def mr0 : Mr := ⟨none, 0, []⟩
def Mr.cell (r : Mr) : Value := .slice r.ro r.l.length r.rc
def inb (n : Nat) (i : Int) : Bool := decide (0 ≤ i) && decide (i < n)
def atI (zs : List Int) (i : Int) : Int := if inb zs.length i then zs.getD i.toNat 0 else 0
def atN (zs : List Nat) (i : Int) : Nat := if inb zs.length i then zs.getD i.toNat 0 else 0
def atR (zs : List Mr) (i : Int) : Mr := if inb zs.length i then zs.getD i.toNat mr0 else mr0
theorem inb_no {n : Nat} {i : Int} (h : i < 0 ∨ (n : Int) ≤ i) : inb n i = false := by
  unfold inb
  rcases h with h | h
  · rw [decide_eq_false (by omega), Bool.false_and]
  · rw [decide_eq_false (p := i < n) (by omega), Bool.and_false]
theorem inb_yes {n : Nat} {i : Int} (h : 0 ≤ i) (h2 : i < (n : Int)) : inb n i = true := by
  unfold inb
  rw [decide_eq_true h, decide_eq_true h2]; rfl
set_option maxHeartbeats 1000000 in
set_option maxRecDepth 100000 in
theorem atI_any (ao : Option Addr) (cap : Nat) (zs : List Int) (i : Int) (w : World) (h : Lies 1 ao (zs.map fun z => [Value.int .i64 z]) w) (hc : zs.length ≤ cap) :
    Calls Try.prog 34 #[.slice ao zs.length cap, .int .i64 i] w fun e w' => e = .returned (.int .i64 (atI zs i)) ∧ w' = w := by
  by_cases h0 : i < 0
  · have K : Hid (atI zs i = 0) := by show _ = _; unfold atI; rw [inb_no (.inl h0)]; rfl
    clear h hc
    go_enter Try.func34, Try.ntmps34
    go_wp2
    go_ret
    exact ⟨ret_i K.out.symm, rfl⟩
  · by_cases h1 : i < (zs.length : Int)
    · obtain ⟨k, rfl⟩ := Int.eq_ofNat_of_zero_le (by omega : 0 ≤ i)
      obtain ⟨z, hz⟩ : ∃ z, zs[k]? = some z := ⟨_, List.getElem?_eq_getElem (by omega)⟩
      obtain ⟨x, off, rfl, _, c1⟩ := h.one hz
      have K : Hid (atI zs (k : Int) = z) := by
        show _ = _
        unfold atI; rw [inb_yes (by omega) h1]; simp [List.getD, hz]
      clear h hc hz
      go_enter Try.func34, Try.ntmps34
      go_wp2
      go_ret
      exact ⟨ret_i K.out.symm, rfl⟩
    · have K : Hid (atI zs i = 0) := by show _ = _; unfold atI; rw [inb_no (.inr (by omega))]; rfl
      clear h hc
      go_enter Try.func34, Try.ntmps34
      go_wp2
      go_ret
      exact ⟨ret_i K.out.symm, rfl⟩
theorem ret_u {a b : Nat} (h : a = b) : Ending.returned (.int .u16 (a : Int)) = .returned (.int .u16 (b : Int)) := by rw [h]
set_option maxHeartbeats 1000000 in
set_option maxRecDepth 100000 in
theorem atN_any (ao : Option Addr) (cap : Nat) (zs : List Nat) (i : Int) (w : World) (h : Lies 1 ao (zs.map fun z : Nat => [Value.int .u16 (z : Int)]) w) (hc : zs.length ≤ cap) :
    Calls Try.prog 36 #[.slice ao zs.length cap, .int .i64 i] w fun e w' => e = .returned (.int .u16 (atN zs i : Nat)) ∧ w' = w := by
  by_cases h0 : i < 0
  · have K : Hid (atN zs i = 0) := by show _ = _; unfold atN; rw [inb_no (.inl h0)]; rfl
    clear h hc
    go_enter Try.func36, Try.ntmps36
    go_wp2
    go_ret
    exact ⟨by rw [K.out]; rfl, rfl⟩
  · by_cases h1 : i < (zs.length : Int)
    · obtain ⟨k, rfl⟩ := Int.eq_ofNat_of_zero_le (by omega : 0 ≤ i)
      obtain ⟨z, hz⟩ : ∃ z, zs[k]? = some z := ⟨_, List.getElem?_eq_getElem (by omega)⟩
      obtain ⟨x, off, rfl, _, c1⟩ := h.one hz
      have K : Hid (atN zs (k : Int) = z) := by
        show _ = _
        unfold atN; rw [inb_yes (by omega) h1]; simp [List.getD, hz]
      clear h hc hz
      go_enter Try.func36, Try.ntmps36
      go_wp2
      go_ret
      exact ⟨by rw [K.out]; rfl, rfl⟩
    · have K : Hid (atN zs i = 0) := by show _ = _; unfold atN; rw [inb_no (.inr (by omega))]; rfl
      clear h hc
      go_enter Try.func36, Try.ntmps36
      go_wp2
      go_ret
      exact ⟨by rw [K.out]; rfl, rfl⟩
set_option maxHeartbeats 1000000 in
set_option maxRecDepth 100000 in
theorem atR_any (ao : Option Addr) (cap : Nat) (zs : List Mr) (i : Int) (w : World) (h : Lies 1 ao (zs.map fun z => [z.cell]) w) (hc : zs.length ≤ cap) :
    Calls Try.prog 37 #[.slice ao zs.length cap, .int .i64 i] w fun e w' => e = .returned (atR zs i).cell ∧ w' = w := by
  by_cases h0 : i < 0
  · have K : Hid (atR zs i = mr0) := by show _ = _; unfold atR; rw [inb_no (.inl h0)]; rfl
    clear h hc
    go_enter Try.func37, Try.ntmps37
    go_wp2
    go_ret
    exact ⟨by rw [K.out]; rfl, rfl⟩
  · by_cases h1 : i < (zs.length : Int)
    · obtain ⟨k, rfl⟩ := Int.eq_ofNat_of_zero_le (by omega : 0 ≤ i)
      obtain ⟨z, hz⟩ : ∃ z, zs[k]? = some z := ⟨_, List.getElem?_eq_getElem (by omega)⟩
      obtain ⟨x, off, rfl, _, c1⟩ := h.one hz
      have K : Hid (atR zs (k : Int) = z) := by
        show _ = _
        unfold atR; rw [inb_yes (by omega) h1]; simp [List.getD, hz]
      unfold Mr.cell at c1
      clear h hc hz
      go_enter Try.func37, Try.ntmps37
      go_wp2
      go_ret
      exact ⟨by rw [K.out]; rfl, rfl⟩
    · have K : Hid (atR zs i = mr0) := by show _ = _; unfold atR; rw [inb_no (.inr (by omega))]; rfl
      clear h hc
      go_enter Try.func37, Try.ntmps37
      go_wp2
      go_ret
      exact ⟨by rw [K.out]; rfl, rfl⟩
/-- the mask of one place -/
def mk1 (i : Int) : Nat := if inb 16 i then 2 ^ i.toNat else 0
theorem u16_pow (j : Nat) (hj : j < 16) : IntKind.u16.wrap (2 ^ j) = ((2 ^ j : Nat) : Int) ∧ (2 : Nat) ^ j < 65536 := by
  have hp : (2 : Nat) ^ j < 2 ^ 16 := Nat.pow_lt_pow_right (by omega) hj
  refine ⟨?_, hp⟩
  rw [show (2 : Int) ^ j = ((2 ^ j : Nat) : Int) by simp]
  generalize (2 : Nat) ^ j = z at *
  simp [IntKind.wrap, IntKind.signed, IntKind.bits]
  omega
theorem or_pow (j : Nat) (hj : j < 16) : bits .or .u16 0 (IntKind.u16.wrap (2 ^ j)) = ((2 ^ j : Nat) : Int) := by
  rw [(u16_pow j hj).1]
  have := u16_or_nat 0 (2 ^ j) (by omega) (u16_pow j hj).2
  rw [Nat.zero_or] at this
  exact this
set_option maxHeartbeats 1000000 in
set_option maxRecDepth 100000 in
theorem mask_one (b : Nat) (i : Int) (w : World) (hb : w.heap[b]? = some (.cells #[.int .i64 i] 3 (0, 0))) :
    Calls Try.prog 38 #[.slice (some ⟨b, 0, none⟩) 1 1] w fun e w' => e = .returned (.int .u16 (mk1 i : Nat)) ∧ w' = w := by
  have c0 : w.cell? ⟨b, 0, none⟩ = some (.int .i64 i) := by rw [Lib.cell_of_heap hb]; rfl
  clear hb
  go_enter Try.func38, Try.ntmps38
  go_wp2
  go_loopw [3, 8] (fun m i' wx => wx = w ∧ ((i' = .int .i64 0 ∧ m = .int .u16 0) ∨ (i' = .int .i64 1 ∧ m = .int .u16 (mk1 i : Nat)))) (fun _ i' _ => 1 - (intOf i').toNat)
  case atStart => exact ⟨rfl, .inl ⟨rfl, rfl⟩⟩
  case round =>
    obtain ⟨rfl, ⟨rfl, rfl⟩ | ⟨rfl, rfl⟩⟩ := hrel
    · by_cases h0 : i < 0
      · have h0' : ¬ 0 ≤ i := by omega
        have K : Hid (mk1 i = 0) := by show _ = _; unfold mk1; rw [inb_no (.inl h0)]; rfl
        clear h0
        go_wp2
        exact ⟨⟨trivial, .inr ⟨rfl, by rw [K.out]; rfl⟩⟩, by simp [intOf]⟩
      · by_cases h1 : i < 16
        · obtain ⟨k, rfl⟩ := Int.eq_ofNat_of_zero_le (by omega : 0 ≤ i)
          have hk : k < 16 := by omega
          have K : Hid (bits .or .u16 0 (IntKind.u16.wrap (2 ^ k)) = (mk1 (k : Int) : Nat)) := by
            show _ = _
            rw [or_pow k hk]
            unfold mk1; rw [inb_yes (by omega) (by omega)]; simp
          have h0' : 0 ≤ (k : Int) := by omega
          go_wp2
          exact ⟨⟨trivial, .inr ⟨rfl, by first | (rw [← K.out]; done) | (rw [← K.out]; rfl) | (simp; rw [← K.out]; rfl)⟩⟩, by simp [intOf]⟩
        · have K : Hid (mk1 i = 0) := by show _ = _; unfold mk1; rw [inb_no (.inr (by omega))]; rfl
          have h0' : 0 ≤ i := by omega
          go_wp2
          exact ⟨⟨trivial, .inr ⟨rfl, by rw [K.out]; rfl⟩⟩, by simp [intOf]⟩
    · go_wp2
      go_ret
      exact ⟨rfl, rfl⟩
end D
end Go.Proofs.Ytmcdifmbblbhgaa
