import Derived.Test.YtbbopkhgmgdlfaaRfF
set_option linter.unusedVariables false
set_option linter.unusedSimpArgs false
namespace Go.Proofs.Ytbbopkhgmgdlfaa
open Go.RowKit
namespace F
open M
variable {D : Nat → Prop} {B x n m : Nat} {lo eo : Option Addr} {lc ec : Nat} {lg : List Wr} {ws : List Int} {tr : List Ac} {bad : Nat} {w w' : World}
set_option maxRecDepth 100000 in
set_option maxHeartbeats 400000 in
theorem within_no (a n : Int) (h : Re B x ws.length lo lc lg eo ec tr bad w) (few : ws.length ≤ 65536) (hn : ¬ Wi ws a n) (hn2 : n ≤ 9223372036854775807) : Calls Try.prog 71 #[.pointer (some ⟨x, 0, none⟩), .int .i64 a, .int .i64 n] w fun e w' => e = .returned (.bool false) ∧ w' = w := by
  have c0 := h.c0
  clear h
  by_cases h0 : a < 0
  · have d1 : decide (0 ≤ a) = false := by simp; omega
    clear hn few hn2
    go_enter Try.func71, Try.ntmps71
    go_wp2
    go_ret
    exact ⟨rfl, rfl⟩
  have d1 : decide (0 ≤ a) = true := by simp; omega
  by_cases h1 : n < 0
  · have d2 : decide (0 ≤ n) = false := by simp; omega
    clear hn few hn2
    go_enter Try.func71, Try.ntmps71
    go_wp2
    go_ret
    exact ⟨rfl, rfl⟩
  have d2 : decide (0 ≤ n) = true := by simp; omega
  have h2 : wrap64 ((ws.length : Int) - n) < a := by
    unfold Wi at hn
    unfold wrap64
    omega
  have d3 : decide (a ≤ wrap64 ((ws.length : Int) - n)) = false := by simp; omega
  clear hn hn2 few
  go_enter Try.func71, Try.ntmps71
  go_wp2
  go_ret
  exact ⟨rfl, rfl⟩
set_option maxRecDepth 100000 in
set_option maxHeartbeats 400000 in
theorem within_yes (a n : Nat) (h : Re B x ws.length lo lc lg eo ec tr bad w) (few : ws.length ≤ 65536) (hn : a + n ≤ ws.length) : Calls Try.prog 71 #[.pointer (some ⟨x, 0, none⟩), .int .i64 (a : Nat), .int .i64 (n : Nat)] w fun e w' => e = .returned (.bool true) ∧ w' = w := by
  have c0 := h.c0
  have e1 : wrap64 ((ws.length : Int) - (n : Int)) = (ws.length : Int) - (n : Int) := wrap_in (by omega) (by omega)
  have d1 : decide (0 ≤ (a : Int)) = true := by simp
  have d2 : decide (0 ≤ (n : Int)) = true := by simp
  have d3 : decide ((a : Int) ≤ (ws.length : Int) - (n : Int)) = true := by simp; omega
  have hk : (a : Int) ≤ (ws.length : Int) - (n : Int) := by omega
  clear h few hn
  go_enter Try.func71, Try.ntmps71
  go_wp2
  go_ret
  exact ⟨rfl, rfl⟩
set_option maxRecDepth 100000 in
set_option maxHeartbeats 1000000 in
theorem poison_any (a n : Int) (h : Rem D B x ws m tr bad w) (hm' : m < 1999999999999) (hn2 : n ≤ 9223372036854775807) : Calls Try.prog 39 #[.pointer (some ⟨x, 0, none⟩), .int .i64 a, .int .i64 n] w fun e w' => e = .returned (.int .i64 (pe ws a n)) ∧ RTo D B x (pfill ws a n P) (m + 1) tr bad w w' := by
  have h0 := h
  obtain ⟨hb, few, lo, lc, lg, eo, ec, hm, hr, hl, hd⟩ := h
  by_cases hw : Wi ws a n
  · obtain ⟨k1, k2, k3⟩ := id hw
    obtain ⟨k, rfl⟩ : ∃ k : Nat, a = (k : Int) := ⟨a.toNat, by omega⟩
    obtain ⟨q, rfl⟩ : ∃ k : Nat, n = (k : Int) := ⟨n.toNat, by omega⟩
    rw [show pe ws k q = 0 from if_pos hw, show pfill ws k q P = fil ws k P q by unfold pfill; rw [if_pos hw, Int.toNat_natCast, Int.toNat_natCast]]
    have Hw := hide' (within_yes k q hm few (by omega))
    have c1 := hm.c1
    have H := hide' hm
    have HL := hide' (show lg.length < 2000000000000 by omega)
    have HK : Hid (∀ gg cap' w1, Re B x ws.length (some ⟨gg, 0, none⟩) cap' (lg ++ [⟨(k : Int), (q : Int), P⟩]) eo ec tr bad w1 → Turn (Own x lo eo) w w1 → (At lo gg ∨ w.heap.size ≤ gg) → RTo D B x (fil ws k P q) (m + 1) tr bad w w1) := fun gg cap' w1 r1 r2 r3 => ⟨_, ⟨hb, by rw [fil_len]; exact few, _, _, _, _, _, (by rw [fil_len]; exact r1), hr.fill k q P (by omega) few, by rw [List.length_append]; simp; omega, fun j => Iff.rfl⟩, of_own hd r2, own_sub hd (at_one r3 (Nat.le_refl _)) (fun j q => .inl q)⟩
    unfold P at HK ⊢
    clear hd hb hl hm hr few h0 hm' hn2 hw k1 k2 k3
    go_enter Try.func39, Try.ntmps39
    go_wp2_with fail
    refine Hw.out.mono ?_
    rintro e w1 ⟨rfl, hw1⟩
    replace hw1 := hw1.symm
    subst hw1
    go_wp2_with (at_builtin; refine wpList_log w rfl _ _ rfl H.out HL.out ⟨(k : Int), (q : Int), -4611686018427387904⟩ _ rfl rfl ?_; intro gg cap' w1 d1 d2 L1 S1 S2)
    go_ret
    exact ⟨rfl, HK.out gg cap' _ L1 S1 S2⟩
  · rw [show pe ws a n = 140 from if_neg hw, show pfill ws a n P = ws from if_neg hw]
    have Hw := hide' (within_no a n hm few hw hn2)
    have H0 := hide' (h0.more (Nat.le_succ m))
    clear hd hb hl hm hr few h0 hm' hn2 hw
    go_enter Try.func39, Try.ntmps39
    go_wp2_with fail
    refine Hw.out.mono ?_
    rintro e w1 ⟨rfl, hw1⟩
    replace hw1 := hw1.symm
    subst hw1
    go_wp2
    go_ret
    exact ⟨rfl, D, H0.out, Turn.refl _ _, fun j hj => .inl hj⟩
set_option maxRecDepth 100000 in
set_option maxHeartbeats 1000000 in
theorem clear_any (a n : Int) (h : Rem D B x ws m tr bad w) (hm' : m < 1999999999999) (hn2 : n ≤ 9223372036854775807) : Calls Try.prog 41 #[.pointer (some ⟨x, 0, none⟩), .int .i64 a, .int .i64 n] w fun e w' => e = .returned (.int .i64 (pe ws a n)) ∧ RTo D B x (pfill ws a n 0) (m + 1) tr bad w w' := by
  have h0 := h
  obtain ⟨hb, few, lo, lc, lg, eo, ec, hm, hr, hl, hd⟩ := h
  by_cases hw : Wi ws a n
  · obtain ⟨k1, k2, k3⟩ := id hw
    obtain ⟨k, rfl⟩ : ∃ k : Nat, a = (k : Int) := ⟨a.toNat, by omega⟩
    obtain ⟨q, rfl⟩ : ∃ k : Nat, n = (k : Int) := ⟨n.toNat, by omega⟩
    rw [show pe ws k q = 0 from if_pos hw, show pfill ws k q 0 = fil ws k 0 q by unfold pfill; rw [if_pos hw, Int.toNat_natCast, Int.toNat_natCast]]
    have Hw := hide' (within_yes k q hm few (by omega))
    have c1 := hm.c1
    have H := hide' hm
    have HL := hide' (show lg.length < 2000000000000 by omega)
    have HK : Hid (∀ gg cap' w1, Re B x ws.length (some ⟨gg, 0, none⟩) cap' (lg ++ [⟨(k : Int), (q : Int), 0⟩]) eo ec tr bad w1 → Turn (Own x lo eo) w w1 → (At lo gg ∨ w.heap.size ≤ gg) → RTo D B x (fil ws k 0 q) (m + 1) tr bad w w1) := fun gg cap' w1 r1 r2 r3 => ⟨_, ⟨hb, by rw [fil_len]; exact few, _, _, _, _, _, (by rw [fil_len]; exact r1), hr.fill k q 0 (by omega) few, by rw [List.length_append]; simp; omega, fun j => Iff.rfl⟩, of_own hd r2, own_sub hd (at_one r3 (Nat.le_refl _)) (fun j q => .inl q)⟩
    clear hd hb hl hm hr few h0 hm' hn2 hw k1 k2 k3
    go_enter Try.func41, Try.ntmps41
    go_wp2_with fail
    refine Hw.out.mono ?_
    rintro e w1 ⟨rfl, hw1⟩
    replace hw1 := hw1.symm
    subst hw1
    go_wp2_with (at_builtin; refine wpList_log w rfl _ _ rfl H.out HL.out ⟨(k : Int), (q : Int), 0⟩ _ rfl rfl ?_; intro gg cap' w1 d1 d2 L1 S1 S2)
    go_ret
    exact ⟨rfl, HK.out gg cap' _ L1 S1 S2⟩
  · rw [show pe ws a n = 140 from if_neg hw, show pfill ws a n 0 = ws from if_neg hw]
    have Hw := hide' (within_no a n hm few hw hn2)
    have H0 := hide' (h0.more (Nat.le_succ m))
    clear hd hb hl hm hr few h0 hm' hn2 hw
    go_enter Try.func41, Try.ntmps41
    go_wp2_with fail
    refine Hw.out.mono ?_
    rintro e w1 ⟨rfl, hw1⟩
    replace hw1 := hw1.symm
    subst hw1
    go_wp2
    go_ret
    exact ⟨rfl, D, H0.out, Turn.refl _ _, fun j hj => .inl hj⟩
theorem len_any (h : Rem D B x ws m tr bad w) : Calls Try.prog 33 #[.pointer (some ⟨x, 0, none⟩)] w fun e w' => e = .returned (.int .i64 (ws.length : Nat)) ∧ w' = w := by
  obtain ⟨hb, few, lo, lc, lg, eo, ec, hm, hr, hl, hd⟩ := h
  have c0 := hm.c0
  clear hm hd hb hr hl few
  go_enter Try.func33, Try.ntmps33
  go_wp2
  go_ret
  exact ⟨rfl, rfl⟩
theorem bad_any (h : Rem D B x ws m tr bad w) : Calls Try.prog 17 #[.pointer (some ⟨x, 0, none⟩)] w fun e w' => e = .returned (.int .i64 (bad : Nat)) ∧ w' = w := by
  obtain ⟨hb, few, lo, lc, lg, eo, ec, hm, hr, hl, hd⟩ := h
  have c0 := hm.c3
  clear hm hd hb hr hl few
  go_enter Try.func17, Try.ntmps17
  go_wp2
  go_ret
  exact ⟨rfl, rfl⟩
theorem trace_any (h : Rem D B x ws m tr bad w) : Calls Try.prog 15 #[.pointer (some ⟨x, 0, none⟩)] w fun e w' => ∃ ro rc, e = .returned (.slice ro tr.length rc) ∧ w'.ownsRow B 75 5 (.slice ro tr.length rc) tr.length (acs tr) ∧ w' = w := by
  obtain ⟨hb, few, lo, lc, lg, eo, ec, hm, hr, hl, hd⟩ := h
  have c0 := hm.c2
  have Hr := hide' hm.row
  clear hm hd hb hr hl few
  go_enter Try.func15, Try.ntmps15
  go_wp2
  go_ret
  exact ⟨eo, ec, rfl, Hr.out, rfl⟩
theorem note_one (z : Ac) (h : Rem D B x ws m tr bad w) (hl' : tr.length < 1999999999999) : Calls Try.prog 69 #[.pointer (some ⟨x, 0, none⟩), .agg #[.int .i8 z.kind, .int .i64 z.addr, .int .i64 z.value, .int .i64 z.old, .bool z.good]] w fun e w' => e = .returned (.tuple #[]) ∧ RTo D B x ws m (tr ++ [z]) bad w w' := by
  obtain ⟨hb, few, lo, lc, lg, eo, ec, hm, hr, hl, hd⟩ := h
  exact (note_any z hm (by omega)).mono fun e w' ⟨he, gg, cap', h2, t2, hg⟩ => ⟨he, _, ⟨by simp; omega, few, _, _, _, _, _, h2, hr, hl, fun j => Iff.rfl⟩, of_own hd t2, own_sub hd (fun j q => .inl q) (at_one hg (Nat.le_refl _))⟩
set_option maxRecDepth 100000 in
set_option maxHeartbeats 400000 in
theorem new_no (n : Int) (w : World) (h : n < 1 ∨ 65536 < n) : Calls Try.prog 9 #[.int .i64 n] w fun e w' => e = .returned (.tuple #[.pointer none, .int .i64 3]) ∧ w' = w := by
  by_cases h1 : n < 1
  · clear h
    go_enter Try.func9, Try.ntmps9
    go_wp2
    go_ret2
    exact ⟨rfl, rfl⟩
  · have h2 : 65536 < n := by omega
    clear h
    go_enter Try.func9, Try.ntmps9
    go_wp2
    go_ret2
    exact ⟨rfl, rfl⟩
set_option maxRecDepth 100000 in
set_option maxHeartbeats 400000 in
theorem new_any (n : Nat) (w : World) (h1 : 0 < n) (h2 : n ≤ 65536) (L : Int) (hL : L = (n : Nat)) : Calls Try.prog 9 #[.int .i64 L] w fun e w' => ∃ x, e = .returned (.tuple #[.pointer (some ⟨x, 0, none⟩), .int .i64 0]) ∧ ∃ D, Rem D w.heap.size x (List.replicate n 0) 0 [] 0 w' ∧ Below w.heap.size w w' := by
  have fin : ∀ o1 : Obj, Below w.heap.size w (w.alloc o1) := fun o1 => (Below.refl _ _).alloc (Nat.le_refl _) _
  have a1 : 1 ≤ L := by omega
  have a2 : L ≤ 65536 := by omega
  have Hf : Hid (∃ D, Rem D w.heap.size w.heap.size (List.replicate n 0) 0 [] 0 (w.alloc (.cells #[.int .i64 L, .slice none 0 0, .slice none 0 0, .int .i64 0] 85))) := ⟨_, Nat.le_refl _, by simpa using h2, none, 0, [], none, 0, ⟨by rw [hL, List.length_replicate]; exact heap_alloc_new _ _, World.ownsRow_nil _ _ _ _, World.ownsRow_nil _ _ _ _, Nat.le_refl _⟩, ⟨fun e he => (by cases he), fun k hk => by rw [show wv [] (k : Int) = 0 from rfl, rep_at n k (by simpa using hk)]⟩, Nat.le_refl _, fun j => Iff.rfl⟩
  clear h1 h2 hL
  go_enter Try.func9, Try.ntmps9
  go_wp2
  go_ret2
  obtain ⟨D, hD⟩ := Hf.out
  exact ⟨w.heap.size, rfl, D, hD, fin _⟩
end F
end Go.Proofs.Ytbbopkhgmgdlfaa
