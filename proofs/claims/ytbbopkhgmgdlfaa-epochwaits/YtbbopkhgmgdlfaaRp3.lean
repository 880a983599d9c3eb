import Derived.Test.YtbbopkhgmgdlfaaRp2
set_option linter.unusedVariables false
set_option linter.unusedSimpArgs false
namespace Go.Proofs.Ytbbopkhgmgdlfaa
open Go.RowKit
namespace F
open M
variable {D : Nat → Prop} {B y m : Nat} {ws : List Int} {tr : List Ac} {bad : Nat} {w w' : World}
variable {b l e f n s md go : Nat} {sn si : Int} {ad : Bool}
theorem RGr.block (h : RGr b l ad si go w) (q : w'.heap[b]? = w.heap[b]?) : RGr b l ad si go w' := q.trans h
set_option maxRecDepth 100000 in
set_option maxHeartbeats 1000000 in
theorem over_any (hk : RSl l y e f n w) (hw : RGr b l ad si go w) : Calls Try.prog 74 #[.pointer (some ⟨b, 0, none⟩)] w fun r w' => r = .returned (.bool (ad && decide (go = n))) ∧ ∃ k, w' = w.drewN k := by
  have c0 := hw.c0
  have c1 := hw.c1
  have c3 := hw.c3
  have k3 := hk.c3
  clear hk hw
  cases ad with
  | false =>
    clear c0 c3 k3
    go_enter Try.func74, Try.ntmps74
    go_wp2_with fail
    go_quiet (fail)
    go_wp2
    go_ret
    exact ⟨rfl, _, rfl⟩
  | true =>
    by_cases hd : go = n
    · subst hd
      go_enter Try.func74, Try.ntmps74
      go_wp2_with fail
      go_quiet (fail)
      go_wp2
      go_ret
      exact ⟨by simp, _, rfl⟩
    · have d1 : ((go : Int) == (n : Int)) = false := by rw [beq_eq_false_iff_ne]; omega
      go_enter Try.func74, Try.ntmps74
      go_wp2_with fail
      go_quiet (fail)
      go_wp2
      go_ret
      exact ⟨by simp [hd], _, rfl⟩
set_option maxRecDepth 100000 in
set_option maxHeartbeats 1000000 in
theorem goes_any (v : Int) (h : w.cell? ⟨b, 2, none⟩ = some (.int .i64 si)) : Calls Try.prog 76 #[.pointer (some ⟨b, 0, none⟩), .int .i64 v] w fun r w' => r = .returned (.bool (lts si v)) ∧ w' = w := by
  by_cases hd : v = 0
  · subst hd
    rw [show lts si 0 = true from decide_eq_true (.inl rfl)]
    go_enter Try.func76, Try.ntmps76
    go_wp2
    go_ret
    exact ⟨rfl, rfl⟩
  · have d1 : (v == 0) = false := by simpa using hd
    by_cases he : si ≤ v
    · rw [show lts si v = true from decide_eq_true (.inr he)]
      go_enter Try.func76, Try.ntmps76
      go_wp2
      go_ret
      exact ⟨rfl, rfl⟩
    · rw [show lts si v = false from decide_eq_false (fun q => by rcases q with q | q; exact hd q; exact he q)]
      have d2 : decide (si ≤ v) = false := decide_eq_false he
      go_enter Try.func76, Try.ntmps76
      go_wp2
      go_ret
      exact ⟨rfl, rfl⟩
set_option maxRecDepth 100000 in
set_option maxHeartbeats 2000000 in
theorem rgraceN_any (h : Rem D B y ws m tr bad w) (hk : RSl l y e f n w) (hw : RGr b l true si n w) :
    Calls Try.prog 64 #[.pointer (some ⟨b, 0, none⟩)] w fun r w' => r = .returned (.bool true) ∧ RBTo D B y b ws m tr bad (rgrc l true si n) 131 w w' := by
  have HC := hide' (over_any hk hw)
  rw [show (true && decide (n = n)) = true by simp] at HC
  have K : Hid (RBTo D B y b ws m tr bad (rgrc l true si n) 131 w w) := hide' (RBTo.same h hw)
  clear h hk hw
  go_enter Try.func64, Try.ntmps64
  go_wp2_with fail
  refine HC.out.mono ?_
  rintro r w2 ⟨rfl, q, rfl⟩
  have K3 := hide' (K.out.drewN q)
  go_wp2
  go_ret
  exact ⟨rfl, K3.out⟩
set_option maxRecDepth 100000 in
set_option maxHeartbeats 2000000 in
theorem rgrace0_any (h : Rem D B y ws m tr bad w) (hk : RSl l y e f n w) (hw : RGr b l false si go w) (hl : tr.length < 1999999999999) (hm : m < 1999999999999) :
    Calls Try.prog 64 #[.pointer (some ⟨b, 0, none⟩)] w fun r w' => r = .returned (.bool false) ∧ RBTo D B y b (put ws e (wrap64 (std ws e + 1))) (m + 1) (tr ++ [⟨4, e, 1, std ws e, good ws e⟩]) (bad + bd ws e) (rgrc l true (wrap64 (std ws e + 1)) go) 131 w w' := by
  have c0 := hw.c0
  have c1 := hw.c1
  have k0 := hk.c0
  have k1 := hk.c1
  have HO := hide' (over_any hk hw)
  rw [show (false && decide (go = n)) = false by simp] at HO
  have HC : Hid (∀ q, Calls Try.prog 75 #[.pointer (some ⟨y, 0, none⟩), .int .i64 (e : Nat), .int .i64 1] (w.drewN q) fun r w' => r = .returned (.tuple #[.int .i64 (std ws e), .int .i64 (er ws e)]) ∧ RBTo D B y b (put ws e (wrap64 (std ws e + 1))) (m + 1) (tr ++ [⟨4, e, 1, std ws e, good ws e⟩]) (bad + bd ws e) (rgrc l false si go) 131 w w' ∧ RSl l y e f n w') := hide' (fun q => (F.add_any (e : Int) 1 (h.drewN q) hl hm).mono fun r w' ⟨he, ht⟩ => by
    have ht' : RTo D B y (put ws e (wrap64 (std ws e + 1))) (m + 1) (tr ++ [⟨4, e, 1, std ws e, good ws e⟩]) (bad + bd ws e) w w' := by obtain ⟨D', h', t', s'⟩ := ht; exact ⟨D', h', ((Turn.refl D w).drewN q).trans t', s'⟩
    exact ⟨he, RBTo.of_to h hw krg ht', RTo.rsl ht' h hk⟩)
  generalize put ws e (wrap64 (std ws e + 1)) = ws1 at *
  generalize tr ++ [(⟨4, e, 1, std ws e, good ws e⟩ : Ac)] = tr1 at *
  generalize bad + bd ws e = bad1 at *
  generalize std ws e = V at *
  generalize er ws e = E at *
  clear h hk hw hl hm
  go_enter Try.func64, Try.ntmps64
  go_wp2_with fail
  refine HO.out.mono ?_
  rintro r w2 ⟨rfl, q, rfl⟩
  have HC1 := hide' (HC.out (q + 1))
  replace c0 : (w.drewN q).cell? ⟨b, 0, none⟩ = some (.pointer (some ⟨l, 0, none⟩)) := c0
  replace c1 : (w.drewN q).cell? ⟨b, 1, none⟩ = some (.bool false) := c1
  replace k0 : (w.drewN q).cell? ⟨l, 0, none⟩ = some (.pointer (some ⟨y, 0, none⟩)) := k0
  replace k1 : (w.drewN q).cell? ⟨l, 1, none⟩ = some (.int .i64 (e : Nat)) := k1
  clear HC HO
  go_wp2_with fail
  go_region_held3 (fun w' => w'.cell? ⟨b, 0, none⟩ = some (.pointer (some ⟨l, 0, none⟩)) ∧ w'.cell? ⟨l, 0, none⟩ = some (.pointer (some ⟨y, 0, none⟩)) ∧ w'.cell? ⟨l, 1, none⟩ = some (.int .i64 (e : Nat))) (first | exact ⟨c0, k0, k1⟩ | exact ⟨hwt.c0, L.c0, L.c1⟩) ((go_at_call 75; refine HC1.out.mono ?_; rintro r w3 ⟨rfl, K, L⟩; obtain ⟨D', hM, hwt, tu, q⟩ := id K; replace hwt : RGr b l false si go w3 := hwt))
  rename_i hHeld
  clear hHeld
  have d1 := hwt.c1
  have d2 := hwt.c2
  have f1 := hwt.fz 1
  have f2 := hwt.fz 2
  have hw2 := (hwt.s1 true).s2 (wrap64 (V + 1))
  have K2 := hide' (RBTo.put (cs := rgrc l false si go) ⟨D', hM, hwt, tu, q⟩ krg ((turn_b b 1 (.bool true) w3).trans (turn_b b 2 (.int .i64 (wrap64 (V + 1))) _)) hw2)
  clear hM hwt tu q HC1 L hw2 c0 c1 k0 k1
  go_wp2
  go_ret
  exact ⟨rfl, K2.out⟩
set_option maxRecDepth 100000 in
set_option maxHeartbeats 2000000 in
theorem rgraceL_any (k a : Nat) (ha : a = f + k) (hs : a < 1000000) (h : Rem D B y ws m tr bad w) (hk : RSl l y e f n w) (hw : RGr b l true si k w) (hkn : k < n) (hn : n ≤ 16) (hl : tr.length < 1999999999999) (hm : m < 1999999999999) :
    Calls Try.prog 64 #[.pointer (some ⟨b, 0, none⟩)] w fun r w' => r = .returned (.bool (decide (nxt si (std ws a) k = n))) ∧ RBTo D B y b ws (m + 1) (tr ++ [⟨1, a, std ws a, 0, good ws a⟩]) (bad + bd ws a) (rgrc l true si (nxt si (std ws a) k)) 131 w w' := by
  have c0 := hw.c0
  have c1 := hw.c1
  have c3 := hw.c3
  have k0 := hk.c0
  have k2 := hk.c2
  have HO := hide' (over_any hk hw)
  rw [show (true && decide (k = n)) = false by simp; omega] at HO
  have hwf := wfs f k a ha hs
  have HC : Hid (∀ q, Calls Try.prog 73 #[.pointer (some ⟨y, 0, none⟩), .int .i64 (a : Nat)] (w.drewN q) fun r w' => r = .returned (.tuple #[.int .i64 (std ws a), .int .i64 (er ws a)]) ∧ RBTo D B y b ws (m + 1) (tr ++ [⟨1, a, std ws a, 0, good ws a⟩]) (bad + bd ws a) (rgrc l true si k) 131 w w' ∧ RSl l y e f n w') := hide' (fun q => (F.load_any (a : Int) (h.drewN q) hl hm).mono fun r w' ⟨he, ht⟩ => by
    have ht' : RTo D B y ws (m + 1) (tr ++ [⟨1, a, std ws a, 0, good ws a⟩]) (bad + bd ws a) w w' := by obtain ⟨D', h', t', s'⟩ := ht; exact ⟨D', h', ((Turn.refl D w).drewN q).trans t', s'⟩
    exact ⟨he, RBTo.of_to h hw krg ht', RTo.rsl ht' h hk⟩)
  have Hk1 := hide' (wsucM k (k + 1) rfl (by omega))
  unfold nxt
  generalize tr ++ [(⟨1, a, std ws a, 0, good ws a⟩ : Ac)] = tr1 at *
  generalize bad + bd ws a = bad1 at *
  generalize std ws a = V at *
  generalize er ws a = E at *
  clear h hk hw hl hm ha hs
  cases hlt : lts si V with
  | true =>
    rw [if_pos rfl]
    obtain ⟨k1, hk1⟩ : ∃ k1, k1 = k + 1 := ⟨_, rfl⟩
    rw [← hk1] at Hk1 ⊢
    clear hk1 hkn hn
    go_enter Try.func64, Try.ntmps64
    go_wp2_with fail
    refine HO.out.mono ?_
    rintro r w2 ⟨rfl, q, rfl⟩
    have HC1 := hide' (HC.out (q + 1))
    replace c0 : (w.drewN q).cell? ⟨b, 0, none⟩ = some (.pointer (some ⟨l, 0, none⟩)) := c0
    replace c1 : (w.drewN q).cell? ⟨b, 1, none⟩ = some (.bool true) := c1
    replace c3 : (w.drewN q).cell? ⟨b, 3, none⟩ = some (.int .i64 (k : Nat)) := c3
    replace k0 : (w.drewN q).cell? ⟨l, 0, none⟩ = some (.pointer (some ⟨y, 0, none⟩)) := k0
    replace k2 : (w.drewN q).cell? ⟨l, 2, none⟩ = some (.int .i64 (f : Nat)) := k2
    clear HC HO
    go_wp2_with fail
    go_region_held3 (fun w' => w'.cell? ⟨b, 0, none⟩ = some (.pointer (some ⟨l, 0, none⟩)) ∧ w'.cell? ⟨l, 0, none⟩ = some (.pointer (some ⟨y, 0, none⟩)) ∧ w'.cell? ⟨l, 2, none⟩ = some (.int .i64 (f : Nat)) ∧ w'.cell? ⟨b, 3, none⟩ = some (.int .i64 (k : Nat))) (first | exact ⟨c0, k0, k2, c3⟩ | exact ⟨hwt.c0, L.c0, L.c2, hwt.c3⟩) ((go_at_call 73; refine HC1.out.mono ?_; rintro r w3 ⟨rfl, K, L⟩; obtain ⟨D', hM, hwt, tu, q⟩ := id K; replace hwt : RGr b l true si k w3 := hwt))
    rename_i hHeld
    clear hHeld
    have HG := hide' (goes_any V hwt.c2)
    rw [hlt] at HG
    have d3 := hwt.c3
    have f3 := hwt.fz 3
    have hw2 := hwt.s3 k1
    have hL2 : RSl l y e f n (w3.setCell ⟨b, 3, none⟩ (.int .i64 (k1 : Nat))) := L.kept (turn_b b 3 (.int .i64 (k1 : Nat)) w3) (fun z => cells_ne L hwt (by decide) z)
    have HO2 := hide' (over_any hL2 hw2)
    have K2 := hide' (RBTo.put (cs := rgrc l true si k) ⟨D', hM, hwt, tu, q⟩ krg (turn_b b 3 (.int .i64 (k1 : Nat)) w3) hw2)
    have hk1 := Hk1.out
    clear hM hwt tu q HC1 L hw2 hL2 c0 c1 c3 k0 k2 hwf
    go_wp2_with fail
    refine HG.out.mono ?_
    rintro r w4 ⟨rfl, hw4⟩
    replace hw4 := hw4.symm
    subst hw4
    go_wp2_with fail
    clear d3 f3 hk1 Hk1
    generalize w3.setCell ⟨b, 3, none⟩ (.int .i64 (k1 : Nat)) = w5 at *
    refine HO2.out.mono ?_
    rintro r w6 ⟨rfl, q, rfl⟩
    have K3 := hide' (K2.out.drewN q)
    clear K2 HO2 HG
    go_wp2
    go_ret
    exact ⟨by simp, K3.out⟩
  | false =>
    rw [if_neg (by decide)]
    clear Hk1
    go_enter Try.func64, Try.ntmps64
    go_wp2_with fail
    refine HO.out.mono ?_
    rintro r w2 ⟨rfl, q, rfl⟩
    have HC1 := hide' (HC.out (q + 1))
    replace c0 : (w.drewN q).cell? ⟨b, 0, none⟩ = some (.pointer (some ⟨l, 0, none⟩)) := c0
    replace c1 : (w.drewN q).cell? ⟨b, 1, none⟩ = some (.bool true) := c1
    replace c3 : (w.drewN q).cell? ⟨b, 3, none⟩ = some (.int .i64 (k : Nat)) := c3
    replace k0 : (w.drewN q).cell? ⟨l, 0, none⟩ = some (.pointer (some ⟨y, 0, none⟩)) := k0
    replace k2 : (w.drewN q).cell? ⟨l, 2, none⟩ = some (.int .i64 (f : Nat)) := k2
    clear HC HO
    go_wp2_with fail
    go_region_held3 (fun w' => w'.cell? ⟨b, 0, none⟩ = some (.pointer (some ⟨l, 0, none⟩)) ∧ w'.cell? ⟨l, 0, none⟩ = some (.pointer (some ⟨y, 0, none⟩)) ∧ w'.cell? ⟨l, 2, none⟩ = some (.int .i64 (f : Nat)) ∧ w'.cell? ⟨b, 3, none⟩ = some (.int .i64 (k : Nat))) (first | exact ⟨c0, k0, k2, c3⟩ | exact ⟨hwt.c0, L.c0, L.c2, hwt.c3⟩) ((go_at_call 73; refine HC1.out.mono ?_; rintro r w3 ⟨rfl, K, L⟩; obtain ⟨D', hM, hwt, tu, q⟩ := id K; replace hwt : RGr b l true si k w3 := hwt))
    rename_i hHeld
    clear hHeld
    have HG := hide' (goes_any V hwt.c2)
    rw [hlt] at HG
    have HO2 := hide' (over_any L hwt)
    have K2 : Hid (RBTo D B y b ws (m + 1) tr1 bad1 (rgrc l true si k) 131 w w3) := hide' ⟨D', hM, hwt, tu, q⟩
    clear hM hwt tu q HC1 L c0 c1 c3 k0 k2 hwf
    go_wp2_with fail
    refine HG.out.mono ?_
    rintro r w4 ⟨rfl, hw4⟩
    replace hw4 := hw4.symm
    subst hw4
    go_wp2_with fail
    refine HO2.out.mono ?_
    rintro r w6 ⟨rfl, q, rfl⟩
    have K3 := hide' (K2.out.drewN q)
    clear K2 HO2 HG
    go_wp2
    go_ret
    exact ⟨by simp, K3.out⟩
/-- where the document's period is -/
def rgat (n : Nat) (ad : Bool) (go : Nat) : Int := if ad = true ∧ go ≠ n then (go : Nat) else -1
set_option maxRecDepth 100000 in
set_option maxHeartbeats 1000000 in
theorem rat_any (hk : RSl l y e f n w) (hw : RGr b l ad si go w) : Calls Try.prog 66 #[.pointer (some ⟨b, 0, none⟩)] w fun r w' => r = .returned (.int .i64 (rgat n ad go)) ∧ ∃ k, w' = w.drewN k := by
  have c0 := hw.c0
  have c1 := hw.c1
  have c3 := hw.c3
  have k3 := hk.c3
  clear hk hw
  cases ad with
  | false =>
    rw [show rgat n false go = -1 from if_neg (by simp)]
    clear c0 c3 k3
    go_enter Try.func66, Try.ntmps66
    go_wp2_with fail
    go_quiet (fail)
    go_wp2
    go_ret
    exact ⟨rfl, _, rfl⟩
  | true =>
    by_cases hd : go = n
    · subst hd
      rw [show rgat go true go = -1 from if_neg (by simp)]
      go_enter Try.func66, Try.ntmps66
      go_wp2_with fail
      go_quiet (fail)
      go_wp2
      go_ret
      exact ⟨rfl, _, rfl⟩
    · have d1 : ((go : Int) == (n : Int)) = false := by rw [beq_eq_false_iff_ne]; omega
      rw [show rgat n true go = (go : Nat) from if_pos ⟨rfl, hd⟩]
      go_enter Try.func66, Try.ntmps66
      go_wp2_with fail
      go_quiet (fail)
      go_wp2
      go_ret
      exact ⟨rfl, _, rfl⟩
theorem rword_any {a : Nat} (h : Rem D B y ws m tr bad w) (hm : m < 1999999999999) (hs : a < ws.length) : Calls Try.prog 19 #[.pointer (some ⟨y, 0, none⟩), .int .i64 (a : Nat)] w fun r w' => r = .returned (.int .i64 (ws.getD a 0)) ∧ Below w.heap.size w w' := by
  obtain ⟨hb, few, lo, lc, lg, eo, ec, hM, hr, hl, hd⟩ := h
  have := word_any ((a : Nat) : Int) hM hr.1 (by omega)
  rw [hr.2 a hs] at this
  exact this
set_option maxRecDepth 100000 in
set_option maxHeartbeats 2000000 in
theorem rready_no (hk : RSl l y e f n w) (hw : RGr b l ad si go w) (hg : rgat n ad go = -1) : Calls Try.prog 65 #[.pointer (some ⟨b, 0, none⟩)] w fun r w' => r = .returned (.bool true) ∧ Below w.heap.size w w' := by
  have HC := hide' (rat_any hk hw)
  rw [hg] at HC
  clear hk hw hg
  go_enter Try.func65, Try.ntmps65
  go_wp2_with fail
  refine HC.out.mono ?_
  rintro r w2 ⟨rfl, q, rfl⟩
  clear HC
  go_wp2_with fail
  go_quiet (fail)
  go_wp2
  go_ret
  exact ⟨rfl, ⟨rfl, rfl, rfl, Nat.le_refl _, fun _ _ => rfl⟩⟩
set_option maxRecDepth 100000 in
set_option maxHeartbeats 2000000 in
theorem rready_at (k a : Nat) (ha : a = f + k) (h : Rem D B y ws m tr bad w) (hk : RSl l y e f n w) (hw : RGr b l true si k w) (hkn : k < n) (hs : a < ws.length) (hm : m < 1999999999999) : Calls Try.prog 65 #[.pointer (some ⟨b, 0, none⟩)] w fun r w' => r = .returned (.bool (lts si (ws.getD a 0))) ∧ Below w.heap.size w w' := by
  have c0 := hw.c0
  have k0 := hk.c0
  have k2 := hk.c2
  have HC := hide' (rat_any hk hw)
  rw [show rgat n true k = (k : Nat) from if_pos ⟨rfl, by omega⟩] at HC
  have hwf := wfs f k a ha (by have := h.few; omega)
  have HL : Hid (∀ q, Calls Try.prog 19 #[.pointer (some ⟨y, 0, none⟩), .int .i64 (a : Nat)] (w.drewN q) fun r w' => r = .returned (.int .i64 (ws.getD a 0)) ∧ Below w.heap.size w w' ∧ RGr b l true si k w' ∧ RSl l y e f n w') := hide' (fun q => (rword_any (h.drewN q) hm hs).mono fun r w' ⟨hr, ht⟩ => ⟨hr, ⟨ht.os, ht.tape, ht.output, ht.size, ht.block⟩, (ht.block b (lt_of_heap hw)).trans hw, (ht.block l (lt_of_heap hk)).trans hk⟩)
  have dk : ¬ ((k : Int) < 0) := by omega
  generalize ws.getD a 0 = V at *
  clear h hk hw ha hs hkn hm
  go_enter Try.func65, Try.ntmps65
  go_wp2_with fail
  refine HC.out.mono ?_
  rintro r w2 ⟨rfl, q, rfl⟩
  have HL1 := hide' (HL.out (q + 1))
  replace c0 : (w.drewN q).cell? ⟨b, 0, none⟩ = some (.pointer (some ⟨l, 0, none⟩)) := c0
  replace k0 : (w.drewN q).cell? ⟨l, 0, none⟩ = some (.pointer (some ⟨y, 0, none⟩)) := k0
  replace k2 : (w.drewN q).cell? ⟨l, 2, none⟩ = some (.int .i64 (f : Nat)) := k2
  clear HC HL
  go_wp2_with fail
  go_region_held3 (fun w' => w'.cell? ⟨b, 0, none⟩ = some (.pointer (some ⟨l, 0, none⟩)) ∧ w'.cell? ⟨l, 0, none⟩ = some (.pointer (some ⟨y, 0, none⟩)) ∧ w'.cell? ⟨l, 2, none⟩ = some (.int .i64 (f : Nat))) (first | exact ⟨c0, k0, k2⟩ | exact ⟨hwt.c0, L.c0, L.c2⟩ | go_keep) ((first | (go_at_call 76; refine HT.out.mono ?_; rintro r w4 ⟨rfl, rfl⟩) | (go_at_call 19; refine (HL1.out).mono ?_; rintro r w3 ⟨rfl, b3, hwt, L⟩; have HT := hide' (goes_any V hwt.c2))))
  rename_i hHeld
  clear hHeld
  go_wp2
  go_ret
  exact ⟨rfl, b3⟩
end F
end Go.Proofs.Ytbbopkhgmgdlfaa
