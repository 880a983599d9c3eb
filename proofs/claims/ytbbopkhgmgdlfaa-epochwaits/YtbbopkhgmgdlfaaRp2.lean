import Derived.Test.YtbbopkhgmgdlfaaRp1
set_option linter.unusedVariables false
set_option linter.unusedSimpArgs false
namespace Go.Proofs.Ytbbopkhgmgdlfaa
open Go.RowKit
namespace F
open M
variable {D : Nat → Prop} {B y m : Nat} {ws : List Int} {tr : List Ac} {bad : Nat} {w w' : World}
variable {b l e f n s md go : Nat} {sn si : Int} {ad : Bool}
set_option maxRecDepth 100000 in
set_option maxHeartbeats 1000000 in
theorem rleave_no (z : Int) (h : RSl b y e f n w) (hz : isl n z = false) : Calls Try.prog 60 #[.pointer (some ⟨b, 0, none⟩), .int .i64 z] w fun r w' => r = .returned (.int .i64 181) ∧ w' = w := by
  have c3 := h.c3
  have hz' : ¬ (0 ≤ z ∧ z < (n : Int)) := of_decide_eq_false hz
  clear h hz
  by_cases h0 : z < 0
  · clear hz'
    go_enter Try.func60, Try.ntmps60
    go_wp2
    go_ret
    exact ⟨rfl, rfl⟩
  · have h1 : (n : Int) ≤ z := by omega
    clear hz'
    go_enter Try.func60, Try.ntmps60
    go_wp2
    go_ret
    exact ⟨rfl, rfl⟩
theorem wfs (f s a : Nat) (ha : a = f + s) (hs : a < 1000000) : IntKind.wrap .i64 ((f : Int) + (s : Int)) = (a : Int) := by rw [IntKind.wrap_i64]; subst ha; omega
set_option maxRecDepth 100000 in
set_option maxHeartbeats 1000000 in
theorem rleave_ok (s a : Nat) (ha : a = f + s) (hs : a < 1000000) (h : RSl b y e f n w) (hR : Rem D B y ws m tr bad w) (hl : tr.length < 1999999999999) (hm : m < 1999999999999) (hz : s < n) : Calls Try.prog 60 #[.pointer (some ⟨b, 0, none⟩), .int .i64 (s : Nat)] w fun r w' => r = .returned (.int .i64 (er ws a)) ∧ RTo D B y (put ws a 0) (m + 1) (tr ++ [⟨2, a, 0, std ws a, good ws a⟩]) (bad + bd ws a) w w' := by
  have c0 := h.c0
  have c2 := h.c2
  have c3 := h.c3
  have h0 : ¬ ((s : Int) < 0) := by omega
  have h1 : ¬ ((n : Int) ≤ (s : Int)) := by omega
  have hw := wfs f s a ha hs
  have HC : Hid (Calls Try.prog 37 #[.pointer (some ⟨y, 0, none⟩), .int .i64 (a : Nat), .int .i64 0] w.drew fun r w' => r = .returned (.int .i64 (er ws a)) ∧ RTo D B y (put ws a 0) (m + 1) (tr ++ [⟨2, a, 0, std ws a, good ws a⟩]) (bad + bd ws a) w w') := hide' ((F.store_any (a : Int) 0 (Rem.drew hR) hl hm).mono fun r w' ⟨he, ht⟩ => ⟨he, RTo.drew ht⟩)
  have Hk : Hid (∀ w', RTo D B y (put ws a 0) (m + 1) (tr ++ [⟨2, a, 0, std ws a, good ws a⟩]) (bad + bd ws a) w w' → RSl b y e f n w') := hide' (fun w' t => RTo.rsl t hR h)
  generalize put ws a 0 = ws1 at *
  generalize tr ++ [(⟨2, a, 0, std ws a, good ws a⟩ : Ac)] = tr1 at *
  generalize bad + bd ws a = bad1 at *
  generalize std ws a = V at *
  generalize er ws a = E at *
  clear h hR hl ha hs hz hm
  go_enter Try.func60, Try.ntmps60
  go_wp2_with fail
  go_region_held3 (fun w' => w'.cell? ⟨b, 0, none⟩ = some (.pointer (some ⟨y, 0, none⟩)) ∧ w'.cell? ⟨b, 2, none⟩ = some (.int .i64 (f : Nat))) (first | exact ⟨c0, c2⟩ | exact ⟨k0, k1⟩) ((go_at_call 37; refine HC.out.mono ?_; rintro r w3 ⟨rfl, t3⟩; have k0 := (Hk.out w3 t3).c0; have k1 := (Hk.out w3 t3).c2))
  rename_i hHeld
  clear hHeld
  go_wp2
  go_ret
  exact ⟨rfl, t3⟩
set_option maxRecDepth 100000 in
set_option maxHeartbeats 1000000 in
theorem rstep0_any (h : Rem D B y ws m tr bad w) (hk : RSl l y e f n w) (hw : RSc b l s 0 sn w) (hl : tr.length < 1999999999999) (hm : m < 1999999999999) :
    Calls Try.prog 62 #[.pointer (some ⟨b, 0, none⟩)] w fun r w' => r = .returned (.bool false) ∧ RBTo D B y b ws (m + 1) (tr ++ [⟨1, e, std ws e, 0, good ws e⟩]) (bad + bd ws e) (rscc l s 1 (std ws e)) 129 w w' := by
  have c0 := hw.c0
  have c2 := hw.c2
  have k0 := hk.c0
  have k1 := hk.c1
  have HC : Hid (Calls Try.prog 73 #[.pointer (some ⟨y, 0, none⟩), .int .i64 (e : Nat)] w.drew fun r w' => r = .returned (.tuple #[.int .i64 (std ws e), .int .i64 (er ws e)]) ∧ RBTo D B y b ws (m + 1) (tr ++ [⟨1, e, std ws e, 0, good ws e⟩]) (bad + bd ws e) (rscc l s 0 sn) 129 w w' ∧ RSl l y e f n w') := hide' ((F.load_any (e : Int) (Rem.drew h) hl hm).mono fun r w' ⟨he, ht⟩ => ⟨he, RBTo.of_to h hw krs (RTo.drew ht), RTo.rsl (RTo.drew ht) h hk⟩)
  generalize tr ++ [(⟨1, e, std ws e, 0, good ws e⟩ : Ac)] = tr1 at *
  generalize bad + bd ws e = bad1 at *
  generalize std ws e = V at *
  generalize er ws e = E at *
  clear h hk hw hl hm
  replace c2 : w.cell? ⟨b, 2, none⟩ = some (.int .i64 0) := c2
  go_enter Try.func62, Try.ntmps62
  go_wp2_with fail
  go_region_held3 (fun w' => w'.cell? ⟨b, 0, none⟩ = some (.pointer (some ⟨l, 0, none⟩)) ∧ w'.cell? ⟨l, 0, none⟩ = some (.pointer (some ⟨y, 0, none⟩)) ∧ w'.cell? ⟨l, 1, none⟩ = some (.int .i64 (e : Nat))) (first | exact ⟨c0, k0, k1⟩ | exact ⟨hwt.c0, L.c0, L.c1⟩) ((go_at_call 73; refine HC.out.mono ?_; rintro r w3 ⟨rfl, K, L⟩; obtain ⟨D', hM, hwt, tu, q⟩ := id K; replace hwt : RSc b l s 0 sn w3 := hwt))
  rename_i hHeld
  clear hHeld
  have d2 : w3.cell? ⟨b, 2, none⟩ = some (.int .i64 0) := hwt.c2
  have d3 := hwt.c3
  have f2 := hwt.fz 2
  have f3 := hwt.fz 3
  have hw2 : RSc b l s 1 V ((w3.setCell ⟨b, 3, none⟩ (.int .i64 V)).setCell ⟨b, 2, none⟩ (.int .i64 1)) := (hwt.s3 V).s2 1
  have K2 := hide' (RBTo.put (cs := rscc l s 0 sn) ⟨D', hM, hwt, tu, q⟩ krs ((turn_b b 3 (.int .i64 V) w3).trans (turn_b b 2 (.int .i64 1) _)) hw2)
  clear hM hwt tu q HC L hw2 c0 c2 k0 k1
  go_wp2
  go_ret
  exact ⟨rfl, K2.out⟩
set_option maxRecDepth 100000 in
set_option maxHeartbeats 1000000 in
theorem rstep1_any (a : Nat) (ha : a = f + s) (hs : a < 1000000) (h : Rem D B y ws m tr bad w) (hk : RSl l y e f n w) (hw : RSc b l s 1 sn w) (hl : tr.length < 1999999999999) (hm : m < 1999999999999) :
    Calls Try.prog 62 #[.pointer (some ⟨b, 0, none⟩)] w fun r w' => r = .returned (.bool true) ∧ RBTo D B y b (put ws a sn) (m + 1) (tr ++ [⟨2, a, sn, std ws a, good ws a⟩]) (bad + bd ws a) (rscc l s 2 sn) 129 w w' := by
  have c0 := hw.c0
  have c1 := hw.c1
  have c2 := hw.c2
  have c3 := hw.c3
  have k0 := hk.c0
  have k2 := hk.c2
  have hwf := wfs f s a ha hs
  have HC : Hid (Calls Try.prog 37 #[.pointer (some ⟨y, 0, none⟩), .int .i64 (a : Nat), .int .i64 sn] w.drew fun r w' => r = .returned (.int .i64 (er ws a)) ∧ RBTo D B y b (put ws a sn) (m + 1) (tr ++ [⟨2, a, sn, std ws a, good ws a⟩]) (bad + bd ws a) (rscc l s 1 sn) 129 w w' ∧ RSl l y e f n w') := hide' ((F.store_any (a : Int) sn (Rem.drew h) hl hm).mono fun r w' ⟨he, ht⟩ => ⟨he, RBTo.of_to h hw krs (RTo.drew ht), RTo.rsl (RTo.drew ht) h hk⟩)
  generalize put ws a sn = ws1 at *
  generalize tr ++ [(⟨2, a, sn, std ws a, good ws a⟩ : Ac)] = tr1 at *
  generalize bad + bd ws a = bad1 at *
  generalize er ws a = E at *
  clear h hk hw hl hm ha hs
  replace c2 : w.cell? ⟨b, 2, none⟩ = some (.int .i64 1) := c2
  go_enter Try.func62, Try.ntmps62
  go_wp2_with fail
  go_region_held3 (fun w' => w'.cell? ⟨b, 0, none⟩ = some (.pointer (some ⟨l, 0, none⟩)) ∧ w'.cell? ⟨l, 0, none⟩ = some (.pointer (some ⟨y, 0, none⟩)) ∧ w'.cell? ⟨l, 2, none⟩ = some (.int .i64 (f : Nat)) ∧ w'.cell? ⟨b, 1, none⟩ = some (.int .i64 (s : Nat)) ∧ w'.cell? ⟨b, 3, none⟩ = some (.int .i64 sn)) (first | exact ⟨c0, k0, k2, c1, c3⟩ | exact ⟨hwt.c0, L.c0, L.c2, hwt.c1, hwt.c3⟩) ((go_at_call 37; refine HC.out.mono ?_; rintro r w3 ⟨rfl, K, L⟩; obtain ⟨D', hM, hwt, tu, q⟩ := id K; replace hwt : RSc b l s 1 sn w3 := hwt))
  rename_i hHeld
  clear hHeld
  have d2 : w3.cell? ⟨b, 2, none⟩ = some (.int .i64 1) := hwt.c2
  have f2 := hwt.fz 2
  have hw2 : RSc b l s 2 sn (w3.setCell ⟨b, 2, none⟩ (.int .i64 2)) := hwt.s2 2
  have K2 := hide' (RBTo.put (cs := rscc l s 1 sn) ⟨D', hM, hwt, tu, q⟩ krs (turn_b b 2 (.int .i64 2) w3) hw2)
  clear hM hwt tu q HC L hw2 c0 c1 c2 c3 k0 k2 hwf
  go_wp2
  go_ret
  exact ⟨rfl, K2.out⟩
theorem wsucM (k k1 : Nat) (h : k1 = k + 1) (hb : k < 1999999999999) : wrap64 ((k : Int) + 1) = (k1 : Int) := by subst h; unfold wrap64; omega
set_option maxRecDepth 100000 in
set_option maxHeartbeats 1000000 in
theorem rstepN_any (h : Rem D B y ws m tr bad w) (hw : RSc b l s md sn w) (hd : 2 ≤ md) (hb : md < 1999999999999) :
    Calls Try.prog 62 #[.pointer (some ⟨b, 0, none⟩)] w fun r w' => r = .returned (.bool true) ∧ RBTo D B y b ws m tr bad (rscc l s (md + 1) sn) 129 w w' := by
  have c2 := hw.c2
  have f2 := hw.fz 2
  obtain ⟨m1, hm1⟩ : ∃ m1, m1 = md + 1 := ⟨_, rfl⟩
  have hws := wsucM md m1 hm1 hb
  have d0 : ((md : Int) == 0) = false := by rw [beq_eq_false_iff_ne]; clear hws; omega
  have d1 : ((md : Int) == 1) = false := by rw [beq_eq_false_iff_ne]; clear hws; omega
  have d2 : (2 : Int) ≤ (m1 : Int) := by clear hws; omega
  rw [← hm1]
  have K2 := hide' (RBTo.put (cs := rscc l s md sn) (RBTo.same h hw) krs (turn_b b 2 (.int .i64 (m1 : Nat)) w) (hw.s2 m1))
  clear h hw hd hb hm1
  go_enter Try.func62, Try.ntmps62
  go_wp2
  go_ret
  exact ⟨rfl, K2.out⟩
end F
end Go.Proofs.Ytbbopkhgmgdlfaa
