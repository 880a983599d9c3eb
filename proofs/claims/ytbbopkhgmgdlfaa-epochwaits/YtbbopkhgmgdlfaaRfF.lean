import Derived.Test.YtbbopkhgmgdlfaaRfA
set_option linter.unusedVariables false
set_option linter.unusedSimpArgs false
namespace Go.Proofs.Ytbbopkhgmgdlfaa
open Go.RowKit
namespace F
open M
variable {D : Nat → Prop} {B x n m : Nat} {ws : List Int} {tr : List Ac} {bad : Nat} {w w' : World}
set_option maxRecDepth 100000 in
set_option maxHeartbeats 1000000 in
theorem load_any (a : Int) (h : Rem D B x ws m tr bad w) (hl : tr.length < 1999999999999) (hm' : m < 1999999999999) :
    Calls Try.prog 73 #[.pointer (some ⟨x, 0, none⟩), .int .i64 a] w fun e w' => e = .returned (.tuple #[.int .i64 (std ws a), .int .i64 (er ws a)]) ∧ RTo D B x ws (m + 1) (tr ++ [⟨1, a, std ws a, 0, good ws a⟩]) (bad + bd ws a) w w' := by
  obtain ⟨hb, few, lo, lc, lg, eo, ec, hm, hr, hl, hd⟩ := h
  have He := hide' (access_any a hm hr (by omega) (by omega))
  have Hn := hide' (fun w1 lo lc lg (h1 : Re B x ws.length lo lc lg eo ec tr (bad + bd ws a) w1) => note_any ⟨1, a, std ws a, 0, good ws a⟩ h1 (by omega))
  have Hw := hide' (fun w1 v (h1 : Re B x ws.length lo lc lg eo ec tr (bad + bd ws a) w1) => write_any a v h1 (by omega))
  have Hd := hide' hd
  have Hr := hide' hr
  have Hfew := hide' few
  have Hl := hide' hl
  have Hb := hide' (show bad + bd ws a ≤ tr.length + 1 by have := bd_le ws a; omega)
  clear hd hb hl hm hr few
  unfold good at *
  generalize er ws a = E at *
  generalize std ws a = V at *
  go_enter Try.func73, Try.ntmps73
  go_wp2_with fail
  refine He.out.mono ?_
  rintro e w1 ⟨rfl, h1, t1⟩
  clear He
  go_wp2_with fail
  refine (Hn.out _ _ _ _ h1).mono ?_
  rintro e w2 ⟨rfl, gg, cap', h2, t2, hg⟩
  have K : Hid (RTo D B x ws (m + 1) (tr ++ [⟨1, a, V, 0, decide (E = 0)⟩]) (bad + bd ws a) w w2) := ⟨_, ⟨by simpa using Hb.out, Hfew.out, _, _, _, _, _, h2, Hr.out, by have := Hl.out; omega, fun j => Iff.rfl⟩, of_own Hd.out (t1.trans t2), own_sub Hd.out (fun j q => .inl q) (at_one hg t1.size)⟩
  clear h1 h2 t1 t2 hg Hn Hw
  go_wp2
  go_ret2
  exact ⟨rfl, K.out⟩
set_option maxRecDepth 100000 in
set_option maxHeartbeats 1000000 in
theorem store_any (a v : Int) (h : Rem D B x ws m tr bad w) (hl : tr.length < 1999999999999) (hm' : m < 1999999999999) :
    Calls Try.prog 37 #[.pointer (some ⟨x, 0, none⟩), .int .i64 a, .int .i64 v] w fun e w' => e = .returned (.int .i64 (er ws a)) ∧ RTo D B x (put ws a v) (m + 1) (tr ++ [⟨2, a, v, std ws a, good ws a⟩]) (bad + bd ws a) w w' := by
  obtain ⟨hb, few, lo, lc, lg, eo, ec, hm, hr, hl, hd⟩ := h
  have He := hide' (access_any a hm hr (by omega) (by omega))
  have Hn := hide' (fun w1 lo lc lg (h1 : Re B x ws.length lo lc lg eo ec tr (bad + bd ws a) w1) => note_any ⟨2, a, v, std ws a, good ws a⟩ h1 (by omega))
  have Hw := hide' (fun w1 v (h1 : Re B x ws.length lo lc lg eo ec tr (bad + bd ws a) w1) => write_any a v h1 (by omega))
  have Hd := hide' hd
  have Hr := hide' hr
  have Hfew := hide' few
  have Hl := hide' hl
  have Hb := hide' (show bad + bd ws a ≤ tr.length + 1 by have := bd_le ws a; omega)
  clear hd hb hl hm hr few
  by_cases hE : er ws a = 0
  · obtain ⟨k, rfl, hk, _⟩ := er_zero hE
    rw [put_ok hE]
    rw [show good ws k = true from decide_eq_true hE] at Hn ⊢
    rw [hE] at He ⊢
    clear hE
    generalize std ws k = V at *
    go_enter Try.func37, Try.ntmps37
    go_wp2_with fail
    refine He.out.mono ?_
    rintro e w1 ⟨rfl, h1, t1⟩
    clear He
    go_wp2_with fail
    refine (Hw.out _ v h1).mono ?_
    rintro e w2 ⟨rfl, g2, cap2, h2, t2, hg2⟩
    have h2' : Re B x ws.length (some ⟨g2, 0, none⟩) cap2 (lg ++ [⟨(k : Int), 1, v⟩]) eo ec tr (bad + bd ws (k : Int)) w2 := h2
    have t2' := (of_own Hd.out t1).then t2 (fun i hi q => (Hd.out i).2 q)
    clear Hw h2
    go_wp2_with fail
    refine (Hn.out _ _ _ _ h2').mono ?_
    rintro e w3 ⟨rfl, gg, cap', h3, t3, hg⟩
    have hsub := own_sub (W := w) Hd.out (at_one hg2 t1.size) (fun j (q : At eo j) => .inl q)
    have hsub2 : ∀ j, Own x (some ⟨g2, 0, none⟩) (some ⟨gg, 0, none⟩) j → D j ∨ w.heap.size ≤ j := own_sub (W := w) Hd.out (at_one hg2 t1.size) (at_one hg t2'.size)
    have t3' := t2'.then t3 (fun i hi q => by rcases hsub i q with q | q; exact q; omega)
    have K : Hid (RTo D B x (ws.set k v) (m + 1) (tr ++ [⟨2, (k : Int), v, V, true⟩]) (bad + bd ws (k : Int)) w w3) := ⟨_, ⟨by simpa using Hb.out, by simpa using Hfew.out, _, _, _, _, _, (by rw [List.length_set]; exact h3), Hr.out.put k _ hk Hfew.out, by rw [List.length_append]; have := Hl.out; simp; omega, fun j => Iff.rfl⟩, t3', hsub2⟩
    clear h1 h2' t1 t2 t2' t3 t3' hg hg2 h3 Hn hsub hsub2
    go_wp2
    go_ret
    exact ⟨rfl, K.out⟩
  · rw [put_no hE]
    rw [show good ws a = false from decide_eq_false hE] at Hn ⊢
    have hE' : (er ws a == 0) = false := by simpa using hE
    clear hE
    generalize std ws a = V at *
    generalize er ws a = E at *
    go_enter Try.func37, Try.ntmps37
    go_wp2_with fail
    refine He.out.mono ?_
    rintro e w1 ⟨rfl, h1, t1⟩
    clear He
    go_wp2_with fail
    refine (Hn.out _ _ _ _ h1).mono ?_
    rintro e w2 ⟨rfl, gg, cap', h2, t2, hg⟩
    have K : Hid (RTo D B x ws (m + 1) (tr ++ [⟨2, a, v, V, false⟩]) (bad + bd ws a) w w2) := ⟨_, ⟨by simpa using Hb.out, Hfew.out, _, _, _, _, _, h2, Hr.out, by have := Hl.out; omega, fun j => Iff.rfl⟩, of_own Hd.out (t1.trans t2), own_sub Hd.out (fun j q => .inl q) (at_one hg t1.size)⟩
    clear h1 h2 t1 t2 hg Hn Hw
    go_wp2
    go_ret
    exact ⟨rfl, K.out⟩
set_option maxRecDepth 100000 in
set_option maxHeartbeats 1000000 in
theorem add_any (a v : Int) (h : Rem D B x ws m tr bad w) (hl : tr.length < 1999999999999) (hm' : m < 1999999999999) :
    Calls Try.prog 75 #[.pointer (some ⟨x, 0, none⟩), .int .i64 a, .int .i64 v] w fun e w' => e = .returned (.tuple #[.int .i64 (std ws a), .int .i64 (er ws a)]) ∧ RTo D B x (put ws a (wrap64 (std ws a + v))) (m + 1) (tr ++ [⟨4, a, v, std ws a, good ws a⟩]) (bad + bd ws a) w w' := by
  obtain ⟨hb, few, lo, lc, lg, eo, ec, hm, hr, hl, hd⟩ := h
  have He := hide' (access_any a hm hr (by omega) (by omega))
  have Hn := hide' (fun w1 lo lc lg (h1 : Re B x ws.length lo lc lg eo ec tr (bad + bd ws a) w1) => note_any ⟨4, a, v, std ws a, good ws a⟩ h1 (by omega))
  have Hw := hide' (fun w1 v (h1 : Re B x ws.length lo lc lg eo ec tr (bad + bd ws a) w1) => write_any a v h1 (by omega))
  have Hd := hide' hd
  have Hr := hide' hr
  have Hfew := hide' few
  have Hl := hide' hl
  have Hb := hide' (show bad + bd ws a ≤ tr.length + 1 by have := bd_le ws a; omega)
  clear hd hb hl hm hr few
  by_cases hE : er ws a = 0
  · obtain ⟨k, rfl, hk, _⟩ := er_zero hE
    rw [put_ok hE]
    rw [show good ws k = true from decide_eq_true hE] at Hn ⊢
    rw [hE] at He ⊢
    clear hE
    generalize std ws k = V at *
    go_enter Try.func75, Try.ntmps75
    go_wp2_with fail
    refine He.out.mono ?_
    rintro e w1 ⟨rfl, h1, t1⟩
    clear He
    go_wp2_with fail
    refine (Hw.out _ (wrap64 (V + v)) h1).mono ?_
    rintro e w2 ⟨rfl, g2, cap2, h2, t2, hg2⟩
    have h2' : Re B x ws.length (some ⟨g2, 0, none⟩) cap2 (lg ++ [⟨(k : Int), 1, (wrap64 (V + v))⟩]) eo ec tr (bad + bd ws (k : Int)) w2 := h2
    have t2' := (of_own Hd.out t1).then t2 (fun i hi q => (Hd.out i).2 q)
    clear Hw h2
    go_wp2_with fail
    refine (Hn.out _ _ _ _ h2').mono ?_
    rintro e w3 ⟨rfl, gg, cap', h3, t3, hg⟩
    have hsub := own_sub (W := w) Hd.out (at_one hg2 t1.size) (fun j (q : At eo j) => .inl q)
    have hsub2 : ∀ j, Own x (some ⟨g2, 0, none⟩) (some ⟨gg, 0, none⟩) j → D j ∨ w.heap.size ≤ j := own_sub (W := w) Hd.out (at_one hg2 t1.size) (at_one hg t2'.size)
    have t3' := t2'.then t3 (fun i hi q => by rcases hsub i q with q | q; exact q; omega)
    have K : Hid (RTo D B x (ws.set k (wrap64 (V + v))) (m + 1) (tr ++ [⟨4, (k : Int), v, V, true⟩]) (bad + bd ws (k : Int)) w w3) := ⟨_, ⟨by simpa using Hb.out, by simpa using Hfew.out, _, _, _, _, _, (by rw [List.length_set]; exact h3), Hr.out.put k _ hk Hfew.out, by rw [List.length_append]; have := Hl.out; simp; omega, fun j => Iff.rfl⟩, t3', hsub2⟩
    clear h1 h2' t1 t2 t2' t3 t3' hg hg2 h3 Hn hsub hsub2
    go_wp2
    go_ret2
    exact ⟨rfl, K.out⟩
  · rw [put_no hE]
    rw [show good ws a = false from decide_eq_false hE] at Hn ⊢
    have hE' : (er ws a == 0) = false := by simpa using hE
    clear hE
    generalize std ws a = V at *
    generalize er ws a = E at *
    go_enter Try.func75, Try.ntmps75
    go_wp2_with fail
    refine He.out.mono ?_
    rintro e w1 ⟨rfl, h1, t1⟩
    clear He
    go_wp2_with fail
    refine (Hn.out _ _ _ _ h1).mono ?_
    rintro e w2 ⟨rfl, gg, cap', h2, t2, hg⟩
    have K : Hid (RTo D B x ws (m + 1) (tr ++ [⟨4, a, v, V, false⟩]) (bad + bd ws a) w w2) := ⟨_, ⟨by simpa using Hb.out, Hfew.out, _, _, _, _, _, h2, Hr.out, by have := Hl.out; omega, fun j => Iff.rfl⟩, of_own Hd.out (t1.trans t2), own_sub Hd.out (fun j q => .inl q) (at_one hg t1.size)⟩
    clear h1 h2 t1 t2 hg Hn Hw
    go_wp2
    go_ret2
    exact ⟨rfl, K.out⟩
end F
end Go.Proofs.Ytbbopkhgmgdlfaa
