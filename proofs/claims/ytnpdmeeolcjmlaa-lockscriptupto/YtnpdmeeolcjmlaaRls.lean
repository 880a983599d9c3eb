import Derived.Test.YtnpdmeeolcjmlaaRlk
set_option linter.unusedVariables false
set_option linter.unusedSimpArgs false
namespace Go.Proofs.Ytnpdmeeolcjmlaa
open Go.RowKit
namespace F
open M
variable {D : Nat → Prop} {B y m : Nat} {ws : List Int} {tr : List Ac} {bad : Nat} {w w' : World}
variable {l b nx sv : Nat} {t : Int} {has ho : Bool}
theorem RWt.f1 (h : RWt b l t has ho w) (v : Int) (t' : Int) (has' ho' : Bool) (hv : v = rst has' ho') (hn : rnm t has = rnm t' has') : RWt b l t' has' ho' (w.setCell ⟨b, 1, none⟩ (.int .i64 v)) := by
  have := set_block (off := 1) (v := .int .i64 v) h
  unfold RWt
  rw [← hv, ← hn]
  exact this
theorem rword_any (h : Rem D B y ws m tr bad w) (hm : m < 1999999999999) (hs : sv < ws.length) : Calls Try.prog 55 #[.pointer (some ⟨y, 0, none⟩), .int .i64 (sv : Nat)] w fun e w' => e = .returned (.int .i64 (ws.getD sv 0)) ∧ Below w.heap.size w w' := by
  obtain ⟨hb, few, lo, lc, lg, eo, ec, hM, hr, hl, hd⟩ := h
  have := word_any ((sv : Nat) : Int) hM hr.1 (by omega)
  rw [hr.2 sv hs] at this
  exact this
set_option maxRecDepth 100000 in
set_option maxHeartbeats 1000000 in
theorem rready_any (h : Rem D B y ws m tr bad w) (hk : RLk l y nx sv w) (hw : RWt b l t has ho w) (hm : m < 1999999999999) (hs : sv < ws.length) :
    Calls Try.prog 38 #[.pointer (some ⟨b, 0, none⟩)] w fun e w' => e = .returned (.bool (rdy ws sv t has ho)) ∧ Below w.heap.size w w' := by
  have c0 := hw.c0
  have c1 := hw.c1
  have c2 := hw.c2
  cases has with
  | false =>
    rw [show rdy ws sv t false ho = true by simp [rdy]]
    rw [show rst false ho = 0 from rfl] at c1
    clear h hk hw hs c0 c2
    go_enter Try.func38, Try.ntmps38
    go_wp2_with fail
    go_quiet (fail)
    go_wp2
    go_ret
    exact ⟨rfl, ⟨rfl, rfl, rfl, Nat.le_refl _, fun _ _ => rfl⟩⟩
  | true =>
    cases ho with
    | true =>
      rw [show rdy ws sv t true true = true by simp [rdy]]
      rw [show rst true true = 2 from rfl] at c1
      clear h hk hw hs c0 c2
      go_enter Try.func38, Try.ntmps38
      go_wp2_with fail
      go_quiet (fail)
      go_wp2
      go_ret
      exact ⟨rfl, ⟨rfl, rfl, rfl, Nat.le_refl _, fun _ _ => rfl⟩⟩
    | false =>
      rw [show rdy ws sv t true false = decide (ws.getD sv 0 = t) by simp [rdy]]
      rw [show rst true false = 1 from rfl] at c1
      rw [show rnm t true = t from rfl] at c2
      have k0 := hk.c0
      have k2 := hk.c2
      have HC : Hid (Calls Try.prog 55 #[.pointer (some ⟨y, 0, none⟩), .int .i64 (sv : Nat)] w.drew fun e w' => e = .returned (.int .i64 (ws.getD sv 0)) ∧ Below w.heap.size w w' ∧ RWt b l t true false w' ∧ RLk l y nx sv w') := hide' ((rword_any (Rem.drew h) hm hs).mono fun e w' ⟨he, hb⟩ => ⟨he, ⟨hb.os, hb.tape, hb.output, hb.size, hb.block⟩, (hb.block b (lt_of_heap hw)).trans hw, (hb.block l (lt_of_heap hk)).trans hk⟩)
      generalize ws.getD sv 0 = V at *
      clear h hk hw hs hm
      by_cases hV : V = t
      · subst hV
        rw [show decide (V = V) = true by simp]
        go_enter Try.func38, Try.ntmps38
        go_wp2_with fail
        go_region_held3 (fun w' => w'.cell? ⟨b, 0, none⟩ = some (.pointer (some ⟨l, 0, none⟩)) ∧ w'.cell? ⟨b, 1, none⟩ = some (.int .i64 1) ∧ w'.cell? ⟨b, 2, none⟩ = some (.int .i64 V) ∧ w'.cell? ⟨l, 0, none⟩ = some (.pointer (some ⟨y, 0, none⟩)) ∧ w'.cell? ⟨l, 2, none⟩ = some (.int .i64 (sv : Nat))) (first | exact ⟨c0, c1, c2, k0, k2⟩ | exact ⟨K.c0, K.c1, K.c2, L.c0, L.c2⟩) ((go_at_call 55; refine HC.out.mono ?_; rintro e w3 ⟨rfl, b3, K, L⟩))
        rename_i hHeld
        clear hHeld
        go_wp2
        go_ret
        exact ⟨rfl, b3⟩
      · have d2 : (V == t) = false := by simpa using hV
        rw [show decide (V = t) = false by simpa using hV]
        go_enter Try.func38, Try.ntmps38
        go_wp2_with fail
        go_region_held3 (fun w' => w'.cell? ⟨b, 0, none⟩ = some (.pointer (some ⟨l, 0, none⟩)) ∧ w'.cell? ⟨b, 1, none⟩ = some (.int .i64 1) ∧ w'.cell? ⟨b, 2, none⟩ = some (.int .i64 t) ∧ w'.cell? ⟨l, 0, none⟩ = some (.pointer (some ⟨y, 0, none⟩)) ∧ w'.cell? ⟨l, 2, none⟩ = some (.int .i64 (sv : Nat))) (first | exact ⟨c0, c1, c2, k0, k2⟩ | exact ⟨K.c0, K.c1, K.c2, L.c0, L.c2⟩) ((go_at_call 55; refine HC.out.mono ?_; rintro e w3 ⟨rfl, b3, K, L⟩))
        rename_i hHeld
        clear hHeld
        go_wp2
        go_ret
        exact ⟨rfl, b3⟩
set_option maxRecDepth 100000 in
set_option maxHeartbeats 1000000 in
theorem rstep_any (h : Rem D B y ws m tr bad w) (hk : RLk l y nx sv w) (hw : RWt b l t has ho w) (hho : has = false → ho = false) (hl : tr.length < 1999999999999) (hm : m < 1999999999999) :
    Calls Try.prog 37 #[.pointer (some ⟨b, 0, none⟩)] w fun e w' => e = .returned (.bool (wO ws sv t has ho)) ∧ RWTo D B y b l (wM ws nx has) (m + 1) (tr ++ wR ws nx sv has ho) (bad + wB ws nx sv has ho) (wT ws nx t has) (wH ws nx has) (wO ws sv t has ho) w w' := by
  have c0 := hw.c0
  have c1 := hw.c1
  have k0 := hk.c0
  have k1 := hk.c1
  have k2 := hk.c2
  cases has with
  | false =>
    have := hho rfl
    subst this
    rw [show wO ws sv t false false = false from rfl]
    rw [show rst false false = 0 from rfl] at c1
    unfold wM wR wB wT wH
    rw [if_pos rfl, if_pos rfl, if_pos rfl]
    have HC : Hid (Calls Try.prog 47 #[.pointer (some ⟨y, 0, none⟩), .int .i64 (nx : Nat), .int .i64 1] w.drew fun e w' => e = .returned (.tuple #[.int .i64 (std ws nx), .int .i64 (er ws nx)]) ∧ RWTo D B y b l (put ws nx (wrap64 (std ws nx + 1))) (m + 1) (tr ++ [⟨4, nx, 1, std ws nx, good ws nx⟩]) (bad + bd ws nx) t false false w w' ∧ RLk l y nx sv w') := hide' ((add_any (nx : Int) 1 (Rem.drew h) hl hm).mono fun e w' ⟨he, ht⟩ => ⟨he, RWTo.of_to h hw (RTo.drew ht), RTo.lk (RTo.drew ht) h hk⟩)
    unfold good at *
    generalize put ws nx (wrap64 (std ws nx + 1)) = ws1 at *
    generalize tr ++ [(⟨4, nx, 1, std ws nx, decide (er ws nx = 0)⟩ : Ac)] = tr1 at *
    generalize bad + bd ws nx = bad1 at *
    clear h hk hw hl hm hho k2
    by_cases hE : er ws nx = 0
    · rw [if_pos ⟨rfl, hE⟩]
      rw [show (false || decide (er ws nx = 0)) = true by simp [hE]]
      rw [hE] at HC
      generalize std ws nx = V at *
      clear hE
      go_enter Try.func37, Try.ntmps37
      go_wp2_with fail
      go_region_held3 (fun w' => w'.cell? ⟨b, 0, none⟩ = some (.pointer (some ⟨l, 0, none⟩)) ∧ w'.cell? ⟨l, 0, none⟩ = some (.pointer (some ⟨y, 0, none⟩)) ∧ w'.cell? ⟨l, 1, none⟩ = some (.int .i64 (nx : Nat))) (first | exact ⟨c0, k0, k1⟩ | exact ⟨hwt.c0, L.c0, L.c1⟩) ((go_at_call 47; refine HC.out.mono ?_; rintro e w3 ⟨rfl, K, L⟩; obtain ⟨D', hM, hwt, tu, s⟩ := id K))
      rename_i hHeld
      clear hHeld
      have d1 := hwt.c1
      have d2 := hwt.c2
      have f1 := hwt.f 1
      have f2 := hwt.f 2
      have hwt2 : RWt b l V true false ((w3.setCell ⟨b, 1, none⟩ (.int .i64 1)).setCell ⟨b, 2, none⟩ (.int .i64 V)) := by
        have q1 := set_block (off := 1) (v := .int .i64 1) hwt
        have q2 := set_block (off := 2) (v := .int .i64 V) q1
        exact q2
      have K2 := hide' (K.put ((turn_b b 1 (.int .i64 1) w3).trans (turn_b b 2 (.int .i64 V) _)) hwt2)
      clear K hM hwt tu s HC L hwt2
      go_wp2
      go_ret
      exact ⟨rfl, K2.out⟩
    · rw [if_neg (fun q => hE q.2)]
      have hE' : (er ws nx == 0) = false := by simpa using hE
      rw [show (false || decide (er ws nx = 0)) = false by simp [hE]]
      generalize std ws nx = V at *
      generalize er ws nx = E at *
      clear hE
      go_enter Try.func37, Try.ntmps37
      go_wp2_with fail
      go_region_held3 (fun w' => w'.cell? ⟨b, 0, none⟩ = some (.pointer (some ⟨l, 0, none⟩)) ∧ w'.cell? ⟨l, 0, none⟩ = some (.pointer (some ⟨y, 0, none⟩)) ∧ w'.cell? ⟨l, 1, none⟩ = some (.int .i64 (nx : Nat))) (first | exact ⟨c0, k0, k1⟩ | exact ⟨hwt.c0, L.c0, L.c1⟩) ((go_at_call 47; refine HC.out.mono ?_; rintro e w3 ⟨rfl, K, L⟩; obtain ⟨D', hM, hwt, tu, s⟩ := id K))
      rename_i hHeld
      clear hHeld
      have K2 := hide' K
      clear K hM hwt tu s HC L
      go_wp2
      go_ret
      exact ⟨rfl, K2.out⟩
  | true =>
    cases ho with
    | false =>
      rw [show rst true false = 1 from rfl] at c1
      rw [show wO ws sv t true false = srv ws sv t by simp [wO], show wT ws nx t true = t by simp [wT], show wH ws nx true = true by simp [wH], show wM ws nx true = ws by simp [wM], show wR ws nx sv true false = [⟨1, sv, std ws sv, 0, good ws sv⟩] by simp [wR], show wB ws nx sv true false = bd ws sv by simp [wB]]
      have HC : Hid (Calls Try.prog 54 #[.pointer (some ⟨y, 0, none⟩), .int .i64 (sv : Nat)] w.drew fun e w' => e = .returned (.tuple #[.int .i64 (std ws sv), .int .i64 (er ws sv)]) ∧ RWTo D B y b l ws (m + 1) (tr ++ [⟨1, sv, std ws sv, 0, good ws sv⟩]) (bad + bd ws sv) t true false w w' ∧ RLk l y nx sv w') := hide' ((load_any (sv : Int) (Rem.drew h) hl hm).mono fun e w' ⟨he, ht⟩ => ⟨he, RWTo.of_to h hw (RTo.drew ht), RTo.lk (RTo.drew ht) h hk⟩)
      unfold srv
      generalize tr ++ [(⟨1, sv, std ws sv, 0, good ws sv⟩ : Ac)] = tr1 at *
      generalize bad + bd ws sv = bad1 at *
      unfold good
      generalize std ws sv = V at *
      generalize er ws sv = E at *
      clear h hk hw hl hm hho k1
      by_cases hg : E = 0 ∧ V = t
      · obtain ⟨rfl, rfl⟩ := hg
        rw [show (decide ((0 : Int) = 0) && decide (V = V)) = true by simp]
        go_enter Try.func37, Try.ntmps37
        go_wp2_with fail
        go_region_held3 (fun w' => w'.cell? ⟨b, 0, none⟩ = some (.pointer (some ⟨l, 0, none⟩)) ∧ w'.cell? ⟨l, 0, none⟩ = some (.pointer (some ⟨y, 0, none⟩)) ∧ w'.cell? ⟨l, 2, none⟩ = some (.int .i64 (sv : Nat))) (first | exact ⟨c0, k0, k2⟩ | exact ⟨hwt.c0, L.c0, L.c2⟩) ((go_at_call 54; refine HC.out.mono ?_; rintro e w3 ⟨rfl, K, L⟩; obtain ⟨D', hM, hwt, tu, s⟩ := id K))
        rename_i hHeld
        clear hHeld
        have d1 := hwt.c1
        have d2 : w3.cell? ⟨b, 2, none⟩ = some (.int .i64 V) := hwt.c2
        have f1 := hwt.f 1
        have hwt2 : RWt b l V true true (w3.setCell ⟨b, 1, none⟩ (.int .i64 2)) := by have q1 := set_block (off := 1) (v := .int .i64 2) hwt; exact q1
        have K2 := hide' (K.put (turn_b b 1 (.int .i64 2) w3) hwt2)
        clear K hM hwt tu s HC L hwt2
        go_wp2
        go_ret
        exact ⟨rfl, K2.out⟩
      · rw [show (decide (E = 0) && decide (V = t)) = false by rw [Bool.and_eq_false_iff]; by_cases e : E = 0; exact .inr (by simpa using fun v => hg ⟨e, v⟩); exact .inl (by simpa using e)]
        by_cases hE : E = 0
        · subst hE
          have hV : (V == t) = false := by simpa using fun v => hg ⟨rfl, v⟩
          clear hg
          go_enter Try.func37, Try.ntmps37
          go_wp2_with fail
          go_region_held3 (fun w' => w'.cell? ⟨b, 0, none⟩ = some (.pointer (some ⟨l, 0, none⟩)) ∧ w'.cell? ⟨l, 0, none⟩ = some (.pointer (some ⟨y, 0, none⟩)) ∧ w'.cell? ⟨l, 2, none⟩ = some (.int .i64 (sv : Nat))) (first | exact ⟨c0, k0, k2⟩ | exact ⟨hwt.c0, L.c0, L.c2⟩) ((go_at_call 54; refine HC.out.mono ?_; rintro e w3 ⟨rfl, K, L⟩; obtain ⟨D', hM, hwt, tu, s⟩ := id K))
          rename_i hHeld
          clear hHeld
          have d1 : w3.cell? ⟨b, 1, none⟩ = some (.int .i64 1) := hwt.c1
          have d2 : w3.cell? ⟨b, 2, none⟩ = some (.int .i64 t) := hwt.c2
          have K2 := hide' K
          clear K hM hwt tu s HC L
          go_wp2
          go_ret
          exact ⟨rfl, K2.out⟩
        · have hE' : (E == 0) = false := by simpa using hE
          clear hg
          go_enter Try.func37, Try.ntmps37
          go_wp2_with fail
          go_region_held3 (fun w' => w'.cell? ⟨b, 0, none⟩ = some (.pointer (some ⟨l, 0, none⟩)) ∧ w'.cell? ⟨l, 0, none⟩ = some (.pointer (some ⟨y, 0, none⟩)) ∧ w'.cell? ⟨l, 2, none⟩ = some (.int .i64 (sv : Nat))) (first | exact ⟨c0, k0, k2⟩ | exact ⟨hwt.c0, L.c0, L.c2⟩) ((go_at_call 54; refine HC.out.mono ?_; rintro e w3 ⟨rfl, K, L⟩; obtain ⟨D', hM, hwt, tu, s⟩ := id K))
          rename_i hHeld
          clear hHeld
          have d1 : w3.cell? ⟨b, 1, none⟩ = some (.int .i64 1) := hwt.c1
          have K2 := hide' K
          clear K hM hwt tu s HC L hE
          go_wp2
          go_ret
          exact ⟨rfl, K2.out⟩
    | true =>
      rw [show rst true true = 2 from rfl] at c1
      have K : Hid (RWTo D B y b l (wM ws nx true) (m + 1) (tr ++ wR ws nx sv true true) (bad + wB ws nx sv true true) (wT ws nx t true) (wH ws nx true) (wO ws sv t true true) w w) := by
        apply hide'
        simpa [wM, wR, wB, wT, wH, wO] using (RWTo.same h hw).more (Nat.le_succ m)
      rw [show wO ws sv t true true = true by simp [wO]] at K ⊢
      clear h hk hw hl hm hho k0 k1 k2 c0
      go_enter Try.func37, Try.ntmps37
      go_wp2
      go_ret
      exact ⟨rfl, K.out⟩
end F
end Go.Proofs.Ytnpdmeeolcjmlaa
