import Derived.Test.YtbbopkhgmgdlfaaRfN
set_option linter.unusedVariables false
set_option linter.unusedSimpArgs false
namespace Go.Proofs.Ytbbopkhgmgdlfaa
open Go.RowKit
namespace F
open M
variable {D : Nat → Prop} {B x n m : Nat} {lo eo : Option Addr} {lc ec : Nat} {lg : List Wr} {ws : List Int} {tr : List Ac} {bad : Nat} {w w' : World}
/-- the log says the words -/
def Rep (lg : List Wr) (ws : List Int) : Prop := (∀ e ∈ lg, e.ok) ∧ ∀ k : Nat, k < ws.length → wv lg (k : Int) = ws.getD k 0
theorem Rep.fill {lg : List Wr} {ws : List Int} (h : Rep lg ws) (a m : Nat) (c : Int) (hin : a + m ≤ ws.length) (few : ws.length ≤ 65536) : Rep (lg ++ [⟨(a : Int), (m : Int), c⟩]) (fil ws a c m) := by
  refine ⟨fun e he => ?_, fun k hk => ?_⟩
  · rcases List.mem_append.1 he with q | q
    · exact h.1 e q
    · simp at q; subst q; exact ⟨by simp, by simp, by simp only; omega⟩
  · rw [fil_len] at hk
    rw [wv_snoc, fil_at ws a c m k hin, h.2 k hk]
    by_cases q : a ≤ k ∧ k < a + m
    · rw [if_pos q, if_pos (by simp [Wr.cov]; omega)]
    · rw [if_neg q, if_neg (by simp [Wr.cov]; omega)]
theorem Rep.put {lg : List Wr} {ws : List Int} (h : Rep lg ws) (a : Nat) (v : Int) (hin : a < ws.length) (few : ws.length ≤ 65536) : Rep (lg ++ [⟨(a : Int), 1, v⟩]) (ws.set a v) := by
  have := h.fill a 1 v (by omega) few
  simpa [fil] using this
set_option maxRecDepth 100000 in
set_option maxHeartbeats 1000000 in
theorem access_any (a : Int) (h : Re B x ws.length lo lc lg eo ec tr bad w) (hr : Rep lg ws) (hl : lg.length < 2000000000000) (hb : bad < 2000000000000) :
    Calls Try.prog 67 #[.pointer (some ⟨x, 0, none⟩), .int .i64 a] w fun e w' => e = .returned (.tuple #[.int .i64 (std ws a), .int .i64 (er ws a)]) ∧ Re B x ws.length lo lc lg eo ec tr (bad + bd ws a) w' ∧ Turn (Own x lo eo) w w' := by
  have c0 := h.c0
  have c3 := h.c3
  have f3 := h.fx 3
  have Hb := hide' (h.badly (bad + 1))
  have Hw : Hid (wrap64 ((bad : Int) + 1) = ((bad + 1 : Nat) : Int)) := bad_wrap hb
  have H := hide' h
  have HW := hide' (fun a => word_any a h hr.1 hl)
  have HR := hide' hr
  clear hb h hr hl
  by_cases hin : 0 ≤ a ∧ a < (ws.length : Int)
  · obtain ⟨h0, h1⟩ := hin
    obtain ⟨k, rfl⟩ : ∃ k : Nat, a = (k : Int) := ⟨a.toNat, by omega⟩
    have hk : k < ws.length := by omega
    have HWk := hide' (HW.out (k : Int))
    rw [HR.out.2 k hk] at HWk
    by_cases hp : ws.getD k 0 = P
    · obtain ⟨e1, e2⟩ := er_poi hk hp
      rw [bd_no (by rw [e1]; decide), e1, e2]
      rw [hp] at HWk
      unfold P at HWk ⊢
      clear e1 e2 hp HW HR Hb c3 f3
      go_enter Try.func67, Try.ntmps67
      go_wp2_with fail
      refine HWk.out.mono ?_
      rintro e w1 ⟨rfl, b1⟩
      have h1 := H.out.kept (turn_below (S := fun _ => False) b1) (fun _ _ q => q)
      have Hb := hide' (h1.badly (bad + 1))
      have c3 := h1.c3
      have f3 := h1.fx 3
      have Hb1 := hide' b1
      clear h1 b1 HWk
      go_wp2
      go_ret2
      rw [Hw.out]
      exact ⟨rfl, Hb.out.1, (turn_below Hb1.out).trans Hb.out.2⟩
    · obtain ⟨e1, e2⟩ := er_ok hk hp
      rw [bd_ok e1, e1, e2]
      have hpd : (ws.getD k 0 == -4611686018427387904) = false := ne_lit hp
      clear e1 e2 hp Hb Hw HW HR
      generalize ws.getD k 0 = u at *
      go_enter Try.func67, Try.ntmps67
      go_wp2_with fail
      refine HWk.out.mono ?_
      rintro e w1 ⟨rfl, b1⟩
      have Hb1 := hide' b1
      clear b1 HWk
      go_wp2
      go_ret2
      exact ⟨rfl, H.out.kept (turn_below (S := fun _ => False) Hb1.out) (fun _ _ q => q), turn_below Hb1.out⟩
  · obtain ⟨e1, e2⟩ := er_out (ws := ws) (a := a) hin
    rw [bd_no (by rw [e1]; decide), e1, e2]
    by_cases h0 : a < 0
    · clear e1 e2 hin HW HR
      go_enter Try.func67, Try.ntmps67
      go_wp2
      go_ret2
      rw [Hw.out]
      exact ⟨rfl, Hb.out.1, Hb.out.2⟩
    · have h1 : (ws.length : Int) ≤ a := by omega
      clear e1 e2 hin HW HR
      go_enter Try.func67, Try.ntmps67
      go_wp2
      go_ret2
      rw [Hw.out]
      exact ⟨rfl, Hb.out.1, Hb.out.2⟩
/-- the document's memory, of these words, and the blocks that are its own -/
def Rem (D : Nat → Prop) (B x : Nat) (ws : List Int) (m : Nat) (tr : List Ac) (bad : Nat) (w : World) : Prop :=
  bad ≤ tr.length ∧ ws.length ≤ 65536 ∧ ∃ lo lc lg eo ec, Re B x ws.length lo lc lg eo ec tr bad w ∧ Rep lg ws ∧ lg.length ≤ m ∧ ∀ j, D j ↔ Own x lo eo j
def RTo (D : Nat → Prop) (B x : Nat) (ws : List Int) (m : Nat) (tr : List Ac) (bad : Nat) (w w' : World) : Prop := ∃ D', Rem D' B x ws m tr bad w' ∧ Turn D w w' ∧ ∀ j, D' j → D j ∨ w.heap.size ≤ j
theorem Rem.low (h : Rem D B x ws m tr bad w) {j : Nat} (hj : D j) : B ≤ j ∧ j < w.heap.size := by
  obtain ⟨_, _, lo, lc, lg, eo, ec, hm, _, _, hd⟩ := h
  exact hm.own ((hd j).1 hj)
theorem Rem.base (h : Rem D B x ws m tr bad w) : B ≤ w.heap.size := by
  obtain ⟨_, _, lo, lc, lg, eo, ec, hm, _, _, hd⟩ := h
  have := hm.lx
  have := hm.ltx
  omega
theorem Rem.kept {S : Nat → Prop} (h : Rem D B x ws m tr bad w) (t : Turn S w w') (hn : ∀ j, D j → ¬ S j) : Rem D B x ws m tr bad w' := by
  obtain ⟨hb, few, lo, lc, lg, eo, ec, hm, hr, hl, hd⟩ := h
  exact ⟨hb, few, lo, lc, lg, eo, ec, hm.kept t (fun j hj => hn j ((hd j).2 hj)), hr, hl, hd⟩
theorem Rem.below (h : Rem D B x ws m tr bad w) (t : Below w.heap.size w w') : Rem D B x ws m tr bad w' := h.kept (turn_below (S := fun _ => False) t) (fun _ _ q => q)
theorem Rem.more {m' : Nat} (h : Rem D B x ws m tr bad w) (hm : m ≤ m') : Rem D B x ws m' tr bad w := by
  obtain ⟨hb, few, lo, lc, lg, eo, ec, h1, hr, hl, hd⟩ := h
  exact ⟨hb, few, lo, lc, lg, eo, ec, h1, hr, Nat.le_trans hl hm, hd⟩
theorem of_own {lo eo : Option Addr} (hd : ∀ j, D j ↔ Own x lo eo j) (t : Turn (Own x lo eo) w w') : Turn D w w' := t.mono (fun j _ q => (hd j).2 q)
theorem own_sub {lo lo' eo eo' : Option Addr} {W : World} (hd : ∀ j, D j ↔ Own x lo eo j) (h1 : ∀ j, At lo' j → At lo j ∨ W.heap.size ≤ j) (h2 : ∀ j, At eo' j → At eo j ∨ W.heap.size ≤ j) : ∀ j, Own x lo' eo' j → D j ∨ W.heap.size ≤ j := by
  rintro j (rfl | q | q)
  · exact .inl ((hd _).2 (.inl rfl))
  · rcases h1 j q with q | q
    · exact .inl ((hd _).2 (.inr (.inl q)))
    · exact .inr q
  · rcases h2 j q with q | q
    · exact .inl ((hd _).2 (.inr (.inr q)))
    · exact .inr q
theorem at_one {gg : Nat} {ao : Option Addr} {W W' : World} (h : At ao gg ∨ W'.heap.size ≤ gg) (hs : W.heap.size ≤ W'.heap.size) : ∀ j, At (some ⟨gg, 0, none⟩) j → At ao j ∨ W.heap.size ≤ j := by
  rintro j ⟨a, ha, rfl⟩
  cases ha
  rcases h with q | q
  · exact .inl q
  · exact .inr (Nat.le_trans hs q)
end F
end Go.Proofs.Ytbbopkhgmgdlfaa
