import Derived.Test.YtfeehnfpfheojaaAcc
import Derived.Test.YtfeehnfpfheojaaNote
set_option linter.unusedVariables false
set_option linter.unusedSimpArgs false
namespace Go.Proofs.Ytfeehnfpfheojaa
open Go.RowKit
namespace M
variable {D : Nat → Prop} {B x : Nat} {ws : List Int} {tr : List Ac} {bad : Nat} {w w' : World}
/-- a memory, and the blocks that are its own -/
def Mem (D : Nat → Prop) (B x : Nat) (ws : List Int) (tr : List Ac) (bad : Nat) (w : World) : Prop := bad ≤ tr.length ∧ ∃ g ao cap, Me B x g ws ao cap tr bad w ∧ ∀ j, D j ↔ Own x g ao j
/-- what a call on a memory leaves -/
def To (D : Nat → Prop) (B x : Nat) (ws : List Int) (tr : List Ac) (bad : Nat) (w w' : World) : Prop := ∃ D', Mem D' B x ws tr bad w' ∧ Turn D w w' ∧ ∀ j, D' j → D j ∨ w.heap.size ≤ j
theorem Mem.lo (h : Mem D B x ws tr bad w) {j : Nat} (hj : D j) : B ≤ j ∧ j < w.heap.size := by
  obtain ⟨_, g, ao, cap, hm, hd⟩ := h
  exact hm.own ((hd j).1 hj)
theorem Mem.base (h : Mem D B x ws tr bad w) : B ≤ w.heap.size := by
  obtain ⟨_, g, ao, cap, hm, hd⟩ := h
  have := hm.lx
  have := hm.ltx
  omega
theorem Mem.kept {S : Nat → Prop} (h : Mem D B x ws tr bad w) (t : Turn S w w') (hn : ∀ j, D j → ¬ S j) : Mem D B x ws tr bad w' := by
  obtain ⟨hb, g, ao, cap, hm, hd⟩ := h
  exact ⟨hb, g, ao, cap, hm.kept t (fun j hj => hn j ((hd j).2 hj)), hd⟩
theorem Mem.below (h : Mem D B x ws tr bad w) (t : Below w.heap.size w w') : Mem D B x ws tr bad w' := h.kept (turn_below (S := fun _ => False) t) (fun _ _ q => q)
theorem Mem.few (h : Mem D B x ws tr bad w) : 0 < ws.length ∧ ws.length ≤ 65536 := by
  obtain ⟨_, g, ao, cap, hm, hd⟩ := h
  exact ⟨hm.pos, hm.few⟩
theorem Turn.of_own {D : Nat → Prop} {x g : Nat} {ao : Option Addr} (hd : ∀ j, D j ↔ Own x g ao j) (t : Turn (Own x g ao) w w') : Turn D w w' := t.mono (fun j _ q => (hd j).2 q)
/-- a note at last -/
theorem to_note {g gg : Nat} {ao : Option Addr} {cap' bad' : Nat} {ws' : List Int} {z : Ac} {w1 w2 : World} (hd : ∀ j, D j ↔ Own x g ao j) (hb : bad' ≤ tr.length + 1) (h : Me B x g ws' (some ⟨gg, 0, none⟩) cap' (tr ++ [z]) bad' w2) (t1 : Turn (Own x g ao) w w1) (t2 : Turn (Own x g ao) w1 w2) (hg : At ao gg ∨ w1.heap.size ≤ gg) : To D B x ws' (tr ++ [z]) bad' w w2 := by
  refine ⟨Own x g (some ⟨gg, 0, none⟩), ⟨by simpa using hb, g, _, _, h, fun j => Iff.rfl⟩, Turn.of_own hd (t1.trans t2), ?_⟩
  rintro j (rfl | rfl | ⟨a, ha, rfl⟩)
  · exact .inl ((hd _).2 (.inl rfl))
  · exact .inl ((hd _).2 (.inr (.inl rfl)))
  · cases ha
    rcases hg with q | q
    · exact .inl ((hd _).2 (.inr (.inr q)))
    · exact .inr (Nat.le_trans t1.size q)
theorem er_zero {ws : List Int} {a : Int} (h : er ws a = 0) : ∃ k : Nat, a = (k : Int) ∧ k < ws.length ∧ ws.getD k 0 ≠ P := by
  unfold er at h
  split at h
  · rename_i q
    refine ⟨a.toNat, by omega, by omega, fun e => ?_⟩
    rw [if_pos e] at h
    cases h
  · cases h
theorem put_ok {ws : List Int} {k : Nat} {v : Int} (h : er ws k = 0) : put ws k v = ws.set k v := by
  unfold put
  rw [if_pos h, Int.toNat_natCast]
theorem put_no {ws : List Int} {a v : Int} (h : er ws a ≠ 0) : put ws a v = ws := if_neg h
set_option maxRecDepth 100000 in
set_option maxHeartbeats 1000000 in
theorem store_any (a v : Int) (h : Mem D B x ws tr bad w) (hl : tr.length < 1999999999999) :
    Calls Try.prog 75 #[.pointer (some ⟨x, 0, none⟩), .int .i64 a, .int .i64 v] w fun e w' => e = .returned (.int .i64 (er ws a)) ∧ To D B x (put ws a v) (tr ++ [⟨2, a, v, std ws a, good ws a⟩]) (bad + bd ws a) w w' := by
  have hB := h.base
  obtain ⟨hb, g, ao, cap, hm, hd⟩ := h
  have He := hide' (enter_any a hm (by omega))
  have Hn := hide' (fun w1 ws' (h1 : Me B x g ws' ao cap tr (bad + bd ws a) w1) hB1 => note_any ⟨2, a, v, std ws a, good ws a⟩ h1 (by omega) hB1)
  have Hd := hide' hd
  have Hb := hide' (show bad + bd ws a ≤ tr.length + 1 by have := bd_le ws a; omega)
  clear hd hb hl hm
  by_cases hE : er ws a = 0
  · obtain ⟨k, rfl, hk, _⟩ := er_zero hE
    rw [put_ok hE]
    rw [show good ws k = true from decide_eq_true hE] at Hn ⊢
    rw [hE] at He ⊢
    clear hE
    generalize std ws k = V at *
    go_enter Try.func75, Try.ntmps75
    go_wp2_with fail
    refine He.out.mono ?_
    rintro e w1 ⟨rfl, h1, t1⟩
    have c0 := h1.c0
    have cw := h1.cw k hk
    have fw := h1.fw k
    obtain ⟨h1', t1'⟩ := h1.put k v
    clear He h1
    go_wp2_with fail
    refine (Hn.out _ _ h1' (Nat.le_trans hB (t1.trans t1').size)).mono ?_
    rintro e w2 ⟨rfl, gg, cap', h2, t2, hg⟩
    have K := hide' (to_note Hd.out Hb.out h2 (t1.trans t1') t2 hg)
    clear h1' h2 t1 t1' t2 hg Hn c0 cw fw
    go_wp2
    go_ret
    exact ⟨rfl, K.out⟩
  · rw [put_no hE]
    rw [show good ws a = false from decide_eq_false hE] at Hn ⊢
    have hE' : (er ws a == 0) = false := by simpa using hE
    clear hE
    generalize std ws a = V at *
    generalize er ws a = E at *
    go_enter Try.func75, Try.ntmps75
    go_wp2_with fail
    refine He.out.mono ?_
    rintro e w1 ⟨rfl, h1, t1⟩
    clear He
    go_wp2_with fail
    refine (Hn.out _ _ h1 (Nat.le_trans hB t1.size)).mono ?_
    rintro e w2 ⟨rfl, gg, cap', h2, t2, hg⟩
    have K := hide' (to_note Hd.out Hb.out h2 t1 t2 hg)
    clear h1 h2 t1 t2 hg Hn
    go_wp2
    go_ret
    exact ⟨rfl, K.out⟩
/-- was it written? -/
def won (ws : List Int) (a o : Int) : Bool := decide (er ws a = 0) && decide (std ws a = o)
def swp (ws : List Int) (a o v : Int) : List Int := if won ws a o = true then ws.set a.toNat v else ws
end M
end Go.Proofs.Ytfeehnfpfheojaa
