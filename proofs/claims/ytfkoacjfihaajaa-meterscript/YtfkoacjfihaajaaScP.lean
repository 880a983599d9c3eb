import Derived.Test.YtfkoacjfihaajaaMw3
import Derived.Test.YtfkoacjfihaajaaMeB
import Derived.Test.YtfkoacjfihaajaaHaW
set_option linter.unusedVariables false
set_option linter.unusedSimpArgs false
namespace Go.Proofs.Ytfkoacjfihaajaa
open Go.RowKit
namespace M
open Fl
/-- a note: its moment, and how many -/
abbrev Nt := Nat × Nat
def narr (x : Nt) : Array Value := #[.int .i64 (x.1 : Nat), .int .i64 (x.2 : Nat)]
theorem ha_n (q : Nt) : (narr q).size = 2 := rfl
theorem one_n (x : Nt) : ∀ u ∈ (narr x).toList, u.oneCell' = true := by simp [narr, Value.oneCell']
/-- a rate and a note -/
def ad (r n : Nat) : Nat := rn 52 0 (V 52 r + V 52 (fi n))
/-- what the notes make: the last moment, and the rate -/
structure Sr where
  l : Nat
  r : Nat
def stp (h : Nat) (s : Sr) (x : Nt) : Sr := ⟨x.1, ad (hvn (x.1 / h - s.l / h) s.r) x.2⟩
theorem stp_fst (h : Nat) (s : Sr) (x : Nt) : (stp h s x).l = x.1 := rfl
theorem stp_snd (h : Nat) (s : Sr) (x : Nt) : (stp h s x).r = ad (hvn (x.1 / h - s.l / h) s.r) x.2 := rfl
def st (h : Nat) (ns : List Nt) : Sr := ns.foldl (stp h) ⟨0, 0⟩
theorem st_add (h : Nat) (ns : List Nt) (x : Nt) : st h (ns ++ [x]) = stp h (st h ns) x := by unfold st; rw [List.foldl_append]; rfl
theorem rep_big {K : Nat} (h : K ≤ 9007199254740991) : Rep (K * (9223372036854775808 * Q)) := by
  obtain ⟨D, hD⟩ : ∃ D : Nat, D = 1137 := ⟨_, rfl⟩
  have : (9223372036854775808 : Nat) * Q = 2 ^ D := by
    obtain ⟨E, hE⟩ : ∃ E : Nat, E = 1074 := ⟨_, rfl⟩
    rw [Q_def hE, show D = 63 + E by omega, Nat.pow_add, show (2 : Nat) ^ 63 = 9223372036854775808 by decide]
  rw [this]; exact rep_mk (by omega) (by omega)
/-- a rate that notes have made -/
structure Ok (N r : Nat) : Prop where
  lt : r < 9218868437227405312
  le : V 52 r ≤ N * (9223372036854775808 * Q)
theorem Ok.zero : Ok 0 0 := ⟨by omega, by rw [show V 52 0 = 0 from rfl]; exact Nat.zero_le _⟩
theorem Ok.note {N r k n : Nat} (h : Ok N r) (hN : N + 1 ≤ 9007199254740991) (hn : n ≤ 9223372036854775808) : Ieee.double.add (hvn k r) (FloatKind.f64.nearest (n : Int)) = some (ad (hvn k r) n) ∧ Ok (N + 1) (ad (hvn k r) n) := by
  obtain ⟨e1, e2, e3⟩ := near_fi hn
  have h1 := hvn_lt h.lt k
  have h2 : V 52 (hvn k r) + V 52 (fi n) ≤ (N + 1) * (9223372036854775808 * Q) := by
    rw [Nat.add_mul, Nat.one_mul]
    exact Nat.add_le_add (Nat.le_trans (V_le 52 (hvn_le r k)) h.le) e3
  have h3 := rn_le (rep_big hN) h2
  refine ⟨?_, ?_, ?_⟩ <;> unfold ad
  · rw [e1, add_pos h1 e2 h3.2]
  · exact h3.2
  · exact h3.1
/-- notes at moments that do not fall -/
inductive Up : Nat → List Nt → Prop
  | nil : Up 0 []
  | add {l : Nat} {ns : List Nt} {x : Nt} : Up l ns → l ≤ x.1 → x.1 < 9223372036854775808 → x.2 < 9223372036854775808 → Up x.1 (ns ++ [x])
theorem Up.last {h l : Nat} {ns : List Nt} (u : Up l ns) : (st h ns).l = l := by
  cases u with
  | nil => rfl
  | add u _ _ _ => rw [st_add, stp_fst]
theorem Up.ok {h l : Nat} {ns : List Nt} (u : Up l ns) : ns.length ≤ 9007199254740000 → Ok ns.length (st h ns).r := by
  induction u with
  | nil => intro _; exact Ok.zero
  | add u _ _ hn ih =>
    intro hl
    rw [List.length_append] at hl
    have := ih (by omega)
    rw [st_add, List.length_append, stp_snd]
    exact (this.note (by simp at hl; omega) (by omega)).2
theorem Up.lt {l : Nat} {ns : List Nt} (u : Up l ns) : l < 9223372036854775808 := by
  cases u with
  | nil => omega
  | add _ _ h _ => exact h
theorem Up.getLast {l : Nat} {ns : List Nt} (u : Up l ns) {k : Nat} (hk : ns.length = k + 1) : ∃ n, ns[k]? = some (l, n) := by
  cases u with
  | nil => simp at hk
  | @add l' ns' x u _ _ _ =>
    rw [List.length_append] at hk
    simp at hk
    subst hk
    exact ⟨x.2, by rw [List.getElem?_append_right (Nat.le_refl _), Nat.sub_self]; rfl⟩
/-- each beginning -/
theorem Up.take {l : Nat} {ns : List Nt} (u : Up l ns) : ∀ k, k ≤ ns.length → ∃ l', Up l' (ns.take k) ∧ (∀ x, ns[k]? = some x → l' ≤ x.1 ∧ x.1 < 9223372036854775808 ∧ x.2 < 9223372036854775808) := by
  induction u with
  | nil => intro k hk; simp at hk; subst hk; exact ⟨0, Up.nil, fun x hx => by simp at hx⟩
  | @add l ns x u h1 h2 h3 ih =>
    intro k hk
    rw [List.length_append] at hk
    simp only [List.length_singleton] at hk
    rcases Nat.lt_trichotomy k ns.length with q | q | q
    · obtain ⟨l', a, b⟩ := ih k (by omega)
      refine ⟨l', by rw [List.take_append_of_le_length (by omega)]; exact a, fun y hy => b y ?_⟩
      rw [List.getElem?_append_left q] at hy; exact hy
    · subst q
      refine ⟨l, by rw [List.take_left']; exact u; rfl, fun y hy => ?_⟩
      rw [List.getElem?_append_right (Nat.le_refl _), Nat.sub_self] at hy
      simp only [List.getElem?_cons_zero, Option.some.injEq] at hy
      subst hy
      exact ⟨h1, h2, h3⟩
    · obtain rfl : k = ns.length + 1 := by omega
      refine ⟨x.1, by rw [List.take_of_length_le (by simp)]; exact Up.add u h1 h2 h3, fun y hy => ?_⟩
      rw [List.getElem?_eq_none (by simp)] at hy
      cases hy
variable {w w' : World} {c h : Nat} {ns : List Nt}
/-- BLOCK c IS THE DOCUMENT'S METER -/
structure Rm (B c h : Nat) (ao : Option Addr) (cap : Nat) (ns : List Nt) (w : World) : Prop where
  hp : w.heap[c]? = some (.cells #[.int .i64 (h : Nat), .slice ao ns.length cap] 71 (0, 0))
  row : Own 2 76 narr B (.slice ao ns.length cap) ns w
variable {B cap : Nat} {ao : Option Addr}
theorem Rm.c0 (q : Rm B c h ao cap ns w) : w.cell? ⟨c, 0, none⟩ = some (.int .i64 (h : Nat)) := by rw [Lib.cell_of_heap q.hp]; rfl
theorem Rm.c1 (q : Rm B c h ao cap ns w) : w.cell? ⟨c, 1, none⟩ = some (.slice ao ns.length cap) := by rw [Lib.cell_of_heap q.hp]; rfl
theorem Rm.f (q : Rm B c h ao cap ns w) (j : Nat) : w.frozen? ⟨c, j, none⟩ = false := Lib.frozen_of_heap q.hp j
theorem Rm.lt (q : Rm B c h ao cap ns w) : c < w.heap.size := lt_of_heap q.hp
theorem Rm.below (q : Rm B c h ao cap ns w) (b : Below w.heap.size w w') : Rm B c h ao cap ns w' := ⟨(b.block c q.lt).trans q.hp, q.row.below b⟩
theorem Rm.drewN (q : Rm B c h ao cap ns w) (n : Nat) : Rm B c h ao cap ns (w.drewN n) := q.below (below_drewN w n)
theorem Rm.cells (q : Rm B c h ao cap ns w) {k : Nat} {x : Nt} (hx : ns[k]? = some x) : ∃ g, ao = some ⟨g, 0, none⟩ ∧ w.cell? ⟨g, k * 2, none⟩ = some (.int .i64 (x.1 : Nat)) ∧ w.cell? ⟨g, k * 2 + 1, none⟩ = some (.int .i64 (x.2 : Nat)) := by
  have hk := (List.getElem?_eq_some_iff.1 hx).1
  rcases q.row.row.2 with ⟨hv, h0⟩ | ⟨g, cap', cur, hv, hb, hg, _⟩
  · omega
  · simp only [Value.slice.injEq] at hv
    obtain ⟨rfl, _, _⟩ := hv
    have r := q.row.row
    refine ⟨g, rfl, ?_, ?_⟩
    · have := flat_at ha_n ns k 0 x (by omega) hx
      rw [r.cellAt (k * 2) (by omega)]; exact this
    · have := flat_at ha_n ns k 1 x (by omega) hx
      rw [r.cellAt (k * 2 + 1) (by omega)]; exact this
set_option maxRecDepth 100000 in
set_option maxHeartbeats 1000000 in
theorem rnew_no {h : Int} (w : World) (hh : h < 1) : Calls Try.prog 19 #[.int .i64 h] w fun e w' => e = .returned (.tuple #[.pointer none, .int .i64 3]) ∧ w' = w := by
  go_enter Try.func19, Try.ntmps19
  go_wp2
  go_ret2
  exact ⟨rfl, rfl⟩
set_option maxRecDepth 100000 in
set_option maxHeartbeats 1000000 in
theorem rnew_any (h : Nat) (w : World) (hh : 1 ≤ h) : Calls Try.prog 19 #[.int .i64 (h : Nat)] w fun e w' => e = .returned (.tuple #[.pointer (some ⟨w.heap.size, 0, none⟩), .int .i64 0]) ∧ w' = w.alloc (.cells #[.int .i64 (h : Nat), .slice none 0 0] 71) := by
  have hh' : ¬ ((h : Int) < 1) := by omega
  go_enter Try.func19, Try.ntmps19
  go_wp2
  go_ret2
  exact ⟨rfl, rfl⟩
set_option maxRecDepth 100000 in
set_option maxHeartbeats 1000000 in
theorem rhalved_any (r n : Nat) (w : World) (hr : r < 9218868437227405312) (hn : n < 9223372036854775808) : Calls Try.prog 42 #[.float .f64 r, .int .i64 (n : Nat)] w fun e w' => e = .returned (.float .f64 (hvn n r)) ∧ w' = w := by
  have HR := hide' (fun k => hvn_lt hr k)
  have HN := hide' hn
  clear hr hn
  go_enter Try.func42, Try.ntmps42
  go_wp2
  go_loopw [0, 1] (fun x i wx => ∃ k m : Nat, x = .float .f64 (hvn k r) ∧ i = .int .i64 (m : Int) ∧ k + m = n ∧ wx = w) (fun _ i _ => (intOf i).toNat)
  case atStart => exact ⟨0, n, rfl, rfl, by omega, rfl⟩
  case round =>
    obtain ⟨k, m, rfl, rfl, hk, rfl⟩ := hrel
    by_cases h0 : m = 0
    · subst h0
      obtain rfl : k = n := by omega
      have h00 : ¬ ((0 : Int) < ((0 : Nat) : Int)) := by omega
      generalize hX : hvn k r = x at *
      have HX := hide' hX
      clear hk hX
      go_wp2
      go_ret
      exact ⟨by rw [HX.out]; rfl, rfl⟩
    · have hm0 : (0 : Int) < (m : Int) := by omega
      by_cases hx : hvn k r = 0
      · have he : hvn n r = 0 := by rw [← hk, hvn_add, hx, hvn_zero]
        rw [hx]
        have He := hide' he
        have ho := order_self (r := 0) (by omega)
        clear he hx hk HR
        go_wp2
        go_ret
        exact ⟨by rw [He.out]; rfl, rfl⟩
      · have ho := order_gt (HR.out k) (b := 0) (by omega) (by omega)
        have hq := fun w => run_half (HR.out k) w
        have e1 : hv (hvn k r) = hvn (k + 1) r := rfl
        obtain ⟨j, hj⟩ : ∃ j, m = j + 1 := ⟨m - 1, by omega⟩
        have Hw : Hid (wrap64 ((m : Int) - 1) = (j : Int)) := hide' (by have := HN.out; unfold wrap64; omega)
        have Hk := hide' (show k + 1 + j = n by omega)
        have Hm := hide' (show ((intOf (Value.int .i64 (j : Int))).toNat < (intOf (Value.int .i64 (m : Int))).toNat) by show (j : Int).toNat < (m : Int).toNat; omega)
        rw [e1] at hq
        generalize hX' : hvn (k + 1) r = x' at *
        generalize hX : hvn k r = x at *
        have HX := hide' hX'
        clear hX hX' e1 hj hk hx h0 HR HN
        go_wp2
        rw [Hw.out]
        exact ⟨⟨k + 1, j, by rw [HX.out], rfl, Hk.out, trivial⟩, Hm.out⟩
end M
end Go.Proofs.Ytfkoacjfihaajaa
