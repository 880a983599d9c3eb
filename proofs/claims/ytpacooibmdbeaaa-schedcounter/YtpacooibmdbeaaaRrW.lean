import Derived.Test.YtpacooibmdbeaaaRnd
import Derived.Test.YtpacooibmdbeaaaApW
set_option linter.unusedVariables false
set_option linter.unusedSimpArgs false
namespace Go.Proofs.Ytpacooibmdbeaaa
open Go.RowKit
namespace A
open C F
def slen : Value → Nat
  | .slice _ n _ => n
  | _ => 0
set_option maxRecDepth 100000 in
set_option maxHeartbeats 1000000 in
theorem rround_none (t n : Int) (w : World) (h : ¬ rok t n) : Calls Try.prog 24 #[.int .i64 t, .int .i64 n] w fun e w' => e = .returned (.slice none 0 0) ∧ w' = w := by
  unfold rok at h
  by_cases h1 : t < 1
  · clear h
    go_enter Try.func24, Try.ntmps24
    go_wp2
    go_ret
    exact ⟨rfl, rfl⟩
  by_cases h2 : t > 64
  · clear h
    go_enter Try.func24, Try.ntmps24
    go_wp2
    go_ret
    exact ⟨rfl, rfl⟩
  by_cases h3 : n < 1
  · clear h
    go_enter Try.func24, Try.ntmps24
    go_wp2
    go_ret
    exact ⟨rfl, rfl⟩
  have h4 : n > 1048576 := by omega
  clear h
  go_enter Try.func24, Try.ntmps24
  go_wp2
  go_ret
  exact ⟨rfl, rfl⟩
theorem mod_next (t k : Nat) (ht : 0 < t) : (k + 1) % t = if k % t + 1 = t then 0 else k % t + 1 := by
  have h1 := Nat.mod_lt k ht
  split
  · rename_i h
    rw [Nat.add_mod, ← Nat.add_mod_mod, Nat.mod_mod] 
    rw [Nat.mod_add_mod, Nat.add_mod_mod]
    rw [← Nat.mod_add_mod, h, Nat.mod_self]
  · rw [← Nat.mod_add_mod, Nat.mod_eq_of_lt (by omega)]
set_option maxRecDepth 100000 in
set_option maxHeartbeats 2000000 in
theorem rround_some (t n : Nat) (w : World) (h : rok t n) : Calls Try.prog 24 #[.int .i64 (t : Int), .int .i64 (n : Int)] w fun e w' => ∃ ro rc, e = .returned (.slice ro n rc) ∧ w'.ownsRow w.heap.size 3 1 (.slice ro n rc) n (ivs (rl t n)) ∧ Below w.heap.size w w' := by
  obtain ⟨a1, a2, a3, a4⟩ := h
  have h1 : ¬ (t : Int) < 1 := by omega
  have h2 : ¬ (t : Int) > 64 := by omega
  have h3 : ¬ (n : Int) < 1 := by omega
  have h4 : ¬ (n : Int) > 1048576 := by omega
  have E3 : Hid (∀ k : Nat, k < n → wrap64 (((k % t : Nat) : Int) + 1) = ((k % t : Nat) : Int) + 1) := hide' (fun k hk => by have := Nat.mod_le k t; exact wrap_in (by omega) (by omega))
  have HT := hide' (show 0 < t ∧ n ≤ 1048576 by omega)
  clear a1 a2 a3 a4
  go_enter Try.func24, Try.ntmps24
  go_wp2_with fail
  go_loopw [5, 6] (fun l i wx => ∃ (k : Nat) (ro : Option Addr) (rc : Nat), l = .slice ro k rc ∧ i = .int .i64 ((k % t : Nat) : Int) ∧ k ≤ n ∧ wx.ownsRow w.heap.size 3 1 (.slice ro k rc) k (ivs (rl t k)) ∧ Below w.heap.size w wx) (fun l _ _ => n - slen l)
  case atStart => exact ⟨0, none, 0, rfl, by rw [Nat.zero_mod]; rfl, Nat.zero_le _, World.ownsRow_nil w _ 3 1, Below.refl _ _⟩
  case round =>
    obtain ⟨k, ro, rc, rfl, rfl, hk, hrow, hb⟩ := hrel
    by_cases hlt : k < n
    · have hlt' : (k : Int) < (n : Int) := by omega
      have e1 := E3.out k hlt
      have Hk := hide' hlt
      have HR := hide' hrow
      have HB := hide' hb
      have n1 : Hid (k < 17592186044000) := hide' (by have := HT.out.2; omega)
      have HM := hide' (mod_next t k HT.out.1)
      obtain ⟨q, hq⟩ : ∃ q, k % t = q := ⟨_, rfl⟩
      have HQ := hide' hq
      rw [hq] at e1 HM
      rw [hq]
      clear hrow hb hk hq
      by_cases hqt : q + 1 = t
      · have hqt' : (q : Int) + 1 = (t : Int) := by omega
        go_wp2_with (at_builtin; refine wpList_nump wr rfl _ _ rfl (rl_len t k) HR.out n1 HB.out.size (q : Int) _ rfl rfl ?_; intro gg cap' w1 r1 t1 hg1; have K1 := hide' (And.intro r1 (HB.out.trans (t1.below (fun j hj => (row_kind HR.out hj).1) HB.out.size))); clear r1 t1 hg1)
        refine ⟨⟨k + 1, _, _, rfl, ?_, Hk.out, ?_, K1.out.2⟩, ?_⟩
        · rw [HM.out, if_pos hqt]; rfl
        · rw [rl_succ, HQ.out]; exact K1.out.1
        · show n - (k + 1) < n - k
          have := Hk.out
          omega
      · have hqt' : ¬ (q : Int) + 1 = (t : Int) := by omega
        go_wp2_with (at_builtin; refine wpList_nump wr rfl _ _ rfl (rl_len t k) HR.out n1 HB.out.size (q : Int) _ rfl rfl ?_; intro gg cap' w1 r1 t1 hg1; have K1 := hide' (And.intro r1 (HB.out.trans (t1.below (fun j hj => (row_kind HR.out hj).1) HB.out.size))); clear r1 t1 hg1)
        refine ⟨⟨k + 1, _, _, rfl, ?_, Hk.out, ?_, K1.out.2⟩, ?_⟩
        · first | (rw [HM.out, if_neg hqt]; rfl) | (rw [HM.out, if_neg hqt, e1]; rfl)
        · rw [rl_succ, HQ.out]; exact K1.out.1
        · show n - (k + 1) < n - k
          have := Hk.out
          omega
    · obtain rfl : k = n := by omega
      have K2 := hide' (And.intro hrow hb)
      clear hrow hb hlt hk
      go_wp2
      go_ret
      exact ⟨_, _, rfl, K2.out.1, K2.out.2⟩
/-- the document's Round -/
theorem rround_any (t n : Int) (w : World) : Calls Try.prog 24 #[.int .i64 t, .int .i64 n] w fun e w' => ∃ ro rc, e = .returned (.slice ro (rr t n).length rc) ∧ w'.ownsRow w.heap.size 3 1 (.slice ro (rr t n).length rc) (rr t n).length (ivs (rr t n)) ∧ Below w.heap.size w w' := by
  by_cases h : rok t n
  · obtain ⟨a, rfl⟩ : ∃ a : Nat, t = (a : Int) := ⟨t.toNat, by have := h.1; omega⟩
    obtain ⟨b, rfl⟩ : ∃ b : Nat, n = (b : Int) := ⟨n.toNat, by have := h.2.2.1; omega⟩
    have h' : 1 ≤ (a : Int) ∧ (a : Int) ≤ 64 ∧ 1 ≤ (b : Int) ∧ (b : Int) ≤ 1048576 := h
    have e : rr a b = rl a b := by unfold rr; rw [if_pos h', Int.toNat_natCast, Int.toNat_natCast]
    rw [e, rl_len]
    exact rround_some a b w h
  · have e : rr t n = [] := if_neg h
    rw [e]
    refine (rround_none t n w h).mono ?_
    rintro e w' ⟨rfl, rfl⟩
    exact ⟨none, 0, rfl, World.ownsRow_nil _ _ 3 1, Below.refl _ _⟩
end A
end Go.Proofs.Ytpacooibmdbeaaa
