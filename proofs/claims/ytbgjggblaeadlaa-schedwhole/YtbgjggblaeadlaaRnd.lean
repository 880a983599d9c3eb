import Derived.Test.YtbgjggblaeadlaaFrW
set_option linter.unusedVariables false
set_option linter.unusedSimpArgs false
namespace Go.Proofs.Ytbgjggblaeadlaa
open Go.RowKit
namespace F
open C
/-- picks in turn -/
def rl (t : Nat) (n : Nat) : List Int := (List.range n).map (fun k => ((k % t : Nat) : Int))
theorem rl_len (t n : Nat) : (rl t n).length = n := by simp [rl]
theorem rl_at (t n k : Nat) (h : k < n) : (rl t n)[k]? = some ((k % t : Nat) : Int) := by simp [rl, h]
theorem rl_succ (t n : Nat) : rl t (n + 1) = rl t n ++ [((n % t : Nat) : Int)] := by simp [rl, List.range_succ]
def rz (t n k : Nat) : List Int := rl t k ++ List.replicate (n - k) 0
theorem rz_len (t n k : Nat) (h : k ≤ n) : (rz t n k).length = n := by simp [rz, rl_len]; omega
theorem rz_set (t n k : Nat) (h : k < n) : (rz t n k).set k ((k % t : Nat) : Int) = rz t n (k + 1) := by
  unfold rz
  obtain ⟨m, hm⟩ : ∃ m, n - k = m + 1 := ⟨n - k - 1, by omega⟩
  rw [hm, show n - (k + 1) = m by omega, List.replicate_succ, rl_succ, List.set_append_right _ _ (by rw [rl_len]; exact Nat.le_refl _), rl_len, Nat.sub_self]
  simp
theorem made_ints : ∀ n : Nat, (madeCells (Value.int .i64 0).cells (n * 1)).toList = ivs (List.replicate n 0) := by
  intro n
  rw [Nat.mul_one]
  apply List.ext_getElem?
  intro j
  by_cases hj : j < n
  · simp [madeCells, ivs, hj, Value.cells, Nat.mod_one]
  · simp [madeCells, ivs, hj]
def rok (t n : Int) : Prop := 1 ≤ t ∧ t ≤ 64 ∧ 1 ≤ n ∧ n ≤ 1048576
set_option maxRecDepth 100000 in
set_option maxHeartbeats 1000000 in
theorem round_none (t n : Int) (w : World) (h : ¬ rok t n) : Calls Try.prog 25 #[.int .i64 t, .int .i64 n] w fun e w' => e = .returned (.slice none 0 0) ∧ w' = w := by
  unfold rok at h
  by_cases h1 : t < 1
  · clear h
    go_enter Try.func25, Try.ntmps25
    go_wp2
    go_ret
    exact ⟨rfl, rfl⟩
  by_cases h2 : t > 64
  · clear h
    go_enter Try.func25, Try.ntmps25
    go_wp2
    go_ret
    exact ⟨rfl, rfl⟩
  by_cases h3 : n < 1
  · clear h
    go_enter Try.func25, Try.ntmps25
    go_wp2
    go_ret
    exact ⟨rfl, rfl⟩
  have h4 : n > 1048576 := by omega
  clear h
  go_enter Try.func25, Try.ntmps25
  go_wp2
  go_ret
  exact ⟨rfl, rfl⟩
set_option maxRecDepth 100000 in
set_option maxHeartbeats 2000000 in
theorem round_some (t n : Nat) (w : World) (h : rok t n) : Calls Try.prog 25 #[.int .i64 (t : Int), .int .i64 (n : Int)] w fun e w' => ∃ g, e = .returned (.slice (some ⟨g, 0, none⟩) n n) ∧ w'.ownsRow w.heap.size 3 1 (.slice (some ⟨g, 0, none⟩) n n) n (ivs (rl t n)) ∧ Below w.heap.size w w' := by
  obtain ⟨a1, a2, a3, a4⟩ := h
  have h1 : ¬ (t : Int) < 1 := by omega
  have h2 : ¬ (t : Int) > 64 := by omega
  have h3 : ¬ (n : Int) < 1 := by omega
  have h4 : ¬ (n : Int) > 1048576 := by omega
  have E3 : Hid (∀ k : Nat, k < n → wrap64 ((k : Int) + 1) = (k : Int) + 1) := hide' (fun k hk => wrap_in (by omega) (by omega))
  have HT := hide' (show 0 < t ∧ n ≤ 1048576 by omega)
  obtain ⟨i0, hi, hz0, hz1, hz2⟩ := info_parts info3
  have Hi := hide' (And.intro hi (And.intro hz0 (And.intro hz1 hz2)))
  have hbl : Hid (∀ v : World, w.grownBy v none → Below w.heap.size w v) := fun v g => ⟨g.os, g.tape, g.output, g.size, fun k hk => g.block k hk (by simp)⟩
  clear a1 a2 a3 a4 hi hz0 hz1 hz2
  go_enter Try.func25, Try.ntmps25
  go_wp2_with (at_make; refine wpList_make_full _ rfl _ _ 23 rfl w.heap.size 3 i0 (.int .i64 0) 1 Try.underlying23 Hi.out.1 Hi.out.2.1 Hi.out.2.2.1 _ _ _ _ n rfl rfl rfl rfl (by rw [Hi.out.2.2.2]; have := HT.out; omega) (by have := HT.out; unfold maxLen; omega) (Nat.le_refl _) ?_; intro w2 r2 hg2; rw [made_ints] at r2; have E2 := hide' (And.intro r2 (hbl.out _ hg2)); clear r2 hg2)
  go_loopw [25] (fun i wx => ∃ k : Nat, i = .int .i64 (k : Int) ∧ k ≤ n ∧ wx.ownsRow w.heap.size 3 1 (.slice (some ⟨w.heap.size, 0, none⟩) n n) n (ivs (rz t n k)) ∧ Below w.heap.size w wx) (fun i _ => n - (intOf i).toNat)
  case atStart => exact ⟨0, rfl, Nat.zero_le _, by simpa [rz, rl] using E2.out.1, E2.out.2⟩
  case round =>
    obtain ⟨k, rfl, hk, hrow, hb⟩ := hrel
    clear E2
    by_cases hlt : k < n
    · have hlt' : (k : Int) < (n : Int) := by omega
      have e1 := E3.out k hlt
      have Hend := hide' (msr' hlt _ e1)
      have Hk := hide' hlt
      obtain ⟨jl, jf, jb, jg⟩ := row_int hrow (k := k) (by rw [rz_len t n k hk]; exact hlt)
      have K := row_put (k := k) hrow ((k % t : Nat) : Int)
      rw [rz_set t n k hlt] at K
      have K2 := hide' (And.intro K (hb.trans ((Turn.refl (fun j => j = w.heap.size) wr).setCell (p := ⟨w.heap.size, k, none⟩) (fun _ => rfl) (.int .i64 ((k % t : Nat) : Int)) |>.below (fun j hj => by rw [hj]; exact Nat.le_refl _) hb.size)))
      obtain ⟨u, hu⟩ : ∃ u, (rz t n k).getD k 0 = u := ⟨_, rfl⟩
      rw [hu] at jl
      have ht0 : ¬ (t : Int) = 0 := by have := HT.out.1; omega
      clear K hrow hb hu hk jb jg
      go_wp2_with fail
      exact ⟨⟨k + 1, rfl, Hk.out, K2.out.1, K2.out.2⟩, by first | exact Hend.out | (rw [← e1]; exact Hend.out)⟩
    · obtain rfl : k = n := by omega
      have K2 := hide' (And.intro hrow hb)
      clear hrow hb hlt hk
      go_wp2
      go_ret
      exact ⟨_, rfl, by simpa [rz] using K2.out.1, K2.out.2⟩
/-- 16.5 -/
def rr (t n : Int) : List Int := if 1 ≤ t ∧ t ≤ 64 ∧ 1 ≤ n ∧ n ≤ 1048576 then rl t.toNat n.toNat else []
theorem rr_len (t n : Int) : (rr t n).length ≤ 1048576 := by
  unfold rr
  split
  · rw [rl_len]; omega
  · simp
theorem round_any (t n : Int) (w : World) : Calls Try.prog 25 #[.int .i64 t, .int .i64 n] w fun e w' => ∃ ro rc, e = .returned (.slice ro (rr t n).length rc) ∧ w'.ownsRow w.heap.size 3 1 (.slice ro (rr t n).length rc) (rr t n).length (ivs (rr t n)) ∧ Below w.heap.size w w' := by
  by_cases h : rok t n
  · obtain ⟨a, rfl⟩ : ∃ a : Nat, t = (a : Int) := ⟨t.toNat, by have := h.1; omega⟩
    obtain ⟨b, rfl⟩ : ∃ b : Nat, n = (b : Int) := ⟨n.toNat, by have := h.2.2.1; omega⟩
    have h' : 1 ≤ (a : Int) ∧ (a : Int) ≤ 64 ∧ 1 ≤ (b : Int) ∧ (b : Int) ≤ 1048576 := h
    have e : rr a b = rl a b := by unfold rr; rw [if_pos h', Int.toNat_natCast, Int.toNat_natCast]
    rw [e, rl_len]
    exact (round_some a b w h).mono fun e w' ⟨g, h1, h2, h3⟩ => ⟨_, _, h1, h2, h3⟩
  · have e : rr t n = [] := if_neg h
    rw [e]
    exact (round_none t n w h).mono fun e w' ⟨h1, h2⟩ => by subst h2; exact ⟨none, 0, h1, World.ownsRow_nil _ _ _ _, Below.refl _ _⟩
end F
end Go.Proofs.Ytbgjggblaeadlaa
