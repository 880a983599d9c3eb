import Derived.Test.YtbgjggblaeadlaaSam
import Derived.Test.YtbgjggblaeadlaaSuW
set_option linter.unusedVariables false
set_option linter.unusedSimpArgs false
namespace Go.Proofs.Ytbgjggblaeadlaa
open Go.RowKit
namespace X
open C F
set_option maxRecDepth 100000 in
set_option maxHeartbeats 2000000 in
theorem below_lt (xa : Option Addr) (xc : Nat) (xs : List Int) (ya : Option Addr) (yc : Nat) (ys : List Int) (w : World) (hx : Ints w xa xs) (hy : Ints w ya ys) (hl : xs.length ≤ 17592186044000)
    (p : Nat) (hp : p < xs.length) (hq : p < ys.length) (he : ∀ j, j < p → xs.getD j 0 = ys.getD j 0) (hlt : xs.getD p 0 < ys.getD p 0) :
    Calls Try.prog 39 #[.slice xa xs.length xc, .slice ya ys.length yc] w fun e w' => e = .returned (.bool true) ∧ ∃ m, w' = w.drewN m := by
  have HX := hide' hx
  have HY := hide' hy
  have HL := hide' hl
  have HP := hide' (And.intro hp (And.intro hq (And.intro he hlt)))
  have E3 : Hid (∀ k : Nat, k < 17592186044000 → wrap64 ((k : Int) + 1) = (k : Int) + 1) := hide' (fun k hk => wrap_in (by omega) (by omega))
  clear hx hy hl hp hq he hlt
  go_enter Try.func39, Try.ntmps39
  go_wp2_with fail
  go_loopw [5] (fun i wx => ∃ k : Nat, i = .int .i64 (k : Int) ∧ k ≤ p ∧ (∃ m, wx = w.drewN m)) (fun i _ => xs.length - (intOf i).toNat)
  case atStart => exact ⟨0, rfl, Nat.zero_le _, ⟨0, rfl⟩⟩
  case round =>
    obtain ⟨k, rfl, hk, ⟨m, rfl⟩⟩ := hrel
    obtain ⟨hp, hq, he, hpl⟩ := HP.out
    have hlt : k < xs.length := by omega
    have hlt' : (k : Int) < (xs.length : Int) := by omega
    have hlt2 : (k : Int) < (ys.length : Int) := by omega
    have hlt3 : k < ys.length := by omega
    have e1 := E3.out k (Nat.lt_of_lt_of_le hlt HL.out)
    have Hend := hide' (msr' hlt _ e1)
    rcases HX.out with q | ⟨xb, xo, hxa, hxb, hxc⟩
    · rw [q] at hlt; simp at hlt
    rcases HY.out with q | ⟨yb, yo, hya, hyb, hyc⟩
    · rw [q] at hlt3; simp at hlt3
    have ix : (w.drewN m).cell? ⟨xb, xo + k, none⟩ = some (.int .i64 (xs.getD k 0)) := hxc k hlt
    have iy : (w.drewN m).cell? ⟨yb, yo + k, none⟩ = some (.int .i64 (ys.getD k 0)) := hyc k hlt3
    obtain ⟨u, hu⟩ : ∃ u, xs.getD k 0 = u := ⟨_, rfl⟩
    obtain ⟨v, hv⟩ : ∃ v, ys.getD k 0 = v := ⟨_, rfl⟩
    rw [hu] at ix
    rw [hv] at iy
    obtain rfl := hxa
    obtain rfl := hya
    by_cases hkp : k = p
    · have huv : u < v := by rw [← hu, ← hv, hkp]; exact hpl
      have huv' : ¬ u = v := by omega
      clear hu hv hxc hyc hxb hyb hk hp hq he hpl hkp hlt hlt3
      generalize hW : w.drewN m = W at *
      go_wp2_with fail
      go_quiet (fail)
      go_wp2_with fail
      go_quiet (fail)
      go_wp2
      go_ret
      refine ⟨rfl, ?_⟩
      rw [← hW, World.drewN_drewN, World.drewN_drewN]
      exact ⟨_, rfl⟩
    · have huv : u = v := by rw [← hu, ← hv]; exact he k (by omega)
      have Hk := hide' (show k + 1 ≤ p by omega)
      obtain rfl := huv
      clear hu hv hxc hyc hxb hyb hk hp hq he hpl hkp hlt hlt3
      generalize hW : w.drewN m = W at *
      go_wp2_with fail
      go_quiet (fail)
      go_wp2
      exact ⟨⟨k + 1, by go_num, Hk.out, by rw [← hW]; exact ⟨_, World.drewN_drewN ..⟩⟩, Hend.out⟩
def bn (d : Nat) : Nat → Nat
  | 0 => 1
  | j + 1 => bn d j * (d + (j + 1)) / (j + 1)
theorem bn_le : ∀ d, d ≤ 8 → ∀ j, j ≤ 8 → bn d j ≤ 20000 := by decide
set_option maxRecDepth 100000 in
set_option maxHeartbeats 2000000 in
theorem binomial_at (n k : Nat) (w : World) (hk : k ≤ n) (hn : n ≤ 8) :
    Calls Try.prog 37 #[.int .i64 (n : Int), .int .i64 (k : Int)] w fun e w' => e = .returned (.int .i64 (bn (n - k) k : Nat)) ∧ w' = w := by
  obtain ⟨d, hd⟩ : ∃ d, n = d + k := ⟨n - k, by omega⟩
  have HD := hide' (And.intro hd hn)
  rw [show n - k = d by omega]
  have ed : wrap64 ((n : Int) - (k : Int)) = (d : Int) := by unfold wrap64; omega
  clear hk hn hd
  go_enter Try.func37, Try.ntmps37
  go_wp2_with fail
  go_loopw [5, 6] (fun x i wx => ∃ j : Nat, x = .int .i64 (bn d j : Nat) ∧ i = .int .i64 ((j + 1 : Nat) : Int) ∧ j ≤ k ∧ wx = w) (fun _ i _ => k + 1 - (intOf i).toNat)
  case atStart => exact ⟨0, rfl, rfl, Nat.zero_le _, rfl⟩
  case round =>
    obtain ⟨j, rfl, rfl, hj, rfl⟩ := hrel
    have hb := bn_le d (by have := HD.out; omega) j (by have := HD.out; omega)
    obtain ⟨x, hx⟩ : ∃ x, bn d j = x := ⟨_, rfl⟩
    obtain ⟨i, hi⟩ : ∃ i, j + 1 = i := ⟨_, rfl⟩
    rw [hx, hi]
    rw [hx] at hb
    have HX := hide' (And.intro hx (And.intro hi hj))
    by_cases hlt : i ≤ k
    · have hlt' : (i : Int) ≤ (k : Int) := by omega
      have e1 := wsucN i (by have := HD.out; omega)
      have e2 : wrap64 ((d : Int) + (i : Int)) = ((d + i : Nat) : Int) := by have := HD.out; unfold wrap64; omega
      have hm : x * (d + i) ≤ 20000 * 100 := Nat.mul_le_mul hb (by have := HD.out; omega)
      have e3 : wrap64 ((x : Int) * ((d + i : Nat) : Int)) = ((x * (d + i) : Nat) : Int) := by
        rw [← Int.natCast_mul]; unfold wrap64; omega
      have i0 : ¬ (i : Int) = 0 := by omega
      have e4 : Hid (wrap64 (((wrap64 ((x : Int) * ((d : Int) + (i : Int)))).tdiv (i : Int))) = (bn d (j + 1) : Nat)) := hide' (by
        rw [← Int.natCast_add, e3, ← Int.ofNat_tdiv]
        have q : bn d (j + 1) = x * (d + i) / i := by show bn d j * (d + (j + 1)) / (j + 1) = _; rw [hx, hi]
        rw [q]
        have q2 : x * (d + i) / i ≤ x * (d + i) := Nat.div_le_self _ _
        have q3 : x * (d + i) / i ≤ 2000000 := Nat.le_trans q2 hm
        clear q q2
        generalize x * (d + i) / i = y at *
        clear e3 hm
        exact wrap_in (by omega) (by omega))
      have Hl := hide' hlt
      clear hx hi hj hlt hb hm
      go_wp2
      have hi := HX.out.2.1
      have hl := Hl.out
      refine ⟨⟨j + 1, by rw [e4.out], by rw [e1, ← hi], by omega, trivial⟩, ?_⟩
      rw [e1]
      show k + 1 - (((i + 1 : Nat) : Int)).toNat < k + 1 - ((i : Nat) : Int).toNat
      omega
    · obtain rfl : j = k := by omega
      have hlt' : ¬ (i : Int) ≤ (j : Int) := by omega
      clear hx hi hj hlt hb
      go_wp2
      go_ret
      exact ⟨by rw [HX.out.1]; rfl, rfl⟩
end X
end Go.Proofs.Ytbgjggblaeadlaa
