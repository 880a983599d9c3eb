import Derived.Test.YtjhnlmedmpcgoaaCln
set_option linter.unusedVariables false
set_option linter.unusedSimpArgs false
namespace Go.Proofs.Ytjhnlmedmpcgoaa
open Go.RowKit
namespace F
open C
set_option maxRecDepth 100000 in
set_option maxHeartbeats 2000000 in
theorem same_any (xa : Option Addr) (xc : Nat) (xs : List Int) (ya : Option Addr) (yc : Nat) (ys : List Int) (w : World) (hx : Ints w xa xs) (hy : Ints w ya ys) (hl : xs.length ≤ 17592186044000) :
    Calls Try.prog 20 #[.slice xa xs.length xc, .slice ya ys.length yc] w fun e w' => e = .returned (.bool (decide (xs = ys))) ∧ ∃ m, w' = w.drewN m := by
  by_cases hlen : xs.length = ys.length
  · have hlen' : (xs.length : Int) = (ys.length : Int) := by omega
    have HX := hide' hx
    have HY := hide' hy
    have HL := hide' hl
    have HN := hide' hlen
    have E3 : Hid (∀ k : Nat, k < 17592186044000 → wrap64 ((k : Int) + 1) = (k : Int) + 1) := hide' (fun k hk => wrap_in (by omega) (by omega))
    clear hx hy hl hlen
    go_enter Try.func20, Try.ntmps20
    go_wp2_with fail
    go_loopw [5] (fun i wx => ∃ k : Nat, i = .int .i64 (k : Int) ∧ k ≤ xs.length ∧ (∃ m, wx = w.drewN m) ∧ ∀ j, j < k → xs.getD j 0 = ys.getD j 0) (fun i _ => xs.length - (intOf i).toNat)
    case atStart => exact ⟨0, rfl, Nat.zero_le _, ⟨0, rfl⟩, fun j hj => by omega⟩
    case round =>
      obtain ⟨k, rfl, hk, ⟨m, rfl⟩, hall⟩ := hrel
      by_cases hlt : k < xs.length
      · have hlt' : (k : Int) < (xs.length : Int) := by omega
        have hlt2 : (k : Int) < (ys.length : Int) := by omega
        have hlt3 : k < ys.length := by omega
        have e1 := E3.out k (Nat.lt_of_lt_of_le hlt HL.out)
        have Hend := hide' (msr' hlt _ e1)
        rcases HX.out with q | ⟨xb, xo, hxa, hxb, hxc⟩
        · rw [q] at hlt; simp at hlt
        rcases HY.out with q | ⟨yb, yo, hya, hyb, hyc⟩
        · rw [q] at hlt3; simp at hlt3
        have ix : (w.drewN m).cell? ⟨xb, xo + k, none⟩ = some (.int .i64 (xs.getD k 0)) := hxc k hlt
        have iy : (w.drewN m).cell? ⟨yb, yo + k, none⟩ = some (.int .i64 (ys.getD k 0)) := hyc k hlt3
        have Hk := hide' hlt
        have HA := hide' hall
        obtain ⟨u, hu⟩ : ∃ u, xs.getD k 0 = u := ⟨_, rfl⟩
        obtain ⟨v, hv⟩ : ∃ v, ys.getD k 0 = v := ⟨_, rfl⟩
        rw [hu] at ix
        rw [hv] at iy
        have HU := hide' (And.intro hu hv)
        obtain rfl := hxa
        obtain rfl := hya
        clear hu hv hxc hyc hxb hyb hall hk
        by_cases huv : u = v
        · have K : Hid (∀ j, j < k + 1 → xs.getD j 0 = ys.getD j 0) := hide' (fun j hj => by
            by_cases hjk : j = k
            · rw [hjk, HU.out.1, HU.out.2, huv]
            · exact HA.out j (by omega))
          obtain rfl := huv
          generalize hW : w.drewN m = W at *
          go_wp2_with fail
          go_quiet (fail)
          go_wp2
          exact ⟨⟨k + 1, by go_num, Hk.out, by rw [← hW]; exact ⟨_, World.drewN_drewN ..⟩, K.out⟩, Hend.out⟩
        · have K : Hid (¬ xs = ys) := hide' (fun q => huv (by rw [← HU.out.1, ← HU.out.2, q]))
          generalize hW : w.drewN m = W at *
          go_wp2_with fail
          go_quiet (fail)
          go_wp2
          go_ret
          rw [decide_eq_false K.out, ← hW]
          exact ⟨rfl, _, World.drewN_drewN ..⟩
      · obtain rfl : k = xs.length := by omega
        have K : Hid (xs = ys) := hide' (List.ext_getElem (by exact HN.out) (fun j h1 h2 => by have := hall j h1; simpa [List.getD, h1, h2] using this))
        clear hall hlt hk
        generalize hW : w.drewN m = W at *
        go_wp2
        go_ret
        rw [decide_eq_true K.out, ← hW]
        exact ⟨rfl, _, rfl⟩
  · have hlen' : ¬ (xs.length : Int) = (ys.length : Int) := by omega
    rw [decide_eq_false (fun q => hlen (by rw [q]))]
    clear hx hy hl hlen
    go_enter Try.func20, Try.ntmps20
    go_wp2
    go_ret
    exact ⟨rfl, 0, rfl⟩
end F
end Go.Proofs.Ytjhnlmedmpcgoaa
