import Derived.Test.YtfkoacjfihaajaaNmW
import Derived.Test.YtfkoacjfihaajaaInm
set_option linter.unusedVariables false
set_option linter.unusedSimpArgs false
namespace Go.Proofs.Ytfkoacjfihaajaa
open Go.RowKit
namespace M
open Fl
theorem rep_Q {K : Nat} (h : K ≤ 9007199254740991) : Rep (K * Q) := by
  obtain ⟨D, hD⟩ : ∃ D : Nat, D = 1074 := ⟨_, rfl⟩
  rw [Q_def hD]; exact rep_mk (by omega) (by omega)
theorem V_fi {n : Nat} (h : n ≤ 9007199254740991) : V 52 (fi n) = n * Q := by
  obtain ⟨r, hr, e⟩ := rep_Q h
  unfold fi
  rw [← e]
  have := rn_V 52 0 r
  rw [Nat.pow_zero, Nat.mul_one] at this
  rw [this]
theorem hv_le (r : Nat) : hv r ≤ r := by
  unfold hv; split
  · omega
  · split <;> omega
theorem hvn_le (r : Nat) : ∀ k, hvn k r ≤ r
  | 0 => Nat.le_refl _
  | k + 1 => Nat.le_trans (hv_le _) (hvn_le r k)
/-- a note on a rate that is not too great -/
theorem add_ok {r k n K : Nat} (hr : r < 9218868437227405312) (hV : V 52 r ≤ K * Q) (hn : n ≤ 9007199254740991) (hK : K + n ≤ 9007199254740991) : ∃ r', Ieee.double.add (hvn k r) (FloatKind.f64.nearest (n : Int)) = some r' ∧ r' = rn 52 0 (V 52 (hvn k r) + n * Q) ∧ r' < 9218868437227405312 ∧ V 52 r' ≤ (K + n) * Q := by
  obtain ⟨e1, e2, _⟩ := near_fi (n := n) (by omega)
  have h1 := hvn_lt hr k
  have h2 : V 52 (hvn k r) + V 52 (fi n) ≤ (K + n) * Q := by
    rw [V_fi hn, Nat.add_mul]
    exact Nat.add_le_add_right (Nat.le_trans (V_le 52 (hvn_le r k)) hV) _
  have h3 := rn_le (rep_Q hK) h2
  refine ⟨_, ?_, rfl, ?_, ?_⟩
  · rw [e1, add_pos h1 e2 h3.2, V_fi hn]
  · rw [← V_fi hn]; exact h3.2
  · rw [← V_fi hn]; exact h3.1
theorem wadd {a b N : Nat} (e : N = a + b) (h : N < 9223372036854775808) : wrap64 ((a : Int) + (b : Int)) = (N : Int) := by rw [e] at *; unfold wrap64; omega
variable {b h l r : Nat} {w w' : World}
/-- a meter that has noted something -/
structure Md (w0 : World) (c h now r K : Nat) (w : World) : Prop where
  mt : Mt c h now r w
  bel : Below w0.heap.size w0 w
  cb : w0.heap.size ≤ c
  fin : r < 9218868437227405312
  hi : V 52 r ≤ K * Q
theorem Md.step {w0 : World} {c now r K now' r' K' : Nat} (m : Md w0 c h now r K w) (mt : Mt c h now' r' w') (t : Turn (fun j => j = c) w w') (h1 : r' < 9218868437227405312) (h2 : V 52 r' ≤ K' * Q) : Md w0 c h now' r' K' w' :=
  ⟨mt, m.bel.trans (t.below (fun k hk => by rw [hk]; exact m.cb) m.bel.size), m.cb, h1, h2⟩
theorem Md.drewN {w0 : World} {c now r K : Nat} (m : Md w0 c h now r K w) (n : Nat) : Md w0 c h now r K (w.drewN n) := ⟨m.mt.drewN n, bel_drewN m.bel n, m.cb, m.fin, m.hi⟩
theorem S3.cells {w : World} {b off j : Nat} {x : S3} (hc : ∀ r, r < 3 → w.cell? ⟨b, off + j * 3 + r, none⟩ = x.arr[r]?) : w.cell? ⟨b, off + j * 3, none⟩ = some (.int .i64 x.d) ∧ w.cell? ⟨b, off + j * 3 + 1, none⟩ = some (.int .i64 x.t) ∧ w.cell? ⟨b, off + j * 3 + 2, none⟩ = some (.int .i64 x.n) := ⟨hc 0 (by omega), hc 1 (by omega), hc 2 (by omega)⟩
set_option maxRecDepth 100000 in
set_option maxHeartbeats 2000000 in
theorem noted_any (h : Nat) (a : Option Addr) (cap : Nat) (ss : List S3) (w : World) (hh : 1 ≤ h) (hI : Rw 3 S3.arr w a ss) (hs : ss.length ≤ 5864062014634) (hcap : ss.length ≤ cap) :
    Calls Try.prog 32 #[.int .i64 (h : Nat), .slice a ss.length cap] w fun e w' => ∃ c now r : Nat, e = .returned (.tuple #[.pointer (some ⟨c, 0, none⟩), .int .i64 (now : Nat), .bool true]) ∧ Hid (now ≤ ss.length * 1000 ∧ Md w c h now r (ss.length * 1000) w') := by
  have H1 := hide' (new_any h w hh)
  have HI := hide' (fun w' (b : Below w.heap.size w w') => hI.below b)
  have HL := hide' (And.intro hh (And.intro hs hcap))
  clear hh hI hs hcap
  go_enter Try.func32, Try.ntmps32
  go_wp2_with fail
  refine H1.out.mono ?_
  rintro e w1 ⟨rfl, hw1⟩
  have M1 : Hid (Md w w.heap.size h 0 0 (0 * 1000) w1) := hide' ⟨by rw [hw1]; exact heap_alloc_new _ _, by rw [hw1]; exact (Below.refl _ _).alloc (Nat.le_refl _) _, Nat.le_refl _, by omega, by rw [show V 52 0 = 0 from rfl]; omega⟩
  clear hw1 H1
  obtain ⟨c, hc⟩ : ∃ c, c = w.heap.size := ⟨_, rfl⟩
  rw [← hc] at M1 ⊢
  clear hc
  go_wp2_with fail
  go_loopw [9, 10] (fun nw i wx => ∃ k now r : Nat, nw = .int .i64 (now : Int) ∧ i = .int .i64 (k : Int) ∧ k ≤ ss.length ∧ now ≤ k * 1000 ∧ Md w c h now r (k * 1000) wx) (fun _ i _ => ss.length - (intOf i).toNat)
  case atStart => exact ⟨0, 0, 0, rfl, rfl, Nat.zero_le _, Nat.zero_le _, M1.out⟩
  case round =>
    obtain ⟨k, now, r, rfl, rfl, hk, hnow, hm⟩ := hrel
    clear M1
    by_cases hlt : k < ss.length
    · have hlt' : (k : Int) < (ss.length : Int) := by omega
      have HM := hide' hm
      obtain ⟨x, hx⟩ : ∃ x, ss[k]? = some x := ⟨_, List.getElem?_eq_getElem hlt⟩
      rcases HI.out _ hm.bel with q | ⟨pb, po, rfl, hpb, hpc⟩
      · rw [q] at hlt; simp at hlt
      obtain ⟨y0, y1, y2⟩ := S3.cells (hpc k x hx)
      have hL := HL.out.2.1
      have hp1 := pk_lt x.t (m := 1000) (by omega)
      have hp2 := pk_lt x.n (m := 1000) (by omega)
      obtain ⟨p1, hp1e⟩ : ∃ p, pk x.t 1000 = p := ⟨_, rfl⟩
      obtain ⟨p2, hp2e⟩ : ∃ p, pk x.n 1000 = p := ⟨_, rfl⟩
      have P1 := hide' (pick_any x.t 1000 wr (by omega) (by omega))
      have P2 := hide' (pick_any x.n 1000 wr (by omega) (by omega))
      rw [hp1e] at hp1 P1
      rw [hp2e] at hp2 P2
      obtain ⟨N, hN⟩ : ∃ N, N = now + p1 := ⟨_, rfl⟩
      have hNb : N < 9223372036854775808 := by omega
      obtain ⟨r', ha, _, hr1, hr2⟩ := add_ok (k := N / h - now / h) (n := p2) hm.fin hm.hi (by omega) (by omega)
      have HC := hide' (note_ok (n := p2) (now := N) hm.mt (by omega) HL.out.1 hm.fin hNb ha)
      have hr3 : V 52 r' ≤ ((k + 1) * 1000) * Q := Nat.le_trans hr2 (Nat.mul_le_mul_right _ (by omega))
      have HE : Hid (∀ w', Mt c h N r' w' → Turn (fun j => j = c) wr w' → Md w c h N r' ((k + 1) * 1000) w') := hide' (fun w' q t => HM.out.step q t hr1 hr3)
      have HN2 := hide' (show N ≤ (k + 1) * 1000 by omega)
      have HK := hide' hlt
      have e1 := hide' (wsucN k (by omega))
      have Hms := hide' (msr' hlt _ rfl)
      have hw := wadd (a := now) (b := p1) (N := N) hN hNb
      clear hm hpc hx hL hp1 hp2 hp1e hp2e hN hNb ha hr1 hr2 hr3 hk hnow hlt HM hpb
      go_wp2_with fail
      refine P1.out.mono ?_
      rintro e w2 ⟨rfl, rfl⟩
      go_wp2_with fail
      refine P2.out.mono ?_
      rintro e w3 ⟨rfl, rfl⟩
      go_wp2_with fail
      refine HC.out.mono ?_
      rintro e w4 ⟨rfl, q4, t4⟩
      have K4 := hide' (HE.out w4 q4 t4)
      clear q4 t4 HC HE P1 P2
      go_wp2
      exact ⟨⟨k + 1, N, r', rfl, by first | rfl | (rw [e1.out]), HK.out, HN2.out, K4.out⟩, by first | exact Hms.out | (rw [e1.out]; exact Hms.out)⟩
    · obtain rfl : k = ss.length := by omega
      have HM := hide' (And.intro hnow hm)
      clear hm hnow hk hlt
      go_wp2
      go_ret3
      exact ⟨c, now, r, rfl, hide' HM.out⟩
end M
end Go.Proofs.Ytfkoacjfihaajaa
