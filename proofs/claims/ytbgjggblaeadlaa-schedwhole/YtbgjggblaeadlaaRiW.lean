import Derived.Test.YtbgjggblaeadlaaRtW
import Derived.Test.YtbgjggblaeadlaaRnd
set_option linter.unusedVariables false
set_option linter.unusedSimpArgs false
namespace Go.Proofs.Ytbgjggblaeadlaa
open Go.RowKit
namespace X
open C F
theorem Gr.mono {B B' : Nat} {l : List Int} {ro : Option Addr} {rc : Nat} {w : World} (h : Gr B l ro rc w) (hB : B' ≤ B) : Gr B' l ro rc w := by
  refine ⟨h.row.1, ?_⟩
  rcases h.row.2 with h2 | ⟨g, cap, cur, hv, hb, rest⟩
  · exact .inl h2
  · exact .inr ⟨g, cap, cur, hv, by omega, rest⟩
theorem sm_cts {l : List Int} (h : ∀ v ∈ l, 0 ≤ v ∧ v < 64) : sm (cts l) = l.length := by
  have h1 := fz_len (cts l) 64 (by rw [cts_len]; exact Nat.le_refl _)
  rw [List.take_of_length_le (by rw [cts_len]; exact Nat.le_refl _)] at h1
  rw [← h1, (rising_perm h).length_eq]
set_option maxRecDepth 100000 in
set_option maxHeartbeats 4000000 in
theorem rising_any (a : Option Addr) (c : Nat) (l : List Int) (w : World) (hI : Ints w a l) (hl : l.length ≤ 1048576) (hv : ∀ v ∈ l, 0 ≤ v ∧ v < 64) : Calls Try.prog 60 #[.slice a l.length c] w fun e w' => ∃ ro rc, e = .returned (.slice ro (fz (cts l) 64).length rc) ∧ w'.ownsRow w.heap.size 3 1 (.slice ro (fz (cts l) 64).length rc) (fz (cts l) 64).length (ivs (fz (cts l) 64)) ∧ Below w.heap.size w w' := by
  have HI := hide' (fun w' (b : Below w.heap.size w w') => hI.below b)
  have HL := hide' (And.intro hl hv)
  obtain ⟨i0, hi, hz0, hz1, hz2⟩ := info_parts info3
  have Hi := hide' (And.intro hi (And.intro hz0 (And.intro hz1 hz2)))
  have hbl : Hid (∀ v : World, w.grownBy v none → Below w.heap.size w v) := fun v g => ⟨g.os, g.tape, g.output, g.size, fun k hk => g.block k hk (by simp)⟩
  clear hI hl hv hi hz0 hz1 hz2
  go_enter Try.func60, Try.ntmps60
  go_wp2_with (at_make; refine wpList_make_full _ rfl _ _ 23 rfl w.heap.size 3 i0 (.int .i64 0) 1 Try.underlying23 Hi.out.1 Hi.out.2.1 Hi.out.2.2.1 _ _ _ _ 64 rfl rfl rfl rfl (by rw [Hi.out.2.2.2]; omega) (by unfold maxLen; omega) (Nat.le_refl _) ?_; intro w2 r2 hg2; rw [made_ints] at r2; have E2 := hide' (And.intro r2 (hbl.out _ hg2)); clear r2 hg2)
  go_loopw [4] (fun i wx => ∃ k : Nat, i = .int .i64 (k : Int) ∧ k ≤ l.length ∧ wx.ownsRow w.heap.size 3 1 (.slice (some ⟨w.heap.size, 0, none⟩) 64 64) 64 (ivs (cts (l.take k))) ∧ Below w.heap.size w wx) (fun i _ => l.length - (intOf i).toNat)
  case atStart => exact ⟨0, rfl, Nat.zero_le _, by rw [List.take_zero, cts_nil]; exact E2.out.1, E2.out.2⟩
  case round =>
    obtain ⟨k, rfl, hk, hrow, hb⟩ := hrel
    clear E2
    by_cases hlt : k < l.length
    · have hlt' : (k : Int) < (l.length : Int) := by omega
      have e1 := hide' (wsucN k (by have := HL.out.1; omega))
      have Hend := hide' (msr' hlt _ rfl)
      have Hk := hide' hlt
      obtain ⟨b, off, ha, hbb, hc⟩ := icells (HI.out _ hb) hlt
      have ic := hc k hlt
      have hg := getD_get hlt
      obtain ⟨v0, hv0⟩ : ∃ v, l.getD k 0 = v := ⟨_, rfl⟩
      rw [hv0] at ic hg
      have hvr := HL.out.2 v0 (List.mem_of_getElem? hg)
      obtain ⟨v, rfl⟩ : ∃ v : Nat, v0 = (v : Int) := ⟨v0.toNat, by omega⟩
      have hv64 : v < 64 := by omega
      have hv64' : (v : Int) < 64 := by omega
      have hv0' : (0 : Int) ≤ (v : Int) := by omega
      obtain ⟨jl, jf, jb, jg⟩ := row_int hrow (k := v) (by rw [cts_len]; exact hv64)
      have K := row_put (k := v) hrow ((cts (l.take k)).getD v 0 + 1)
      have hta : l.take (k + 1) = l.take k ++ [(v : Int)] := by rw [List.take_add_one, hg]; rfl
      rw [cts_add _ hv64, ← hta] at K
      have hcu : (cts (l.take k)).getD v 0 ≤ 1048576 ∧ 0 ≤ (cts (l.take k)).getD v 0 := by
        rw [cts_at _ hv64]
        have := List.count_le_length (a := (v : Int)) (l := l.take k)
        rw [List.length_take] at this
        have := HL.out.1
        omega
      obtain ⟨u, hu⟩ : ∃ u, (cts (l.take k)).getD v 0 = u := ⟨_, rfl⟩
      rw [hu] at jl K hcu
      have hw : wrap64 (u + 1) = u + 1 := wrap_in (by omega) (by omega)
      have K2 := hide' (And.intro K (hb.trans ((Turn.refl (fun j => j = w.heap.size) wr).setCell (p := ⟨w.heap.size, v, none⟩) (fun _ => rfl) (.int .i64 (u + 1)) |>.below (fun j hj => by rw [hj]; exact Nat.le_refl _) hb.size)))
      have hne : b ≠ w.heap.size ∨ True := .inr trivial
      obtain rfl := ha
      clear K hrow hb hu hk jb jg hc hbb hv0 hg hvr hta hcu hlt hne
      go_wp2_with fail
      go_region
      all_goals
        rw [hw]
        have K3 : Hid ((wr.setCell ⟨w.heap.size, v, none⟩ (.int .i64 (u + 1))).drew.ownsRow w.heap.size 3 1 (.slice (some ⟨w.heap.size, 0, none⟩) 64 64) 64 (ivs (cts (l.take (k + 1)))) ∧ Below w.heap.size w (wr.setCell ⟨w.heap.size, v, none⟩ (.int .i64 (u + 1))).drew) := hide' ⟨K2.out.1.drew, K2.out.2.drew⟩
        clear ic jl jf
        go_wp2
        exact ⟨⟨k + 1, by first | rfl | (rw [e1.out]), Hk.out, by first | exact K2.out.1 | exact K3.out.1, by first | exact K2.out.2 | exact K3.out.2⟩, by first | exact Hend.out | (rw [e1.out]; exact Hend.out)⟩
    · obtain rfl : k = l.length := by omega
      rw [List.take_length] at hrow
      have hI2 : Ints wr (some ⟨w.heap.size, 0, none⟩) (cts l) := by
        have := hrow
        rw [← cts_len l] at this
        exact Ints.of_row (cap := (cts l).length) (by rw [cts_len] at this ⊢; exact this)
      have HC := hide' (rfirst_any (some ⟨w.heap.size, 0, none⟩) 64 (cts l) wr hI2 (by rw [cts_len]; exact Nat.le_refl _) (by rw [sm_cts HL.out.2]; exact HL.out.1))
      rw [cts_len] at HC
      have HB := hide' hb
      clear hrow hb hk hlt hI2
      go_wp2_with fail
      refine HC.out.mono ?_
      rintro e w3 ⟨ro, rc, rfl, r3, b3⟩
      have K3 : Hid (w3.ownsRow w.heap.size 3 1 (.slice ro (fz (cts l) 64).length rc) (fz (cts l) 64).length (ivs (fz (cts l) 64)) ∧ Below w.heap.size w w3) := hide' ⟨(Gr.mono ⟨r3⟩ HB.out.size).row, HB.out.trans (b3.mono HB.out.size)⟩
      clear r3 b3 HC
      go_wp2
      go_ret
      exact ⟨_, _, rfl, K3.out⟩
end X
end Go.Proofs.Ytbgjggblaeadlaa
