import Derived.Test.YtjhnlmedmpcgoaaAc3
set_option linter.unusedVariables false
set_option linter.unusedSimpArgs false
namespace Go.Proofs.Ytjhnlmedmpcgoaa
open Go.RowKit
namespace Q
open C (Tk)
variable {D U : Nat → Prop} {B K : Nat} {m : Mr} {w w' w1 : World} {s : Sq} {Db : Nat → Prop} {P E : Nat → Nat → Prop}
theorem msz {T : Nat} {j : Int} (h : j ≤ (T : Int)) (i : Int) (e : i = j + 1) : ((T : Int) + 1 - intOf (.int .i64 i)).toNat < ((T : Int) + 1 - intOf (.int .i64 j)).toNat := by
  rw [e]
  show ((T : Int) + 1 - (j + 1)).toNat < ((T : Int) + 1 - j).toNat
  omega
set_option maxRecDepth 100000 in
set_option maxHeartbeats 8000000 in
theorem whole_any (h : Tb B s Db P E w) (r : Rest K s) (hK : K < 8796093022209) :
    Calls Try.prog 23 #[.pointer (some ⟨s.t, 0, none⟩)] w fun e w' => e = .returned (.bool true) ∧ Below w.heap.size w w' := by
  have hl := r.vl
  have hN := r.kN
  have H := hide' h
  have R := hide' r
  have HK := hide' hK
  obtain ⟨N, hNN⟩ : ∃ N, N = s.vm.length := ⟨_, rfl⟩
  have HN := hide' hNN
  have HNP : Hid (N = s.MP.length) := hide' (by omega)
  have HL : Hid (N ≤ K) := hide' (by omega)
  have E3 : Hid (∀ k : Nat, k < N → wrap64 ((k : Int) + 1) = (k : Int) + 1) := hide' (fun k hk => wrap_in (by omega) (by omega))
  obtain ⟨T, hT⟩ : ∃ T, T = s.T.length := ⟨_, rfl⟩
  have HT64 : Hid (T ≤ 64) := hide' (by have := r.t64; omega)
  have HTT := hide' hT
  have HF : Hid (∀ W, Below w.heap.size w W → W.cell? ⟨s.t, 0, none⟩ = some (.pointer (some ⟨s.b, 0, none⟩)) ∧ W.cell? ⟨s.t, 1, none⟩ = some (.slice s.rm.a N s.rm.c) ∧ W.cell? ⟨s.t, 2, none⟩ = some (.slice s.rt.a T s.rt.c) ∧ W.cell? ⟨s.t, 3, none⟩ = some (.int .i64 (s.dn : Nat))) := hide' (fun W b => by
    have z := h.below b
    refine ⟨z.c 0, ?_, ?_, z.c 3⟩
    · rw [hNN]; exact z.c 1
    · rw [hT]; exact z.c 2)
  have HE : Hid (∀ (j : Int) W, Below w.heap.size w W → Calls Try.prog 35 #[.pointer (some ⟨s.b, 0, none⟩), .int .i64 j] W fun e w' => e = .returned (.int .i64 (eT s.T j)) ∧ w' = W) := hide' (fun j W b => by rw [← r.ends]; exact C.ended_any j (h.below b).bo)
  have HD : Hid (∀ (j : Int) W, Below w.heap.size w W → Calls Try.prog 44 #[.pointer (some ⟨s.t, 1, none⟩), .int .i64 j] W fun e w' => e = .returned (.int .i64 (eT s.T j)) ∧ w' = W) := hide' (fun j W b => rended_any j (h.below b))
  have HNw : Hid (∀ W, Below w.heap.size w W → Calls Try.prog 36 #[.pointer (some ⟨s.b, 0, none⟩)] W fun e w' => e = .returned (.int .i64 (s.dn : Nat)) ∧ w' = W) := hide' (fun W b => by rw [← r.nw]; exact C.now_any (h.below b).bo)
  have lt := h.lt
  clear h r hK hl hN hNN hT
  go_enter Try.func23, Try.ntmps23
  go_wp2_with fail
  go_loopw [3] (fun i wx => ∃ k : Nat, i = .int .i64 (k : Int) ∧ k ≤ N ∧ ∃ V, V = wx ∧ Below w.heap.size w V) (fun i _ => N - (intOf i).toNat)
  case atStart => exact ⟨0, rfl, Nat.zero_le _, _, rfl, Below.refl _ _⟩
  case round =>
    obtain ⟨k, rfl, hk, wx, rfl, hb⟩ := hrel
    obtain ⟨c0, c1, c2, c3⟩ := HF.out wx hb
    by_cases hlt : k < N
    · have hlt' : (k : Int) < (N : Int) := by omega
      have e1 := E3.out k hlt
      have Hend := hide' (msr' hlt _ e1)
      have z := H.out.below hb
      obtain ⟨L, gm, db, da, dc, q1, q2, q3, l1, l2, HT⟩ := times_same (z.below (Below.refl wx.heap.size wx).drew) R.out (show k < s.MP.length by rw [← HNP.out]; exact hlt) HK.out
      rw [← HN.out] at q1
      have q1' : wx.cell? ⟨s.t, 1, none⟩ = some (.slice (some ⟨gm, 0, none⟩) N s.rm.c) := q1
      have q2' : wx.cell? ⟨gm, k, none⟩ = some (.pointer (some ⟨db, 0, none⟩)) := q2
      have q3' : wx.cell? ⟨db, 2, none⟩ = some (.slice da L dc) := q3
      have ltx := z.lt
      have HT2 : Hid (Calls Try.prog 45 #[.pointer (some ⟨s.t, 0, none⟩), .int .i64 (k : Int)] wx.drew fun e w2 => ∃ ro rc, e = .returned (.slice ro L rc) ∧ (w2.cell? ⟨s.t, 1, none⟩ = some (.slice (some ⟨gm, 0, none⟩) N s.rm.c) ∧ w2.cell? ⟨gm, k, none⟩ = some (.pointer (some ⟨db, 0, none⟩)) ∧ w2.cell? ⟨db, 2, none⟩ = some (.slice da L dc)) ∧ Hid (Calls Try.prog 20 #[.slice ro L rc, .slice da L dc] w2 fun e w3 => e = .returned (.bool true) ∧ (w3.cell? ⟨s.t, 1, none⟩ = some (.slice (some ⟨gm, 0, none⟩) N s.rm.c) ∧ w3.cell? ⟨gm, k, none⟩ = some (.pointer (some ⟨db, 0, none⟩)) ∧ w3.cell? ⟨db, 2, none⟩ = some (.slice da L dc)) ∧ Hid (Below w.heap.size w w3))) := hide' (HT.mono (by
        rintro e w2 ⟨ro, rc, rfl, b, c⟩
        refine ⟨ro, rc, rfl, ⟨(b.out.cell (p := ⟨s.t, 1, none⟩) ltx).trans q1, (b.out.cell (p := ⟨gm, k, none⟩) l1).trans q2, (b.out.cell (p := ⟨db, 2, none⟩) l2).trans q3⟩, hide' (c.out.mono ?_)⟩
        rintro e w3 ⟨rfl, b⟩
        exact ⟨rfl, ⟨(b.out.cell (p := ⟨s.t, 1, none⟩) ltx).trans q1, (b.out.cell (p := ⟨gm, k, none⟩) l1).trans q2, (b.out.cell (p := ⟨db, 2, none⟩) l2).trans q3⟩, hide' (hb.drew.trans (b.out.mono hb.size))⟩))
      have Hk := hide' hlt
      clear c0 c1 c2 c3 z HT ltx l1 l2 hb hk
      have cN : wx.cell? ⟨s.t, 1, none⟩ = some (.slice (some ⟨gm, 0, none⟩) N s.rm.c) := q1
      go_wp2_with fail
      go_region_held3 (fun W => W.cell? ⟨s.t, 1, none⟩ = some (.slice (some ⟨gm, 0, none⟩) N s.rm.c) ∧ W.cell? ⟨gm, k, none⟩ = some (.pointer (some ⟨db, 0, none⟩)) ∧ W.cell? ⟨db, 2, none⟩ = some (.slice da L dc)) (first | exact ⟨q1', q2', q3'⟩ | exact ⟨q1, q2, q3⟩ | exact Z | exact Z3 | go_keep) ((first | (go_at_call 45; refine HT2.out.mono ?_; rintro e w2 ⟨ro, rc, rfl, Z, HS⟩) | (go_at_call 20; refine HS.out.mono ?_; rintro e w3 ⟨rfl, Z3, KB⟩)))
      rename_i hHeld
      clear hHeld Z Z3 q1 q2 q3 q1' q2' q3' cN HS HT2
      go_wp2
      exact ⟨⟨k + 1, by go_num, Hk.out, _, rfl, KB.out⟩, Hend.out⟩
    · obtain rfl : k = N := by omega
      have HB := hide' hb
      clear hb hk hlt
      go_wp2_with fail
      go_loopw [5] (fun i wy => ∃ j : Int, i = .int .i64 j ∧ (-1 ≤ j ∧ j ≤ (T : Int) + 1) ∧ ∃ V, V = wy ∧ Below w.heap.size w V) (fun i _ => ((T : Int) + 1 - intOf i).toNat)
      case atStart => exact ⟨-1, rfl, ⟨by omega, by omega⟩, _, rfl, HB.out⟩
      case round =>
        obtain ⟨j, rfl, hj, wy, rfl, hb2⟩ := hrel
        obtain ⟨d0, d1, d2, d3⟩ := HF.out wy hb2
        have HB2 := hide' hb2
        by_cases hlt : j ≤ (T : Int)
        · have e1 : wrap64 (j + 1) = j + 1 := wrap_in (by omega) (by have := HT64.out; omega)
          have Hend := hide' (msz hlt _ e1)
          have Hj := hide' (And.intro hj hlt)
          obtain ⟨v, hv⟩ : ∃ v, eT s.T j = v := ⟨_, rfl⟩
          have HA := HE.out j
          have HA2 := HD.out j
          rw [hv] at HA HA2
          have HA := hide' HA
          have HA2 := hide' HA2
          clear c0 c1 c2 c3 d1 d3 hj hb2 hv
          go_wp2_with fail
          go_quiet ((first | (go_at_call 35; exact Calls.quiet_of_same (HA.out _ (by first | exact HB2.out | exact bel_drewN HB2.out _))) | (go_at_call 44; exact Calls.quiet_of_same (HA2.out _ (by first | exact HB2.out | exact bel_drewN HB2.out _)))))
          go_wp2
          exact ⟨⟨j + 1, by first | rfl | go_num, ⟨by have := Hj.out; omega, by have := Hj.out; omega⟩, _, rfl, bel_drewN HB2.out _⟩, Hend.out⟩
        · have hlt' : (T : Int) < j := by omega
          clear c0 c1 c2 c3 d1 hj hb2
          generalize s.dn = dn at *
          go_wp2_with fail
          go_quiet ((go_at_call 36; exact Calls.quiet_of_same (HNw.out _ (by first | exact HB2.out | exact bel_drewN HB2.out _))))
          go_wp2
          go_ret
          exact ⟨by simp, bel_drewN HB2.out _⟩
end Q
end Go.Proofs.Ytjhnlmedmpcgoaa
