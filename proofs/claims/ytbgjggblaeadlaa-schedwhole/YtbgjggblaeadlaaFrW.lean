import Derived.Test.YtbgjggblaeadlaaRp0
import Derived.Test.YtbgjggblaeadlaaFrP
set_option linter.unusedVariables false
set_option linter.unusedSimpArgs false
namespace Go.Proofs.Ytbgjggblaeadlaa
open Go.RowKit
namespace F
open C
theorem row_put {w : World} {g rc n k : Nat} {B : Nat} {zs : List Int} (h : w.ownsRow B 3 1 (.slice (some ⟨g, 0, none⟩) n rc) n (ivs zs)) (v : Int) : (w.setCell ⟨g, k, none⟩ (.int .i64 v)).ownsRow B 3 1 (.slice (some ⟨g, 0, none⟩) n rc) n (ivs (zs.set k v)) := by
  refine ⟨by rw [ivs, List.length_map, List.length_set]; have := h.1; rw [ivs, List.length_map] at this; exact this, ?_⟩
  rcases h.2 with ⟨hv, _⟩ | ⟨g', cap', cur, hv, hb, hg', h1, h2, h3, h4⟩
  · cases hv
  · simp only [Value.slice.injEq, Option.some.injEq] at hv
    obtain ⟨hv1, _, rfl⟩ := hv
    cases hv1
    refine .inr ⟨g, rc, cur.setIfInBounds k (.int .i64 v), rfl, hb, set_block hg', h1, h2, by simpa using h3, ?_⟩
    rw [Array.toList_setIfInBounds, List.take_set, h4]
    simp [ivs, List.map_set]
theorem row_int {w : World} {g rc n k : Nat} {B : Nat} {zs : List Int} (h : w.ownsRow B 3 1 (.slice (some ⟨g, 0, none⟩) n rc) n (ivs zs)) (hk : k < zs.length) : w.cell? ⟨g, k, none⟩ = some (.int .i64 (zs.getD k 0)) ∧ w.frozen? ⟨g, k, none⟩ = false ∧ B ≤ g ∧ g < w.heap.size := by
  have := row_cell h k (.int .i64 (zs.getD k 0)) (by simp [ivs, List.getD, hk])
  rw [addOff, Nat.zero_add] at this
  rcases h.2 with ⟨hv, _⟩ | ⟨g', cap', cur, hv, hb, hg', _⟩
  · cases hv
  · simp only [Value.slice.injEq, Option.some.injEq] at hv
    obtain ⟨hv1, _, _⟩ := hv
    cases hv1
    exact ⟨this, Lib.frozen_of_heap hg' k, hb, lt_of_heap hg'⟩
set_option maxRecDepth 100000 in
set_option maxHeartbeats 400000 in
theorem endOf_any (e : Int) (a : Option Addr) (n c : Nat) (hn : n ≤ 17592186044000) (w : World) : Calls Try.prog 47 #[.int .i64 e, .slice a n c] w fun r w' => r = .returned (.int .i64 (ef n e)) ∧ w' = w := by
  have e1 : wrap64 ((n : Int) - 1) = (n : Int) - 1 := wrap_in (by omega) (by omega)
  unfold ef
  clear hn
  by_cases h0 : e < 0
  · rw [if_pos (.inl h0)]
    go_enter Try.func47, Try.ntmps47
    go_wp2
    go_ret
    exact ⟨by simp [e1], rfl⟩
  · by_cases h1 : (n : Int) ≤ e
    · rw [if_pos (.inr h1)]
      go_enter Try.func47, Try.ntmps47
      go_wp2
      go_ret
      exact ⟨by simp [e1], rfl⟩
    · rw [if_neg (by omega)]
      have h1' : ¬ (e ≥ (n : Int)) := by omega
      go_enter Try.func47, Try.ntmps47
      go_wp2
      go_ret
      exact ⟨rfl, rfl⟩
/-- the state of the first loop -/
structure S1 (w : World) (ps es : List Int) (W : Int) (g now : Nat) (last : List Int) (wx : World) : Prop where
  bel : Below w.heap.size w wx
  row : wx.ownsRow w.heap.size 3 1 (.slice (some ⟨g, 0, none⟩) es.length es.length) es.length (ivs last)
  lq : Lq ps es W now last
  le : now ≤ ps.length
theorem S1.put {w wx : World} {ps es last : List Int} {W : Int} {g now : Nat} (h : S1 w ps es W g now last wx) {k : Nat} (hk : k < es.length) (hn : now < ps.length) (hl : Lq ps es W (now + 1) (last.set k now)) : S1 w ps es W g (now + 1) (last.set k now) (wx.setCell ⟨g, k, none⟩ (.int .i64 (now : Int))) :=
  ⟨h.bel.trans ((Turn.refl (fun j => j = g) wx).setCell (p := ⟨g, k, none⟩) (fun _ => rfl) _ |>.below (fun j hj => by rw [hj]; exact (row_int h.row (k := k) (by rw [h.lq.1]; exact hk)).2.2.1) h.bel.size), row_put h.row _, hl, hn⟩
theorem S1.drewN {w wx : World} {ps es last : List Int} {W : Int} {g now : Nat} (h : S1 w ps es W g now last wx) (m : Nat) : S1 w ps es W g now last (wx.drewN m) :=
  ⟨bel_drewN h.bel m, ((Turn.refl (fun _ => False) wx).drewN m).row h.row (fun _ _ q => q), h.lq, h.le⟩
theorem row_lower {w : World} {B B' : Nat} {e size n : Nat} {v : Value} {xs : List Value} (h : w.ownsRow B e size v n xs) (hb : B' ≤ B) : w.ownsRow B' e size v n xs := by
  obtain ⟨h1, h2⟩ := h
  refine ⟨h1, ?_⟩
  rcases h2 with h2 | ⟨g, cap, cur, hv, hg, rest⟩
  · exact .inl h2
  · exact .inr ⟨g, cap, cur, hv, Nat.le_trans hb hg, rest⟩
theorem getE {zs : List Int} {k : Nat} (h : k < zs.length) : zs[k]? = some (zs.getD k 0) := by simp [List.getD, h]
set_option maxRecDepth 100000 in
set_option maxHeartbeats 4000000 in
theorem fair_any (pa : Option Addr) (pc : Nat) (ps : List Int) (ea : Option Addr) (ec : Nat) (es : List Int) (W : Int) (w : World) (hp : Ints w pa ps) (he : Ints w ea es) (hpl : ps.length ≤ 17592186044000) (hel : es.length ≤ 17592186044000) :
    Calls Try.prog 28 #[.slice pa ps.length pc, .slice ea es.length ec, .int .i64 W] w fun e w' => e = .returned (.bool (fr ps es W)) ∧ Below w.heap.size w w' := by
  rcases Int.lt_or_le W 1 with hW | hW
  · rw [fr_false (fun q => by have := q.1; omega)]
    clear hp he hpl hel
    go_enter Try.func28, Try.ntmps28
    go_wp2
    go_ret
    exact ⟨rfl, Below.refl _ _⟩
  have hW' : ¬ W < 1 := by omega
  have E3 : Hid (∀ k : Nat, k < 17592186044000 → wrap64 ((k : Int) + 1) = (k : Int) + 1) := hide' (fun k hk => wrap_in (by omega) (by omega))
  have HP := hide' hp
  have HE := hide' he
  have HPL := hide' hpl
  have HEL := hide' hel
  have HW := hide' hW
  have HR := hide' (fun (o : Nat) => repeat_any (-1) w.heap.size es.length (w.alloc (.cells #[.int .i64 (-1)] 3)) (by rw [Lib.cell_of_heap (heap_alloc_new _ _)]; rfl) hel)
  have HO := hide' (fun e w => endOf_any e pa ps.length pc hpl w)
  have HS := hide' (lq_start (ps := ps) (es := es) hW)
  clear hp he hpl hel hW
  go_enter Try.func28, Try.ntmps28
  go_wp2_with fail
  refine (HR.out 0).mono ?_
  rintro e w1 ⟨g, rfl, r1, b1⟩
  have K1 : Hid (S1 w ps es W g 0 (List.replicate es.length (-1)) w1) := hide' ⟨((Below.refl w.heap.size w).alloc (Nat.le_refl _) _).trans (b1.mono (by simp)), by have := r1; exact row_lower this (by simp), HS.out, Nat.zero_le _⟩
  clear r1 b1 HR HS
  go_wp2_with fail
  go_loopw [22] (fun i wx => ∃ (now : Nat) (last : List Int), i = .int .i64 (now : Int) ∧ S1 w ps es W g now last wx) (fun i _ => ps.length - (intOf i).toNat)
  case atStart => exact ⟨0, _, rfl, K1.out⟩
  case round =>
    obtain ⟨now, last, rfl, hS⟩ := hrel
    by_cases hlt : now < ps.length
    · have hlt' : (now : Int) < (ps.length : Int) := by omega
      have e1 := E3.out now (Nat.lt_of_lt_of_le hlt HPL.out)
      have Hend := hide' (msr' hlt _ e1)
      have HpsE := hide' (getE hlt)
      rcases HP.out with q | ⟨pb, po, hpa, hpb, hpc⟩
      · rw [q] at hlt; simp at hlt
      have ip := (hS.bel.cell (p := ⟨pb, po + now, none⟩) hpb).trans (hpc now hlt)
      have Hlt := hide' hlt
      have HS := hide' hS
      obtain rfl := hpa
      generalize ps.getD now 0 = tq at *
      clear hpc hpb hS hlt
      rcases Int.lt_or_le tq 0 with h0 | h0
      · have K := hide' (show S1 w ps es W g (now + 1) last wr from ⟨HS.out.bel, HS.out.row, lq_skip HS.out.lq HpsE.out (fun k hk _ => by omega), Hlt.out⟩)
        go_wp2
        exact ⟨⟨now + 1, last, by go_num, K.out⟩, Hend.out⟩
      have h0' : ¬ tq < 0 := by omega
      rcases Int.lt_or_le tq (es.length : Int) with h1 | h1
      · obtain ⟨k, rfl⟩ : ∃ k : Nat, tq = (k : Int) := ⟨tq.toNat, by omega⟩
        have hk : k < es.length := by omega
        have h1' : ¬ ((k : Int) ≥ (es.length : Int)) := by omega
        rcases HE.out with q | ⟨eb, eo, hea, heb, hec⟩
        · rw [q] at hk; simp at hk
        have ie := (HS.out.bel.cell (p := ⟨eb, eo + k, none⟩) heb).trans (hec k hk)
        obtain rfl := hea
        have Hk := hide' hk
        clear hec heb h0 h0'
        obtain ⟨ev, hev⟩ : ∃ ev, es.getD k 0 = ev := ⟨_, rfl⟩
        rw [hev] at ie
        obtain ⟨E, hE⟩ : ∃ E, ef ps.length ev = E := ⟨_, rfl⟩
        have HEq := hide' hE
        have HEv : Hid (ef ps.length (es.getD k 0) = E) := (show _ = _ by rw [hev, hE])
        clear hE hev
        rcases Int.lt_or_le E (now : Int) with h2 | h2
        · have K := hide' (show S1 w ps es W g (now + 1) last wr from ⟨HS.out.bel, HS.out.row, lq_skip HS.out.lq HpsE.out (fun k' hk' _ => by obtain rfl : k = k' := (by omega); rw [HEv.out]; exact h2), Hlt.out⟩)
          go_wp2_with fail
          refine (HO.out _ _).mono ?_
          rintro e w2 ⟨rfl, rfl⟩
          rw [HEq.out]
          go_wp2
          exact ⟨⟨now + 1, last, by go_num, K.out⟩, Hend.out⟩
        · have h2' : ¬ ((now : Int) > E) := by omega
          obtain ⟨jl, jf, jb, jg⟩ := row_int HS.out.row (k := k) (by rw [HS.out.lq.1]; exact Hk.out)
          obtain ⟨lv, hlv⟩ : ∃ lv, last.getD k 0 = lv := ⟨_, rfl⟩
          rw [hlv] at jl
          have hlo := HS.out.lq.2 k Hk.out
          rw [hlv] at hlo
          obtain ⟨o1, o2, o3, o4, o5, o6⟩ := hlo
          have w1 : wrap64 ((now : Int) - lv) = (now : Int) - lv := wrap_in (by omega) (by have := HPL.out; omega)
          have w2 : wrap64 ((now : Int) - lv - 1) = (now : Int) - lv - 1 := wrap_in (by omega) (by have := HPL.out; omega)
          have HO1 := hide' (And.intro o1 o2)
          have HLv := hide' hlv
          clear o1 o2 o3 o4 o5 o6 hlv jb jg
          rcases Int.lt_or_le ((now : Int) - lv - 1) W with h3 | h3
          · have h3' : ¬ ((now : Int) - lv - 1 ≥ W) := by omega
            have K := hide' (HS.out.put Hk.out Hlt.out (lq_ok HS.out.lq HW.out Hk.out HpsE.out (by rw [HEv.out]; exact h2) (by rw [HLv.out]; exact h3')))
            go_wp2_with fail
            refine (HO.out _ _).mono ?_
            rintro e w2 ⟨rfl, rfl⟩
            rw [HEq.out]
            go_wp2
            exact ⟨⟨now + 1, last.set k now, by go_num, K.out⟩, Hend.out⟩
          · have h3' : ((now : Int) - lv - 1 ≥ W) := h3
            have hno := fr_false (lq_gap HS.out.lq HW.out Hk.out (top := (now : Int) - 1) (by rw [HLv.out]; omega) (by rw [HEv.out]; omega) (by omega))
            have K := hide' (And.intro hno HS.out.bel)
            clear hno
            go_wp2_with fail
            refine (HO.out _ _).mono ?_
            rintro e w2 ⟨rfl, rfl⟩
            rw [HEq.out]
            go_wp2
            go_ret
            exact ⟨by rw [K.out.1]; rfl, K.out.2⟩
      · have K := hide' (show S1 w ps es W g (now + 1) last wr from ⟨HS.out.bel, HS.out.row, lq_skip HS.out.lq HpsE.out (fun k hk hk2 => by omega), Hlt.out⟩)
        have h1' : tq ≥ (es.length : Int) := h1
        go_wp2
        exact ⟨⟨now + 1, last, by go_num, K.out⟩, Hend.out⟩
    · obtain rfl : now = ps.length := by have := hS.le; omega
      have HS := hide' hS
      clear hS hlt K1
      go_wp2_with fail
      go_loopw [62] (fun i wx => ∃ (k : Nat), i = .int .i64 (k : Int) ∧ k ≤ es.length ∧ S1 w ps es W g ps.length last wx ∧ (∀ j, j < k → ¬ W ≤ ef ps.length (es.getD j 0) - last.getD j 0)) (fun i _ => es.length - (intOf i).toNat)
      case atStart => exact ⟨0, rfl, Nat.zero_le _, HS.out, fun j hj => by omega⟩
      case round =>
        obtain ⟨k, rfl, hk, hS, hall⟩ := hrel
        clear HS
        by_cases hlt : k < es.length
        · have hlt' : (k : Int) < (es.length : Int) := by omega
          have e1 := E3.out k (Nat.lt_of_lt_of_le hlt HEL.out)
          have Hend := hide' (msr' hlt _ e1)
          rcases HE.out with q | ⟨eb, eo, hea, heb, hec⟩
          · rw [q] at hlt; simp at hlt
          have ie := (hS.bel.cell (p := ⟨eb, eo + k, none⟩) heb).trans (hec k hlt)
          obtain ⟨jl, jf, jb, jg⟩ := row_int hS.row (k := k) (by rw [hS.lq.1]; exact hlt)
          have hlo := hS.lq.2 k hlt
          have Hk := hide' hlt
          have HS := hide' hS
          have HA := hide' hall
          have hpl := HPL.out
          obtain ⟨ev, hev⟩ : ∃ ev, es.getD k 0 = ev := ⟨_, rfl⟩
          obtain ⟨lv, hlv⟩ : ∃ lv, last.getD k 0 = lv := ⟨_, rfl⟩
          rw [hlv] at jl hlo
          rw [hev] at ie
          obtain ⟨o1, o2, o3, o4, o5, o6⟩ := hlo
          have hle := ef_le ps.length (es.getD k 0)
          have hlo2 := ef_lo ps.length (es.getD k 0)
          obtain ⟨E, hE⟩ : ∃ E, ef ps.length ev = E := ⟨_, rfl⟩
          rw [hev, hE] at hle hlo2 o3
          have HEq := hide' hE
          have HEv : Hid (ef ps.length (es.getD k 0) = E) := (show _ = _ by rw [hev, hE])
          have HLv := hide' hlv
          have w1 : wrap64 (E - lv) = E - lv := wrap_in (by omega) (by omega)
          obtain rfl := hea
          have HQ : Hid (∀ w, Calls Try.prog 47 #[.int .i64 ev, .slice pa ps.length pc] w fun r w' => r = .returned (.int .i64 E) ∧ w' = w) := fun w => by have := HO.out ev w; rw [hE] at this; exact this
          clear hE hev hlv hec heb o1 o2 o3 o4 o5 o6 hle hlo2 hS hall hpl jf jb jg hk HO
          rcases Int.lt_or_le (E - lv) W with h3 | h3
          · have h3' : ¬ (E - lv ≥ W) := by omega
            have K : Hid (∀ j, j < k + 1 → ef ps.length (es.getD j 0) - last.getD j 0 < W) := hide' (fun j hj => by
              by_cases hjk : j = k
              · rw [hjk, HEv.out, HLv.out]; omega
              · exact Int.not_le.1 (HA.out j (by omega)))
            go_wp2_with fail
            go_quiet ((go_at_call 47; exact Calls.quiet_of_same (HQ.out _)))
            go_wp2
            exact ⟨⟨k + 1, by go_num, Hk.out, HS.out.drewN _, fun j hj => Int.not_le.2 (K.out j hj)⟩, Hend.out⟩
          · have h3' : E - lv ≥ W := h3
            have hno := fr_false (lq_gap HS.out.lq HW.out Hk.out (top := E) (by rw [HLv.out]; omega) (by rw [HEv.out]; omega) (by have := ef_le ps.length (es.getD k 0); rw [HEv.out] at this; omega))
            have K := hide' (And.intro hno HS.out.bel)
            clear hno
            go_wp2_with fail
            go_quiet ((go_at_call 47; exact Calls.quiet_of_same (HQ.out _)))
            go_wp2
            go_ret
            exact ⟨by rw [K.out.1]; rfl, bel_drewN K.out.2 _⟩
        · obtain rfl : k = es.length := by omega
          have K := hide' (And.intro (fr_true (lq_end hS.lq HW.out hall)) hS.bel)
          clear hS hall hlt hk
          go_wp2
          go_ret
          exact ⟨by rw [K.out.1]; rfl, K.out.2⟩
end F
end Go.Proofs.Ytbgjggblaeadlaa
