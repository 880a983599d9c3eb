import Derived.Test.YtfeehnfpfheojaaJD
import Derived.Test.YtfeehnfpfheojaaMore
set_option linter.unusedVariables false
set_option linter.unusedSimpArgs false
namespace Go.Proofs.Ytfeehnfpfheojaa
open Go.RowKit Go.Sort
namespace Ep
open Fr Ar Ra
variable {B nb x ab rb : Nat} {s : Int} {L : List Bk} {ws : List Int} {tr : List M.Ac} {D E : Nat → Prop} {cb cnt : Nat} {w w' : World}
/-- what a region holds -/
def Sx (nb ab rb y : Nat) (n : Int) (w : World) : Prop := w.cell? ⟨nb, 1, none⟩ = some (.pointer (some ⟨ab, 0, none⟩)) ∧ w.cell? ⟨nb, 2, none⟩ = some (.pointer (some ⟨rb, 0, none⟩)) ∧ w.cell? ⟨y, 2, none⟩ = some (.int .i64 n)
/-- both give the same piece back, in either order -/
theorem gives {K y : Nat} {N : Int} {Q : Nat → Prop} {w1 : World} {oc : Array Value} {ot : Nat} (a : Int) (hk : Oo.okk a) (h : Pp B nb x ab rb s L ws tr D E cb cnt w1) (hy : w1.heap[y]? = some (.cells oc ot (0, 0))) (ho : oc[2]? = some (.int .i64 N)) (ny : ¬ Qs nb D E y) (k1 : cb ≤ 1 + K * 65537) (k2 : cnt ≤ K) (k3 : tr.length ≤ K) (hq : ∀ j, Q j ↔ Qs nb D E j) (hK : K < 2000000) :
    Hid (Calls Try.prog 44 #[.pointer (some ⟨ab, 0, none⟩), .int .i64 a] w1 fun e w2 => e = .returned (.int .i64 (gE L a)) ∧ Sx nb ab rb y N w2 ∧
      Hid (Calls Try.prog 45 #[.pointer (some ⟨rb, 0, none⟩), .int .i64 a] w2 fun e w3 => e = .returned (.int .i64 (gE L a)) ∧ Sx nb ab rb y N w3 ∧ Hid (PT (K + 1) B nb Q w1 w3))) ∧
    Hid (Calls Try.prog 45 #[.pointer (some ⟨rb, 0, none⟩), .int .i64 a] w1 fun e w2 => e = .returned (.int .i64 (gE L a)) ∧ Sx nb ab rb y N w2 ∧
      Hid (Calls Try.prog 44 #[.pointer (some ⟨ab, 0, none⟩), .int .i64 a] w2 fun e w3 => e = .returned (.int .i64 (gE L a)) ∧ Sx nb ab rb y N w3 ∧ Hid (PT (K + 1) B nb Q w1 w3))) := by
  have mk : ∀ w' : World, w'.heap[nb]? = some (.cells #[.pointer (some ⟨x, 0, none⟩), .pointer (some ⟨ab, 0, none⟩), .pointer (some ⟨rb, 0, none⟩), .int .i64 (tr.length : Nat)] 78 (0, 0)) → w'.heap[y]? = some (.cells oc ot (0, 0)) → Sx nb ab rb y N w' := fun w' z1 z2 => ⟨(Lib.cell_of_heap z1 1).trans rfl, (Lib.cell_of_heap z1 2).trans rfl, (Lib.cell_of_heap z2 2).trans ho⟩
  have fin : ∀ {w3 : World} {D' : Nat → Prop} {L' : List Bk} {ws' : List Int} {cb' cnt' : Nat}, Pp B nb x ab rb s L' ws' tr D' E cb' cnt' w3 → Turn (Qs nb D E) w1 w3 → Sx nb ab rb y N w3 := fun f t => mk _ f.hn ((t.block y (lt_of_heap hy) ny).trans hy)
  refine ⟨hide' ((at_give a hk h.a (by omega)).mono ?_), hide' ((dl_give a h.d).mono ?_)⟩
  · rintro e w2 ⟨rfl, t⟩
    obtain ⟨D', z1, z2, z3, z4, z5, z6, z7⟩ := h.turnA t
    refine ⟨rfl, mk _ z3 ((z6.block y (lt_of_heap hy) (fun q => ny (.inr (.inl q)))).trans hy), hide' ?_⟩
    refine (dl_give a z2).mono ?_
    rintro e w3 ⟨rfl, f, t3⟩
    have am : Am B nb x ab rb s L (gL L a) ws (gW ws L a) tr D D' E (cb + 65537) cnt w1 w2 := ⟨z3, z1, z2, z4, z5, h.en, h.lo, z6, z7⟩
    obtain ⟨f1, f2, f3⟩ := am.fin f t3
    exact ⟨rfl, fin f1 f2, hide' ⟨Qs nb D' E, ⟨x, ab, rb, s, _, _, tr, D', E, _, _, f1, by omega, by omega, by omega, fun j => Iff.rfl⟩, f2.mono (fun j _ q => (hq j).2 q), fun j q => (f3 j q).imp (hq j).2 id⟩⟩
  · rintro e w2 ⟨rfl, f, t⟩
    have hn2 := (t.block nb (lt_of_heap h.hn) h.en).trans h.hn
    have an : An B nb x ab rb s L (gL L a) ws (gW ws L a) tr D E cb cnt w1 w2 := ⟨hn2, h.a.kept t h.de, f, h.de, h.dn, h.en, h.lo, t⟩
    refine ⟨rfl, mk _ hn2 ((t.block y (lt_of_heap hy) (fun q => ny (.inr (.inr q)))).trans hy), hide' ?_⟩
    refine (at_give a hk an.a (by omega)).mono ?_
    rintro e w3 ⟨rfl, t3⟩
    obtain ⟨D', f1, f2, f3⟩ := an.fin t3
    exact ⟨rfl, fin f1 f2, hide' ⟨Qs nb D' E, ⟨x, ab, rb, s, _, _, tr, D', E, _, _, f1, by omega, by omega, by omega, fun j => Iff.rfl⟩, f2.mono (fun j _ q => (hq j).2 q), fun j q => (f3 j q).imp (hq j).2 id⟩⟩
theorem PT.from {K : Nat} {Q : Nat → Prop} {w1 : World} (b : Below w.heap.size w w1) (h : PT K B nb Q w1 w') : PT K B nb Q w w' := by
  obtain ⟨Q', a, t, n⟩ := h
  exact ⟨Q', a, (turn_below b).trans t, fun j q => (n j q).imp id (Nat.le_trans b.size)⟩
set_option maxRecDepth 100000 in
set_option maxHeartbeats 8000000 in
theorem one2 {K : Nat} {Q : Nat → Prop} (p n v : Int) (hk : Oo.okk n) (h : Pp B nb x ab rb s L ws tr D E cb cnt w) (k1 : cb ≤ 1 + K * 65537) (k2 : cnt ≤ K) (k3 : tr.length ≤ K) (hq : ∀ j, Q j ↔ Qs nb D E j) (hK : K < 2000000) :
    Calls Try.prog 33 #[.pointer (some ⟨nb, 0, none⟩), .agg #[.int .i64 2, .int .i64 p, .int .i64 n, .int .i64 v]] w fun e w' => e = .returned (.bool true) ∧ PT (K + 1) B nb Q w w' := by
  obtain ⟨w1, y, Hw1, Hy, b1, x1, q1, o0, o2, o3, ny⟩ := at_box 2 p n v h
  have b1d : Below w.heap.size w w1.drew := b1.drew
  have q1d := h.below b1d
  obtain ⟨HA, HB⟩ := gives (N := n) n hk q1d (show w1.drew.heap[y]? = some (.cells #[.int .i64 2, .int .i64 p, .int .i64 n, .int .i64 v] 80 (0, 0)) from x1) rfl ny k1 k2 k3 hq hK
  have KB := hide' b1d
  have c1 := q1.c1
  have c2 := q1.c2
  have c1' : w1.drew.cell? ⟨nb, 1, none⟩ = some (.pointer (some ⟨ab, 0, none⟩)) := c1
  have c2' : w1.drew.cell? ⟨nb, 2, none⟩ = some (.pointer (some ⟨rb, 0, none⟩)) := c2
  have o2' : w1.drew.cell? ⟨y, 2, none⟩ = some (.int .i64 n) := o2
  clear h k1 k2 k3 hq hK hk b1 x1 q1 ny b1d q1d
  generalize gE L n = re at *
  unfold Sx at HA HB
  go_enter Try.func33, Try.ntmps33
  go_upto_region 1 with fail
  rw [← Hw1.out, ← Hy.out]
  clear Hw1 Hy
  go_wp2_with fail
  go_region_held3 (fun W => W.cell? ⟨nb, 1, none⟩ = some (.pointer (some ⟨ab, 0, none⟩)) ∧ W.cell? ⟨nb, 2, none⟩ = some (.pointer (some ⟨rb, 0, none⟩)) ∧ W.cell? ⟨y, 2, none⟩ = some (.int .i64 n)) (first | exact ⟨c1, c2, o2⟩ | exact ⟨c1', c2', o2'⟩ | exact Z | exact Z3 | go_keep) ((first | (have G := hA; go_at_call 45; refine hA.out.mono ?_; rintro e w3 ⟨rfl, Z3, KQ⟩) | (have G := hB; go_at_call 44; refine hB.out.mono ?_; rintro e w3 ⟨rfl, Z3, KQ⟩) | (go_at_call 44; refine HA.out.mono ?_; rintro e w2 ⟨rfl, Z, hA⟩) | (go_at_call 45; refine HB.out.mono ?_; rintro e w2 ⟨rfl, Z, hB⟩)))
  all_goals
    rename_i hHeld
    clear hHeld HA HB c1 c2 c1' c2' o2' o0 o2 o3
    go_wp2
    go_ret
    exact ⟨by first | rfl | simp, PT.from KB.out KQ.out⟩
end Ep
end Go.Proofs.Ytfeehnfpfheojaa
set_option linter.unusedVariables false
set_option linter.unusedSimpArgs false
namespace Go.Proofs.Ytfeehnfpfheojaa
open Go.RowKit Go.Sort
namespace Ep
open Fr Ar Ra
variable {B nb x ab rb : Nat} {s : Int} {L : List Bk} {ws : List Int} {tr : List M.Ac} {D E : Nat → Prop} {cb cnt : Nat} {w w' : World}
theorem bkA_ok {e : Int} (n : Int) (h : Cov s L e) (h0 : 0 ≤ s) (he : e ≤ 65536) (hn : -9223372036854775808 ≤ n ∧ n ≤ 9223372036854775807) : Oo.okk (bkA L n) := by
  unfold bkA
  split
  · exact Oo.okk_of hn.1 hn.2
  · rename_i hne
    obtain ⟨i, hi⟩ : ∃ i, i = (n % ((oA L).length : Int)).toNat := ⟨_, rfl⟩
    rw [← hi]
    by_cases q : i < (oA L).length
    · have hm : (oA L).getD i 0 ∈ oA L := by simp [List.getD, q]
      obtain ⟨p, hp, e1⟩ := List.mem_map.1 hm
      obtain ⟨b, hb, rfl⟩ := List.mem_map.1 hp
      have := cov_mem h b (List.mem_filter.1 hb).1
      rw [← e1]
      exact Oo.okk_of (by show -9223372036854775808 ≤ b.addr; omega) (by show b.addr ≤ 9223372036854775807; omega)
    · have : (oA L).getD i 0 = 0 := by simp [List.getD, q]
      rw [this]
      exact Oo.okk_of (by omega) (by omega)
set_option maxRecDepth 100000 in
set_option maxHeartbeats 8000000 in
theorem one3 {K : Nat} {Q : Nat → Prop} (p n v : Int) (hn : -9223372036854775808 ≤ n ∧ n ≤ 9223372036854775807) (h : Pp B nb x ab rb s L ws tr D E cb cnt w) (k1 : cb ≤ 1 + K * 65537) (k2 : cnt ≤ K) (k3 : tr.length ≤ K) (hq : ∀ j, Q j ↔ Qs nb D E j) (hK : K < 2000000) :
    Calls Try.prog 33 #[.pointer (some ⟨nb, 0, none⟩), .agg #[.int .i64 3, .int .i64 p, .int .i64 n, .int .i64 v]] w fun e w' => e = .returned (.bool true) ∧ PT (K + 1) B nb Q w w' := by
  obtain ⟨w1, y, Hw1, Hy, b1, x1, q1, o0, o2, o3, ny⟩ := at_box 3 p n v h
  have b1d : Below w.heap.size w w1.drew := b1.drew
  have q1d := h.below b1d
  have hp := h.a.pure
  have hok := bkA_ok n hp.1 hp.2.2.2.2.1 (by omega) hn
  have HC : Hid (Calls Try.prog 43 #[.pointer (some ⟨rb, 0, none⟩), .int .i64 n] w1.drew fun e w2 => e = .returned (.int .i64 (bkA L n)) ∧ Hid (Sx nb ab rb y n w2 ∧ Below w.heap.size w w2.drew ∧
      Hid (Calls Try.prog 44 #[.pointer (some ⟨ab, 0, none⟩), .int .i64 (bkA L n)] w2.drew fun e w3 => e = .returned (.int .i64 (gE L (bkA L n))) ∧ Sx nb ab rb y n w3 ∧
        Hid (Calls Try.prog 45 #[.pointer (some ⟨rb, 0, none⟩), .int .i64 (bkA L n)] w3 fun e w4 => e = .returned (.int .i64 (gE L (bkA L n))) ∧ Sx nb ab rb y n w4 ∧ Hid (PT (K + 1) B nb Q w2.drew w4))) ∧
      Hid (Calls Try.prog 45 #[.pointer (some ⟨rb, 0, none⟩), .int .i64 (bkA L n)] w2.drew fun e w3 => e = .returned (.int .i64 (gE L (bkA L n))) ∧ Sx nb ab rb y n w3 ∧
        Hid (Calls Try.prog 44 #[.pointer (some ⟨ab, 0, none⟩), .int .i64 (bkA L n)] w3 fun e w4 => e = .returned (.int .i64 (gE L (bkA L n))) ∧ Sx nb ab rb y n w4 ∧ Hid (PT (K + 1) B nb Q w2.drew w4))))) := hide' ((back_any n q1d.d).mono (by
    rintro e w2 ⟨rfl, b2⟩
    have hy2 : w2.heap[y]? = some (.cells #[.int .i64 3, .int .i64 p, .int .i64 n, .int .i64 v] 80 (0, 0)) := (b2.block y (lt_of_heap x1)).trans x1
    have bw : Below w.heap.size w w2 := b1d.trans (b2.mono b1d.size)
    have q2 := h.below bw.drew
    obtain ⟨HA, HB⟩ := gives (N := n) (w1 := w2.drew) (bkA L n) hok q2 hy2 rfl ny k1 k2 k3 hq hK
    exact ⟨rfl, hide' ⟨⟨q2.c1, q2.c2, (Lib.cell_of_heap hy2 2).trans rfl⟩, bw.drew, HA, HB⟩⟩))
  have c2 := q1.c2
  have c2' : w1.drew.cell? ⟨nb, 2, none⟩ = some (.pointer (some ⟨rb, 0, none⟩)) := c2
  have o2' : w1.drew.cell? ⟨y, 2, none⟩ = some (.int .i64 n) := o2
  clear h k1 k2 k3 hq hK hok hp hn b1 x1 q1 ny b1d q1d
  generalize bkA L n = a at *
  generalize gE L a = re at *
  go_enter Try.func33, Try.ntmps33
  go_upto_region 1 with fail
  rw [← Hw1.out, ← Hy.out]
  clear Hw1 Hy
  go_wp2_with fail
  go_region_with (refine HC.out.mono ?_; rintro e w2 ⟨rfl, HW⟩)
  all_goals
    obtain ⟨⟨d1, d2, d3⟩, hb, HA, HB⟩ := HW.out
    have KB := hide' hb
    clear HC c2 c2' o2' o0 o2 o3 HW hb d3
    have d1' : w2.drew.cell? ⟨nb, 1, none⟩ = some (.pointer (some ⟨ab, 0, none⟩)) := d1
    have d2' : w2.drew.cell? ⟨nb, 2, none⟩ = some (.pointer (some ⟨rb, 0, none⟩)) := d2
    unfold Sx at HA HB
    go_wp2_with fail
    go_region_held3 (fun W => W.cell? ⟨nb, 1, none⟩ = some (.pointer (some ⟨ab, 0, none⟩)) ∧ W.cell? ⟨nb, 2, none⟩ = some (.pointer (some ⟨rb, 0, none⟩))) (first | exact ⟨d1, d2⟩ | exact ⟨d1', d2'⟩ | exact ⟨Z.1, Z.2.1⟩ | exact ⟨Z3.1, Z3.2.1⟩ | go_keep) ((first | (have G := hA; go_at_call 45; refine hA.out.mono ?_; rintro e w3 ⟨rfl, Z3, KQ⟩) | (have G := hB; go_at_call 44; refine hB.out.mono ?_; rintro e w3 ⟨rfl, Z3, KQ⟩) | (go_at_call 44; refine HA.out.mono ?_; rintro e w5 ⟨rfl, Z, hA⟩) | (go_at_call 45; refine HB.out.mono ?_; rintro e w5 ⟨rfl, Z, hB⟩)))
    all_goals
      rename_i hHeld
      clear hHeld HA HB d1 d2 d1' d2'
      go_wp2
      go_ret
      exact ⟨by first | rfl | simp, PT.from KB.out KQ.out⟩
set_option maxRecDepth 100000 in
set_option maxHeartbeats 8000000 in
theorem one4 (p n v : Int) (h : Pp B nb x ab rb s L ws tr D E cb cnt w) :
    Calls Try.prog 33 #[.pointer (some ⟨nb, 0, none⟩), .agg #[.int .i64 4, .int .i64 p, .int .i64 n, .int .i64 v]] w fun e w' => e = .returned (.bool true) ∧ Below w.heap.size w w' := by
  obtain ⟨w1, y, Hw1, Hy, b1, x1, q1, o0, o2, o3, ny⟩ := at_box 4 p n v h
  have b1d : Below w.heap.size w w1.drew := b1.drew
  have HP : Hid (∀ W, Below w.heap.size w W → Calls Try.prog 39 #[.pointer (some ⟨ab, 0, none⟩)] W fun e w' => e = .returned (.int .i64 ((outs L).length : Nat)) ∧ w' = W) := hide' (fun W b => atl_live (h.below b).a)
  have HD : Hid (∀ W, Below w.heap.size w W → Calls Try.prog 40 #[.pointer (some ⟨rb, 0, none⟩)] W fun e w' => e = .returned (.int .i64 ((outs L).length : Nat)) ∧ (w'.cell? ⟨nb, 1, none⟩ = some (.pointer (some ⟨ab, 0, none⟩)) ∧ w'.cell? ⟨nb, 2, none⟩ = some (.pointer (some ⟨rb, 0, none⟩))) ∧ Hid (Below w.heap.size w w')) := hide' (fun W b => (dl_live (h.below b).d).mono (by
    rintro e w' ⟨rfl, b'⟩
    have bb := b.trans (b'.mono b.size)
    exact ⟨rfl, ⟨(h.below bb).c1, (h.below bb).c2⟩, hide' bb⟩))
  have KB := hide' b1d
  have c1 := q1.c1
  have c2 := q1.c2
  have c1' : w1.drew.cell? ⟨nb, 1, none⟩ = some (.pointer (some ⟨ab, 0, none⟩)) := c1
  have c2' : w1.drew.cell? ⟨nb, 2, none⟩ = some (.pointer (some ⟨rb, 0, none⟩)) := c2
  clear h b1 x1 q1 ny b1d
  generalize (outs L).length = k at *
  go_enter Try.func33, Try.ntmps33
  go_upto_region 1 with fail
  rw [← Hw1.out, ← Hy.out]
  clear Hw1 Hy
  go_wp2_with fail
  go_region_held3 (fun W => W.cell? ⟨nb, 1, none⟩ = some (.pointer (some ⟨ab, 0, none⟩)) ∧ W.cell? ⟨nb, 2, none⟩ = some (.pointer (some ⟨rb, 0, none⟩))) (first | exact ⟨c1, c2⟩ | exact ⟨c1', c2'⟩ | exact Z | go_keep) ((first | (have G := K2; go_at_call 39; refine (HP.out _ K2.out).mono ?_; rintro e w3 ⟨rfl, rfl⟩) | (go_at_call 39; refine (HP.out _ KB.out).mono ?_; rintro e w3 ⟨rfl, rfl⟩) | (go_at_call 40; refine (HD.out _ KB.out).mono ?_; rintro e w2 ⟨rfl, Z, K2⟩)))
  all_goals
    rename_i hHeld
    clear hHeld HP HD c1 c2 c1' c2' o0 o2 o3
    go_wp2
    go_ret
    exact ⟨by first | rfl | simp, K2.out⟩
set_option maxRecDepth 100000 in
set_option maxHeartbeats 8000000 in
theorem one5 (p n v : Int) (h : Pp B nb x ab rb s L ws tr D E cb cnt w) :
    Calls Try.prog 33 #[.pointer (some ⟨nb, 0, none⟩), .agg #[.int .i64 5, .int .i64 p, .int .i64 n, .int .i64 v]] w fun e w' => e = .returned (.bool true) ∧ Below w.heap.size w w' := by
  obtain ⟨w1, y, Hw1, Hy, b1, x1, q1, o0, o2, o3, ny⟩ := at_box 5 p n v h
  have b1d : Below w.heap.size w w1.drew := b1.drew
  have hl := h.d.few.1
  have HP : Hid (∀ W, Below w.heap.size w W → Calls Try.prog 37 #[.pointer (some ⟨ab, 0, none⟩)] W fun e w' => ∃ g rc, e = .returned (.slice (some ⟨g, 0, none⟩) L.length rc) ∧ (w'.cell? ⟨nb, 1, none⟩ = some (.pointer (some ⟨ab, 0, none⟩)) ∧ w'.cell? ⟨nb, 2, none⟩ = some (.pointer (some ⟨rb, 0, none⟩))) ∧ Hid (Below w.heap.size w w' ∧ Below W.heap.size W w' ∧ BkS w' (some ⟨g, 0, none⟩) L)) := hide' (fun W b => (atl_blocks (h.below b).a).mono (by
    rintro e w' ⟨g, rc, rfl, r, b'⟩
    have bb := b.trans (b'.mono b.size)
    exact ⟨g, rc, rfl, ⟨(h.below bb).c1, (h.below bb).c2⟩, hide' ⟨bb, b', BkS.of_row r⟩⟩))
  have HD : Hid (∀ W, Below w.heap.size w W → Calls Try.prog 38 #[.pointer (some ⟨rb, 0, none⟩)] W fun e w' => ∃ g rc, e = .returned (.slice (some ⟨g, 0, none⟩) L.length rc) ∧ (w'.cell? ⟨nb, 1, none⟩ = some (.pointer (some ⟨ab, 0, none⟩)) ∧ w'.cell? ⟨nb, 2, none⟩ = some (.pointer (some ⟨rb, 0, none⟩))) ∧ Hid (Below w.heap.size w w' ∧ Below W.heap.size W w' ∧ BkS w' (some ⟨g, 0, none⟩) L)) := hide' (fun W b => (dl_blocks (h.below b).d).mono (by
    rintro e w' ⟨g, rc, rfl, r, b'⟩
    have bb := b.trans (b'.mono b.size)
    exact ⟨g, rc, rfl, ⟨(h.below bb).c1, (h.below bb).c2⟩, hide' ⟨bb, b', BkS.of_row r⟩⟩))
  have HS : Hid (∀ (W : World) (g1 c1 g2 c2 : Nat), Below w.heap.size w W → W.cell? ⟨nb, 1, none⟩ = some (.pointer (some ⟨ab, 0, none⟩)) ∧ W.cell? ⟨nb, 2, none⟩ = some (.pointer (some ⟨rb, 0, none⟩)) → BkS W (some ⟨g1, 0, none⟩) L → BkS W (some ⟨g2, 0, none⟩) L → Calls Try.prog 36 #[.slice (some ⟨g1, 0, none⟩) L.length c1, .slice (some ⟨g2, 0, none⟩) L.length c2] W fun e w' => e = .returned (.bool true) ∧ (w'.cell? ⟨nb, 1, none⟩ = some (.pointer (some ⟨ab, 0, none⟩)) ∧ w'.cell? ⟨nb, 2, none⟩ = some (.pointer (some ⟨rb, 0, none⟩))) ∧ Hid (Below w.heap.size w w')) := hide' (fun W g1 c1 g2 c2 b z h1 h2 => (same_blocks h1 h2 hl).mono (by
    rintro e w' ⟨rfl, m, rfl⟩
    exact ⟨rfl, z, hide' (Ra.bel_drewN b m)⟩))
  have KB := hide' b1d
  have c1 := q1.c1
  have c2 := q1.c2
  have c1' : w1.drew.cell? ⟨nb, 1, none⟩ = some (.pointer (some ⟨ab, 0, none⟩)) := c1
  have c2' : w1.drew.cell? ⟨nb, 2, none⟩ = some (.pointer (some ⟨rb, 0, none⟩)) := c2
  clear h b1 x1 q1 ny b1d hl
  generalize L.length = k at *
  go_enter Try.func33, Try.ntmps33
  go_upto_region 1 with fail
  rw [← Hw1.out, ← Hy.out]
  clear Hw1 Hy
  go_wp2_with fail
  go_region_held3 (fun W => W.cell? ⟨nb, 1, none⟩ = some (.pointer (some ⟨ab, 0, none⟩)) ∧ W.cell? ⟨nb, 2, none⟩ = some (.pointer (some ⟨rb, 0, none⟩))) (first | exact ⟨c1, c2⟩ | exact ⟨c1', c2'⟩ | exact Z5 | exact Z4 | exact Z3 | go_keep) ((first | (go_at_call 36; first | (refine (HS.out _ _ _ _ _ KA2.out.1 Z4 (KA1.out.2.2.below KA2.out.2.1) KA2.out.2.2).mono ?_; rintro e w5 ⟨rfl, Z5, KF⟩) | (refine (HS.out _ _ _ _ _ KB2.out.1 Z4 KB2.out.2.2 (KB1.out.2.2.below KB2.out.2.1)).mono ?_; rintro e w5 ⟨rfl, Z5, KF⟩)) | (have G := KA1; go_at_call 38; refine (HD.out _ KA1.out.1).mono ?_; rintro e w4 ⟨g2, r2, rfl, Z4, KA2⟩) | (have G := KB1; go_at_call 37; refine (HP.out _ KB1.out.1).mono ?_; rintro e w4 ⟨g2, r2, rfl, Z4, KB2⟩) | (go_at_call 37; refine (HP.out _ KB.out).mono ?_; rintro e w3 ⟨g1, r1, rfl, Z3, KA1⟩) | (go_at_call 38; refine (HD.out _ KB.out).mono ?_; rintro e w3 ⟨g1, r1, rfl, Z3, KB1⟩)))
  all_goals
    rename_i hHeld
    clear hHeld HP HD HS c1 c2 c1' c2' o0 o2 o3
    go_wp2
    go_ret
    exact ⟨by first | rfl | simp, KF.out⟩
end Ep
end Go.Proofs.Ytfeehnfpfheojaa
set_option linter.unusedVariables false
set_option linter.unusedSimpArgs false
namespace Go.Proofs.Ytfeehnfpfheojaa
open Go.RowKit Go.Sort
namespace Ep
open Fr Ar Ra
variable {B nb x ab rb : Nat} {s : Int} {L : List Bk} {ws : List Int} {tr : List M.Ac} {D E : Nat → Prop} {cb cnt : Nat} {w w' : World}
/-- a word written into the memory -/
theorem at_store {k : Nat} (v : Int) (H : Atl D B ab x ws tr 0 s L cb w) (hk : k < ws.length) (hp : ws.getD k 0 ≠ M.P) (hl : tr.length < 1999999999999) : Calls Try.prog 75 #[.pointer (some ⟨x, 0, none⟩), .int .i64 (k : Int), .int .i64 v] w fun e w' => e = .returned (.int .i64 0) ∧ ∃ z, LTo D B ab x (ws.set k v) (tr ++ [z]) 0 s L cb w w' := by
  obtain ⟨F, O, cnt, ⟨DM, DF, h, bm, A, hd⟩, T, h3, h4, h5, h6⟩ := H
  have he : M.er ws (k : Int) = 0 := by
    unfold M.er
    rw [if_pos (by omega), if_neg (by rw [Int.toNat_natCast]; exact hp)]
  refine (M.store_any (k : Int) v A.mem hl).mono ?_
  rintro e w' ⟨rfl, DM', m, t, nw⟩
  rw [he]
  rw [M.put_ok he, M.bd_ok he] at m
  refine ⟨rfl, ⟨2, (k : Int), v, M.std ws k, M.good ws k⟩, Ar.Own DM' DF ab bm, ⟨F, O, cnt, ⟨DM', DF, h, bm, ?_, fun _ => Iff.rfl⟩, by rw [List.length_set]; exact T, h3, by rw [List.length_set]; exact h4, by rw [List.length_set]; exact h5, h6⟩, t.mono (fun j _ q => (hd j).2 (.inl q)), fun j hj => ?_⟩
  · exact ⟨(t.block ab (lt_of_heap A.ha) A.aa.1).trans A.ha, m, A.fr.kept t (fun j q => (A.ff q).1), A.om.kept t (fun q => (A.mf q).2.2 rfl), A.la, A.lb⟩
  · rcases hj with q | q | q | q
    · rcases nw j q with r | r
      · exact .inl ((hd j).2 (.inl r))
      · exact .inr r
    · exact .inl ((hd j).2 (.inr (.inl q)))
    · exact .inl ((hd j).2 (.inr (.inr (.inl q))))
    · exact .inl ((hd j).2 (.inr (.inr (.inr q))))
/-- behind a store in the memory: the document's word, and the count of stores -/
theorem Pp.stored {k g : Nat} {v : Int} {z : M.Ac} {of : List Int} {oo : Option Addr} {wc oc : Nat} {w2 : World} (h : Pp B nb x ab rb s L ws tr D E cb cnt w) (da : Da B rb s ws of cnt (some ⟨g, 0, none⟩) oo wc oc w) (sg : Seg of s L (of.length : Int) ∧ 0 ≤ s ∧ s < (of.length : Int) ∧ of.length = ws.length ∧ ws.length ≤ 65536 ∧ (∀ i, og of i ≤ (cnt : Int)) ∧ ∀ j, E j ↔ Ra.Own rb (some ⟨g, 0, none⟩) oo j) (t : LTo D B ab x (ws.set k v) (tr ++ [z]) 0 s L cb w w2) :
    Da B rb s ws of cnt (some ⟨g, 0, none⟩) oo wc oc w2 ∧ w2.heap[nb]? = some (.cells #[.pointer (some ⟨x, 0, none⟩), .pointer (some ⟨ab, 0, none⟩), .pointer (some ⟨rb, 0, none⟩), .int .i64 (tr.length : Nat)] 78 (0, 0)) ∧ Turn D w w2 ∧
      ∃ D', Pp B nb x ab rb s L (ws.set k v) (tr ++ [z]) D' E cb cnt ((w2.setCell ⟨g, k, none⟩ (.int .i64 v)).setCell ⟨nb, 3, none⟩ (.int .i64 ((tr.length : Int) + 1))) ∧ Turn (Qs nb D E) w ((w2.setCell ⟨g, k, none⟩ (.int .i64 v)).setCell ⟨nb, 3, none⟩ (.int .i64 ((tr.length : Int) + 1))) ∧ ∀ j, Qs nb D' E j → Qs nb D E j ∨ w.heap.size ≤ j := by
  obtain ⟨D', h1, h2, h3⟩ := t
  obtain ⟨q2, q3, q4, q5, q6, q7, q8⟩ := sg
  have elo : ∀ j, E j → j < w.heap.size := fun j q => (h.d.lo q).2
  have hde : ∀ j, E j → ¬ D j := fun j a b => h.de j b a
  have da2 := da.kept h2 (fun j q => hde j ((q8 j).2 q))
  have n2 := (h2.block nb (lt_of_heap h.hn) h.dn).trans h.hn
  have de' : ∀ j, D' j → ¬ E j := fun j q y => by
    rcases h3 j q with r | r
    · exact h.de j r y
    · have := (h.d.lo y).2; omega
  have dn' : ¬ D' nb := fun q => by
    rcases h3 nb q with r | r
    · exact h.dn r
    · have := lt_of_heap h.hn; omega
  have eg : E g := (q8 g).2 (.inr (.inl ⟨_, rfl, rfl⟩))
  have t3 := turn_one g k (.int .i64 v) w2
  have t4 := turn_one nb 3 (.int .i64 ((tr.length : Int) + 1)) (w2.setCell ⟨g, k, none⟩ (.int .i64 v))
  have da3 := (da2.setW (i := k) v).kept t4 (fun j q e => h.en (e ▸ (q8 j).2 q))
  have n3 := (t3.block nb (lt_of_heap n2) (fun e => h.en (e ▸ eg))).trans n2
  have n4 := set_block (off := 3) (v := .int .i64 ((tr.length : Int) + 1)) n3
  have a4 := (h1.kept t3 (fun j q e => de' j q (e ▸ eg))).kept t4 (fun j q e => dn' (e ▸ q))
  have hz := h2.size
  refine ⟨da2, n2, h2, D', ⟨?_, a4, ⟨of, _, oo, wc, oc, da3, q2, q3, q4, by rw [List.length_set]; exact q5, by rw [List.length_set]; exact q6, q7, q8⟩, de', dn', h.en, h.lo⟩, ?_, ?_⟩
  · rw [n4, List.length_append]
    rfl
  · exact ((h2.mono (fun j _ q => .inr (.inl q))).trans (t3.mono (fun j _ e => .inr (.inr (e ▸ eg))))).trans (t4.mono (fun j _ e => .inl e))
  · rintro j (q | q | q)
    · exact .inl (.inl q)
    · exact (h3 j q).imp (fun y => .inr (.inl y)) id
    · exact .inl (.inr (.inr q))
theorem PT.drew {K : Nat} {Q : Nat → Prop} (h : PT K B nb Q w w') : PT K B nb Q w w'.drew := by
  obtain ⟨Q', ⟨x, ab, rb, s, L, ws, tr, D, E, cb, cnt, pp, e1, e2, e3, e4⟩, t, n⟩ := h
  exact ⟨Q', ⟨x, ab, rb, s, L, ws, tr, D, E, cb, cnt, pp.below (Below.refl _ _).drew, e1, e2, e3, e4⟩, t.drew, n⟩
set_option maxRecDepth 100000 in
set_option maxHeartbeats 8000000 in
theorem one6 {K : Nat} {Q : Nat → Prop} (p n v : Int) (h : Pp B nb x ab rb s L ws tr D E cb cnt w) (k1 : cb ≤ 1 + K * 65537) (k2 : cnt ≤ K) (k3 : tr.length ≤ K) (hq : ∀ j, Q j ↔ Qs nb D E j) (hK : K < 2000000) :
    Calls Try.prog 33 #[.pointer (some ⟨nb, 0, none⟩), .agg #[.int .i64 6, .int .i64 p, .int .i64 n, .int .i64 v]] w fun e w' => e = .returned (.bool true) ∧ PT (K + 1) B nb Q w w' := by
  obtain ⟨w1, y, Hw1, Hy, b1, x1, q1, o0, o2, o3, ny⟩ := at_box 6 p n v h
  have b1d : Below w.heap.size w w1.drew := b1.drew
  obtain ⟨of, wo, oo, wc, oc, d1, d2, d3, d4, d5, d6, d7, d8⟩ := q1.d
  obtain ⟨k, hk⟩ : ∃ k : Nat, n % (ws.length : Int) = (k : Int) := ⟨(n % (ws.length : Int)).toNat, by have := Int.emod_nonneg n (show (ws.length : Int) ≠ 0 by omega); omega⟩
  have hkl : k < ws.length := by have := Int.emod_lt_of_pos n (show 0 < (ws.length : Int) by omega); omega
  obtain ⟨g, e1, g1, g2⟩ := row_at d1.rw_ hkl
  subst e1
  have hkI : (k : Int) < (ws.length : Int) := by omega
  have HI := hide' (q1.idle k1 k2 k3 hq (Below.refl w1.heap.size w1))
  have HI2 : Hid (∀ W, Below w.heap.size w W → PT (K + 1) B nb Q w W) := hide' (fun W b => h.idle k1 k2 k3 hq b)
  have HAt : Hid (Calls Try.prog 15 #[.int .i64 n, .int .i64 (ws.length : Int)] w1.drew fun e V => e = .returned (.int .i64 (k : Int)) ∧ V.cell? ⟨nb, 0, none⟩ = some (.pointer (some ⟨x, 0, none⟩)) ∧ V.cell? ⟨nb, 2, none⟩ = some (.pointer (some ⟨rb, 0, none⟩)) ∧ V.cell? ⟨rb, 1, none⟩ = some (.slice (some ⟨g, 0, none⟩) ws.length wc) ∧ V.cell? ⟨y, 3, none⟩ = some (.int .i64 v) ∧ V.cell? ⟨g, k, none⟩ = some (.int .i64 (og ws k)) ∧ Hid (Below w1.heap.size w1 V)) := hide' (by
    have := Bk.at_any n (ws.length : Int) w1.drew (by omega) (by omega)
    rw [hk] at this
    refine this.mono ?_
    rintro e V ⟨rfl, rfl⟩
    exact ⟨rfl, q1.c0, q1.c2, d1.c1, o3, g1, hide' (Below.refl _ _).drew⟩)
  have HS : Hid (og ws k ≠ M.P → ∀ W, Below w1.heap.size w1 W → Calls Try.prog 75 #[.pointer (some ⟨x, 0, none⟩), .int .i64 (k : Int), .int .i64 v] W fun e w2 => e = .returned (.int .i64 0) ∧ w2.cell? ⟨nb, 2, none⟩ = some (.pointer (some ⟨rb, 0, none⟩)) ∧ w2.cell? ⟨nb, 3, none⟩ = some (.int .i64 (tr.length : Nat)) ∧ w2.cell? ⟨y, 3, none⟩ = some (.int .i64 v) ∧ w2.cell? ⟨rb, 1, none⟩ = some (.slice (some ⟨g, 0, none⟩) ws.length wc) ∧ w2.frozen? ⟨g, k, none⟩ = false ∧ (∃ c, w2.cell? ⟨g, k, none⟩ = some c) ∧ w2.frozen? ⟨nb, 3, none⟩ = false ∧ (∀ u, (w2.setCell ⟨g, k, none⟩ u).cell? ⟨nb, 3, none⟩ = some (.int .i64 (tr.length : Nat)) ∧ (w2.setCell ⟨g, k, none⟩ u).frozen? ⟨nb, 3, none⟩ = false) ∧
      Hid (PT (K + 1) B nb Q w ((w2.setCell ⟨g, k, none⟩ (.int .i64 v)).setCell ⟨nb, 3, none⟩ (.int .i64 ((tr.length : Int) + 1))))) := hide' (fun hnp W b => by
    have qW := q1.below b
    have dW := d1.below b
    refine (at_store v qW.a hkl hnp (by omega)).mono ?_
    rintro e w2 ⟨rfl, z, t⟩
    obtain ⟨da2, n2, t2, D', pp, tt, nn⟩ := qW.stored dW ⟨d2, d3, d4, d5, d6, d7, d8⟩ t
    have yW : W.heap[y]? = some (.cells #[.int .i64 6, .int .i64 p, .int .i64 n, .int .i64 v] 80 (0, 0)) := (b.block y (lt_of_heap x1)).trans x1
    have y2 := (t2.block y (lt_of_heap yW) (fun q => ny (.inr (.inl q)))).trans yW
    obtain ⟨g', e', c', f'⟩ := row_at da2.rw_ hkl
    cases e'
    have eg : E g := (d8 g).2 (.inr (.inl ⟨_, rfl, rfl⟩))
    have n3 : ∀ u, (w2.setCell ⟨g, k, none⟩ u).heap[nb]? = _ := fun u => ((turn_one g k u w2).block nb (lt_of_heap n2) (fun e => h.en (e ▸ eg))).trans n2
    refine ⟨rfl, (Lib.cell_of_heap n2 2).trans rfl, (Lib.cell_of_heap n2 3).trans rfl, (Lib.cell_of_heap y2 3).trans rfl, da2.c1, f', ⟨_, c'⟩, Lib.frozen_of_heap n2 3, fun u => ⟨(Lib.cell_of_heap (n3 u) 3).trans rfl, Lib.frozen_of_heap (n3 u) 3⟩, hide' (PT.from (b1.trans (b.mono b1.size)) ⟨Qs nb D' E, ⟨x, ab, rb, s, L, _, _, D', E, cb, cnt, pp, cb_more k1, Nat.le_succ_of_le k2, by simpa using k3, fun _ => Iff.rfl⟩, tt.mono (fun j _ q => (hq j).2 q), fun j q => (nn j q).imp (hq j).2 id⟩)⟩)
  have KB := hide' b1
  have c0 := q1.c0
  have c2 := q1.c2
  have c2' : w1.drew.cell? ⟨nb, 2, none⟩ = some (.pointer (some ⟨rb, 0, none⟩)) := c2
  have r1 := d1.c1
  have r1' : w1.drew.cell? ⟨rb, 1, none⟩ = some (.slice (some ⟨g, 0, none⟩) ws.length wc) := r1
  have o2' : w1.drew.cell? ⟨y, 2, none⟩ = some (.int .i64 n) := o2
  have hW : Hid (wrap64 ((tr.length : Int) + 1) = (tr.length : Int) + 1) := hide' (by unfold wrap64; omega)
  clear h k1 k2 k3 hq hK b1 x1 q1 ny b1d d1 d2 d3 d4 d5 d6 d7 d8 hk
  generalize og ws k = u at *
  generalize hN : ws.length = N at *
  generalize hT : tr.length = T at *
  clear hN hT
  go_enter Try.func33, Try.ntmps33
  go_upto_region 1 with fail
  rw [← Hw1.out, ← Hy.out]
  clear Hw1 Hy
  go_wp2_with fail
  go_region_with (refine HAt.out.mono ?_; rintro e V ⟨rfl, v0, v2, v3, v4, v5, KV⟩)
  all_goals
    clear HAt o2 o2' c2' r1' o0 c0 c2 r1 o3 g1 g2
    by_cases hv : v = -4611686018427387904
    · subst hv
      go_wp2
      go_ret
      exact ⟨by first | rfl | simp, HI2.out _ (KB.out.trans (KV.out.mono KB.out.size))⟩
    · by_cases hu : u = -4611686018427387904
      · subst hu
        go_wp2
        go_ret
        exact ⟨by first | rfl | simp, HI2.out _ (KB.out.trans (KV.out.mono KB.out.size))⟩
      · have hv' : (v != -4611686018427387904) = true := by simpa using hv
        have hu' : (u != -4611686018427387904) = true := by simpa using hu
        have HC := hide' (HS.out hu V.drew KV.out.drew)
        have v0' : V.drew.cell? ⟨nb, 0, none⟩ = some (.pointer (some ⟨x, 0, none⟩)) := v0
        have v4' : V.drew.cell? ⟨y, 3, none⟩ = some (.int .i64 v) := v4
        clear HS HI HI2 hu hv KB
        go_wp2_with fail
        go_region_with (refine HC.out.mono ?_; rintro e w2 ⟨rfl, z1, z2, z3, z4, z5, z6, z7, z8, KQ⟩)
        all_goals
          clear HC v0 v0' v2 v3 v4 v4' v5 hv' hu'
          obtain ⟨y1, y2⟩ := z8 (.int .i64 v)
          obtain ⟨cz, z6⟩ := z6
          have y1' : (w2.setCell ⟨g, k, none⟩ (.int .i64 v)).drew.cell? ⟨nb, 3, none⟩ = some (.int .i64 (T : Nat)) := y1
          have y2' : (w2.setCell ⟨g, k, none⟩ (.int .i64 v)).drew.frozen? ⟨nb, 3, none⟩ = false := y2
          clear z8
          go_wp2_with fail
          go_region
          clear z1 z2 z3 z4 z5 z6 z7
          go_wp2_with fail
          go_ret
          exact ⟨by first | rfl | simp, by have := PT.drew KQ.out; rw [← hW.out] at this; exact this⟩
end Ep
end Go.Proofs.Ytfeehnfpfheojaa
set_option linter.unusedVariables false
set_option linter.unusedSimpArgs false
namespace Go.Proofs.Ytfeehnfpfheojaa
open Go.RowKit Go.Sort
namespace Ep
open Fr Ar Ra
variable {B K N nb : Nat} {Q : Nat → Prop} {w w' : World}
theorem Ps.mono {K' : Nat} (h : Ps K B nb Q w) (hk : K ≤ K') : Ps K' B nb Q w := by
  obtain ⟨x, ab, rb, s, L, ws, tr, D, E, cb, cnt, pp, e1, e2, e3, e4⟩ := h
  exact ⟨x, ab, rb, s, L, ws, tr, D, E, cb, cnt, pp, Nat.le_trans e1 (Nat.add_le_add_left (Nat.mul_le_mul_right 65537 hk) 1), Nat.le_trans e2 hk, Nat.le_trans e3 hk, e4⟩
theorem Ps.lt (h : Ps K B nb Q w) {j : Nat} (hj : Q j) : B ≤ j ∧ j < w.heap.size := by
  obtain ⟨x, ab, rb, s, L, ws, tr, D, E, cb, cnt, pp, e1, e2, e3, e4⟩ := h
  exact pp.lt ((e4 j).1 hj)
theorem Ps.kept {S : Nat → Prop} (h : Ps K B nb Q w) (t : Turn S w w') (hn : ∀ j, Q j → ¬ S j) : Ps K B nb Q w' := by
  obtain ⟨x, ab, rb, s, L, ws, tr, D, E, cb, cnt, pp, e1, e2, e3, e4⟩ := h
  exact ⟨x, ab, rb, s, L, ws, tr, D, E, cb, cnt, pp.kept t (fun j q => hn j ((e4 j).2 q)), e1, e2, e3, e4⟩
/-- any call -/
theorem one_any (k p n v : Int) (hn : -9223372036854775808 ≤ n ∧ n ≤ 9223372036854775807) (h : Ps K B nb Q w) (hK : K < 2000000) :
    Calls Try.prog 33 #[.pointer (some ⟨nb, 0, none⟩), .agg #[.int .i64 k, .int .i64 p, .int .i64 n, .int .i64 v]] w fun e w' => e = .returned (.bool true) ∧ PT (K + 1) B nb Q w w' := by
  obtain ⟨x, ab, rb, s, L, ws, tr, D, E, cb, cnt, pp, e1, e2, e3, e4⟩ := h
  have idle : ∀ {w'}, Below w.heap.size w w' → PT (K + 1) B nb Q w w' := fun b => pp.idle e1 e2 e3 e4 b
  by_cases h1 : k = 1
  · subst h1; exact one1 p n v pp e1 e2 e3 e4 hK hn.2
  by_cases h2 : k = 2
  · subst h2; exact one2 p n v (Oo.okk_of hn.1 hn.2) pp e1 e2 e3 e4 hK
  by_cases h3 : k = 3
  · subst h3; exact one3 p n v hn pp e1 e2 e3 e4 hK
  by_cases h4 : k = 4
  · subst h4; exact (one4 p n v pp).mono (fun e w' ⟨a, b⟩ => ⟨a, idle b⟩)
  by_cases h5 : k = 5
  · subst h5; exact (one5 p n v pp).mono (fun e w' ⟨a, b⟩ => ⟨a, idle b⟩)
  by_cases h6 : k = 6
  · subst h6; exact one6 p n v pp e1 e2 e3 e4 hK
  exact (one0 k p n v h1 h2 h3 h4 h5 h6 pp).mono (fun e w' ⟨a, b⟩ => ⟨a, idle b⟩)
/-- where a pair lies -/
structure Rc where
  nb : Nat
  Q : Nat → Prop
def Rc.v (r : Rc) : Value := .pointer (some ⟨r.nb, 0, none⟩)
/-- some pairs, apart, and the row of their pointers -/
structure Fa (B K N : Nat) (R : Nat → Rc) (ro : Option Addr) (rc : Nat) (w : World) : Prop where
  pn : ∀ i, i < N → Ps K B (R i).nb (R i).Q w
  dj : ∀ i, i < N → ∀ j, j < N → i ≠ j → ∀ b, (R i).Q b → ¬ (R j).Q b
  row : w.ownsRow B 76 1 (.slice ro N rc) N ((List.range N).map fun i => (R i).v)
  rq : ∀ i, i < N → ∀ b, M.At ro b → ¬ (R i).Q b
  lo : B ≤ w.heap.size
variable {R : Nat → Rc} {ro : Option Addr} {rc : Nat}
theorem Fa.kept {S : Nat → Prop} (f : Fa B K N R ro rc w) (t : Turn S w w') (h1 : ∀ i, i < N → ∀ b, (R i).Q b → ¬ S b) (h2 : ∀ b, M.At ro b → ¬ S b) : Fa B K N R ro rc w' :=
  ⟨fun i hi => (f.pn i hi).kept t (h1 i hi), f.dj, t.row f.row (fun j hj => h2 j (M.own_at hj)), f.rq, Nat.le_trans f.lo t.size⟩
theorem Fa.below (f : Fa B K N R ro rc w) (b : Below w.heap.size w w') : Fa B K N R ro rc w' := f.kept (turn_below (S := fun _ => False) b) (fun _ _ _ _ q => q) (fun _ _ q => q)
def upd (R : Nat → Rc) (p : Nat) (r : Rc) : Nat → Rc := fun i => if i = p then r else R i
theorem Fa.rlt (f : Fa B K N R ro rc w) : ∀ b, M.At ro b → b < w.heap.size := fun b hb => by
  obtain ⟨a, rfl, rfl⟩ := hb
  rcases f.row.2 with ⟨hv, _⟩ | ⟨g', cap', cur, hv, hb', hg', _⟩
  · cases hv
  · simp only [Value.slice.injEq, Option.some.injEq] at hv
    obtain ⟨rfl, _, _⟩ := hv
    exact lt_of_heap hg'
/-- one pair is asked -/
theorem Fa.step (f : Fa B K N R ro rc w) {p : Nat} (hp : p < N) (c : PT (K + 1) B (R p).nb (R p).Q w w') : ∃ R', Fa B (K + 1) N R' ro rc w' ∧ Below B w w' := by
  obtain ⟨P', k', t, hn⟩ := c
  let r : Rc := ⟨(R p).nb, P'⟩
  have e1 : upd R p r p = r := by simp [upd]
  have e2 : ∀ i, i ≠ p → upd R p r i = R i := fun i hi => by simp [upd, hi]
  have hnb : ∀ i, (upd R p r i).nb = (R i).nb := fun i => by
    by_cases e : i = p
    · subst e; rw [e1]
    · rw [e2 i e]
  have lt : ∀ i, i < N → ∀ b, (R i).Q b → b < w.heap.size := fun i hi b hb => ((f.pn i hi).lt hb).2
  have oth : ∀ i, i < N → i ≠ p → ∀ b, (R i).Q b → ¬ P' b := fun i hi e b hb q => by
    rcases hn b q with a | a
    · exact f.dj i hi p hp e b hb a
    · have := lt i hi b hb; omega
  have rlt := f.rlt
  refine ⟨upd R p r, ⟨fun i hi => ?_, fun i hi j hj e b => ?_, ?_, fun i hi b hb => ?_, Nat.le_trans f.lo t.size⟩, t.below (fun b q => ((f.pn p hp).lt q).1) f.lo⟩
  · by_cases e : i = p
    · subst e; rw [e1]; exact k'
    · rw [e2 i e]; exact ((f.pn i hi).kept t (fun b q => f.dj i hi p hp e b q)).mono (Nat.le_succ K)
  · by_cases e3 : i = p
    · have e4 : j ≠ p := fun q => e (e3.trans q.symm)
      rw [e3, e1, e2 j e4]
      exact fun q a => oth j hj e4 b a q
    · rw [e2 i e3]
      by_cases e4 : j = p
      · rw [e4, e1]; exact fun a q => oth i hi e3 b a q
      · rw [e2 j e4]; exact f.dj i hi j hj e b
  · have : (List.range N).map (fun i => (upd R p r i).v) = (List.range N).map (fun i => (R i).v) := List.map_congr_left (fun i _ => by unfold Rc.v; rw [hnb i])
    rw [this]
    exact t.row f.row (fun j hj => f.rq p hp j (M.own_at hj))
  · by_cases e : i = p
    · subst e
      rw [e1]
      intro q
      rcases hn b q with a | a
      · exact f.rq i hi b hb a
      · have := rlt b hb; omega
    · rw [e2 i e]; exact f.rq i hi b hb
/-- a pair's pointer -/
theorem Fa.ptr (f : Fa B K N R ro rc w) {p : Nat} (hp : p < N) : ∃ g, ro = some ⟨g, 0, none⟩ ∧ w.cell? ⟨g, p, none⟩ = some (.pointer (some ⟨(R p).nb, 0, none⟩)) := by
  rcases f.row.2 with ⟨_, h0⟩ | ⟨g, cap', cur, hv, hb', hg', _⟩
  · omega
  · simp only [Value.slice.injEq] at hv
    obtain ⟨rfl, _, _⟩ := hv
    refine ⟨g, rfl, ?_⟩
    rw [f.row.cellAt p (by omega)]
    simp [hp, Rc.v]
theorem Fa.one (f : Fa B K N R ro rc w) {p : Nat} (hp : p < N) (k q n v : Int) (hn : -9223372036854775808 ≤ n ∧ n ≤ 9223372036854775807) (hK : K < 2000000) : Calls Try.prog 33 #[.pointer (some ⟨(R p).nb, 0, none⟩), .agg #[.int .i64 k, .int .i64 q, .int .i64 n, .int .i64 v]] w fun e w' => e = .returned (.bool true) ∧ ∃ R', Fa B (K + 1) N R' ro rc w' ∧ Below B w w' :=
  (one_any k q n v hn (f.pn p hp) hK).mono (fun e w' ⟨a, c⟩ => ⟨a, f.step hp c⟩)
/-- a pair more, and its pointer in the row -/
theorem Fa.add (f : Fa B K N R ro rc w) {r : Rc} {w1 w2 : World} (hb : Below w.heap.size w w1) (hp : Ps K B r.nb r.Q w1) (hQ : ∀ j, r.Q j → w.heap.size ≤ j) {g cap' : Nat} (t : Turn (M.At ro) w1 w2) (hr : w2.ownsRow B 76 1 (.slice (some ⟨g, 0, none⟩) (N + 1) cap') (N + 1) ((List.range N).map (fun i => (R i).v) ++ [r.v])) (hg : M.At ro g ∨ w1.heap.size ≤ g) : Fa B K (N + 1) (upd R N r) (some ⟨g, 0, none⟩) cap' w2 := by
  have f1 := f.below hb
  have e1 : upd R N r N = r := by simp [upd]
  have e2 : ∀ i, i < N → upd R N r i = R i := fun i hi => by simp [upd, show i ≠ N by omega]
  have lt : ∀ i, i < N → ∀ b, (R i).Q b → b < w.heap.size := fun i hi b q => ((f.pn i hi).lt q).2
  have rlt := f.rlt
  have hs := hb.size
  refine ⟨fun i hi => ?_, fun i hi j hj e b => ?_, ?_, fun i hi b hb' => ?_, Nat.le_trans f1.lo t.size⟩
  · by_cases e : i = N
    · subst e; rw [e1]; exact hp.kept t (fun b q a => by have := hQ b q; have := rlt b a; omega)
    · rw [e2 i (by omega)]; exact (f1.pn i (by omega)).kept t (fun b q a => f.rq i (by omega) b a q)
  · by_cases e3 : i = N
    · have hj' : j < N := by omega
      rw [e3, e1, e2 j hj']
      exact fun q a => by have := hQ b q; have := lt j hj' b a; omega
    · have hi' : i < N := by omega
      rw [e2 i hi']
      by_cases e4 : j = N
      · rw [e4, e1]; exact fun a q => by have := hQ b q; have := lt i hi' b a; omega
      · rw [e2 j (by omega)]; exact f.dj i hi' j (by omega) e b
  · rw [List.range_succ, List.map_append]
    have : (List.range N).map (fun i => (upd R N r i).v) = (List.range N).map (fun i => (R i).v) := List.map_congr_left (fun i hi => by rw [e2 i (List.mem_range.1 hi)])
    rw [this]
    simpa [e1] using hr
  · obtain rfl : b = g := by
      obtain ⟨a, ha, e⟩ := hb'
      cases ha
      exact e
    by_cases e : i = N
    · subst e
      rw [e1]
      intro q
      rcases hg with x | x
      · have := hQ b q; have := rlt b x; omega
      · have := (hp.lt q).2; omega
    · rw [e2 i (by omega)]
      intro q
      rcases hg with x | x
      · exact f.rq i (by omega) b x q
      · have := lt i (by omega) b q; omega
theorem fa_none (B : Nat) (R : Nat → Rc) (w : World) (h : B ≤ w.heap.size) : Fa B 0 0 R none 0 w :=
  ⟨fun i hi => by omega, fun i hi => by omega, World.ownsRow_nil w B 76 1, fun i hi => by omega, h⟩
end Ep
end Go.Proofs.Ytfeehnfpfheojaa
set_option linter.unusedVariables false
set_option linter.unusedSimpArgs false
namespace Go.Proofs.Ytfeehnfpfheojaa
open Go.RowKit Go.Sort
namespace Ep
open Fr Ar Ra
theorem info76 : (Try.prog.info? 76).map (fun i => (i.zero, i.size, i.bytes)) = some (some (.pointer none), 1, 8) := by kernel_rfl
theorem mem_low {D : Nat → Prop} {B B' x : Nat} {ws : List Int} {tr : List M.Ac} {bad : Nat} {w : World} (h : M.Mem D B x ws tr bad w) (hb : B' ≤ B) : M.Mem D B' x ws tr bad w := by
  obtain ⟨h0, g, ao, cap, hm, hd⟩ := h
  exact ⟨h0, g, ao, cap, ⟨hm.hx, hm.hg, World.ownsRow.mono hm.row hb, Nat.le_trans hb hm.lx, Nat.le_trans hb hm.lg, hm.pos, hm.few, hm.nn⟩, hd⟩
/-- starts that came in -/
def Ss (w : World) (a : Option Addr) (N : Nat) (f : Nat → Int × Int) : Prop := N = 0 ∨ ∃ b off, a = some ⟨b, off, none⟩ ∧ b < w.heap.size ∧ ∀ j, j < N → w.cell? ⟨b, off + j * 2, none⟩ = some (.int .i64 (f j).1) ∧ w.cell? ⟨b, off + j * 2 + 1, none⟩ = some (.int .i64 (f j).2)
theorem Ss.below {w w' : World} {a : Option Addr} {N : Nat} {f : Nat → Int × Int} (h : Ss w a N f) (b : Below w.heap.size w w') : Ss w' a N f :=
  h.imp id (fun ⟨b0, off, h1, h2, h3⟩ => ⟨b0, off, h1, Nat.lt_of_lt_of_le h2 b.size, fun j hj => ⟨(b.cell (p := ⟨b0, off + j * 2, none⟩) h2).trans (h3 j hj).1, (b.cell (p := ⟨b0, off + j * 2 + 1, none⟩) h2).trans (h3 j hj).2⟩⟩)
theorem eq70 (w : World) (x : Nat) : (binOp .eql 70 (.pointer (some ⟨x, 0, none⟩)) (.pointer none)).run Try.prog w = .ok (.bool false) w := by kernel_rfl
theorem eq63 (w : World) (x : Nat) : (binOp .eql 63 (.pointer (some ⟨x, 0, none⟩)) (.pointer none)).run Try.prog w = .ok (.bool false) w := by kernel_rfl
theorem eq73 (w : World) (x : Nat) : (binOp .eql 73 (.pointer (some ⟨x, 0, none⟩)) (.pointer none)).run Try.prog w = .ok (.bool false) w := by kernel_rfl
theorem ne73 (w : World) (x : Nat) : (binOp .neq 73 (.pointer (some ⟨x, 0, none⟩)) (.pointer none)).run Try.prog w = .ok (.bool true) w := by kernel_rfl
/-- both sides made over a new memory: a pair, or nothing -/
theorem made_yes {m n : Nat} (hm : m < 200) (hn : n < m + 1) {B : Nat} (w : World) (hB : B ≤ w.heap.size) : Calls Try.prog 31 #[.int .i64 ((m + 1 : Nat) : Int)] w fun e w1 => ∃ x, e = .returned (.tuple #[.pointer (some ⟨x, 0, none⟩), .int .i64 0]) ∧ Hid (Below w.heap.size w w1) ∧
    Hid (Calls Try.prog 30 #[.pointer (some ⟨x, 0, none⟩), .int .i64 (n : Int)] w1 fun e w2 => ∃ ab, e = .returned (.tuple #[.pointer (some ⟨ab, 0, none⟩), .int .i64 0]) ∧ Hid (Below w.heap.size w w2) ∧
      Hid (Calls Try.prog 32 #[.int .i64 ((m + 1 : Nat) : Int), .int .i64 (n : Int)] w2 fun e w3 => ∃ rb, e = .returned (.tuple #[.pointer (some ⟨rb, 0, none⟩), .int .i64 0]) ∧
        Hid (∃ Q, Ps 0 B w3.heap.size Q (w3.alloc (.cells #[.pointer (some ⟨x, 0, none⟩), .pointer (some ⟨ab, 0, none⟩), .pointer (some ⟨rb, 0, none⟩), .int .i64 0] 78)) ∧ (∀ j, Q j → w.heap.size ≤ j) ∧ Below w.heap.size w (w3.alloc (.cells #[.pointer (some ⟨x, 0, none⟩), .pointer (some ⟨ab, 0, none⟩), .pointer (some ⟨rb, 0, none⟩), .int .i64 0] 78))))) := by
  refine (M.new_any (m + 1) w (by omega) (by omega) _ rfl).mono ?_
  rintro e w1 ⟨x, rfl, DM, m1, b1⟩
  refine ⟨x, rfl, hide' b1, hide' ?_⟩
  have m1' := mem_low m1 hB
  refine (atl_new n m1' (by rw [List.length_replicate]; omega)).mono ?_
  rintro e w2 ⟨ab, rfl, D, A, b2, hD⟩
  refine ⟨ab, rfl, hide' (b1.trans (b2.mono b1.size)), hide' ?_⟩
  have bs1 := b1.size
  have bs2 := b2.size
  refine (rnew_ok (m + 1) (n : Int) (show B ≤ w2.heap.size by omega) (by omega) (by omega) (by omega)).mono ?_
  rintro e w3 ⟨rfl, b3, E, R, hE⟩
  have bs3 := b3.size
  have b4 : Below w3.heap.size w3 (w3.alloc (.cells #[.pointer (some ⟨x, 0, none⟩), .pointer (some ⟨ab, 0, none⟩), .pointer (some ⟨w2.heap.size, 0, none⟩), .int .i64 0] 78)) := (Below.refl _ _).alloc (Nat.le_refl _) _
  have hDm : ∀ j, D j → w.heap.size ≤ j := fun j q => by
    rcases hD j q with r | r
    · exact (m1.lo r).1
    · omega
  refine ⟨w2.heap.size, rfl, hide' ⟨Qs w3.heap.size D E, ⟨x, ab, w2.heap.size, (n : Int), _, _, [], D, E, 1, 0, ⟨heap_alloc_new _ _, (A.below b3).below b4, ?_, fun j q r => ?_, fun q => ?_, fun q => ?_, by omega⟩, by omega, by omega, by simp, fun _ => Iff.rfl⟩, fun j q => ?_, ((b1.trans (b2.mono b1.size)).trans (b3.mono (by omega))).trans (b4.mono (by omega))⟩⟩
  · have := R.below b4
    rw [List.length_replicate]
    exact this
  · have := (A.lo q).2; have := hE j r; omega
  · have := (A.lo q).2; omega
  · have := (R.lo q).2; omega
  · rcases q with q | q | q
    · omega
    · exact hDm j q
    · have := hE j q; omega
theorem made_no {m : Nat} {f : Int} (hm : m < 200) (hn : f < 0 ∨ ((m + 1 : Nat) : Int) ≤ f) (w : World) : Calls Try.prog 31 #[.int .i64 ((m + 1 : Nat) : Int)] w fun e w1 => ∃ x, e = .returned (.tuple #[.pointer (some ⟨x, 0, none⟩), .int .i64 0]) ∧ Hid (Below w.heap.size w w1) ∧
    Hid (Calls Try.prog 30 #[.pointer (some ⟨x, 0, none⟩), .int .i64 f] w1 fun e w2 => e = .returned (.tuple #[.pointer none, .int .i64 3]) ∧ Hid (Below w.heap.size w w2) ∧
      Hid (Calls Try.prog 32 #[.int .i64 ((m + 1 : Nat) : Int), .int .i64 f] w2 fun e w3 => e = .returned (.tuple #[.pointer none, .int .i64 3]) ∧ Hid (Below w.heap.size w w3))) := by
  refine (M.new_any (m + 1) w (by omega) (by omega) _ rfl).mono ?_
  rintro e w1 ⟨x, rfl, DM, m1, b1⟩
  refine ⟨x, rfl, hide' b1, hide' ?_⟩
  refine (new_range f m1 (by rw [List.length_replicate]; exact hn)).mono ?_
  rintro e w2 ⟨rfl, rfl⟩
  refine ⟨rfl, hide' b1, hide' ?_⟩
  refine (rnew_bad _ f hn).mono ?_
  rintro e w3 ⟨rfl, rfl⟩
  exact ⟨rfl, hide' b1⟩
end Ep
end Go.Proofs.Ytfeehnfpfheojaa
set_option linter.unusedVariables false
set_option linter.unusedSimpArgs false
namespace Go.Proofs.Ytfeehnfpfheojaa
open Go.RowKit Go.Sort
namespace Ep
open Fr Ar Ra
variable {w w' : World}
set_option maxRecDepth 100000 in
set_option maxHeartbeats 4000000 in
/-- two lists of the same numbers are alike -/
theorem same_ints {x y : Option Addr} {xc yc : Nat} {zs : List Int} (hx : M.Ints w x zs) (hy : M.Ints w y zs) (hl : zs.length ≤ 65536) : Calls Try.prog 35 #[.slice x zs.length xc, .slice y zs.length yc] w fun r w' => r = .returned (.bool true) ∧ ∃ m, w' = w.drewN m := by
  have HX := hide' hx
  have HY := hide' hy
  have HL := hide' hl
  obtain ⟨N, hN⟩ : ∃ N, N = zs.length := ⟨_, rfl⟩
  have HN := hide' hN
  rw [← hN]
  clear hx hy hl hN
  go_enter Try.func35, Try.ntmps35
  go_wp2_with fail
  go_loopw [5] (fun z wx => ∃ k : Nat, z = .int .i64 (k : Int) ∧ k ≤ N ∧ ∃ m, wx = w.drewN m) (fun z _ => N - (intOf z).toNat)
  case atStart => exact ⟨0, rfl, Nat.zero_le _, 0, rfl⟩
  case round =>
    obtain ⟨k, rfl, hk, m, rfl⟩ := hrel
    by_cases hlt : k < N
    · have hltI : (k : Int) < (N : Int) := by omega
      have e2 : wrap64 ((k : Int) + 1) = (k : Int) + 1 := by have := HL.out; have := HN.out; unfold wrap64; omega
      have Hend := hide' (msr2 hlt _ e2)
      have hkL : k < zs.length := by rw [← HN.out]; exact hlt
      rcases HX.out with q | ⟨gx, ox, ex, lx, cx⟩
      · rw [q] at hkL; simp at hkL
      rcases HY.out with q | ⟨gy, oy, ey, ly, cy⟩
      · rw [q] at hkL; simp at hkL
      have x1 := cx k hkL
      have y1 := cy k hkL
      generalize zs.getD k 0 = p at *
      replace x1 : (w.drewN m).cell? ⟨gx, ox + k, none⟩ = some (.int .i64 p) := x1
      replace y1 : (w.drewN m).cell? ⟨gy, oy + k, none⟩ = some (.int .i64 p) := y1
      obtain rfl := ex
      obtain rfl := ey
      have K := hide' hlt
      clear hk hlt hkL cx cy lx ly HX HY
      generalize hW : w.drewN m = W at *
      go_wp2_with fail
      go_quiet (fail)
      go_wp2
      exact ⟨⟨k + 1, by rw [e2]; rfl, K.out, by rw [← hW]; exact ⟨_, World.drewN_drewN ..⟩⟩, Hend.out⟩
    · obtain rfl : k = N := by omega
      clear hk hlt
      go_wp2
      go_ret
      exact ⟨rfl, _, rfl⟩
variable {B nb x ab rb : Nat} {s : Int} {L : List Bk} {ws : List Int} {tr : List M.Ac} {D E : Nat → Prop} {cb cnt : Nat}
theorem Pp.words (h : Pp B nb x ab rb s L ws tr D E cb cnt w) : ∃ wo wc, w.cell? ⟨rb, 1, none⟩ = some (.slice wo ws.length wc) := by
  obtain ⟨of, wo, oo, wc, oc, d1, d2⟩ := h.d
  exact ⟨wo, wc, d1.c1⟩
/-- the cells that the last look reads -/
def Sc (nb x ab rb T : Nat) (wv : Value) (w : World) : Prop := w.cell? ⟨nb, 0, none⟩ = some (.pointer (some ⟨x, 0, none⟩)) ∧ w.cell? ⟨nb, 1, none⟩ = some (.pointer (some ⟨ab, 0, none⟩)) ∧ w.cell? ⟨nb, 2, none⟩ = some (.pointer (some ⟨rb, 0, none⟩)) ∧ w.cell? ⟨nb, 3, none⟩ = some (.int .i64 (T : Int)) ∧ w.cell? ⟨rb, 1, none⟩ = some wv
/-- what the last look asks -/
structure Looks (nb x ab rb N M T : Nat) (wo ro : Option Addr) (wc rc : Nat) (L : List Bk) (V : World) : Prop where
  a35 : ∀ W, Below V.heap.size V W → Calls Try.prog 35 #[.slice ro N rc, .slice wo N wc] W fun e w' => e = .returned (.bool true) ∧ Sc nb x ab rb T (.slice wo N wc) w' ∧ Hid (Below V.heap.size V w')
  a37 : ∀ W, Below V.heap.size V W → Calls Try.prog 37 #[.pointer (some ⟨ab, 0, none⟩)] W fun e w' => ∃ g rc, e = .returned (.slice (some ⟨g, 0, none⟩) M rc) ∧ Sc nb x ab rb T (.slice wo N wc) w' ∧ Hid (Below V.heap.size V w' ∧ Below W.heap.size W w' ∧ BkS w' (some ⟨g, 0, none⟩) L)
  a38 : ∀ W, Below V.heap.size V W → Calls Try.prog 38 #[.pointer (some ⟨rb, 0, none⟩)] W fun e w' => ∃ g rc, e = .returned (.slice (some ⟨g, 0, none⟩) M rc) ∧ Sc nb x ab rb T (.slice wo N wc) w' ∧ Hid (Below V.heap.size V w' ∧ Below W.heap.size W w' ∧ BkS w' (some ⟨g, 0, none⟩) L)
  a36 : ∀ (W : World) (g1 c1 g2 c2 : Nat), Below V.heap.size V W → BkS W (some ⟨g1, 0, none⟩) L → BkS W (some ⟨g2, 0, none⟩) L → Calls Try.prog 36 #[.slice (some ⟨g1, 0, none⟩) M c1, .slice (some ⟨g2, 0, none⟩) M c2] W fun e w' => e = .returned (.bool true) ∧ Sc nb x ab rb T (.slice wo N wc) w' ∧ Hid (Below V.heap.size V w')
  a39 : ∃ k : Int, (∀ W, Below V.heap.size V W → Calls Try.prog 39 #[.pointer (some ⟨ab, 0, none⟩)] W fun e w' => e = .returned (.int .i64 k) ∧ Sc nb x ab rb T (.slice wo N wc) w' ∧ Hid (Below V.heap.size V w')) ∧
    (∀ W, Below V.heap.size V W → Calls Try.prog 40 #[.pointer (some ⟨rb, 0, none⟩)] W fun e w' => e = .returned (.int .i64 k) ∧ Sc nb x ab rb T (.slice wo N wc) w' ∧ Hid (Below V.heap.size V w'))
  a41 : ∀ W, Below V.heap.size V W → Calls Try.prog 41 #[.pointer (some ⟨x, 0, none⟩)] W fun e w' => ∃ tq tc, e = .returned (.slice tq T tc) ∧ Sc nb x ab rb T (.slice wo N wc) w' ∧ Hid (Below V.heap.size V w')
  a42 : ∀ W, Below V.heap.size V W → Calls Try.prog 42 #[.pointer (some ⟨x, 0, none⟩)] W fun e w' => e = .returned (.int .i64 0) ∧ Sc nb x ab rb T (.slice wo N wc) w' ∧ Hid (Below V.heap.size V w')
theorem Pp.sc (h : Pp B nb x ab rb s L ws tr D E cb cnt w) {wo : Option Addr} {wc : Nat} (hw : w.cell? ⟨rb, 1, none⟩ = some (.slice wo ws.length wc)) (b : Below w.heap.size w w') : Sc nb x ab rb tr.length (.slice wo ws.length wc) w' := by
  obtain ⟨of, wo', oo, wc', oc, d1, d2⟩ := h.d
  have hq := h.below b
  exact ⟨hq.c0, hq.c1, hq.c2, hq.c3, (b.cell (p := ⟨rb, 1, none⟩) (lt_of_heap d1.hb)).trans hw⟩
/-- Words, and all that follows -/
theorem Pp.checks (h : Pp B nb x ab rb s L ws tr D E cb cnt w) (ht : tr.length < 2000000000000) {wo : Option Addr} {wc : Nat} (hw : w.cell? ⟨rb, 1, none⟩ = some (.slice wo ws.length wc)) :
    Calls Try.prog 34 #[.pointer (some ⟨x, 0, none⟩), .int .i64 0, .int .i64 (ws.length : Nat)] w.drew fun r V => ∃ ro rc, r = .returned (.tuple #[.slice ro ws.length rc, .int .i64 0]) ∧ Sc nb x ab rb tr.length (.slice wo ws.length wc) V ∧ Hid (Below w.heap.size w V ∧ Looks nb x ab rb ws.length L.length tr.length wo ro wc rc L V) := by
  have bd : Below w.heap.size w w.drew := (Below.refl _ _).drew
  refine (atl_words (h.below bd).a).mono ?_
  rintro e V ⟨ro, rc, rfl, hr, b⟩
  have bV := bd.trans (b.mono bd.size)
  have hV := h.below bV
  have hl := h.d.few
  obtain ⟨of, wo', oo, wc', oc, d1, d2, d3, d4, d5, d6, d7⟩ := hV.d
  obtain ⟨of0, wo0, oo0, wc0, oc0, z1, _⟩ := h.d
  have hwV : V.cell? ⟨rb, 1, none⟩ = some (.slice wo ws.length wc) := (bV.cell (p := ⟨rb, 1, none⟩) (lt_of_heap z1.hb)).trans hw
  have hww := d1.c1
  rw [hwV] at hww
  simp only [Option.some.injEq, Value.slice.injEq] at hww
  obtain ⟨rfl, _, rfl⟩ := hww
  have S : ∀ W, Below V.heap.size V W → Sc nb x ab rb tr.length (.slice wo ws.length wc) W := fun W bW => hV.sc hwV bW
  refine ⟨ro, rc, rfl, S V (Below.refl _ _), hide' ⟨bV, ⟨fun W bW => ?_, fun W bW => ?_, fun W bW => ?_, fun W g1 c1 g2 c2 bW h1 h2 => ?_, ⟨((outs L).length : Nat), fun W bW => ?_, fun W bW => ?_⟩, fun W bW => ?_, fun W bW => ?_⟩⟩⟩
  · refine (same_ints (row_ints ((turn_below (S := fun _ => False) bW).row hr (fun _ _ q => q))) (row_ints (d1.below bW).rw_) d6).mono ?_
    rintro e w' ⟨rfl, m, rfl⟩
    exact ⟨rfl, S _ (Ra.bel_drewN bW m), hide' (Ra.bel_drewN bW m)⟩
  · refine (atl_blocks (hV.below bW).a).mono ?_
    rintro e w' ⟨g, c, rfl, r, b'⟩
    have bb := bW.trans (b'.mono bW.size)
    exact ⟨g, c, rfl, S _ bb, hide' ⟨bb, b', BkS.of_row r⟩⟩
  · refine (dl_blocks (hV.below bW).d).mono ?_
    rintro e w' ⟨g, c, rfl, r, b'⟩
    have bb := bW.trans (b'.mono bW.size)
    exact ⟨g, c, rfl, S _ bb, hide' ⟨bb, b', BkS.of_row r⟩⟩
  · refine (same_blocks h1 h2 hl.1).mono ?_
    rintro e w' ⟨rfl, m, rfl⟩
    exact ⟨rfl, S _ (Ra.bel_drewN bW m), hide' (Ra.bel_drewN bW m)⟩
  · refine (atl_live (hV.below bW).a).mono ?_
    rintro e w' ⟨rfl, rfl⟩
    exact ⟨rfl, S _ bW, hide' bW⟩
  · refine (dl_live (hV.below bW).d).mono ?_
    rintro e w' ⟨rfl, b'⟩
    have bb := bW.trans (b'.mono bW.size)
    exact ⟨rfl, S _ bb, hide' bb⟩
  · obtain ⟨F, O, ct, ⟨DM, DF, hh, bm, A, hd⟩, _⟩ := (hV.below bW).a
    refine (M.trace_any A.mem ht).mono ?_
    rintro e w' ⟨tq, tc, rfl, _, b'⟩
    have bb := bW.trans (b'.mono bW.size)
    exact ⟨tq, tc, rfl, S _ bb, hide' bb⟩
  · obtain ⟨F, O, ct, ⟨DM, DF, hh, bm, A, hd⟩, _⟩ := (hV.below bW).a
    refine (M.bad_any A.mem).mono ?_
    rintro e w' ⟨rfl, rfl⟩
    exact ⟨rfl, S _ bW, hide' bW⟩
end Ep
end Go.Proofs.Ytfeehnfpfheojaa
