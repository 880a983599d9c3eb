import Derived.Test.YtfeehnfpfheojaaTak
import Derived.Deep.Onto
set_option linter.unusedVariables false
set_option linter.unusedSimpArgs false
namespace Go.Proofs.Ytfeehnfpfheojaa
open Go.RowKit Go.Sort
namespace Ar
open Fr
variable {DM DF D : Nat → Prop} {B ab x h bm : Nat} {ws : List Int} {tr : List M.Ac} {bad : Nat} {F : List Bk} {O : List (Int × Int)} {cnt : Nat} {w w' : World}
set_option maxRecDepth 100000 in
theorem give_no (a : Int) (hk : Oo.okk a) (H : Arn D B ab x ws tr bad F O cnt w) (hno : Oo.hasK O a = false) : Calls Try.prog 44 #[.pointer (some ⟨ab, 0, none⟩), .int .i64 a] w fun e w' => e = .returned (.int .i64 151) ∧ w' = w := by
  obtain ⟨DM, DF, h, bm, A, hD⟩ := H
  have c2 := A.c2
  have hlook := A.om.look hk
  rw [hno] at hlook
  generalize Oo.val O a = v at *
  clear A hD hno hk
  go_enter Try.func44, Try.ntmps44
  go_wp2
  go_ret
  exact ⟨rfl, rfl⟩
set_option maxRecDepth 100000 in
set_option maxHeartbeats 4000000 in
theorem give_yes (a : Int) (hk : Oo.okk a) (H : Arn D B ab x ws tr bad F O cnt w) (hyes : Oo.hasK O a = true) {F' : List Bk} (hp : F'.Perm (⟨a, Oo.val O a, true⟩ :: F)) (hl : F.length < 1099511627776) (hc : cnt < 4611686018427387904) (hv : Oo.val O a ≤ 9223372036854775807) :
    Calls Try.prog 44 #[.pointer (some ⟨ab, 0, none⟩), .int .i64 a] w fun e w' => e = .returned (.int .i64 0) ∧ ATo D B ab x (M.pfill ws a (Oo.val O a) M.P) tr bad F' (Oo.del O a) (cnt + 1) w w' := by
  obtain ⟨DM, DF, h, bm, A, hD⟩ := H
  have c2 := A.c2
  have hlook := A.om.look hk
  rw [hyes] at hlook
  obtain ⟨Dm, h1, h2, h3, h4⟩ := A.om.map
  have HA := hide' A
  have HD := hide' hD
  have Hp := hide' hp
  have Hl := hide' hl
  have Hc := hide' hc
  have Hv := hide' hv
  have Hdr := hide' (fun w1 n r1 r2 => A.om.dropped (w' := w1) (n := n) hk hyes h1 h2 h3 h4 r1 r2)
  generalize Oo.val O a = v at *
  have hkk := Oo.hkey hk
  clear A hD hyes hp hl hc hv h2 h3 h4
  go_enter Try.func44, Try.ntmps44
  go_wp2_with (at_delete; refine wpList_delete_own _ rfl _ _ 133 3 rfl 3 Oo.law Try.underlying133 _ bm _ Dm rfl h1 _ _ rfl hkk ?_; intro w1 r1 r2)
  obtain ⟨om1, t1, hsz1⟩ := Hdr.out _ _ r1 r2
  have A1 := HA.out.mapped om1 t1
  have HR := hide' (release_any a v (F' := F') A1 Hp.out Hl.out Hc.out)
  have HA1 := hide' (And.intro A1 t1)
  clear om1 t1 A1 r1 r2 hsz1 Hdr hlook c2
  refine HR.out.mono ?_
  rintro e w2 ⟨rfl, T2⟩
  obtain ⟨DF2, A2, t2, s2⟩ := HA1.out.1.freed T2
  have HPo := hide' (M.poison_any a v A2.mem Hv.out)
  have c0 := A2.c0
  have HA2 := hide' (And.intro A2 (And.intro t2 s2))
  clear A2 t2 s2 T2 HR
  go_wp2_with fail
  refine HPo.out.mono ?_
  rintro e w3 ⟨rfl, m3, t3⟩
  have KK := hide' (ato_of HD.out (HA2.out.1.worded m3 t3) (((HA1.out.2.mono (S' := Own DM DF ab bm) (fun j _ q => .inr (.inr (.inr q)))).trans (HA2.out.2.1.mono (fun j _ q => .inr (.inl q)))).trans (t3.mono (fun j _ q => .inl q))) (fun j q => by
    rcases HA2.out.2.2 j q with r | r
    · exact .inl r
    · exact .inr (Nat.le_trans HA1.out.2.size r)))
  clear m3 t3 HPo
  go_wp2
  go_ret
  exact ⟨rfl, KK.out⟩
theorem fr_mono {B' : Nat} (hb : B' ≤ B) (H : Fr DF B h F cnt w) : Fr DF B' h F cnt w := by
  obtain ⟨zs, ⟨ao, cap, hm, hd⟩, h2, h3⟩ := H
  exact ⟨zs, ⟨ao, cap, ⟨hm.hh, World.ownsRow.mono hm.row hb, Nat.le_trans hb hm.lo⟩, hd⟩, h2, h3⟩
theorem eq_nil (w : World) (x : Nat) : (binOp .eql 70 (.pointer (some ⟨x, 0, none⟩)) (.pointer none)).run Try.prog w = .ok (.bool false) w := by kernel_rfl
set_option maxRecDepth 100000 in
theorem new_nil (w : World) (n : Int) : Calls Try.prog 30 #[.pointer none, .int .i64 n] w fun e w' => e = .returned (.tuple #[.pointer none, .int .i64 2]) ∧ w' = w := by
  go_enter Try.func30, Try.ntmps30
  go_wp2
  go_ret2
  exact ⟨rfl, rfl⟩
set_option maxRecDepth 100000 in
theorem new_range (n : Int) (H : M.Mem DM B x ws tr bad w) (hn : n < 0 ∨ (ws.length : Int) ≤ n) : Calls Try.prog 30 #[.pointer (some ⟨x, 0, none⟩), .int .i64 n] w fun e w' => e = .returned (.tuple #[.pointer none, .int .i64 3]) ∧ w' = w := by
  have HL := hide' (M.len_any H)
  have he := eq_nil
  clear H
  by_cases h0 : n < 0
  · clear hn
    go_enter Try.func30, Try.ntmps30
    go_wp2
    go_ret2
    exact ⟨rfl, rfl⟩
  · have h1 : (ws.length : Int) ≤ n := by omega
    have h0' : decide (n < 0) = false := by simpa using h0
    clear hn
    go_enter Try.func30, Try.ntmps30
    go_wp2_with fail
    refine HL.out.mono ?_
    rintro e w1 ⟨rfl, hw⟩
    replace hw := hw.symm
    subst hw
    go_wp2
    go_ret2
    exact ⟨rfl, rfl⟩
set_option maxRecDepth 100000 in
set_option maxHeartbeats 4000000 in
theorem new_any (n : Nat) (H : M.Mem DM B x ws tr bad w) (hn : n < ws.length) : Calls Try.prog 30 #[.pointer (some ⟨x, 0, none⟩), .int .i64 (n : Nat)] w fun e w' => ∃ ab, e = .returned (.tuple #[.pointer (some ⟨ab, 0, none⟩), .int .i64 0]) ∧ ∃ D, Arn D B ab x ws tr bad [⟨(n : Int), (ws.length : Int) - (n : Int), true⟩] [] 1 w' ∧ Below w.heap.size w w' ∧ ∀ j, D j → DM j ∨ w.heap.size ≤ j := by
  have HL := hide' (fun w1 (b : Below w.heap.size w w1) => M.len_any (H.below b))
  have he := eq_nil
  have few := H.few
  have HBs := hide' H.base
  have HH := hide' H
  have HN := hide' (HB.new_any 73 #[] w)
  have e1 : wrap64 ((ws.length : Int) - (n : Int)) = (ws.length : Int) - (n : Int) := M.wrap_in (by omega) (by omega)
  have d0 : decide ((n : Int) < 0) = false := by simp
  have d1 : ¬ ((ws.length : Int) ≤ (n : Int)) := by omega
  clear H few hn
  go_enter Try.func30, Try.ntmps30
  go_wp2_with fail
  refine (HL.out _ (Below.refl _ _)).mono ?_
  rintro e w1 ⟨rfl, hw⟩
  replace hw := hw.symm
  subst hw
  go_wp2_with fail
  refine HN.out.mono ?_
  rintro e w2 ⟨rfl, DF, hfo, b2⟩
  have hmm := @run_makeMap Try.prog
  have hbm : Below w2.heap.size w2 (w2.alloc (.map #[] 0)) := (Below.refl _ _).alloc (Nat.le_refl _) _
  have hb3 : Below w2.heap.size w2 ((w2.alloc (.map #[] 0)).alloc (.cells #[.pointer (some ⟨x, 0, none⟩), .pointer (some ⟨w.heap.size, 0, none⟩), .map (some w2.heap.size)] 135)) := hbm.alloc (by simp) _
  have hbw : Below w.heap.size w ((w2.alloc (.map #[] 0)).alloc (.cells #[.pointer (some ⟨x, 0, none⟩), .pointer (some ⟨w.heap.size, 0, none⟩), .map (some w2.heap.size)] 135)) := b2.trans (hb3.mono b2.size)
  have hA : Ap DM DF B (w2.heap.size + 1) x w.heap.size w2.heap.size ws tr bad [] [] 0 ((w2.alloc (.map #[] 0)).alloc (.cells #[.pointer (some ⟨x, 0, none⟩), .pointer (some ⟨w.heap.size, 0, none⟩), .map (some w2.heap.size)] 135)) := by
    refine ⟨?_, HH.out.below hbw, ?_, ?_, ?_, ?_⟩
    · have := heap_alloc_new (w2.alloc (.map #[] 0)) (.cells #[.pointer (some ⟨x, 0, none⟩), .pointer (some ⟨w.heap.size, 0, none⟩), .map (some w2.heap.size)] 135)
      simpa using this
    · refine fr_mono HBs.out (Fr.Fr.below (w := w2) ⟨[], hfo, .nil, fun i h0 hi => by simp at hi⟩ hb3)
    · exact (Oo.Om.made w2).kept (turn_below (S := fun _ => False) ((Below.refl _ _).alloc (Nat.le_refl _) _)) (fun q => q)
    · have := HBs.out; have := b2.size; omega
    · have := HBs.out; have := b2.size; omega
  have HR := hide' (release_any (n : Int) ((ws.length : Int) - (n : Int)) (F' := [⟨(n : Int), (ws.length : Int) - (n : Int), true⟩]) hA (.refl _) (by simp) (by omega))
  have HA := hide' hA
  have HLn := hide' (HL.out _ hbw)
  have Hbw := hide' hbw
  have hDF : Hid (∀ j, DF j → w.heap.size ≤ j) := (fun j q => (hfo.lo q).1)
  have Hb2 := hide' b2.size
  clear hA hfo hb3 hbm hbw HN b2 HL
  go_wp2_with fail
  refine HLn.out.mono ?_
  rintro e w4 ⟨rfl, hw⟩
  replace hw := hw.symm
  subst hw
  go_wp2_with fail
  refine HR.out.mono ?_
  rintro e w5 ⟨rfl, T5⟩
  obtain ⟨DF5, A5, t5, s5⟩ := HA.out.freed T5
  have KK : Hid (Arn (Own DM DF5 (w2.heap.size + 1) w2.heap.size) B (w2.heap.size + 1) x ws tr bad [⟨(n : Int), (ws.length : Int) - (n : Int), true⟩] [] 1 w5 ∧ Below w.heap.size w w5 ∧ ∀ j, Own DM DF5 (w2.heap.size + 1) w2.heap.size j → DM j ∨ w.heap.size ≤ j) := hide'
    ⟨⟨DM, DF5, _, _, A5, fun _ => Iff.rfl⟩, Hbw.out.trans (t5.below (fun j q => hDF.out j q) Hbw.out.size), fun j hj => by
      rcases hj with q | q | q | q
      · exact .inl q
      · rcases s5 j q with r | r
        · exact .inr (hDF.out j r)
        · exact .inr (Nat.le_trans Hbw.out.size r)
      · have := Hb2.out; exact .inr (by omega)
      · have := Hb2.out; exact .inr (by omega)⟩
  clear A5 t5 s5 T5 HR HLn
  go_wp2
  go_ret2
  exact ⟨_, rfl, _, KK.out⟩
end Ar
end Go.Proofs.Ytfeehnfpfheojaa
