import Derived.Test.YtddkdakelcohgaaHqS
import Derived.Test.YtddkdakelcohgaaHpR
set_option linter.unusedVariables false
set_option linter.unusedSimpArgs false
namespace Go.Proofs.Ytddkdakelcohgaa
open Go.RowKit Go.Sort
namespace HS
open Hp
variable {nf : Nat} {cb : Array Value} {lt : ByteArray → ByteArray → Bool} {A : Nat → Prop} {K : World → Prop}
variable {B h : Nat} {fv : Value} {ao : Option Addr} {cap : Nat} {zs : List (ByteArray × Nat)} {cnt : Nat} {w w' : World} {D : Nat → Prop}
set_option maxRecDepth 100000 in
theorem peek_none (H : Ho D B h fv [] cnt w) : Calls Try.prog 65 #[.pointer (some ⟨h, 0, none⟩)] w fun e w' => e = .returned (.tuple #[.string ⟨#[]⟩, .bool false]) ∧ Below w.heap.size w w' := by
  obtain ⟨ao, cap, hm, hd⟩ := H
  have c1 := hm.c1
  rw [List.length_nil] at c1
  clear hm hd
  go_enter Try.func65, Try.ntmps65
  go_wp2
  go_ret2
  exact ⟨rfl, Below.refl _ _⟩
set_option maxRecDepth 100000 in
theorem peek_some {z : ByteArray × Nat} (H : Ho D B h fv zs cnt w) (hz : zs[0]? = some z) : Calls Try.prog 65 #[.pointer (some ⟨h, 0, none⟩)] w fun e w' => e = .returned (.tuple #[.string z.1, .bool true]) ∧ Below w.heap.size w w' := by
  obtain ⟨ao, cap, hm, hd⟩ := H
  have hl : 0 < zs.length := (List.getElem?_eq_some_iff.1 hz).1
  obtain ⟨g, rfl, hc, hg, hgh⟩ := hm.some hl
  have c1 := hm.c1
  obtain ⟨x0, x1⟩ := hm.item hz
  have hl2 : ¬ ((zs.length : Int) = 0) := by omega
  have hl3 : zs.length ≠ 0 := by omega
  rw [Nat.zero_mul] at x0 x1
  clear hm hd hz
  go_enter Try.func65, Try.ntmps65
  go_wp2
  go_ret2
  exact ⟨rfl, Below.refl _ _⟩
theorem len_any (H : Ho D B h fv zs cnt w) : Calls Try.prog 28 #[.pointer (some ⟨h, 0, none⟩)] w fun e w' => e = .returned (.int .i64 (zs.length : Nat)) ∧ w' = w := by
  obtain ⟨ao, cap, hm, hd⟩ := H
  have c1 := hm.c1
  clear hm hd
  go_enter Try.func28, Try.ntmps28
  go_wp2
  go_ret
  exact ⟨rfl, rfl⟩
theorem eq_func (fn : Fn) (a b : Array Value) (w : World) : (binOp .eql 44 (.func fn a b) .nilFunc).run Try.prog w = .ok (.bool false) w := by kernel_rfl
set_option maxRecDepth 100000 in
theorem new_any (nf : Nat) (cb : Array Value) (w : World) : Calls Try.prog 18 #[.func (.func nf) #[] cb] w fun e w' => e = .returned (.pointer (some ⟨w.heap.size, 0, none⟩)) ∧ ∃ D, Ho D w.heap.size w.heap.size (.func (.func nf) #[] cb) [] 0 w' ∧ Below w.heap.size w w' := by
  have hb := (Below.refl w.heap.size w).alloc (Nat.le_refl _) (.cells #[.func (.func nf) #[] cb, .slice none 0 0, .int .i64 0] 120)
  have hm : Hid (Hm w.heap.size w.heap.size (.func (.func nf) #[] cb) none 0 [] 0 (w.alloc (.cells #[.func (.func nf) #[] cb, .slice none 0 0, .int .i64 0] 120))) := hide' ⟨heap_alloc_new _ _, World.ownsRow_nil _ _ _ _, Nat.le_refl _⟩
  have heq := eq_func
  go_enter Try.func18, Try.ntmps18
  go_wp2
  go_ret
  exact ⟨rfl, _, ⟨none, 0, hm.out, fun _ => Iff.rfl⟩, hb⟩
set_option maxRecDepth 100000 in
set_option maxHeartbeats 1000000 in
theorem sink_none (H : Hm B h fv ao cap [] cnt w) : Calls Try.prog 67 #[.pointer (some ⟨h, 0, none⟩), .int .i64 0] w fun e w' => e = .returned (.tuple #[]) ∧ w' = w := by
  have c1 := H.c1
  rw [List.length_nil] at c1
  clear H
  go_enter Try.func67, Try.ntmps67
  go_wp2_with fail
  go_loopw [1] (fun i wx => i = .int .i64 0 ∧ wx = w) (fun i _ => 0)
  case atStart => exact ⟨rfl, rfl⟩
  case round =>
    obtain ⟨rfl, rfl⟩ := hrel
    go_wp2_with fail
    go_loopw [4, 5] (fun f b wy => f = .int .i64 0 ∧ b = .int .i64 1 ∧ wy = wr) (fun _ b _ => 0)
    case atStart => exact ⟨rfl, rfl, rfl⟩
    case round =>
      obtain ⟨rfl, rfl, rfl⟩ := hrel
      go_wp2
      (try simp only [Exit.inBlock, Exit.then])
      refine bodyPost_ret (results_none rfl _ _ _) rfl ?_
      exact ⟨rfl, rfl⟩
set_option maxRecDepth 100000 in
set_option maxHeartbeats 1000000 in
theorem pop_none (H : Ho D B h fv [] cnt w) : Calls Try.prog 25 #[.pointer (some ⟨h, 0, none⟩)] w fun e w' => e = .returned (.tuple #[.string ⟨#[]⟩, .bool false]) ∧ Below w.heap.size w w' := by
  have HP := hide' (peek_none H)
  clear H
  go_enter Try.func25, Try.ntmps25
  go_wp2_with fail
  refine HP.out.mono ?_
  rintro e w1 ⟨rfl, b1⟩
  clear HP
  go_wp2
  go_ret2
  exact ⟨rfl, b1⟩
/-- the last taken away -/
theorem cut_core {g n : Nat} {us : List (ByteArray × Nat)} (H : Hm B h fv (some ⟨g, 0, none⟩) cap us cnt w) (hn : n < us.length) : Hm B h fv (some ⟨g, 0, none⟩) cap (us.take n) cnt (((w.setCell ⟨g, n * 2, none⟩ (.string ⟨#[]⟩)).setCell ⟨g, n * 2 + 1, none⟩ (.int .i64 0)).setCell ⟨h, 1, none⟩ (.slice (some ⟨g, 0, none⟩) n cap)) ∧ Turn (Own h (some ⟨g, 0, none⟩)) w (((w.setCell ⟨g, n * 2, none⟩ (.string ⟨#[]⟩)).setCell ⟨g, n * 2 + 1, none⟩ (.int .i64 0)).setCell ⟨h, 1, none⟩ (.slice (some ⟨g, 0, none⟩) n cap)) := by
  obtain ⟨h1, t1⟩ := H.put n ((⟨#[]⟩ : ByteArray), 0) hn
  change Hm B h fv (some ⟨g, 0, none⟩) cap (us.set n ((⟨#[]⟩ : ByteArray), 0)) cnt ((w.setCell ⟨g, n * 2, none⟩ (.string ⟨#[]⟩)).setCell ⟨g, n * 2 + 1, none⟩ (.int .i64 0)) at h1
  change Turn _ w ((w.setCell ⟨g, n * 2, none⟩ (.string ⟨#[]⟩)).setCell ⟨g, n * 2 + 1, none⟩ (.int .i64 0)) at t1
  generalize ((w.setCell ⟨g, n * 2, none⟩ (.string ⟨#[]⟩)).setCell ⟨g, n * 2 + 1, none⟩ (.int .i64 0)) = W at *
  have t2 : Turn (fun k => k = h) W (W.setCell ⟨h, 1, none⟩ (.slice (some ⟨g, 0, none⟩) n cap)) := (Turn.refl (fun k => k = h) W).setCell (p := ⟨h, 1, none⟩) (fun _ => rfl) _
  refine ⟨⟨?_, ?_, H.lo⟩, t1.trans (t2.mono (fun k _ e => .inl e))⟩
  · rw [List.length_take, Nat.min_eq_left (by omega)]
    exact M.set_block h1.hh
  · have r1 := own_cut h1.row (k := n) (by rw [List.length_set]; omega)
    rw [flat_take ic_len _ _ (by rw [List.length_set]; omega), List.take_set_of_le (Nat.le_refl _)] at r1
    rw [List.length_take, Nat.min_eq_left (by omega)]
    exact t2.row r1 (fun j hj e => (h1.at (M.own_at hj)).1 e)
/-- the end of a pop -/
theorem pop_end {us vs : List (ByteArray × Nat)} {w1 w2 : World} (hd : ∀ j, D j ↔ Own h ao j) (t1 : Turn (Own h ao) w w1) (S : Sift lt B h fv ao cap us vs cnt w1 w2) : To D B h fv vs cnt w w2 :=
  ⟨Own h ao, ⟨_, _, S.hm, fun j => Iff.rfl⟩, (t1.trans S.turn).mono (fun j _ q => (hd j).2 q), fun j hj => .inl ((hd j).2 hj)⟩
theorem pop_end2 {us vs : List (ByteArray × Nat)} {w1 w2 w3 : World} {b : Nat} (hd : ∀ j, D j ↔ Own h ao j) (t1 : Turn (Own h ao) w w1) (S : Sift lt B h fv ao cap us vs cnt w1 w2) (t2 : Turn (fun j => j = b) w2 w3) (hb : w.heap.size ≤ b) (hown : ∀ j, Own h ao j → j < w.heap.size) : To D B h fv vs cnt w w3 :=
  ⟨Own h ao, ⟨_, _, S.hm.kept t2 (fun j hj e => by have := hown j hj; omega), fun j => Iff.rfl⟩, ((t1.trans S.turn).mono (fun j _ q => (hd j).2 q)).then t2 (fun j hj e => by omega), fun j hj => .inl ((hd j).2 hj)⟩
end HS
end Go.Proofs.Ytddkdakelcohgaa
set_option linter.unusedVariables false
set_option linter.unusedSimpArgs false
namespace Go.Proofs.Ytddkdakelcohgaa
open Go.RowKit Go.Sort
namespace HS
open Hp
variable {nf : Nat} {cb : Array Value} {lt : ByteArray → ByteArray → Bool} {A : Nat → Prop} {K : World → Prop}
variable {B h : Nat} {fv : Value} {ao : Option Addr} {cap : Nat} {zs : List (ByteArray × Nat)} {cnt : Nat} {w w' : World} {D : Nat → Prop}
set_option maxRecDepth 100000 in
set_option maxHeartbeats 4000000 in
theorem pop_some (N : Less nf cb lt A K) {z : ByteArray × Nat} {n : Nat} (H : Ho D B h (.func (.func nf) #[] cb) zs cnt w) (hK : K w) (hA : ∀ j, A j → ¬ D j) (hn : zs.length = n + 1) (hz : zs[0]? = some z) (hl : zs.length ≤ 1099511627776) :
    Calls Try.prog 25 #[.pointer (some ⟨h, 0, none⟩)] w fun e w' => e = .returned (.tuple #[.string z.1, .bool true]) ∧ ∃ zs', (z :: zs').Perm zs ∧ (SWO lt → Heap (ahd lt) zs → Heap (ahd lt) zs') ∧ To D B h (.func (.func nf) #[] cb) zs' cnt w w' := by
  have HH := hide' H
  have HP := hide' (peek_some H hz)
  obtain ⟨ao, cap, hm, hd⟩ := H
  obtain ⟨g, rfl, hc, hg, hgh⟩ := hm.some (by omega)
  have HN := hide' N
  have HK := hide' hK
  have HA := hide' (fun j a (q : Own h (some ⟨g, 0, none⟩) j) => hA j a ((hd j).2 q))
  have Hd := hide' hd
  have Hl := hide' hl
  have Hz := hide' hz
  have Hn := hide' hn
  have Hm0 := hide' hm
  have Hcap := hide' hc
  have Hw : Hid (wrap64 (n : Int) = (n : Int)) := (show wrap64 (n : Int) = (n : Int) by unfold wrap64; omega)
  obtain ⟨zl, hzl⟩ : ∃ y, zs[n]? = some y := ⟨_, List.getElem?_eq_getElem (by omega)⟩
  have Hzl := hide' hzl
  have hwn := Hw.out
  have hcn : n + 1 ≤ cap := by omega
  have hnc : n ≤ cap := by omega
  clear N hK hA hd hl hz hzl hc
  go_enter Try.func25, Try.ntmps25
  go_wp2_with fail
  refine HP.out.mono ?_
  rintro e w1 ⟨rfl, b1⟩
  have b2' : Below w.heap.size w w1 := b1
  have hm2 := hm.kept (turn_below (S := fun _ => False) b1) (fun _ _ q => q)
  have c1 := hm2.c1
  rw [hn] at c1
  have HCs := hide' (swap_any 0 n z zl hm2 Hz.out Hzl.out)
  have Hb2 := hide' b2'
  clear hn hm HP b1 hm2 b2' HH
  go_wp2_with fail
  rw [hwn]
  refine HCs.out.mono ?_
  rintro e w3 ⟨rfl, h3, t3⟩
  clear HCs c1
  have len3 : (swp zs 0 n).length = n + 1 := by rw [swp_length]; exact Hn.out
  have c3 := h3.c1
  rw [len3] at c3
  have fh3 := h3.fx 1
  obtain ⟨y3, hy3⟩ : ∃ y, (swp zs 0 n)[n]? = some y := ⟨_, List.getElem?_eq_getElem (by omega)⟩
  obtain ⟨i0, i1⟩ := h3.item hy3
  have fr3 := h3.fr
  obtain ⟨h4, t4⟩ := cut_core h3 (n := n) (by omega)
  have t24 := t3.trans t4
  have K4 := hide' (And.intro h4 t24)
  clear h4 t24 t4 h3 t3 hy3 len3
  go_wp2_with fail
  generalize ((w3.setCell ⟨g, n * 2, none⟩ (.string ⟨#[]⟩)).setCell ⟨g, n * 2 + 1, none⟩ (.int .i64 0)).setCell ⟨h, 1, none⟩ (.slice (some ⟨g, 0, none⟩) n cap) = W4 at *
  clear c3 fh3 i0 i1 fr3
  have tW : Turn (Own h (some ⟨g, 0, none⟩)) w W4 := (turn_below Hb2.out).trans K4.out.2
  have KW4 : Hid (K W4) := HN.out.stay _ _ _ HK.out tW HA.out
  have HTW := hide' tW
  have hS : Hid (Calls Try.prog 67 #[.pointer (some ⟨h, 0, none⟩), .int .i64 0] W4 fun e w' => e = .returned (.tuple #[]) ∧ ∃ vs, Sift lt B h (.func (.func nf) #[] cb) (some ⟨g, 0, none⟩) cap ((swp zs 0 n).take n) vs cnt W4 w' ∧ (SWO lt → Sink (ahd lt) ((swp zs 0 n).take n) 0 → Heap (ahd lt) vs)) := by
    by_cases h0 : n = 0
    · subst h0
      have h5 := K4.out.1
      rw [List.take_zero] at h5
      refine (sink_none h5).mono ?_
      rintro e w' ⟨he, hw⟩
      subst hw
      rw [List.take_zero]
      exact ⟨he, [], ⟨h5, .refl _, Turn.refl _ _⟩, fun _ _ i hi0 hi => by simp at hi⟩
    · have hl5 : ((swp zs 0 n).take n).length = n := by rw [List.length_take, swp_length]; have := Hn.out; omega
      exact sink_any HN.out 0 K4.out.1 KW4.out HA.out (by omega) (by have := Hl.out; have := Hn.out; omega)
  clear tW
  refine hS.out.mono ?_
  rintro e w5 ⟨rfl, vs, S5, R5⟩
  have KK : Hid ((z :: vs).Perm zs ∧ (SWO lt → Heap (ahd lt) zs → Heap (ahd lt) vs) ∧ To D B h (.func (.func nf) #[] cb) vs cnt w w5) := hide' ⟨(List.Perm.cons z S5.perm).trans (take_perm Hn.out Hz.out), fun s r => R5 s (Sink.start r Hn.out), pop_end Hd.out HTW.out S5⟩
  clear S5 R5 hS HTW K4
  go_wp2
  go_ret2
  exact ⟨rfl, vs, KK.out.1, KK.out.2.1, KK.out.2.2⟩
end HS
end Go.Proofs.Ytddkdakelcohgaa
