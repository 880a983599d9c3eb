import Derived.Test.YthkmcponnlnpeaaAnP
import Derived.Test.YthkmcponnlnpeaaSumP
import Derived.IntWalk
set_option linter.unusedVariables false
set_option linter.unusedSimpArgs false
namespace Go.Proofs.Ythkmcponnlnpeaa
open Go.RowKit Go.Sort
namespace An
/-- how often a thing is in -/
def cf (zs : List (Int × Nat)) (j : Nat) : Nat := (zs.map (·.1)).count (j : Int)
def cs (zs : List (Int × Nat)) : Array Value := ((List.range 8).map fun j => Value.int .i64 (cf zs j : Nat)).toArray
theorem cs_at (zs : List (Int × Nat)) {j : Nat} (h : j < 8) : (cs zs)[j]? = some (.int .i64 (cf zs j : Nat)) := by simp [cs, h]
theorem cs_set (zs zs' : List (Int × Nat)) {j v : Nat} (h : j < 8) (hv : ∀ i, i < 8 → cf zs' i = if i = j then v else cf zs i) : (cs zs).setIfInBounds j (.int .i64 (v : Nat)) = cs zs' := by
  apply Array.ext_getElem?
  intro i
  rw [Array.getElem?_setIfInBounds]
  by_cases hi : i < 8
  · rw [cs_at zs' hi, hv i hi]
    by_cases e : j = i
    · subst e; simp [cs, hi]
    · rw [if_neg e, if_neg (fun q => e q.symm), cs_at zs hi]
  · have h1 : (cs zs')[i]? = none := by simp [cs, hi]
    rw [h1]
    by_cases e : j = i
    · omega
    · rw [if_neg e]; simp [cs, hi]
/-- the state of the loop -/
structure Sn (w0 : World) (Bq h b7 : Nat) (ta : Option Addr) (tcap : Nat) (tbl : List Bool) (zs : List (Int × Nat)) (cnt : Nat) (D : Nat → Prop) (wx : World) : Prop where
  hp : HI.Ho D Bq h (.func (.func 52) #[] #[.pointer (some ⟨w0.heap.size, 0, none⟩)]) zs cnt wx
  kt : KT w0.heap.size ta tcap tbl wx
  box : wx.heap[b7]? = some (.cells (cs zs) 102 (0, 0))
  rng : ∀ z ∈ zs, 0 ≤ z.1 ∧ z.1 ≤ 7
  bel : Below w0.heap.size w0 wx
  lb : w0.heap.size < b7
  lq : w0.heap.size < Bq
  at_ : ∀ j, AT w0.heap.size ta tbl j → j ≤ w0.heap.size
variable {w0 : World} {Bq h b7 : Nat} {ta : Option Addr} {tcap : Nat} {tbl : List Bool} {zs : List (Int × Nat)} {cnt : Nat} {D : Nat → Prop} {wx : World}
theorem Sn.apart (S : Sn w0 Bq h b7 ta tcap tbl zs cnt D wx) : ∀ j, AT w0.heap.size ta tbl j → ¬ D j := fun j a q => by
  have := S.at_ j a
  have := (S.hp.lo q).1
  have := S.lq
  omega
theorem Sn.nbox (S : Sn w0 Bq h b7 ta tcap tbl zs cnt D wx) : ¬ D b7 := S.hp.not S.box (by decide) (by decide)
/-- the heap has turned, then the box's cell -/
theorem Sn.step (hl : tbl.length ≤ 1048576) {zs' : List (Int × Nat)} {cnt' j v : Nat} {w1 : World} (S : Sn w0 Bq h b7 ta tcap tbl zs cnt D wx) (T : HI.To D Bq h (.func (.func 52) #[] #[.pointer (some ⟨w0.heap.size, 0, none⟩)]) zs' cnt' wx w1) (hj : j < 8) (hv : ∀ i, i < 8 → cf zs' i = if i = j then v else cf zs i) (hr : ∀ z ∈ zs', 0 ≤ z.1 ∧ z.1 ≤ 7) :
    ∃ D', Sn w0 Bq h b7 ta tcap tbl zs' cnt' D' (w1.setCell ⟨b7, j, none⟩ (.int .i64 (v : Nat))) := by
  have nb := S.nbox
  have ap := S.apart
  have lb := S.lb
  obtain ⟨D', h', t, s⟩ := T
  have k1 : w1.heap[b7]? = some (.cells (cs zs) 102 (0, 0)) := (t.block b7 (lt_of_heap S.box) nb).trans S.box
  have kt1 : KT w0.heap.size ta tcap tbl w1 := (less52 hl).stay D wx w1 S.kt t ap
  have t2 : Turn (fun i => i = b7) w1 (w1.setCell ⟨b7, j, none⟩ (.int .i64 (v : Nat))) := (Turn.refl (fun i => i = b7) w1).setCell (p := ⟨b7, j, none⟩) (fun _ => rfl) _
  have b1 : Below w0.heap.size w0 w1 := S.bel.trans (t.below (fun i q => by have := (S.hp.lo q).1; have := S.lq; omega) S.bel.size)
  refine ⟨D', h'.kept t2 (fun i q e => by subst e; exact h'.not k1 (by decide) (by decide) q), (less52 hl).stay _ _ _ kt1 t2 (fun i a e => by have := S.at_ i a; omega), ?_, hr, b1.trans (t2.below (fun i e => by omega) b1.size), lb, S.lq, S.at_⟩
  rw [← cs_set zs zs' hj hv]
  exact M.set_block k1
theorem cf_push {zs' : List (Int × Nat)} {x : Int} {c j : Nat} (hx : x = (j : Int)) (p : zs'.Perm (zs ++ [(x, c)])) : ∀ i, cf zs' i = if i = j then cf zs j + 1 else cf zs i := by
  intro i
  unfold cf
  rw [(p.map (·.1)).count_eq, List.map_append, List.count_append, hx]
  by_cases e : i = j
  · subst e; simp
  · rw [if_neg e]
    have : ((j : Int) == (i : Int)) = false := by simp; omega
    simp [List.count_cons, this]
theorem cf_pop {zs' : List (Int × Nat)} {z : Int × Nat} {j : Nat} (hz : z.1 = (j : Int)) (p : (z :: zs').Perm zs) : 0 < cf zs j ∧ ∀ i, cf zs' i = if i = j then cf zs j - 1 else cf zs i := by
  have h : ∀ i : Nat, cf zs i = cf zs' i + (if i = j then 1 else 0) := by
    intro i
    unfold cf
    rw [← (p.map (·.1)).count_eq, List.map_cons, hz, List.count_cons]
    by_cases e : i = j
    · subst e; simp
    · rw [if_neg e]
      have : ((j : Int) == (i : Int)) = false := by simp; omega
      simp [this]
  refine ⟨by have := h j; rw [if_pos rfl] at this; omega, fun i => ?_⟩
  have := h i
  by_cases e : i = j
  · subst e; rw [if_pos rfl] at this ⊢; omega
  · rw [if_neg e] at this ⊢; omega
theorem cf_has {z : Int × Nat} {j : Nat} (hz : z.1 = (j : Int)) (hm : z ∈ zs) : 0 < cf zs j := by
  unfold cf
  rw [List.count_pos_iff]
  rw [← hz]
  exact List.mem_map_of_mem hm
theorem and7 (v : Int) : ∃ j : Nat, j < 8 ∧ bits .and .i64 v 7 = (j : Int) := by
  have h : (BitVec.ofInt 64 v &&& BitVec.ofInt 64 7).toNat < 8 := by
    rw [BitVec.toNat_and]
    exact Nat.lt_of_le_of_lt Nat.and_le_right (by decide)
  refine ⟨_, h, ?_⟩
  unfold bits
  show IntKind.i64.wrap ((BitVec.ofInt 64 v &&& BitVec.ofInt 64 7).toNat : Int) = _
  generalize (BitVec.ofInt 64 v &&& BitVec.ofInt 64 7).toNat = n at *
  simp only [IntKind.wrap_i64]
  omega
theorem cf_le (zs : List (Int × Nat)) (j : Nat) : cf zs j ≤ zs.length := by
  unfold cf
  have := List.count_le_length (a := (j : Int)) (l := zs.map (·.1))
  simpa using this
theorem cell_box {w : World} {b j : Nat} (hb : w.heap[b]? = some (.cells (cs zs) 102 (0, 0))) (hj : j < 8) : w.cell? ⟨b, j, none⟩ = some (.int .i64 (cf zs j : Nat)) := (Lib.cell_of_heap hb j).trans (cs_at zs hj)
theorem Sn.below {w1 : World} (hl : tbl.length ≤ 1048576) (S : Sn w0 Bq h b7 ta tcap tbl zs cnt D wx) (b : Below wx.heap.size wx w1) : Sn w0 Bq h b7 ta tcap tbl zs cnt D w1 := by
  have t : Turn (fun _ => False) wx w1 := turn_below b
  refine ⟨S.hp.below b, (less52 hl).stay _ _ _ S.kt t (fun _ _ q => q), ?_, S.rng, S.bel.trans (b.mono S.bel.size), S.lb, S.lq, S.at_⟩
  exact (t.block b7 (lt_of_heap S.box) (fun q => q)).trans S.box
theorem cs_nil : (#[.int .i64 0, .int .i64 0, .int .i64 0, .int .i64 0, .int .i64 0, .int .i64 0, .int .i64 0, .int .i64 0] : Array Value) = cs [] := by rfl
set_option maxRecDepth 100000 in
set_option maxHeartbeats 4000000 in
theorem any_walk (ta : Option Addr) (tcap : Nat) (tbl : List Bool) (sa : Option Addr) (scap : Nat) (ns : List Int) (w : World) (hT : Bls w ta tbl) (hI : M.Ints w sa ns) (hlt : tbl.length ≤ 1048576) (hl : ns.length ≤ 1048576) :
    Calls Try.prog 8 #[.slice ta tbl.length tcap, .slice sa ns.length scap] w fun e w' => e = .returned (.bool true) ∧ Below w.heap.size w w' := by
  have hba := (Below.refl w.heap.size w).alloc (Nat.le_refl _) (.cells #[.slice ta tbl.length tcap] 100)
  have HLy := hide' (Lv.lively_any (w.alloc (.cells #[.slice ta tbl.length tcap] 100)))
  have Hba := hide' hba
  have HT := hide' hT
  have HIn := hide' hI
  have Hl := hide' hl
  have HN := hide' (less52 (tb := w.heap.size) (ta := ta) (tcap := tcap) hlt)
  have Hlt := hide' hlt
  clear hT hI hl hlt hba
  go_enter Try.func8, Try.ntmps8
  go_wp2_with fail
  refine HLy.out.mono ?_
  rintro e w1 ⟨rfl, b1⟩
  have Hb1 := hide' b1
  have HNw := hide' (HI.new_any 52 #[.pointer (some ⟨w.heap.size, 0, none⟩)] w1)
  clear HLy b1
  go_wp2_with fail
  refine HNw.out.mono ?_
  rintro e w2 ⟨rfl, D, hh, b2⟩
  have Hq : Hid (w.heap.size < w1.heap.size) := (show w.heap.size < w1.heap.size by have := Hb1.out.size; simp at this; omega)
  have b12 : Below w.heap.size w w1 := Hba.out.trans (Hb1.out.mono (by simp))
  have b02 : Below w.heap.size w w2 := b12.trans (b2.mono b12.size)
  have hS : Hid (Sn w w1.heap.size w1.heap.size w2.heap.size ta tcap tbl [] 0 D (w2.alloc (.cells (cs []) 102))) := by
    have ba : Below w2.heap.size w2 (w2.alloc (.cells (cs []) 102)) := (Below.refl _ _).alloc (Nat.le_refl _) _
    have hc1 : (w.alloc (.cells #[.slice ta tbl.length tcap] 100)).cell? ⟨w.heap.size, 0, none⟩ = some (.slice ta tbl.length tcap) := by rw [Lib.cell_of_heap (heap_alloc_new w _)]; rfl
    have hc2 : w1.cell? ⟨w.heap.size, 0, none⟩ = some (.slice ta tbl.length tcap) := (Hb1.out.cell (p := ⟨w.heap.size, 0, none⟩) (by simp)).trans hc1
    have bl : ∀ {w'}, Below w.heap.size w w' → Bls w' ta tbl := fun {w'} b => by
      rcases HT.out with q | ⟨g, off, e1, e2, e3⟩
      · exact .inl q
      · exact .inr ⟨g, off, e1, Nat.lt_of_lt_of_le e2 b.size, fun j hj => (b.cell (p := ⟨g, off + j, none⟩) e2).trans (e3 j hj)⟩
    have b03 := b02.trans (ba.mono b02.size)
    refine ⟨hh.below ba, ⟨?_, bl b03⟩, heap_alloc_new _ _, (fun z hz => by cases hz), b03, ?_, Hq.out, ?_⟩
    · have hlt2 : w.heap.size < w2.heap.size := Nat.lt_of_lt_of_le Hq.out b2.size
      exact (ba.cell (p := ⟨w.heap.size, 0, none⟩) hlt2).trans ((b2.cell (p := ⟨w.heap.size, 0, none⟩) Hq.out).trans hc2)
    · exact Nat.lt_of_lt_of_le Hq.out b2.size
    · intro j hj
      rcases hj with rfl | ⟨h0, a, ha, rfl⟩
      · exact Nat.le_refl _
      · rcases HT.out with q | ⟨g, off, e1, e2, e3⟩
        · exact absurd q h0
        · rw [ha] at e1; cases e1; exact Nat.le_of_lt e2
  generalize w1.heap.size = hb at *
  generalize hb7 : w2.heap.size = b7 at *
  clear HNw hh b2 b12 b02
  go_wp2_with fail
  rw [cs_nil]
  clear hb7
  generalize w2.alloc (.cells (cs []) 102) = W at *
  go_loopw [5, 8, 9] (fun t5 t8 t9 wx => ∃ (k : Nat) (zs : List (Int × Nat)) (cnt : Nat) (D : Nat → Prop), t9 = .int .i64 (k : Int) ∧ t8 = .int .i64 (zs.length : Int) ∧ t5 = .bool true ∧ k ≤ ns.length ∧ zs.length ≤ k ∧ cnt ≤ k ∧ Sn w hb hb b7 ta tcap tbl zs cnt D wx) (fun _ _ t9 _ => ns.length - (intOf t9).toNat)
  case atStart => exact ⟨0, [], 0, D, rfl, rfl, rfl, Nat.zero_le _, Nat.le_refl _, Nat.le_refl _, hS.out⟩
  case round =>
    obtain ⟨k, zs, cnt, D', rfl, rfl, rfl, hk, hzk, hck, S⟩ := hrel
    by_cases hlt : k < ns.length
    · rcases HIn.out with q | ⟨gs, off, hsa, hgs, hcl⟩
      · rw [q] at hlt; simp at hlt
      have i0 := (S.bel.cell (p := ⟨gs, off + k, none⟩) hgs).trans (hcl k hlt)
      obtain rfl := hsa
      generalize ns.getD k 0 = v at *
      have hlt' : (k : Int) < (ns.length : Int) := by omega
      have ek : wrap64 ((k : Int) + 1) = (k : Int) + 1 := M.wrap_k k (by have := Hl.out; omega)
      have HS := hide' S
      have hend : Hid (ns.length - ((k : Int) + 1).toNat < ns.length - (k : Int).toNat) := (show ns.length - ((k : Int) + 1).toNat < ns.length - (k : Int).toNat by omega)
      by_cases hv : 0 ≤ v
      · clear S hcl
        go_wp2_with fail
        obtain ⟨j, hj, ej⟩ := and7 v
        rw [ej]
        have hkl := Hl.out
        refine (HI.push_any HN.out (j : Int) HS.out.hp HS.out.kt HS.out.apart (by omega) (by omega)).mono ?_
        rintro e w3 ⟨rfl, zs', hp, -, T⟩
        have hcf := cf_push rfl hp
        have hcl := cf_le zs j
        have hle : zs'.length = zs.length + 1 := by rw [hp.length_eq]; simp
        have hrg : ∀ z ∈ zs', 0 ≤ z.1 ∧ z.1 ≤ 7 := by
          intro z hz
          rcases List.mem_append.1 (hp.mem_iff.1 hz) with q | q
          · exact HS.out.rng z q
          · rw [List.mem_singleton] at q; subst q; exact ⟨by simp, by simp; omega⟩
        obtain ⟨D3, S3⟩ := HS.out.step Hlt.out T hj (v := cf zs j + 1) (fun i _ => hcf i) hrg
        have ew : wrap64 ((cf zs j : Int) + 1) = ((cf zs j + 1 : Nat) : Int) := M.wrap_k _ (by omega)
        have ez : wrap64 ((zs.length : Int) + 1) = ((zs.length + 1 : Nat) : Int) := M.wrap_k _ (by omega)
        obtain ⟨D4, h4, t4, s4⟩ := T
        have k3 : w3.heap[b7]? = some (.cells (cs zs) 102 (0, 0)) := (t4.block b7 (lt_of_heap HS.out.box) HS.out.nbox).trans HS.out.box
        have c3 := cell_box k3 hj
        have f3 : w3.frozen? ⟨b7, j, none⟩ = false := Lib.frozen_of_heap k3 j
        have b3 : Below w.heap.size w w3 := HS.out.bel.trans (t4.below (fun i q => by have := (HS.out.hp.lo q).1; have := HS.out.lq; omega) HS.out.bel.size)
        have i3 : w3.cell? ⟨gs, off + k, none⟩ = some (.int .i64 v) := (b3.cell (p := ⟨gs, off + k, none⟩) hgs).trans ((HS.out.bel.cell (p := ⟨gs, off + k, none⟩) hgs).symm.trans i0)
        have j8 : (j : Int) < 8 := by omega
        have HS3 := hide' S3
        have Hle := hide' hle
        have e4 : ((cf zs j : Nat) : Int) + 1 = ((cf zs j + 1 : Nat) : Int) := by omega
        have Hks : Hid (k + 1 ≤ ns.length ∧ zs'.length ≤ k + 1 ∧ cnt + 1 ≤ k + 1) := hide' ⟨hlt, by rw [hle]; exact Nat.succ_le_succ hzk, Nat.succ_le_succ hck⟩
        have E4 := hide' e4
        clear i0 hcf hcl hrg S3 h4 t4 s4 k3 b3 hle hp hkl hk hzk hck e4 hlt hj
        go_wp2_with fail
        rw [E4.out]
        generalize w3.setCell ⟨b7, j, none⟩ (.int .i64 ((cf zs j + 1 : Nat) : Int)) = W4 at *
        rw [ez]
        refine (HI.len_any HS3.out.hp).mono ?_
        rintro e w5 ⟨rfl, rfl⟩
        rw [Hle.out]
        go_wp2
        go_roundw
        case rel => exact ⟨k + 1, zs', cnt + 1, D3, by go_num, by rw [Hle.out]; rfl, by go_num, Hks.out.1, Hks.out.2.1, Hks.out.2.2, HS3.out⟩
        case measure => first | exact hend.out | (rw [ek]; exact hend.out)
      · clear S hcl
        have hkl := Hl.out
        cases hzs : zs with
        | nil =>
          rw [hzs] at HS
          have HP := hide' (HI.peek_none HS.out.hp)
          have Hks : Hid (k + 1 ≤ ns.length ∧ 0 ≤ k + 1 ∧ cnt ≤ k + 1) := hide' ⟨hlt, Nat.zero_le _, Nat.le_succ_of_le hck⟩
          clear hkl hk hck hzk hlt hgs hzs
          go_wp2_with fail
          refine HP.out.mono ?_
          rintro e w3 ⟨rfl, b3⟩
          have S3 := HS.out.below Hlt.out b3
          have HS3 := hide' S3
          have HQ := hide' (HI.pop_none S3.hp)
          clear HP b3 S3 HS i0
          go_wp2_with fail
          refine HQ.out.mono ?_
          rintro e w4 ⟨rfl, b4⟩
          have HS4 := hide' (HS3.out.below Hlt.out b4)
          clear HQ b4
          go_wp2_with fail
          refine (HI.len_any HS4.out.hp).mono ?_
          rintro e w5 ⟨rfl, rfl⟩
          rw [List.length_nil]
          go_wp2
          go_roundw
          case rel => exact ⟨k + 1, [], cnt, D', by go_num, rfl, by go_num, Hks.out.1, Hks.out.2.1, Hks.out.2.2, HS4.out⟩
          case measure => first | exact hend.out | (rw [ek]; exact hend.out)
        | cons z zr =>
          have hz0 : zs[0]? = some z := by rw [hzs]; rfl
          have hn : zs.length = zr.length + 1 := by rw [hzs]; rfl
          obtain ⟨r1, r2⟩ := HS.out.rng z (hzs ▸ List.mem_cons_self)
          obtain ⟨j, hj⟩ : ∃ j : Nat, z.1 = (j : Int) := ⟨z.1.toNat, (Int.toNat_of_nonneg r1).symm⟩
          have j8 : j < 8 := by rw [hj] at r2; omega
          have hl1 : zs.length ≤ 1048576 := Nat.le_trans hzk (Nat.le_trans hk hkl)
          have hp := HI.peek_some HS.out.hp hz0
          rw [hj] at hp
          have HP := hide' hp
          have Hz0 := hide' hz0
          have Hks : Hid (k + 1 ≤ ns.length ∧ cnt ≤ k + 1 ∧ zs.length ≤ k) := hide' ⟨hlt, Nat.le_succ_of_le hck, hzk⟩
          have Hl1 := hide' hl1
          have Hj := hide' hj
          have Hn := hide' hn
          have J8 := hide' j8
          have j8i : (j : Int) < 8 := by omega
          have j7 : ¬ ((7 : Int) < (j : Int)) := by omega
          have j0 : ¬ ((j : Int) < 0) := by omega
          have hl0 : (0 : Int) < (zs.length : Int) := by omega
          clear hkl hk hck hzk hlt hgs hzs hp hl1 r1 r2 hj hn hz0 j8
          go_wp2_with fail
          refine HP.out.mono ?_
          rintro e w3 ⟨rfl, b3⟩
          have S3 := HS.out.below Hlt.out b3
          have HS3 := hide' S3
          have hq := HI.pop_some HN.out S3.hp S3.kt S3.apart Hn.out Hz0.out (Nat.le_trans Hl1.out (by decide))
          rw [Hj.out] at hq
          have HQ := hide' hq
          clear HP b3 S3 HS i0 hq
          go_wp2_with fail
          refine HQ.out.mono ?_
          rintro e w4 ⟨rfl, zs', hp, -, T⟩
          obtain ⟨hc0, hcf⟩ := cf_pop Hj.out hp
          have hrg : ∀ z ∈ zs', 0 ≤ z.1 ∧ z.1 ≤ 7 := fun y hy => HS3.out.rng y (hp.mem_iff.1 (List.mem_cons_of_mem _ hy))
          obtain ⟨D5, S5⟩ := HS3.out.step Hlt.out T J8.out (v := cf zs j - 1) (fun i _ => hcf i) hrg
          have hle : zs'.length + 1 = zs.length := by rw [← hp.length_eq]; rfl
          obtain ⟨D4, h4, t4, s4⟩ := T
          have k4 : w4.heap[b7]? = some (.cells (cs zs) 102 (0, 0)) := (t4.block b7 (lt_of_heap HS3.out.box) HS3.out.nbox).trans HS3.out.box
          have c4 := cell_box k4 J8.out
          have f4 : w4.frozen? ⟨b7, j, none⟩ = false := Lib.frozen_of_heap k4 j
          have hcl := cf_le zs j
          have hcl2 : cf zs j ≤ 1048576 := Nat.le_trans hcl Hl1.out
          have HS5 := hide' S5
          clear hcf hrg S5 h4 t4 s4 k4 hcl hp
          generalize cf zs j = c at *
          have hc : (0 : Int) < (c : Int) := Int.natCast_pos.2 hc0
          have E4 : Hid ((c : Int) - 1 = ((c - 1 : Nat) : Int)) := (show (c : Int) - 1 = ((c - 1 : Nat) : Int) by omega)
          have ew : wrap64 ((c : Int) - 1) = (c : Int) - 1 := by unfold wrap64; omega
          have Ez : Hid (wrap64 ((zr.length : Nat) : Int) = ((zs'.length : Nat) : Int)) := (show wrap64 ((zr.length : Nat) : Int) = ((zs'.length : Nat) : Int) by have := Hl1.out; have := Hn.out; unfold wrap64; omega)
          have Hlz : Hid (zs'.length ≤ k + 1) := (show zs'.length ≤ k + 1 by have := Hks.out.2.2; omega)
          clear hcl2 hc0 hle HQ
          go_wp2_with fail
          rw [E4.out, Ez.out]
          generalize w4.setCell ⟨b7, j, none⟩ (.int .i64 ((c - 1 : Nat) : Int)) = W4 at *
          refine (HI.len_any HS5.out.hp).mono ?_
          rintro e w5 ⟨rfl, rfl⟩
          go_wp2
          go_roundw
          case rel => exact ⟨k + 1, zs', cnt, D5, by go_num, rfl, by go_num, Hks.out.1, Hlz.out, Hks.out.2.1, HS5.out⟩
          case measure => first | exact hend.out | (rw [ek]; exact hend.out)
    · obtain rfl : k = ns.length := by omega
      have Hb := hide' S.bel
      clear S hk hzk hck
      go_wp2
      go_ret
      exact ⟨rfl, Hb.out⟩
end An
end Go.Proofs.Ythkmcponnlnpeaa
