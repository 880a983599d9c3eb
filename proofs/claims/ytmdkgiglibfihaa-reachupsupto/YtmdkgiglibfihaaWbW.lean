import Derived.Test.YtmdkgiglibfihaaWbL
import Derived.Test.YtmdkgiglibfihaaQRw
import Derived.Deep.RegionHeld3
set_option linter.unusedVariables false
set_option linter.unusedSimpArgs false
namespace Go.Proofs.Ytmdkgiglibfihaa
open Go.RowKit Go.Maps
namespace W
theorem balloc2 (w : World) (o : Obj) : Below w.heap.size w (w.alloc o) := (Below.refl _ _).alloc (Nat.le_refl _) _
theorem made (w : World) : Wb w.heap.size (w.heap.size + 1) w.heap.size none 0 none 0 [] [] ((w.alloc (.map #[] 0)).alloc (.cells #[.slice none 0 0, .map (some w.heap.size), .slice none 0 0] 78)) := by
  have hb := heap_alloc_new (w.alloc (.map #[] 0)) (.cells #[.slice none 0 0, .map (some w.heap.size), .slice none 0 0] 78)
  refine ⟨by omega, by omega, by simpa using hb, rfl, S.RowI.nil _ _, World.ownsRow_nil _ _ _ _, ⟨0, .map [], by simp, (World.ownsMap_made w Try.prog 9 _).alloc _, fun k _ => ⟨by simp [Maps.has, isIn], fun h => by cases h⟩⟩, fun i r h => by simp at h, fun i j r s h => by simp at h, by simp⟩
theorem below3 {B : Nat} {w w' : World} {T : Nat → Prop} (t : Turn T w w') (h : ∀ j, T j → B ≤ j) (hB : B ≤ w.heap.size) : Below B w w' := ⟨t.os, t.tape, t.output, t.size, fun k hk => t.block k (by omega) (fun q => by have := h k q; omega)⟩
theorem rowgrown {B : Nat} {ao : Option Addr} {cap : Nat} {zs : List Int} {k : Int} {w0 w1 : World} {ob : Obj} {g cap' : Nat} (h : I.RowI B ao cap zs w0) (hrow1 : w1.ownsRow B 3 1 (.slice (some ⟨g, 0, none⟩) (zs.length + 1) cap') (zs.length + 1) (zs.flatMap I.cells ++ [.int .i64 k])) (hgrow : (w0.alloc ob).grownBy w1 (Value.slice ao zs.length cap).ownBlock) (hat : (Value.slice ao zs.length cap).ownBlock = some g ∨ g = w0.heap.size + 1) :
    I.RowI B (some ⟨g, 0, none⟩) cap' (zs ++ [k]) w1 ∧ Turn (I.At ao) w0 w1 ∧ (ao = some ⟨g, 0, none⟩ ∨ w0.heap.size ≤ g) := by
  refine ⟨by unfold I.RowI; rw [List.length_append, List.flatMap_append]; simpa [I.cells] using hrow1, ((Turn.refl _ w0).alloc _).grown hgrow (fun j hj _ => by
    cases ao with
    | none => cases hj
    | some ad => exact ⟨ad, rfl, by simpa [Value.ownBlock] using hj.symm⟩), ?_⟩
  rcases hat with q | q
  · cases ao with
    | none => cases q
    | some ad =>
      left
      rcases h.form with ⟨e, _⟩ | ⟨g', e, _⟩
      · cases e
      · cases e; simp only [Value.ownBlock, Option.some.injEq] at q; rw [q]
  · right; omega
theorem link_adj {ps : List K2} {zs : List ByteArray} {rs : List R3} {p : K2} {i0 i1 : Nat} {ra : Option Addr} {rcap : Nat} {rl : List Int} {go : Option Addr} {cap' : Nat} (h : Adj ps zs rs) (h1 : p.1 ∈ zs) (h2 : p.2 ∈ zs) (e0 : ix zs p.1 = i0) (e1 : ix zs p.2 = i1) (hr : rs[i0]? = some (ra, rcap, rl)) : Adj (ps ++ [p]) zs (rs.set i0 (go, cap', rl ++ [(i1 : Int)])) := by
  subst e0 e1
  have hil := (List.getElem?_eq_some_iff.1 hr).1
  refine h.pair h1 h2 (by simp) (fun r r' a b => ?_) (fun i hi => List.getElem?_set_ne (fun q => hi q.symm))
  rw [hr] at a; cases a
  rw [List.getElem?_set_self hil] at b; cases b
  rfl
/-- what newWeb tells -/
def WebIs (ps : List K2) (w : World) (e : Ending) (w' : World) : Prop := ∃ x bm no ncap xo xcap rs, e = .returned (.pointer (some ⟨x, 0, none⟩)) ∧ Wb w.heap.size x bm no ncap xo xcap (nm ps) rs w' ∧ Adj ps (nm ps) rs ∧ Below w.heap.size w w'
set_option maxHeartbeats 8000000 in
set_option maxRecDepth 100000 in
theorem newWeb_any (po : Option Addr) (pcap : Nat) (ps : List K2) (w : World) (hx : Q.Ints po ps w) (hc : ps.length ≤ pcap) (hok : ∀ p ∈ ps, S.okk p.1 ∧ S.okk p.2) (hlen : Hid (ps.length ≤ 1048576)) :
    Calls Try.prog 45 #[.slice po ps.length pcap] w fun e w' => WebIs ps w e w' := by
  have hmm := @run_makeMap Try.prog
  have Hx := hide' hx
  have Hok := hide' hok
  have H0 := hide' (made w)
  have b0 : Hid (Below w.heap.size w ((w.alloc (.map #[] 0)).alloc (.cells #[.slice none 0 0, .map (some w.heap.size), .slice none 0 0] 78))) := ((Below.refl _ _).alloc (Nat.le_refl _) _).alloc (by simp) _
  have hp64 : (ps.length : Int) ≤ 1048576 := by have := hlen.out; omega
  clear hx hok
  go_enter Try.func45, Try.ntmps45
  go_wp2_with fail
  generalize (w.alloc (.map #[] 0)).alloc (.cells #[.slice none 0 0, .map (some w.heap.size), .slice none 0 0] 78) = W0 at *
  generalize hxx : w.heap.size + 1 = x at *
  have Hxx := hide' hxx
  clear hxx
  go_loopw [13] (fun i wx => ∃ j : Nat, i = .int .i64 (j : Int) ∧ j ≤ ps.length ∧ ∃ no ncap xo xcap rs, Wb w.heap.size x w.heap.size no ncap xo xcap (nm (ps.take j)) rs wx ∧ Adj (ps.take j) (nm (ps.take j)) rs ∧ Below w.heap.size w wx) (fun i _ => ps.length - (intOf i).toNat)
  case atStart => exact ⟨0, rfl, by omega, none, 0, none, 0, [], H0.out, Adj.nil, b0.out⟩
  case round =>
    obtain ⟨j, rfl, hjl, no, ncap, xo, xcap, rs, hW, hA, hB⟩ := hrel
    by_cases hlt : j < ps.length
    · have hlt' : (j : Int) < (ps.length : Int) := by omega
      obtain ⟨p, hp⟩ : ∃ p, ps[j]? = some p := ⟨_, List.getElem?_eq_getElem hlt⟩
      obtain ⟨pb, off, rfl, hpb, p0, p1⟩ := (Hx.out.below hB).at hp
      have hpk := Hok.out p (List.mem_of_getElem? hp)
      have htk : Hid (ps.take (j + 1) = ps.take j ++ [p]) := by
        show _ = _
        rw [List.take_add_one, hp]; rfl
      have hnl := nm_len (ps.take j)
      have hnl2 : (nm (ps.take j)).length ≤ 2097152 := by simp at hnl; omega
      have Hnl := hide' hnl2
      have H1 := hide' (And.intro hW (And.intro hA hB))
      clear hW hA hB hp hnl hnl2
      go_wp2_with fail
      have H2 : Hid (Wb w.heap.size x w.heap.size no ncap xo xcap (nm (ps.take j)) rs (wr.alloc (.cells #[.string p.1, .string p.2] 31)).drew) := H1.out.1.turn (((Turn.refl (fun _ => False) wr).alloc _).drew) (fun _ _ => id)
      have bx : (wr.alloc (.cells #[.string p.1, .string p.2] 31)).heap[wr.heap.size]? = some (.cells #[.string p.1, .string p.2] 31 (0, 0)) := heap_alloc_new wr _
      have hno : Hid (¬ Own x w.heap.size no xo rs wr.heap.size) := fun q => by have := (H1.out.1.own _ q).2; omega
      have hBV : Hid (Below w.heap.size w (wr.alloc (.cells #[.string p.1, .string p.2] 31)).drew) := (H1.out.2.2.alloc H1.out.2.2.size _).drew
      have hvs : (wr.alloc (.cells #[.string p.1, .string p.2] 31)).heap.size = wr.heap.size + 1 := by simp
      have HA := hide' H1.out.2.1
      have hlw : Hid (w.heap.size ≤ wr.heap.size) := H1.out.2.2.size
      clear H1 p0 p1 hpb
      generalize wr.alloc (.cells #[.string p.1, .string p.2] 31) = V at *
      generalize wr.heap.size = vb at *
      have c0 : V.cell? ⟨vb, 0, none⟩ = some (.string p.1) := by rw [Lib.cell_of_heap bx]; rfl
      have c1 : V.cell? ⟨vb, 1, none⟩ = some (.string p.2) := by rw [Lib.cell_of_heap bx]; rfl
      have C1 := hide' (number_any (ps.take j) w.heap.size x w.heap.size no ncap xo xcap (nm (ps.take j)) rs p.1 V.drew H2.out HA.out hpk.1 (by have := Hnl.out; show _ < _; omega))
      have hvb : vb < V.heap.size := lt_of_heap bx
      go_region_held3 (fun w' => w'.cell? ⟨vb, 0, none⟩ = some (.string p.1) ∧ w'.cell? ⟨vb, 1, none⟩ = some (.string p.2)) (first | go_keep | exact ⟨k20, k21⟩ | exact ⟨k10, k11⟩) (first
        | (have G := F1; go_at_call 48; refine (number_any (ps.take j) w.heap.size x w.heap.size no1 ncap1 xo1 xcap1 (Bf.add (nm (ps.take j)) [p.1]) rs1 p.2 W1 F1.out.1 F1.out.2.1 hpk.2 (by have := Hnl.out; have := Bf.add_len_le (nm (ps.take j)) [p.1]; show _ < _; simp at this; omega)).mono ?_; rintro e W2 ⟨rfl, no2, ncap2, xo2, xcap2, rs2, hW2, hA2, t2, ho2⟩; have k20 : W2.cell? ⟨vb, 0, none⟩ = some (.string p.1) := (t2.cell (p := ⟨vb, 0, none⟩) F1.out.2.2.2.2.1 F1.out.2.2.2.2.2).trans k10; have k21 : W2.cell? ⟨vb, 1, none⟩ = some (.string p.2) := (t2.cell (p := ⟨vb, 1, none⟩) F1.out.2.2.2.2.1 F1.out.2.2.2.2.2).trans k11; have F2 := hide' (And.intro hW2 (And.intro hA2 (And.intro t2 ho2))); clear hW2 hA2 t2 ho2)
        | ((fail_if_success (have G := F1)); go_at_call 48; refine C1.out.mono ?_; rintro e W1 ⟨rfl, no1, ncap1, xo1, xcap1, rs1, hW1, hA1, t1, ho1⟩; have k10 : W1.cell? ⟨vb, 0, none⟩ = some (.string p.1) := (t1.cell (p := ⟨vb, 0, none⟩) hvb hno.out).trans c0; have k11 : W1.cell? ⟨vb, 1, none⟩ = some (.string p.2) := (t1.cell (p := ⟨vb, 1, none⟩) hvb hno.out).trans c1; have F1 := hide' (And.intro hW1 (And.intro hA1 (And.intro t1 (And.intro ho1 (And.intro (Nat.lt_of_lt_of_le hvb t1.size) (fun q => by rcases ho1 _ q with r | r; exact hno.out r; exact absurd r (Nat.not_le.2 hvb))))))); clear hW1 hA1 t1 ho1))
      have e0 : ix (Bf.add (nm (ps.take j)) [p.1]) p.1 = ix (Bf.add (Bf.add (nm (ps.take j)) [p.1]) [p.2]) p.1 := (ix_add (Bf.mem_add.2 (.inr (by simp)))).symm
      rw [e0]
      have m1 : Hid (p.1 ∈ Bf.add (Bf.add (nm (ps.take j)) [p.1]) [p.2]) := Bf.mem_add.2 (.inl (Bf.mem_add.2 (.inr (by simp))))
      have m2 : Hid (p.2 ∈ Bf.add (Bf.add (nm (ps.take j)) [p.1]) [p.2]) := Bf.mem_add.2 (.inr (by simp))
      have hz2 : Hid (nm (ps.take (j + 1)) = Bf.add (Bf.add (nm (ps.take j)) [p.1]) [p.2]) := by show _ = _; rw [htk.out]; exact nm_snoc _ _
      have hzl : Hid ((Bf.add (Bf.add (nm (ps.take j)) [p.1]) [p.2]).length ≤ 2097154) := by
        have h1 := Hnl.out
        have h2 := Bf.add_len_le (nm (ps.take j)) [p.1]
        have h3 := Bf.add_len_le (Bf.add (nm (ps.take j)) [p.1]) [p.2]
        show _ ≤ _
        simp at h2 h3; omega
      have hB2 : Hid (Below w.heap.size w W2) := by
        refine (hBV.out.trans (below3 F1.out.2.2.1 (fun q hq => (H2.out.own q hq).1) hBV.out.size)).trans (below3 F2.out.2.2.1 (fun q hq => (F1.out.1.own q hq).1) ?_)
        exact Nat.le_trans hBV.out.size F1.out.2.2.1.size
      have hW2 := F2.out.1
      have hA2 := F2.out.2.1
      clear F1 F2 C1 H2 HA hno bx c0 c1 k10 k11 k20 k21 hvb hvs e0 hBV
      generalize Bf.add (Bf.add (nm (ps.take j)) [p.1]) [p.2] = zs at *
      have hi1 := ix_lt m1.out
      obtain ⟨r, hr⟩ : ∃ r, rs2[ix zs p.1]? = some r := ⟨_, List.getElem?_eq_getElem (by rw [hW2.len]; exact hi1)⟩
      obtain ⟨xg, rfl, xcell, hxc, hxB, hxl, xfz⟩ := row43_at hW2.row (i := ix zs p.1) (v := val r) (by rw [List.getElem?_map, hr]; rfl) (by simp [hW2.len])
      have c2 := hW2.c2
      have hxw := lt_of_heap hW2.hb
      have hzl' : (zs.length : Int) ≤ 2097154 := by have := hzl.out; omega
      have hi1' : ((ix zs p.1 : Nat) : Int) < (zs.length : Int) := by omega
      have hrr := hW2.each _ r hr
      have hrl : Hid (r.2.2.length ≤ 1048576) := by
        have e := hA2.2.2.2 _ p.1 r (ix_at m1.out) hr
        show _ ≤ _
        rw [e, List.length_map]
        have := N.nxt_len (ps.take j) p.1
        simp at this; omega
      have nR := hide' (hW2.nR hr)
      have nX := hide' hW2.nX
      have HW := hide' (And.intro hW2 (And.intro hA2 hr))
      clear hW2 hA2 hr
      unfold val at xcell
      have hrow : W2.ownsRow w.heap.size 3 1 (.slice r.1 r.2.2.length r.2.1) r.2.2.length (r.2.2.flatMap I.cells) := hrr
      have HR := hide' hrr
      clear hrr
      have B1 : Hid (r.2.2.length + 1 ≤ maxLen) := by have := hrl.out; show _ ≤ _; unfold maxLen; omega
      have B2 : Hid ((r.2.2.length + 1) * 8 ≤ 140737488355328) := by have := hrl.out; show _ ≤ _; omega
      have hBw := hB2.out.size
      have c2a : ∀ o, (W2.alloc o).cell? ⟨x, 2, none⟩ = some (.slice (some ⟨xg, 0, none⟩) zs.length xcap2) := fun o => (World.cell?_of_block (w := W2) (Below.heap_alloc _ _ _ hxw)).trans c2
      have xca : ∀ o, (W2.alloc o).cell? ⟨xg, ix zs p.1, none⟩ = some (.slice r.1 r.2.2.length r.2.1) := fun o => (World.cell?_of_block (w := W2) (Below.heap_alloc _ _ _ hxl)).trans xcell
      obtain ⟨q0, hi, hz0, hz1, hz2'⟩ := info_parts I.infoE
      generalize hii : ix zs p.1 = i0 at *
      generalize hjj : ix zs p.2 = i1 at *
      have HII := hide' (And.intro hii hjj)
      clear hii hjj
      obtain ⟨ra, rcap, rl⟩ := r
      simp only at xcell hrow nR HR B1 B2 xca hrl
      go_wp2_with fail
      go_region_law ((refine step_append_lies _ (by rfl) _ _ 43 (by rfl) w.heap.size 3 q0 (.int .i64 0) 1 8 Try.underlying43 hi hz0 hz1 hz2' rfl (by decide) _ rl.length (rl.flatMap I.cells) (by rfl) (by exact (World.ownsRow.alloc hrow _)) ⟨W2.heap.size, 0, none⟩ 1 1 [.int .i64 (i1 : Int)] (by rfl) (by rfl) (by exact cell_one_new _ _ _) (by simp [Value.oneCell']) (by decide) B1.out B2.out (by simp; omega) (W2.heap.size + 1) (by simp) ?_; intro g cap2 w3 hrow1 hgrow0 hat1 hlt1; have hgrow : (W2.alloc (.cells #[.int .i64 (i1 : Int)] 3)).grownBy w3 (Value.slice ra rl.length rcap).ownBlock := ⟨hgrow0.os, hgrow0.tape, hgrow0.output, hgrow0.size, hgrow0.block⟩; clear hgrow0; have R3 := hide' (rowgrown HR.out hrow1 hgrow hat1); have t3 := R3.out.2.1; have y0 : w3.cell? ⟨xg, i0, none⟩ = some (.slice ra rl.length rcap) := (t3.cell (p := ⟨xg, i0, none⟩) hxl (fun q => nR.out.2.2.2 _ q ⟨_, rfl, rfl⟩)).trans xcell; have y1 : w3.frozen? ⟨xg, i0, none⟩ = false := (World.frozen?_of_block (t3.block xg hxl (fun q => nR.out.2.2.2 _ q ⟨_, rfl, rfl⟩))).trans xfz; have y2 : w3.cell? ⟨x, 2, none⟩ = some (.slice (some ⟨xg, 0, none⟩) zs.length xcap2) := (t3.cell (p := ⟨x, 2, none⟩) hxw (fun q => nR.out.1 q)).trans c2; clear hrow1 hgrow hat1 hlt1 t3))
      all_goals go_wp2_with fail
      all_goals
        obtain ⟨lk1, lk2⟩ := Wb.link HW.out.1 HW.out.2.2 R3.out.1 R3.out.2.1 R3.out.2.2
        have adj : Adj (ps.take j ++ [p]) zs (rs2.set i0 (some ⟨g, 0, none⟩, cap2, rl ++ [(i1 : Int)])) := link_adj HW.out.2.1 m1.out m2.out HII.out.1 HII.out.2 HW.out.2.2
        exact ⟨⟨j + 1, by go_num, by omega, no2, ncap2, some ⟨xg, 0, none⟩, xcap2, _, by rw [hz2.out]; exact lk1, by rw [hz2.out, htk.out]; exact adj, hB2.out.trans (below3 lk2 (fun q hq => (HW.out.1.own q hq).1) hBw)⟩, by simp [intOf]; omega⟩
    · have hjn : ps.length = j := by omega
      subst hjn
      have hlt' : ¬ (ps.length : Int) < (ps.length : Int) := by omega
      rw [List.take_length] at hW hA
      have K : Hid (WebIs ps w (.returned (.pointer (some ⟨x, 0, none⟩))) wr) := ⟨x, w.heap.size, no, ncap, xo, xcap, rs, rfl, hW, hA, hB⟩
      clear hW hA hB
      go_wp2_with fail
      go_ret
      exact K.out
end W
end Go.Proofs.Ytmdkgiglibfihaa
