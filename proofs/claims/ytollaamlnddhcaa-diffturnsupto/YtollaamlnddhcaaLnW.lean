import Derived.Test.YtollaamlnddhcaaLns
set_option linter.unusedVariables false
set_option linter.unusedSimpArgs false
namespace Go.Proofs.Ytollaamlnddhcaa
open Go.RowKit Go.Maps
namespace U
/-- a list of pairs: where it lies, its room, its pairs -/
abbrev P3 := Option Addr × Nat × List K2
/-- what linesOf tells -/
def LinesIs (qs : List K2) (w : World) (e : Ending) (w' : World) : Prop := ∃ bm f, e = .returned (.map (some bm)) ∧ Lm bm w.heap.size qs f w' ∧ Below w.heap.size w w'
def flat (ls : List P3) : List K2 := ls.flatMap (·.2.2)
theorem flat_snoc {ls : List P3} {i : Nat} {p : P3} (h : ls[i]? = some p) : flat (ls.take (i + 1)) = flat (ls.take i) ++ p.2.2 := by rw [List.take_add_one, h]; simp [flat]
theorem atBl {f : ByteArray → Option V3} {k : ByteArray} {ao : Option Addr} {l c : Nat} (hv : val (f k) = .slice ao l c) {j : Nat} (r : S.At ao j) : Bl f j := by
  obtain ⟨a, e, rfl⟩ := r
  cases e2 : f k with
  | none => rw [e2] at hv; simp [val] at hv; rw [← hv.1] at e; cases e
  | some v => rw [e2] at hv; simp [val] at hv; rw [← hv.1] at e; cases e; exact ⟨k, v, e2, rfl⟩
theorem grownS {B : Nat} {ao : Option Addr} {cap n : Nat} {zs : List ByteArray} {k : ByteArray} {w0 w1 : World} {ob : Obj} {g cap' : Nat} (h : S.RowI B ao cap zs w0) (hn : zs.length = n) (hrow1 : w1.ownsRow B 9 1 (.slice (some ⟨g, 0, none⟩) (n + 1) cap') (n + 1) (zs.flatMap S.cells ++ [.string k])) (hgrow : (w0.alloc ob).grownBy w1 (Value.slice ao n cap).ownBlock) (hat : (Value.slice ao n cap).ownBlock = some g ∨ g = w0.heap.size + 1) :
    S.RowI B (some ⟨g, 0, none⟩) cap' (zs ++ [k]) w1 ∧ Turn (S.At ao) w0 w1 ∧ (ao = some ⟨g, 0, none⟩ ∨ w0.heap.size ≤ g) := by
  subst hn
  refine ⟨by unfold S.RowI; rw [List.length_append, List.flatMap_append]; simpa [S.cells] using hrow1, ((Turn.refl _ w0).alloc _).grown hgrow (fun j hj _ => by
    cases ao with
    | none => cases hj
    | some ad => exact ⟨ad, rfl, by simpa [Value.ownBlock] using hj.symm⟩), ?_⟩
  rcases hat with q | q
  · cases ao with
    | none => cases q
    | some ad =>
      left
      rcases h.form with ⟨e, _⟩ | ⟨g', e, _⟩
      · cases e
      · cases e; simp only [Value.ownBlock, Option.some.injEq] at q; rw [q]
  · right; omega
set_option maxRecDepth 100000 in
set_option maxHeartbeats 4000000 in
theorem linesOf_any (lb lc : Nat) (ls : List P3) (w : World) (hl : lb < w.heap.size) (hc : ls.length ≤ lc) (hcell : ∀ i p, ls[i]? = some p → w.cell? ⟨lb, i, none⟩ = some (.slice p.1 p.2.2.length p.2.1) ∧ Q.Ints p.1 p.2.2 w ∧ p.2.2.length ≤ p.2.1) (hok : ∀ q ∈ flat ls, S.okk q.1) (hlen : Hid (ls.length ≤ 1048576 ∧ (flat ls).length ≤ 1048576)) :
    Calls Try.prog 64 #[.slice (some ⟨lb, 0, none⟩) ls.length lc] w fun e w' => LinesIs (flat ls) w e w' := by
  have hmm := @run_makeMap Try.prog
  have HC := hide' hcell
  have HK := hide' hok
  have hls64 : (ls.length : Int) ≤ 1048576 := by have := hlen.out.1; omega
  clear hcell hok
  go_enter Try.func64, Try.ntmps64
  go_wp2_with fail
  have M0 := hide' (Lm.made w w.heap.size (Nat.le_refl _))
  have hb0 : Hid (Below w.heap.size w (w.alloc (.map #[] 0))) := (Below.refl _ _).alloc (Nat.le_refl _) _
  generalize w.alloc (.map #[] 0) = V0 at *
  go_loopw [11] (fun iv wx => ∃ (i : Nat) (f : ByteArray → Option V3), iv = .int .i64 (i : Int) ∧ i ≤ ls.length ∧ Lm w.heap.size w.heap.size (flat (ls.take i)) f wx ∧ Below w.heap.size w wx) (fun iv _ => ls.length - (intOf iv).toNat)
  case atStart => exact ⟨0, _, rfl, by omega, M0.out, hb0.out⟩
  case round =>
    obtain ⟨i, f, rfl, hil, hM, hB⟩ := hrel
    by_cases hlt : i < ls.length
    · have hlt' : (i : Int) < (ls.length : Int) := by omega
      obtain ⟨p, hp⟩ : ∃ p, ls[i]? = some p := ⟨_, List.getElem?_eq_getElem hlt⟩
      obtain ⟨c1, c2, c3⟩ := HC.out i p hp
      have d1 := (hB.cell (p := ⟨lb, i, none⟩) hl).trans c1
      have hfs := hide' (flat_snoc hp)
      have hpk : Hid (∀ q ∈ p.2.2, S.okk q.1) := fun q hq => HK.out q (by unfold flat; rw [List.mem_flatMap]; exact ⟨p, List.mem_of_getElem? hp, hq⟩)
      have hpl : Hid ((flat (ls.take i)).length + p.2.2.length ≤ 1048576) := by
        have h1 : (flat (ls.take (i + 1))).length ≤ (flat ls).length := by
          have e : flat ls = flat (ls.take (i + 1)) ++ flat (ls.drop (i + 1)) := by unfold flat; rw [← List.flatMap_append, List.take_append_drop]
          rw [e, List.length_append]; omega
        rw [hfs.out, List.length_append] at h1
        have := hlen.out.2
        show _ ≤ _
        omega
      obtain ⟨po, pcap, ps⟩ := p
      have Hx := hide' c2
      have HM := hide' (And.intro hM hB)
      have c3' : ps.length ≤ pcap := c3
      have hp64 : (ps.length : Int) ≤ 1048576 := by have q := hpl.out; have q' : (flat (ls.take i)).length + ps.length ≤ 1048576 := q; omega
      clear hM hB c1 c2 c3 hp M0 hb0
      go_wp2_with fail
      go_loopw [17] (fun jv wx => ∃ (j : Nat) (f' : ByteArray → Option V3), jv = .int .i64 (j : Int) ∧ j ≤ ps.length ∧ Lm w.heap.size w.heap.size (flat (ls.take i) ++ ps.take j) f' wx ∧ Below w.heap.size w wx) (fun jv _ => ps.length - (intOf jv).toNat)
      case atStart => exact ⟨0, f, rfl, by omega, by rw [List.take_zero, List.append_nil]; exact HM.out.1, HM.out.2⟩
      case round =>
        obtain ⟨j, f', rfl, hjl, hM, hB⟩ := hrel
        by_cases hjt : j < ps.length
        · have hjt' : (j : Int) < (ps.length : Int) := by omega
          obtain ⟨q, hq⟩ : ∃ q, ps[j]? = some q := ⟨_, List.getElem?_eq_getElem hjt⟩
          have hqk : S.okk q.1 := hpk.out q (List.mem_of_getElem? hq)
          obtain ⟨pb, off, rfl, hpb, x0, x1⟩ := Hx.out.at hq
          have d0 := (hB.cell (p := ⟨pb, off + j * 2, none⟩) hpb).trans x0
          have d2 := (hB.cell (p := ⟨pb, off + j * 2 + 1, none⟩) hpb).trans x1
          have htk : Hid (flat (ls.take i) ++ ps.take (j + 1) = (flat (ls.take i) ++ ps.take j) ++ [q]) := by show _ = _; rw [List.take_add_one, hq, List.append_assoc]; rfl
          have hql : Hid ((flat (ls.take i) ++ ps.take j).length ≤ 1048576) := by
            have q' : (flat (ls.take i)).length + ps.length ≤ 1048576 := hpl.out
            show _ ≤ _
            rw [List.length_append, List.length_take]; omega
          generalize flat (ls.take i) ++ ps.take j = qs at *
          have hbV : Hid (Below wr.heap.size wr (wr.alloc (.cells #[.string q.1, .string q.2] 83))) := (Below.refl _ _).alloc (Nat.le_refl _) _
          have e0 : (wr.alloc (.cells #[.string q.1, .string q.2] 83)).cell? ⟨wr.heap.size, 0, none⟩ = some (.string q.1) := by rw [Lib.cell_of_heap (heap_alloc_new wr _)]; rfl
          have e1 : (wr.alloc (.cells #[.string q.1, .string q.2] 83)).cell? ⟨wr.heap.size, 1, none⟩ = some (.string q.2) := by rw [Lib.cell_of_heap (heap_alloc_new wr _)]; rfl
          have hvb : wr.heap.size < (wr.alloc (.cells #[.string q.1, .string q.2] 83)).heap.size := by simp
          have MV := hide' (And.intro (hM.below hbV.out) (hB.trans (hbV.out.mono hB.size)))
          have hvw : w.heap.size ≤ wr.heap.size := hB.size
          have hmv : w.heap.size < wr.heap.size := hM.ltm
          have hblv : ∀ j, Bl f' j → j < wr.heap.size := fun j r => (hM.lt r).2
          clear hM hB hq x0 x1 hpb
          go_wp2_with fail
          generalize wr.alloc (.cells #[.string q.1, .string q.2] 83) = V at *
          generalize wr.heap.size = vb at *
          obtain ⟨ao, l, c, hval, hll, hrow0, hcase⟩ := MV.out.1.row q.1
          have hlow : ∀ j, S.At ao j → j < vb := fun j r => by
            obtain ⟨a, e, rfl⟩ := r
            rcases hcase with ⟨e2, _⟩ | ⟨g, e2, e3⟩
            · rw [e2] at e; cases e
            · rw [e2] at e; cases e; exact hblv g ⟨q.1, _, e3, rfl⟩
          obtain ⟨D, hown, hD⟩ := MV.out.1.map
          have HD := hide' (And.intro hown hD)
          have Hval := hide' hval
          have hrow : V.ownsRow w.heap.size 9 1 (.slice ao l c) l ((N.nxt qs q.1).flatMap S.cells) := by have r := hrow0; unfold S.RowI at r; rw [← hll] at r; exact r
          have Hrow := hide' hrow0
          have hl6 : Hid (l ≤ 1048576) := by have := N.nxt_len qs q.1; have := hql.out; show _ ≤ _; omega
          have B1 : Hid (l + 1 ≤ maxLen) := by have := hl6.out; show _ ≤ _; unfold maxLen; omega
          have B2 : Hid ((l + 1) * 16 ≤ 140737488355328) := by have := hl6.out; show _ ≤ _; omega
          have hqn : Hid (qs.length < maxLen) := by have := hql.out; show _ < _; unfold maxLen; omega
          have r0 := MV.out.1.run hqk
          have r1 : (Instr.lookup 90 (.map (some w.heap.size)) (.string q.1) false).run Try.prog V.drew = .ok (val (f' q.1)) V.drew := (MV.out.1.turn ((Turn.refl (fun _ => False) V).drew) id (fun _ _ => id)).run hqk
          have r2a : ∀ o, (Instr.lookup 90 (.map (some w.heap.size)) (.string q.1) false).run Try.prog (V.alloc o).drew = .ok (val (f' q.1)) (V.alloc o).drew := fun o => (MV.out.1.turn (((Turn.refl (fun _ => False) V).alloc o).drew) id (fun _ _ => id)).run hqk
          rw [hval] at r0 r1
          have r2 : ∀ o, (Instr.lookup 90 (.map (some w.heap.size)) (.string q.1) false).run Try.prog (V.alloc o).drew = .ok (.slice ao l c) (V.alloc o).drew := fun o => by rw [← hval]; exact r2a o
          clear r2a
          obtain ⟨i0, hi, hz0, hz1, hz2⟩ := info_parts S.infoE
          have Hll := hide' hll
          have hwV : w.heap.size ≤ V.heap.size := MV.out.2.size
          clear hown hD hval hrow0 hcase hll hblv
          go_region_held3 (fun w' => w'.cell? ⟨vb, 0, none⟩ = some (.string q.1) ∧ w'.cell? ⟨vb, 1, none⟩ = some (.string q.2)) (first | go_keep | exact ⟨k30, k31⟩ | exact ⟨k20, k21⟩) (first
            | (refine step_append_lies _ (by rfl) _ _ 22 (by rfl) w.heap.size 9 i0 (.string ByteArray.empty) 1 16 Try.underlying22 hi hz0 hz1 hz2 rfl (by decide) _ l ((N.nxt qs q.1).flatMap S.cells) (by rfl) (by exact (World.ownsRow.alloc hrow _)) ⟨V.heap.size, 0, none⟩ 1 1 [.string q.2] (by rfl) (by rfl) (by exact cell_one_new _ _ _) (by simp [Value.oneCell']) (by decide) B1.out B2.out (by simp; omega) (V.heap.size + 1) (by simp) ?_; intro g2 cap2 w2 hrow1 hgrow0 hat1 hlt1; have hgrow : (V.alloc (.cells #[.string q.2] 9)).grownBy w2 (Value.slice ao l c).ownBlock := ⟨hgrow0.os, hgrow0.tape, hgrow0.output, hgrow0.size, hgrow0.block⟩; clear hgrow0; have gr := grownS Hrow.out Hll.out.symm hrow1 hgrow hat1; have k20 : w2.cell? ⟨vb, 0, none⟩ = some (.string q.1) := (gr.2.1.cell (p := ⟨vb, 0, none⟩) hvb (fun r => by have := hlow _ r; simp at this)).trans e0; have k21 : w2.cell? ⟨vb, 1, none⟩ = some (.string q.2) := (gr.2.1.cell (p := ⟨vb, 1, none⟩) hvb (fun r => by have := hlow _ r; simp at this)).trans e1; have hown2 : w2.ownsMap Try.prog 9 sE w.heap.size qs.length D := gr.2.1.map HD.out.1 (fun r => MV.out.1.ne (atBl Hval.out r)); have hvb2 : vb < w2.heap.size := Nat.lt_of_lt_of_le hvb gr.2.1.size; have G2 := hide' gr; clear hrow1 hgrow hat1 hlt1 gr; obtain ⟨w3, hrun3, hown3, hg3⟩ := hown2.update S.law Try.underlying90 hqn.out (S.hkey hqk) (show sE (.slice (some ⟨g2, 0, none⟩) (l + 1) cap2) = some (dat (some (g2, l + 1, cap2)), []) from rfl); have t3 : Turn (fun j => j = w.heap.size) w2 w3 := ⟨hg3.os, hg3.tape, hg3.output, hg3.size, fun k hk hne => hg3.block k hk (by simpa using hne)⟩; have k30 : w3.cell? ⟨vb, 0, none⟩ = some (.string q.1) := (t3.cell (p := ⟨vb, 0, none⟩) hvb2 (by simp; omega)).trans k20; have k31 : w3.cell? ⟨vb, 1, none⟩ = some (.string q.2) := (t3.cell (p := ⟨vb, 1, none⟩) hvb2 (by simp; omega)).trans k21; have G3 := hide' (And.intro hown3 t3); clear hown3 hg3 t3 hown2))
          all_goals go_wp2_with fail
          all_goals
            have hput := MV.out.1.put hqk Hval.out G2.out.1 G2.out.2.1 G2.out.2.2 HD.out.2 HD.out.1.isMap G3.out.1 G3.out.2 Hll.out
            have hbel : Below w.heap.size w w3 := MV.out.2.trans ((below_own G2.out.2.1 (fun k r => (MV.out.1.lt (atBl Hval.out r)).1) hwV).trans (below_own G3.out.2 (fun k r => by rw [r]; exact Nat.le_refl _) (Nat.le_trans hwV G2.out.2.1.size)))
            exact ⟨⟨j + 1, _, by go_num, by omega, by rw [htk.out]; exact hput, hbel⟩, by simp [intOf]; omega⟩
        · have hjn : ps.length = j := by omega
          have hjt' : ¬ (j : Int) < (ps.length : Int) := by omega
          subst hjn
          rw [List.take_length] at hM
          have hfs' : Hid (flat (ls.take (i + 1)) = flat (ls.take i) ++ ps) := hfs.out
          have HM2 := hide' (And.intro hM hB)
          clear hM hB HM
          go_wp2_with fail
          exact ⟨⟨i + 1, f', by go_num, by omega, by rw [hfs'.out]; exact HM2.out.1, HM2.out.2⟩, by simp [intOf]; omega⟩
    · have hin : ls.length = i := by omega
      have hlt' : ¬ (i : Int) < (ls.length : Int) := by omega
      subst hin
      rw [List.take_length] at hM
      have K : Hid (LinesIs (flat ls) w (.returned (.map (some w.heap.size))) wr) := ⟨_, f, rfl, hM, hB⟩
      clear hM hB M0 hb0
      go_wp2_with fail
      go_ret
      exact K.out
end U
end Go.Proofs.Ytollaamlnddhcaa
