import Derived.Test.YtollaamlnddhcaaSLnN
set_option linter.unusedVariables false
set_option linter.unusedSimpArgs false
namespace Go.Proofs.Ytollaamlnddhcaa
open Go.RowKit Go.Maps
namespace S
theorem infoE : (Try.prog.info? 9).map (fun i => (i.zero, i.size, i.bytes)) = some (some (.string ByteArray.empty), 1, 16) := by kernel_rfl
/-- a slice of numbers that can be read -/
def Ints (to : Option Addr) (xs : List ByteArray) (w : World) : Prop := xs = [] ∨ ∃ b off, to = some ⟨b, off, none⟩ ∧ b < w.heap.size ∧ ∀ i k, xs[i]? = some k → w.cell? ⟨b, off + i, none⟩ = some (.string k)
theorem Ints.turn {to : Option Addr} {xs : List ByteArray} {w w' : World} {S : Nat → Prop} (h : Ints to xs w) (t : Turn S w w') (hS : xs ≠ [] → ∀ b off, to = some ⟨b, off, none⟩ → ¬ S b) : Ints to xs w' := by
  by_cases hn : xs = []
  · exact .inl hn
  rcases h with h | ⟨b, off, h1, h2, h3⟩
  · exact .inl h
  · exact .inr ⟨b, off, h1, Nat.lt_of_lt_of_le h2 t.size, fun i k q => (t.cell (p := ⟨b, off + i, none⟩) h2 (hS hn b off h1)).trans (h3 i k q)⟩
theorem Ints.below {to : Option Addr} {xs : List ByteArray} {w w' : World} (h : Ints to xs w) (t : Below w.heap.size w w') : Ints to xs w' := h.turn (turn_below (S := fun _ => False) t) (fun _ _ _ _ q => q)
theorem Ints.at {to : Option Addr} {xs : List ByteArray} {w : World} (h : Ints to xs w) {i : Nat} {k : ByteArray} (q : xs[i]? = some k) : ∃ b off, to = some ⟨b, off, none⟩ ∧ b < w.heap.size ∧ w.cell? ⟨b, off + i, none⟩ = some (.string k) := by
  rcases h with rfl | ⟨b, off, h1, h2, h3⟩
  · simp at q
  · exact ⟨b, off, h1, h2, h3 i k q⟩
theorem alloc_cell {w w1 : World} {ob : Obj} {row : Option Nat} (hg : (w.alloc ob).grownBy w1 row) {x o : Nat} (hx : x < w.heap.size) (hr : some x ≠ row) : w1.cell? ⟨x, o, none⟩ = w.cell? ⟨x, o, none⟩ :=
  World.cell?_of_block (w := w) ((hg.block x (by simp; omega) hr).trans (Below.heap_alloc _ _ _ hx))
theorem alloc_frozen {w w1 : World} {ob : Obj} {row : Option Nat} (hg : (w.alloc ob).grownBy w1 row) {x o : Nat} (hx : x < w.heap.size) (hr : some x ≠ row) : w1.frozen? ⟨x, o, none⟩ = w.frozen? ⟨x, o, none⟩ :=
  World.frozen?_of_block (w := w) ((hg.block x (by simp; omega) hr).trans (Below.heap_alloc _ _ _ hx))
/-- THE APPEND'S END: what stands behind l.things = append(l.things, k) -/
theorem grow {B x bm : Nat} {ao : Option Addr} {cap : Nat} {zs ms : List ByteArray} {k : ByteArray} {w w1 : World} {g cap' : Nat} {ob : Obj} (h : LnI B x bm ao cap zs (ms ++ [k]) w) (hk : okk k)
    (hrow1 : w1.ownsRow B 9 1 (.slice (some ⟨g, 0, none⟩) (zs.length + 1) cap') (zs.length + 1) (zs.flatMap cells ++ [.string k])) (hgrow : (w.alloc ob).grownBy w1 (Value.slice ao zs.length cap).ownBlock) (hat : (Value.slice ao zs.length cap).ownBlock = some g ∨ g = w.heap.size + 1) :
    LnI B x bm (some ⟨g, 0, none⟩) cap' (zs ++ [k]) (ms ++ [k]) (w1.setCell ⟨x, 0, none⟩ (.slice (some ⟨g, 0, none⟩) (zs.length + 1) cap')) ∧ Turn (Own x bm ao) w (w1.setCell ⟨x, 0, none⟩ (.slice (some ⟨g, 0, none⟩) (zs.length + 1) cap')) ∧ (ao = some ⟨g, 0, none⟩ ∨ w.heap.size ≤ g) := by
  have hnot := h.apart (by decide)
  have hlx := h.lt
  have hlm := h.ltm
  obtain ⟨n, D, hn, hown, hh⟩ := h.map
  have hrow := h.row
  have hxr : some x ≠ (Value.slice ao zs.length cap).ownBlock := by
    intro q; cases ao with
    | none => cases q
    | some a => exact (hnot a rfl).1 (by simpa [Value.ownBlock] using q.symm)
  have hmr : some bm ≠ (Value.slice ao zs.length cap).ownBlock := by
    intro q; cases ao with
    | none => cases q
    | some a => exact (hnot a rfl).2.1 (by simpa [Value.ownBlock] using q.symm)
  have hxg : x ≠ g := by
    rcases hat with q | q
    · intro e; exact hxr (by rw [e]; exact q.symm)
    · omega
  have hgo : ao = some ⟨g, 0, none⟩ ∨ w.heap.size ≤ g := by
    rcases hat with q | q
    · cases ao with
      | none => cases q
      | some a =>
        left
        have := h.addr a rfl
        simp only [Value.ownBlock, Option.some.injEq] at q
        rw [this, q]
    · right; omega
  have hb1 : w1.heap[x]? = some (.cells #[.slice ao zs.length cap, .map (some bm)] 132 (0, 0)) := (hgrow.block x (by simp; omega) hxr).trans ((Below.heap_alloc _ _ _ hlx).trans h.hb)
  have hb2 : (w1.setCell ⟨x, 0, none⟩ (.slice (some ⟨g, 0, none⟩) (zs.length + 1) cap')).heap[x]? = some (.cells #[.slice (some ⟨g, 0, none⟩) (zs.length + 1) cap', .map (some bm)] 132 (0, 0)) := by
    simp [World.setCell, Array.getElem?_modify, hb1]
  have hown2 := ((hown.alloc (o := ob)).kept hgrow hmr).setCell (a := ⟨x, 0, none⟩) (fun q => h.ne q.symm) (.slice (some ⟨g, 0, none⟩) (zs.length + 1) cap')
  have hrow2 := ((Turn.refl (fun j => j = x) w1).setCell (p := ⟨x, 0, none⟩) (fun _ => rfl) (.slice (some ⟨g, 0, none⟩) (zs.length + 1) cap')).row hrow1 (fun g' hg' => by cases hg'; exact fun e => hxg e.symm)
  refine ⟨⟨h.hx, h.hm, h.ne, ?_, ?_, ?_, n, D, hn, hown2, hh⟩, (((Turn.refl _ w).alloc _).grown hgrow (fun j hj _ => by cases ao with
      | none => cases hj
      | some a => cases hj; exact .inr (.inr ⟨a, rfl, rfl⟩))).setCell (p := ⟨x, 0, none⟩) (fun _ => .inl rfl) _, hgo⟩
  · rw [List.length_append]; exact hb2
  · rw [List.length_append, List.flatMap_append]; simpa [cells] using hrow2
  · intro z hz
    rcases List.mem_append.1 hz with q | q
    · exact h.oks z q
    · simp at q; rw [q]; exact hk
theorem Own.not {x bm : Nat} {ao : Option Addr} {j : Nat} (h1 : j ≠ x) (h2 : j ≠ bm) (h3 : ∀ a, ao = some a → j ≠ a.block) : ¬ Own x bm ao j := by
  rintro (q | q | ⟨a, ha, q⟩)
  · exact h1 q
  · exact h2 q
  · exact h3 a ha q
/-- what a put leaves: the line ys, its row where it was or new -/
def Grew (B x bm : Nat) (ao : Option Addr) (ys : List ByteArray) (w w' : World) : Prop := ∃ ao' cap', LnI B x bm ao' cap' ys ys w' ∧ Turn (Own x bm ao) w w' ∧ (ao' = ao ∨ ∃ g, ao' = some ⟨g, 0, none⟩ ∧ w.heap.size ≤ g)
set_option maxRecDepth 100000 in
set_option maxHeartbeats 8000000 in
theorem put_any (B x bm : Nat) (ao : Option Addr) (cap : Nat) (zs xs : List ByteArray) (to : Option Addr) (tcap : Nat) (w : World) (h : LnI B x bm ao cap zs zs w) (hx : Ints to xs w) (hto : xs ≠ [] → ∀ b off, to = some ⟨b, off, none⟩ → ¬ Own x bm ao b)
    (hok : ∀ k ∈ xs, okk k) (hc : xs.length ≤ tcap) (hlen : Hid (zs.length + xs.length ≤ 1099511627776)) :
    Calls Try.prog 79 #[.pointer (some ⟨x, 0, none⟩), .slice to xs.length tcap] w fun e w' => e = .returned (.tuple #[]) ∧ Grew B x bm ao (Bf.add zs xs) w w' := by
  have H := hide' h
  have Hx := hide' hx
  have Hto := hide' hto
  have Hok := hide' hok
  have hle : ∀ i, i ≤ xs.length → Hid ((Bf.add zs (xs.take i)).length ≤ zs.length + xs.length) := fun i hi => by
    have := Bf.add_len_le zs (xs.take i)
    simp at this
    show _ ≤ _
    omega
  obtain ⟨i0, hi, hz0, hz1, hz2⟩ := info_parts infoE
  clear h hx hto hok
  go_enter Try.func79, Try.ntmps79
  go_wp2_with fail
  go_loopw [8] (fun i wx => ∃ k : Nat, k ≤ xs.length ∧ i = .int .i64 (k : Int) ∧ ∃ ao' cap', LnI B x bm ao' cap' (Bf.add zs (xs.take k)) (Bf.add zs (xs.take k)) wx ∧ Turn (Own x bm ao) w wx ∧ (ao' = ao ∨ ∃ g, ao' = some ⟨g, 0, none⟩ ∧ w.heap.size ≤ g)) (fun i _ => xs.length - (intOf i).toNat)
  case atStart => exact ⟨0, by omega, rfl, ao, cap, by simpa [Bf.add] using H.out, Turn.refl _ _, .inl rfl⟩
  case round =>
    obtain ⟨k, hkl, rfl, ao', cap', hL, ht, hgo⟩ := hrel
    by_cases hlt : k < xs.length
    · obtain ⟨v, hv⟩ : ∃ v, xs[k]? = some v := ⟨_, List.getElem?_eq_getElem hlt⟩
      have hvk : okk v := Hok.out v (List.mem_of_getElem? hv)
      obtain ⟨tb, off, rfl, htb, hcell⟩ := (Hx.out.turn ht Hto.out).at hv
      have htk : Hid (xs.take (k + 1) = xs.take k ++ [v]) := by
        show _ = _
        rw [List.take_add_one, hv]; rfl
      have hlt' : (k : Int) < (xs.length : Int) := by omega
      have hb0 := hle k hkl
      have hk64 : (k : Int) < 1099511627776 := by have := hlen.out; omega
      have Hgo := hide' hgo
      have Ht := hide' ht
      clear ht hgo hv
      by_cases hin : v ∈ Bf.add zs (xs.take k)
      · have hadd : Hid (Bf.add zs (xs.take (k + 1)) = Bf.add zs (xs.take k)) := by
          show _ = _
          rw [htk.out]; exact Bf.add_snoc_old hin
        have HL := hide' hL
        clear hL
        go_wp2_with fail
        refine (isNew_old B x bm ao' cap' _ _ v _ HL.out hvk hin).mono ?_
        rintro e w1 ⟨rfl, b1⟩
        have hL1 := HL.out.kept (turn_below (S := fun _ => False) b1) id id (fun _ _ => id)
        have t1 := Ht.out.trans (turn_below b1)
        clear b1
        go_wp2_with fail
        exact ⟨⟨k + 1, by omega, by go_num, ao', cap', by rw [hadd.out]; exact hL1, t1, Hgo.out⟩, by simp [intOf]; omega⟩
      · have hadd : Hid (Bf.add zs (xs.take (k + 1)) = Bf.add zs (xs.take k) ++ [v]) := by
          show _ = _
          rw [htk.out]; exact Bf.add_snoc_new hin
        have HL := hide' hL
        have hbig : Hid ((Bf.add zs (xs.take k)).length + 1 ≤ 1099511627777) := by have := hb0.out; have := hlen.out; show _ ≤ _; omega
        clear hL
        generalize Bf.add zs (xs.take k) = ys at *
        go_wp2_with fail
        refine (isNew_new B x bm ao' cap' _ _ v _ HL.out hvk hin (by have := hbig.out; omega)).mono ?_
        rintro e w1 ⟨rfl, hL1, t1⟩
        have hx1 := hL1.lt
        have c0 := hL1.c0
        have f0 := hL1.f0
        have hrow := hL1.row
        have hxr : some x ≠ (Value.slice ao' ys.length cap').ownBlock := by
          intro q; cases ao' with
          | none => cases q
          | some a => exact (hL1.apart (by decide) a rfl).1 (by simpa [Value.ownBlock] using q.symm)
        have B1 : Hid (ys.length + 1 ≤ maxLen) := by have := hbig.out; show _ ≤ _; unfold maxLen; omega
        have B2 : Hid ((ys.length + 1) * 16 ≤ 140737488355328) := by have := hbig.out; show _ ≤ _; omega
        have hBw : Hid (B ≤ w1.heap.size) := by have := hL1.hx; show _ ≤ _; omega
        have HL1 := hide' (And.intro hL1 t1)
        clear hL1 t1
        go_wp2_with (at_builtin; refine wpList_append_lies _ rfl _ _ 22 rfl B 9 i0 (.string ByteArray.empty) 1 16 Try.underlying22 hi hz0 hz1 hz2 rfl (by decide) _ _ _ rfl (hrow.alloc _) ⟨w1.heap.size, 0, none⟩ 1 1 [.string v] rfl rfl (cell_one_new _ _ _) (by simp [Value.oneCell']) (by decide) B1.out B2.out (by have := hBw.out; simp; omega) (w1.heap.size + 1) (by simp) ?_; intro g cap2 w2 hrow1 hgrow hat1 hlt1; have c0' := (alloc_cell hgrow hx1 hxr).trans c0; have f0' := (alloc_frozen hgrow hx1 hxr).trans f0; have HG := hide' (grow HL1.out.1 hvk hrow1 hgrow hat1); clear c0 f0 hrow hrow1 hgrow hat1 hlt1)
        obtain ⟨hL2, t2, hg2⟩ := HG.out
        obtain ⟨hL1, t1⟩ := HL1.out
        have s1 := Ht.out.size
        have s2 := t1.size
        have own : ∀ j, j < w.heap.size → Own x bm ao' j → Own x bm ao j := fun j hj q => by
          rcases q with q | q | ⟨a, ha, q⟩
          · exact .inl q
          · exact .inr (.inl q)
          · rcases Hgo.out with e | ⟨g0, e, hg0⟩
            · exact .inr (.inr ⟨a, by rw [← e]; exact ha, q⟩)
            · rw [e] at ha; cases ha; simp at q; omega
        exact ⟨⟨k + 1, by omega, by go_num, _, _, by rw [hadd.out]; simpa using hL2, (Ht.out.then t1 (fun j hj q => .inr (.inl q))).then t2 own, by
          rcases hg2 with q | q
          · rw [← q]; exact Hgo.out
          · exact .inr ⟨g, rfl, by omega⟩⟩, by simp [intOf]; omega⟩
    · have hkl : k = xs.length := by omega
      subst hkl
      have hlt' : ¬ (xs.length : Int) < (xs.length : Int) := by omega
      have K : Hid (Grew B x bm ao (Bf.add zs xs) w wr) := ⟨ao', cap', by simpa using hL, ht, hgo⟩
      clear hL ht hgo
      go_wp2
      go_end0
      exact ⟨rfl, K.out⟩
end S
end Go.Proofs.Ytollaamlnddhcaa
