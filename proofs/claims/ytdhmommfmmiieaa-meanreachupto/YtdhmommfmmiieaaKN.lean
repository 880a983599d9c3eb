import Derived.Test.YtdhmommfmmiieaaClL
set_option linter.unusedVariables false
set_option linter.unusedSimpArgs false
namespace Go.Proofs.Ytdhmommfmmiieaa
open Go.RowKit Go.Maps
namespace S
theorem zeroE (w : World) : (zeroValue 107).run Try.prog w = .ok (.agg #[]) w := by kernel_rfl
def okk (k : ByteArray) : Prop := k.size ≤ maxLen
def lit (k : ByteArray) : Lit := .string k.data.toList
def cells (k : ByteArray) : List Value := [.string k]
abbrev LnI (B x bm : Nat) (ao : Option Addr) (cap : Nat) (zs ms : List ByteArray) (w : World) : Prop := Ln Try.prog 127 9 9 1 cells lit okk B x bm ao cap zs ms w
theorem law : Keyed Try.prog 9 := string_keyed Try.underlying9
theorem hkey {k : ByteArray} (h : okk k) : keyOf Try.prog 9 (.string k) = some (lit k) := Go.WideMaps.keyOf_string_mk Try.underlying9 h
theorem inj (j k : ByteArray) (hj : okk j) (hk : okk k) (h : lit j = lit k) : j = k := by
  have a := hkey hj
  rw [h] at a
  have := law.inj a (hkey hk)
  simpa using this
theorem isKey {k : ByteArray} (h : okk k) : WideAt.IsKeyLit (lit k) := law.key (hkey h)
theorem has_put {D : DataW Unit} {ms : List ByteArray} (h : ∀ k, okk k → Maps.has D (lit k) = isIn ms k) (hm : IsMap D) {k : ByteArray} (hok : okk k) : ∀ j, okk j → Maps.has (D.put (lit k) (.agg [])) (lit j) = isIn (ms ++ [k]) j := by
  intro j hj
  by_cases e : j = k
  · subst e; rw [has_put_same hm (isKey hok)]; simp [isIn]
  · rw [has_put_other (fun q => e (inj j k hj hok q)), h j hj]; simp [isIn, e]
set_option maxRecDepth 100000 in
set_option maxHeartbeats 4000000 in
theorem catch_idle (p : Addr) (w : World) :
    CallsD Try.prog 96 #[.pointer (some p)] .returning w fun e u' w' => e = .returned (.tuple #[]) ∧ u' = .returning ∧ w' = w := by
  refine callsD_of_wpS Try.func96 rfl fun c₀ cs hu => ?_
  apply wpS_seq
  apply wpS_region
  simp [wpOpsS, go_sem, recoverD, hu, Try.ntmps96, Exit.thenS]
  refine wpS_of_wp ?_
  go_wp2
  cases c₀
  simp_all [bodyPostS, results, Try.results96]
end S
end Go.Proofs.Ytdhmommfmmiieaa
set_option linter.unusedVariables false
set_option linter.unusedSimpArgs false
namespace Go.Proofs.Ytdhmommfmmiieaa
open Go.RowKit Go.Maps
namespace S
set_option maxRecDepth 100000 in
set_option maxHeartbeats 4000000 in
theorem isNew_old (B x bm : Nat) (ao : Option Addr) (cap : Nat) (zs ms : List ByteArray) (k : ByteArray) (w : World) (h : LnI B x bm ao cap zs ms w) (hk : okk k) (hin : k ∈ ms) :
    Calls Try.prog 93 #[.pointer (some ⟨x, 0, none⟩), .string k] w fun e w' => e = .returned (.bool false) ∧ Below w.heap.size w w' := by
  have hmf : ∀ (fn : Fn) (first cap : Array Value) (w : World), (Instr.makeFunc fn first cap).run Try.prog w = .ok (.func fn first cap) w := fun _ _ _ _ => rfl
  obtain ⟨n, D, hn, hown, hh⟩ := h.map
  have c1 := h.c1
  have hl := h.lt
  have h1' : Maps.has D (lit k) = true := by rw [hh k hk]; exact isIn_yes hin
  have hown1 := fun o => hown.alloc (o := o)
  have hne : x ≠ w.heap.size := by omega
  clear hh hn hown
  go_enter_defers Try.func93, Try.ntmps93
  go_wp2_with (at_lookup; refine wpList_lookup_own_unit _ rfl _ _ 64 rfl 9 107 law Try.underlying64 (zeroE _) bm n D rfl (hown1 _) _ _ rfl (hkey hk) ?_; rw [h1'])
  refine leaves_cons (f := 96) (args := #[.pointer (some ⟨w.heap.size, 0, none⟩)]) (by simp) (by simp [go_sem]) ?_
  refine (catch_idle _ _).mono ?_
  rintro e u' w3 ⟨rfl, rfl, rfl⟩
  have cW := box_cell w (.bool false) 4 (.cells #[] 107)
  have fin : Below w.heap.size w ((w.alloc (.cells #[.bool false] 4)).alloc (.cells #[] 107)) := ((Below.refl _ _).alloc (Nat.le_refl _) _).alloc (by simp) _
  generalize (w.alloc (.cells #[.bool false] 4)).alloc (.cells #[] 107) = W at *
  simp [Leaves, settle, results, Try.results93, go_sem, cW]
  exact fin
set_option maxRecDepth 100000 in
set_option maxHeartbeats 4000000 in
theorem isNew_new (B x bm : Nat) (ao : Option Addr) (cap : Nat) (zs ms : List ByteArray) (k : ByteArray) (w : World) (h : LnI B x bm ao cap zs ms w) (hk : okk k) (hin : k ∉ ms) (hm : (ms.length : Int) < 1152921504606846976) :
    Calls Try.prog 93 #[.pointer (some ⟨x, 0, none⟩), .string k] w fun e w' => e = .returned (.bool true) ∧ LnI B x bm ao cap zs (ms ++ [k]) w' ∧ Turn (fun j => j = bm) w w' := by
  have hmf : ∀ (fn : Fn) (first cap : Array Value) (w : World), (Instr.makeFunc fn first cap).run Try.prog w = .ok (.func fn first cap) w := fun _ _ _ _ => rfl
  obtain ⟨n, D, hn, hown, hh⟩ := h.map
  have c1 := h.c1
  have hl := h.lt
  have hlm := h.ltm
  have hap := hide' (h.apart (by decide))
  have h1' : Maps.has D (lit k) = false := by rw [hh k hk]; exact isIn_no hin
  have hown1 := fun o => hown.alloc (o := o)
  have hown2 := fun o p => (hown1 o).alloc (o := p)
  have hne : x ≠ w.heap.size := by omega
  have hmr : some w.heap.size ≠ some bm := by simp; omega
  have hnm : Hid (n < maxLen) := by show n < maxLen; unfold maxLen; omega
  have hput := hide' (has_put hh hown.isMap hk)
  have hn' := hide' hn
  have H := hide' h
  clear hh hn hown h hin hm
  go_enter_defers Try.func93, Try.ntmps93
  go_wp2_with (first | (at_lookup; refine wpList_lookup_own_unit _ rfl _ _ 64 rfl 9 107 law Try.underlying64 (zeroE _) bm n D rfl (hown1 _) _ _ rfl (hkey hk) ?_; rw [h1']) | (at_mapUpdate; refine wpList_mapUpdate_own _ rfl _ _ _ 64 rfl 9 107 law Try.underlying64 unitElem bm n D rfl (hown2 _ _) hnm.out _ _ _ rfl rfl (hkey hk) _ _ unitElem_mk ?_; intro w1 ho1 hg1; have t1 := hide' (And.intro ho1 hg1); obtain ⟨c0', f0'⟩ := box_kept hg1 hmr; clear ho1 hg1))
  refine leaves_cons (f := 96) (args := #[.pointer (some ⟨w.heap.size, 0, none⟩)]) (by simp) (by simp [go_sem]) ?_
  refine (catch_idle _ _).mono ?_
  rintro e u' w3 ⟨rfl, rfl, rfl⟩
  obtain ⟨ho1, hg1⟩ := t1.out
  have cW : (w1.setCell ⟨w.heap.size, 0, none⟩ (.bool true)).cell? ⟨w.heap.size, 0, none⟩ = some (.bool true) := World.cell?_setCell_same' _ _ _ (by rw [c0']; rfl)
  have t2 : Turn (fun j => j = bm) w (w1.setCell ⟨w.heap.size, 0, none⟩ (.bool true)) := ((((Turn.refl _ w).alloc _).alloc _).grown hg1 (fun j hj _ => by cases hj; rfl)).setCell (p := ⟨w.heap.size, 0, none⟩) (fun q => by simp at q) _
  have ho2 := ho1.setCell (a := ⟨w.heap.size, 0, none⟩) (by simp; omega) (.bool true)
  have fin : LnI B x bm ao cap zs (ms ++ [k]) (w1.setCell ⟨w.heap.size, 0, none⟩ (.bool true)) := by
    have h := H.out
    exact ⟨h.hx, h.hm, h.ne, (t2.block x hl h.ne).trans h.hb, t2.row h.row (fun g hg => by cases ao with | none => cases hg | some a => cases hg; exact (hap.out a rfl).2.1), h.oks, n + 1, _, by have := hn'.out; simp; omega, ho2, hput.out⟩
  clear ho1 hg1 ho2
  generalize w1.setCell ⟨w.heap.size, 0, none⟩ (.bool true) = W at *
  simp [Leaves, settle, results, Try.results93, go_sem, cW]
  exact ⟨fin, t2⟩
end S
end Go.Proofs.Ytdhmommfmmiieaa
set_option linter.unusedVariables false
set_option linter.unusedSimpArgs false
namespace Go.Proofs.Ytdhmommfmmiieaa
open Go.RowKit Go.Maps
namespace S
theorem infoE : (Try.prog.info? 9).map (fun i => (i.zero, i.size, i.bytes)) = some (some (.string ByteArray.empty), 1, 16) := by kernel_rfl
/-- a slice of numbers that can be read -/
def Ints (to : Option Addr) (xs : List ByteArray) (w : World) : Prop := xs = [] ∨ ∃ b off, to = some ⟨b, off, none⟩ ∧ b < w.heap.size ∧ ∀ i k, xs[i]? = some k → w.cell? ⟨b, off + i, none⟩ = some (.string k)
theorem Ints.turn {to : Option Addr} {xs : List ByteArray} {w w' : World} {S : Nat → Prop} (h : Ints to xs w) (t : Turn S w w') (hS : xs ≠ [] → ∀ b off, to = some ⟨b, off, none⟩ → ¬ S b) : Ints to xs w' := by
  by_cases hn : xs = []
  · exact .inl hn
  rcases h with h | ⟨b, off, h1, h2, h3⟩
  · exact .inl h
  · exact .inr ⟨b, off, h1, Nat.lt_of_lt_of_le h2 t.size, fun i k q => (t.cell (p := ⟨b, off + i, none⟩) h2 (hS hn b off h1)).trans (h3 i k q)⟩
theorem Ints.below {to : Option Addr} {xs : List ByteArray} {w w' : World} (h : Ints to xs w) (t : Below w.heap.size w w') : Ints to xs w' := h.turn (turn_below (S := fun _ => False) t) (fun _ _ _ _ q => q)
theorem Ints.at {to : Option Addr} {xs : List ByteArray} {w : World} (h : Ints to xs w) {i : Nat} {k : ByteArray} (q : xs[i]? = some k) : ∃ b off, to = some ⟨b, off, none⟩ ∧ b < w.heap.size ∧ w.cell? ⟨b, off + i, none⟩ = some (.string k) := by
  rcases h with rfl | ⟨b, off, h1, h2, h3⟩
  · simp at q
  · exact ⟨b, off, h1, h2, h3 i k q⟩
theorem alloc_cell {w w1 : World} {ob : Obj} {row : Option Nat} (hg : (w.alloc ob).grownBy w1 row) {x o : Nat} (hx : x < w.heap.size) (hr : some x ≠ row) : w1.cell? ⟨x, o, none⟩ = w.cell? ⟨x, o, none⟩ :=
  World.cell?_of_block (w := w) ((hg.block x (by simp; omega) hr).trans (Below.heap_alloc _ _ _ hx))
theorem alloc_frozen {w w1 : World} {ob : Obj} {row : Option Nat} (hg : (w.alloc ob).grownBy w1 row) {x o : Nat} (hx : x < w.heap.size) (hr : some x ≠ row) : w1.frozen? ⟨x, o, none⟩ = w.frozen? ⟨x, o, none⟩ :=
  World.frozen?_of_block (w := w) ((hg.block x (by simp; omega) hr).trans (Below.heap_alloc _ _ _ hx))
/-- THE APPEND'S END: what stands behind l.things = append(l.things, k) -/
theorem grow {B x bm : Nat} {ao : Option Addr} {cap : Nat} {zs ms : List ByteArray} {k : ByteArray} {w w1 : World} {g cap' : Nat} {ob : Obj} (h : LnI B x bm ao cap zs (ms ++ [k]) w) (hk : okk k)
    (hrow1 : w1.ownsRow B 9 1 (.slice (some ⟨g, 0, none⟩) (zs.length + 1) cap') (zs.length + 1) (zs.flatMap cells ++ [.string k])) (hgrow : (w.alloc ob).grownBy w1 (Value.slice ao zs.length cap).ownBlock) (hat : (Value.slice ao zs.length cap).ownBlock = some g ∨ g = w.heap.size + 1) :
    LnI B x bm (some ⟨g, 0, none⟩) cap' (zs ++ [k]) (ms ++ [k]) (w1.setCell ⟨x, 0, none⟩ (.slice (some ⟨g, 0, none⟩) (zs.length + 1) cap')) ∧ Turn (Own x bm ao) w (w1.setCell ⟨x, 0, none⟩ (.slice (some ⟨g, 0, none⟩) (zs.length + 1) cap')) ∧ (ao = some ⟨g, 0, none⟩ ∨ w.heap.size ≤ g) := by
  have hnot := h.apart (by decide)
  have hlx := h.lt
  have hlm := h.ltm
  obtain ⟨n, D, hn, hown, hh⟩ := h.map
  have hrow := h.row
  have hxr : some x ≠ (Value.slice ao zs.length cap).ownBlock := by
    intro q; cases ao with
    | none => cases q
    | some a => exact (hnot a rfl).1 (by simpa [Value.ownBlock] using q.symm)
  have hmr : some bm ≠ (Value.slice ao zs.length cap).ownBlock := by
    intro q; cases ao with
    | none => cases q
    | some a => exact (hnot a rfl).2.1 (by simpa [Value.ownBlock] using q.symm)
  have hxg : x ≠ g := by
    rcases hat with q | q
    · intro e; exact hxr (by rw [e]; exact q.symm)
    · omega
  have hgo : ao = some ⟨g, 0, none⟩ ∨ w.heap.size ≤ g := by
    rcases hat with q | q
    · cases ao with
      | none => cases q
      | some a =>
        left
        have := h.addr a rfl
        simp only [Value.ownBlock, Option.some.injEq] at q
        rw [this, q]
    · right; omega
  have hb1 : w1.heap[x]? = some (.cells #[.slice ao zs.length cap, .map (some bm)] 127 (0, 0)) := (hgrow.block x (by simp; omega) hxr).trans ((Below.heap_alloc _ _ _ hlx).trans h.hb)
  have hb2 : (w1.setCell ⟨x, 0, none⟩ (.slice (some ⟨g, 0, none⟩) (zs.length + 1) cap')).heap[x]? = some (.cells #[.slice (some ⟨g, 0, none⟩) (zs.length + 1) cap', .map (some bm)] 127 (0, 0)) := by
    simp [World.setCell, Array.getElem?_modify, hb1]
  have hown2 := ((hown.alloc (o := ob)).kept hgrow hmr).setCell (a := ⟨x, 0, none⟩) (fun q => h.ne q.symm) (.slice (some ⟨g, 0, none⟩) (zs.length + 1) cap')
  have hrow2 := ((Turn.refl (fun j => j = x) w1).setCell (p := ⟨x, 0, none⟩) (fun _ => rfl) (.slice (some ⟨g, 0, none⟩) (zs.length + 1) cap')).row hrow1 (fun g' hg' => by cases hg'; exact fun e => hxg e.symm)
  refine ⟨⟨h.hx, h.hm, h.ne, ?_, ?_, ?_, n, D, hn, hown2, hh⟩, (((Turn.refl _ w).alloc _).grown hgrow (fun j hj _ => by cases ao with
      | none => cases hj
      | some a => cases hj; exact .inr (.inr ⟨a, rfl, rfl⟩))).setCell (p := ⟨x, 0, none⟩) (fun _ => .inl rfl) _, hgo⟩
  · rw [List.length_append]; exact hb2
  · rw [List.length_append, List.flatMap_append]; simpa [cells] using hrow2
  · intro z hz
    rcases List.mem_append.1 hz with q | q
    · exact h.oks z q
    · simp at q; rw [q]; exact hk
theorem Own.not {x bm : Nat} {ao : Option Addr} {j : Nat} (h1 : j ≠ x) (h2 : j ≠ bm) (h3 : ∀ a, ao = some a → j ≠ a.block) : ¬ Own x bm ao j := by
  rintro (q | q | ⟨a, ha, q⟩)
  · exact h1 q
  · exact h2 q
  · exact h3 a ha q
/-- what a put leaves: the line ys, its row where it was or new -/
def Grew (B x bm : Nat) (ao : Option Addr) (ys : List ByteArray) (w w' : World) : Prop := ∃ ao' cap', LnI B x bm ao' cap' ys ys w' ∧ Turn (Own x bm ao) w w' ∧ (ao' = ao ∨ ∃ g, ao' = some ⟨g, 0, none⟩ ∧ w.heap.size ≤ g)
set_option maxRecDepth 100000 in
set_option maxHeartbeats 8000000 in
theorem put_any (B x bm : Nat) (ao : Option Addr) (cap : Nat) (zs xs : List ByteArray) (to : Option Addr) (tcap : Nat) (w : World) (h : LnI B x bm ao cap zs zs w) (hx : Ints to xs w) (hto : xs ≠ [] → ∀ b off, to = some ⟨b, off, none⟩ → ¬ Own x bm ao b)
    (hok : ∀ k ∈ xs, okk k) (hc : xs.length ≤ tcap) (hlen : Hid (zs.length + xs.length ≤ 1099511627776)) :
    Calls Try.prog 89 #[.pointer (some ⟨x, 0, none⟩), .slice to xs.length tcap] w fun e w' => e = .returned (.tuple #[]) ∧ Grew B x bm ao (Bf.add zs xs) w w' := by
  have H := hide' h
  have Hx := hide' hx
  have Hto := hide' hto
  have Hok := hide' hok
  have hle : ∀ i, i ≤ xs.length → Hid ((Bf.add zs (xs.take i)).length ≤ zs.length + xs.length) := fun i hi => by
    have := Bf.add_len_le zs (xs.take i)
    simp at this
    show _ ≤ _
    omega
  obtain ⟨i0, hi, hz0, hz1, hz2⟩ := info_parts infoE
  clear h hx hto hok
  go_enter Try.func89, Try.ntmps89
  go_wp2_with fail
  go_loopw [8] (fun i wx => ∃ k : Nat, k ≤ xs.length ∧ i = .int .i64 (k : Int) ∧ ∃ ao' cap', LnI B x bm ao' cap' (Bf.add zs (xs.take k)) (Bf.add zs (xs.take k)) wx ∧ Turn (Own x bm ao) w wx ∧ (ao' = ao ∨ ∃ g, ao' = some ⟨g, 0, none⟩ ∧ w.heap.size ≤ g)) (fun i _ => xs.length - (intOf i).toNat)
  case atStart => exact ⟨0, by omega, rfl, ao, cap, by simpa [Bf.add] using H.out, Turn.refl _ _, .inl rfl⟩
  case round =>
    obtain ⟨k, hkl, rfl, ao', cap', hL, ht, hgo⟩ := hrel
    by_cases hlt : k < xs.length
    · obtain ⟨v, hv⟩ : ∃ v, xs[k]? = some v := ⟨_, List.getElem?_eq_getElem hlt⟩
      have hvk : okk v := Hok.out v (List.mem_of_getElem? hv)
      obtain ⟨tb, off, rfl, htb, hcell⟩ := (Hx.out.turn ht Hto.out).at hv
      have htk : Hid (xs.take (k + 1) = xs.take k ++ [v]) := by
        show _ = _
        rw [List.take_add_one, hv]; rfl
      have hlt' : (k : Int) < (xs.length : Int) := by omega
      have hb0 := hle k hkl
      have hk64 : (k : Int) < 1099511627776 := by have := hlen.out; omega
      have Hgo := hide' hgo
      have Ht := hide' ht
      clear ht hgo hv
      by_cases hin : v ∈ Bf.add zs (xs.take k)
      · have hadd : Hid (Bf.add zs (xs.take (k + 1)) = Bf.add zs (xs.take k)) := by
          show _ = _
          rw [htk.out]; exact Bf.add_snoc_old hin
        have HL := hide' hL
        clear hL
        go_wp2_with fail
        refine (isNew_old B x bm ao' cap' _ _ v _ HL.out hvk hin).mono ?_
        rintro e w1 ⟨rfl, b1⟩
        have hL1 := HL.out.kept (turn_below (S := fun _ => False) b1) id id (fun _ _ => id)
        have t1 := Ht.out.trans (turn_below b1)
        clear b1
        go_wp2_with fail
        exact ⟨⟨k + 1, by omega, by go_num, ao', cap', by rw [hadd.out]; exact hL1, t1, Hgo.out⟩, by simp [intOf]; omega⟩
      · have hadd : Hid (Bf.add zs (xs.take (k + 1)) = Bf.add zs (xs.take k) ++ [v]) := by
          show _ = _
          rw [htk.out]; exact Bf.add_snoc_new hin
        have HL := hide' hL
        have hbig : Hid ((Bf.add zs (xs.take k)).length + 1 ≤ 1099511627777) := by have := hb0.out; have := hlen.out; show _ ≤ _; omega
        clear hL
        generalize Bf.add zs (xs.take k) = ys at *
        go_wp2_with fail
        refine (isNew_new B x bm ao' cap' _ _ v _ HL.out hvk hin (by have := hbig.out; omega)).mono ?_
        rintro e w1 ⟨rfl, hL1, t1⟩
        have hx1 := hL1.lt
        have c0 := hL1.c0
        have f0 := hL1.f0
        have hrow := hL1.row
        have hxr : some x ≠ (Value.slice ao' ys.length cap').ownBlock := by
          intro q; cases ao' with
          | none => cases q
          | some a => exact (hL1.apart (by decide) a rfl).1 (by simpa [Value.ownBlock] using q.symm)
        have B1 : Hid (ys.length + 1 ≤ maxLen) := by have := hbig.out; show _ ≤ _; unfold maxLen; omega
        have B2 : Hid ((ys.length + 1) * 16 ≤ 140737488355328) := by have := hbig.out; show _ ≤ _; omega
        have hBw : Hid (B ≤ w1.heap.size) := by have := hL1.hx; show _ ≤ _; omega
        have HL1 := hide' (And.intro hL1 t1)
        clear hL1 t1
        go_wp2_with (at_builtin; refine wpList_append_lies _ rfl _ _ 25 rfl B 9 i0 (.string ByteArray.empty) 1 16 Try.underlying25 hi hz0 hz1 hz2 rfl (by decide) _ _ _ rfl (hrow.alloc _) ⟨w1.heap.size, 0, none⟩ 1 1 [.string v] rfl rfl (cell_one_new _ _ _) (by simp [Value.oneCell']) (by decide) B1.out B2.out (by have := hBw.out; simp; omega) (w1.heap.size + 1) (by simp) ?_; intro g cap2 w2 hrow1 hgrow hat1 hlt1; have c0' := (alloc_cell hgrow hx1 hxr).trans c0; have f0' := (alloc_frozen hgrow hx1 hxr).trans f0; have HG := hide' (grow HL1.out.1 hvk hrow1 hgrow hat1); clear c0 f0 hrow hrow1 hgrow hat1 hlt1)
        obtain ⟨hL2, t2, hg2⟩ := HG.out
        obtain ⟨hL1, t1⟩ := HL1.out
        have s1 := Ht.out.size
        have s2 := t1.size
        have own : ∀ j, j < w.heap.size → Own x bm ao' j → Own x bm ao j := fun j hj q => by
          rcases q with q | q | ⟨a, ha, q⟩
          · exact .inl q
          · exact .inr (.inl q)
          · rcases Hgo.out with e | ⟨g0, e, hg0⟩
            · exact .inr (.inr ⟨a, by rw [← e]; exact ha, q⟩)
            · rw [e] at ha; cases ha; simp at q; omega
        exact ⟨⟨k + 1, by omega, by go_num, _, _, by rw [hadd.out]; simpa using hL2, (Ht.out.then t1 (fun j hj q => .inr (.inl q))).then t2 own, by
          rcases hg2 with q | q
          · rw [← q]; exact Hgo.out
          · exact .inr ⟨g, rfl, by omega⟩⟩, by simp [intOf]; omega⟩
    · have hkl : k = xs.length := by omega
      subst hkl
      have hlt' : ¬ (xs.length : Int) < (xs.length : Int) := by omega
      have K : Hid (Grew B x bm ao (Bf.add zs xs) w wr) := ⟨ao', cap', by simpa using hL, ht, hgo⟩
      clear hL ht hgo
      go_wp2
      go_end0
      exact ⟨rfl, K.out⟩
end S
end Go.Proofs.Ytdhmommfmmiieaa
set_option linter.unusedVariables false
set_option linter.unusedSimpArgs false
namespace Go.Proofs.Ytdhmommfmmiieaa
open Go.RowKit Go.Maps
namespace S
theorem zeroL : (zeroValue 127).run Try.prog = fun w => .ok (.agg #[.slice none 0 0, .map none]) w := by kernel_rfl
theorem made (w : World) : LnI w.heap.size (w.heap.size + 1) w.heap.size none 0 [] [] ((w.alloc (.map #[] 0)).alloc (.cells #[.slice none 0 0, .map (some w.heap.size)] 127)) := by
  refine ⟨by omega, by omega, by omega, ?_, World.ownsRow_nil _ _ _ _, by simp, 0, .map [], by simp, (World.ownsMap_made w Try.prog 9 _).alloc _, fun k _ => by simp [Maps.has, isIn]⟩
  have := heap_alloc_new (w.alloc (.map #[] 0)) (.cells #[.slice none 0 0, .map (some w.heap.size)] 127)
  simpa using this
/-- what Close leaves: a list in a row of its own -/
def ClosedIs (B : Nat) (ys : List ByteArray) (w' : World) (e : Ending) : Prop := ∃ ao cap, e = .returned (.slice ao ys.length cap) ∧ w'.ownsRow B 9 1 (.slice ao ys.length cap) ys.length (ys.flatMap cells)
theorem made_not {fo : Option Addr} {fr : List ByteArray} {w : World} (h : Ints fo fr w) : fr ≠ [] → ∀ b off, fo = some ⟨b, off, none⟩ → ¬ Own (w.heap.size + 1) w.heap.size none b := fun hn b off q => by
  rcases h with h | ⟨b', off', h1, h2, _⟩
  · exact absurd h hn
  · rw [q] at h1; cases h1
    rintro (e | e | ⟨a, e, _⟩)
    · omega
    · omega
    · cases e
theorem made_turn (w : World) (S : Nat → Prop) : Turn S w ((w.alloc (.map #[] 0)).alloc (.cells #[.slice none 0 0, .map (some w.heap.size)] 127)) := ((Turn.refl _ w).alloc _).alloc _
theorem eq_nil (w : World) : (binOp .eql 112 .nilFunc .nilFunc).run Try.prog w = .ok (.bool true) w := by kernel_rfl
theorem eq_func (fn : Fn) (a b : Array Value) (w : World) : (binOp .eql 112 (.func fn a b) .nilFunc).run Try.prog w = .ok (.bool false) w := by kernel_rfl
set_option maxRecDepth 100000 in
set_option maxHeartbeats 8000000 in
theorem close_nil (fo : Option Addr) (fcap : Nat) (fr : List ByteArray) (w : World) (hx : Ints fo fr w) (hok : ∀ k ∈ fr, okk k) (hc : fr.length ≤ fcap) (hlen : Hid (fr.length ≤ 1099511627776)) :
    Calls Try.prog 82 #[.slice fo fr.length fcap, .nilFunc] w fun e w' => ClosedIs w.heap.size (Bf.add [] fr) w' e ∧ Below w.heap.size w w' := by
  have hmm := @run_makeMap Try.prog
  have heq := eq_nil
  have HP := hide' (put_any w.heap.size (w.heap.size + 1) w.heap.size none 0 [] fr fo fcap _ (made w) (hx.turn (made_turn w (fun _ => False)) (fun _ _ _ _ q => q)) (made_not hx) hok hc (by show [].length + _ ≤ _; simpa using hlen.out))
  have Ht := hide' (made_turn w (fun j => w.heap.size ≤ j))
  clear hx hok hc
  go_enter Try.func82, Try.ntmps82
  go_wp2_with fail
  refine HP.out.mono ?_
  rintro e w1 ⟨rfl, ao, cap, hL, t1, _⟩
  have c0 := hL.c0
  have K : Hid (ClosedIs w.heap.size (Bf.add [] fr) w1 (.returned (.slice ao (Bf.add [] fr).length cap)) ∧ Below w.heap.size w w1) :=
    ⟨⟨ao, cap, rfl, hL.row⟩, (Ht.out.then t1 (fun j hj q => by
      rcases q with q | q | ⟨a, e, _⟩
      · omega
      · omega
      · cases e) |>.below (fun _ q => q) (Nat.le_refl _))⟩
  clear hL t1 HP
  go_wp2
  go_ret
  exact K.out
/-- what the function value nf with its boxes caps tells of a thing's turn -/
def NextIs (F : ByteArray → List ByteArray) (B : Nat) (A : Nat → Prop) (O : List ByteArray → Option Nat → World → Prop) (pre : List ByteArray) (ag : Option Nat) (k : ByteArray) (wx : World) (e : Ending) (w' : World) : Prop :=
  ∃ to tcap ag', e = .returned (.slice to (F k).length tcap) ∧ (F k).length ≤ tcap ∧ Ints to (F k) w' ∧ O (pre ++ [k]) ag' w' ∧ Turn (fun j => A j ∨ some j = ag) wx w' ∧ (ag' = ag ∨ ∃ g, ag' = some g ∧ wx.heap.size ≤ g) ∧ (F k ≠ [] → ∀ b off, to = some ⟨b, off, none⟩ → b < B ∨ wx.heap.size ≤ b)
structure Nxt (nf : Nat) (caps : Array Value) (F : ByteArray → List ByteArray) (u : List ByteArray) (B : Nat) (A : Nat → Prop) (O : List ByteArray → Option Nat → World → Prop) : Prop where
  enters : ∀ args w, (callFunc nf args).run Try.prog w = .ok (.enter nf args) w
  low : ∀ j, A j → j < B
  lt : ∀ pre ag w, O pre ag w → ∀ j, ag = some j → j < w.heap.size
  keep : ∀ pre ag wx wy S, O pre ag wx → Turn S wx wy → (∀ j, j < wx.heap.size → S j → B ≤ j ∧ some j ≠ ag) → O pre ag wy
  call : ∀ pre ag k wx, k ∈ u → O pre ag wx → B ≤ wx.heap.size → pre.length < u.length → Calls Try.prog nf (#[.string k] ++ caps) wx fun e w' => NextIs F B A O pre ag k wx e w'
/-- what Close leaves -/
def CloseIs (F : ByteArray → List ByteArray) (fr : List ByteArray) (B : Nat) (A : Nat → Prop) (O : List ByteArray → Option Nat → World → Prop) (ag : Option Nat) (w : World) (e : Ending) (w' : World) : Prop :=
  ∃ n ao cap ag', (Bf.st F fr n).length = n ∧ e = .returned (.slice ao n cap) ∧ w'.ownsRow B 9 1 (.slice ao n cap) n ((Bf.st F fr n).flatMap cells) ∧ O (Bf.st F fr n) ag' w' ∧ Turn (fun j => A j ∨ some j = ag) w w' ∧ (ag' = ag ∨ ∃ g, ag' = some g ∧ B ≤ g) ∧ (∀ a, ao = some a → some a.block ≠ ag')
/-- the loop's state -/
def Mid (F : ByteArray → List ByteArray) (fr : List ByteArray) (B x bm : Nat) (A : Nat → Prop) (O : List ByteArray → Option Nat → World → Prop) (ag : Option Nat) (w : World) (n : Nat) (wx : World) (ao : Option Addr) (cap : Nat) (ag' : Option Nat) : Prop :=
  LnI B x bm ao cap (Bf.st F fr n) (Bf.st F fr n) wx ∧ O ((Bf.st F fr n).take n) ag' wx ∧ Turn (fun j => A j ∨ some j = ag) w wx ∧ (ag' = ag ∨ ∃ g, ag' = some g ∧ B ≤ g) ∧ (∀ j, ag' = some j → ¬ Own x bm ao j) ∧ n ≤ (Bf.st F fr n).length
theorem flat_len (zs : List ByteArray) : (zs.flatMap cells).length = zs.length := by
  induction zs with
  | nil => rfl
  | cons a r ih => simp [cells, ih]
theorem flat_at (zs : List ByteArray) (j : Nat) : (zs.flatMap cells)[j]? = (zs[j]?).map (fun k => Value.string k) := by
  induction zs generalizing j with
  | nil => simp
  | cons a r ih => cases j with
    | zero => simp [cells]
    | succ j => simpa [cells] using ih j
theorem row_at {B : Nat} {ao : Option Addr} {cap : Nat} {zs : List ByteArray} {w : World} (h : w.ownsRow B 9 1 (.slice ao zs.length cap) zs.length (zs.flatMap cells)) {j : Nat} {k : ByteArray} (hj : zs[j]? = some k) : ∃ g, ao = some ⟨g, 0, none⟩ ∧ w.cell? ⟨g, j, none⟩ = some (.string k) ∧ zs.length ≤ cap ∧ B ≤ g ∧ g < w.heap.size := by
  rcases h.2 with ⟨hv, h0⟩ | ⟨g, cap', cur, hv, hb, hg, h1, h2, h3, h4⟩
  · exfalso
    have hl := (List.getElem?_eq_some_iff.1 hj).1
    omega
  · simp only [Value.slice.injEq] at hv
    obtain ⟨rfl, _, rfl⟩ := hv
    refine ⟨g, rfl, ?_, by omega, hb, lt_of_heap hg⟩
    rw [Lib.cell_of_heap hg]
    have hl := (List.getElem?_eq_some_iff.1 hj).1
    have e1 := flat_at zs j
    rw [hj, ← h4, List.getElem?_take_of_lt (by omega), Array.getElem?_toList] at e1
    exact e1
end S
end Go.Proofs.Ytdhmommfmmiieaa
set_option linter.unusedVariables false
set_option linter.unusedSimpArgs false
namespace Go.Proofs.Ytdhmommfmmiieaa
open Go.RowKit Go.Maps
namespace S
/-- a thing's turn: the call's end, then the put's end -/
theorem Mid.step {nf : Nat} {caps : Array Value} {F : ByteArray → List ByteArray} {fr u : List ByteArray} {B x bm : Nat} {A : Nat → Prop} {O : List ByteArray → Option Nat → World → Prop} (N : Nxt nf caps F u B A O) {ag ag' ag2 : Option Nat} {w wx w1 w2 : World} {n : Nat} {ao : Option Addr} {cap : Nat} {k : ByteArray}
    (h : Mid F fr B x bm A O ag w n wx ao cap ag') (hk : (Bf.st F fr n)[n]? = some k) (o1 : O ((Bf.st F fr n).take n ++ [k]) ag2 w1) (t1 : Turn (fun j => A j ∨ some j = ag') wx w1) (hag : ag2 = ag' ∨ ∃ g, ag2 = some g ∧ wx.heap.size ≤ g)
    (hg : Grew B x bm ao (Bf.add (Bf.st F fr n) (F k)) w1 w2) (hB : B = w.heap.size) : ∃ ao2 cap2, Mid F fr B x bm A O ag w (n + 1) w2 ao2 cap2 ag2 := by
  obtain ⟨hL, ho, ht, ha, hn, hl⟩ := h
  obtain ⟨ao2, cap2, hL2, t2, hgo⟩ := hg
  have hap := hL.apart (by decide)
  have s1 := t1.size
  have sx := ht.size
  have hx := hL.lt
  have hm := hL.ltm
  have hBx' := hL.hx
  have hBm := hL.hm
  have own_lt : ∀ j, Own x bm ao j → B ≤ j ∧ j < wx.heap.size := fun j q => by
    rcases q with q | q | ⟨a, e, q⟩
    · exact ⟨by omega, by omega⟩
    · exact ⟨by omega, by omega⟩
    · have := hap a e; exact ⟨by omega, by omega⟩
  have own2 : ∀ j, ag2 = some j → ¬ Own x bm ao j := fun j e q => by
    rcases hag with r | ⟨g, r, hg⟩
    · exact hn j (by rw [← r]; exact e) q
    · rw [r] at e; cases e; have := (own_lt _ q).2; omega
  have lt2 : ∀ j, ag2 = some j → j < w1.heap.size := N.lt _ _ _ o1
  have lx : (Bf.st F fr n).length > n := (List.getElem?_eq_some_iff.1 hk).1
  have hst := Bf.st_some (F := F) (fr := fr) hk
  have hpre := Bf.add_prefix (Bf.st F fr n) (F k)
  refine ⟨ao2, cap2, by rw [hst]; exact hL2, ?_, ?_, ?_, ?_, ?_⟩
  · have e1 : (Bf.st F fr (n + 1)).take (n + 1) = (Bf.st F fr n).take n ++ [k] := by
      rw [hst, List.take_add_one, Bf.getElem?_prefix hpre hk]
      obtain ⟨r, hr⟩ := hpre
      rw [← hr, List.take_append_of_le_length (by omega)]
      rfl
    rw [e1]
    exact N.keep _ _ _ _ _ o1 t2 (fun j hj q => ⟨(own_lt j q).1, fun e => own2 j e.symm q⟩)
  · refine (ht.then t1 (fun j hj q => ?_)).then t2 (fun j hj q => ?_)
    · rcases q with q | q
      · exact .inl q
      · rcases ha with r | ⟨g, r, hg⟩
        · exact .inr (by rw [← r]; exact q)
        · rw [r] at q; cases q; exfalso; omega
    · exfalso; have := (own_lt j q).1; omega
  · rcases hag with r | ⟨g, r, hg⟩
    · rw [r]; exact ha
    · exact .inr ⟨g, r, by omega⟩
  · intro j e q
    rcases hgo with r | ⟨g, r, hg⟩
    · rw [r] at q; exact own2 j e q
    · rcases q with q | q | ⟨a, e2, q⟩
      · exact own2 j e (.inl q)
      · exact own2 j e (.inr (.inl q))
      · rw [r] at e2; cases e2; have := lt2 j e; simp at q; omega
  · rw [hst]; have := Bf.add_len (Bf.st F fr n) (F k); omega
set_option maxRecDepth 100000 in
set_option maxHeartbeats 8000000 in
theorem close_any (nf : Nat) (caps : Array Value) (F : ByteArray → List ByteArray) (fr u : List ByteArray) (A : Nat → Prop) (O : List ByteArray → Option Nat → World → Prop) (ag : Option Nat) (fo : Option Addr) (fcap : Nat) (w : World)
    (N : Nxt nf caps F u w.heap.size A O) (ho : O [] ag w) (hx : Ints fo fr w) (hc : fr.length ≤ fcap) (h1 : ∀ k ∈ fr, k ∈ u) (h2 : ∀ k ∈ u, ∀ j ∈ F k, j ∈ u) (hok : ∀ k ∈ u, okk k) (hlen : Hid (fr.length ≤ 1099511627776 ∧ ∀ k ∈ u, u.length + (F k).length ≤ 1099511627776)) :
    Calls Try.prog 82 #[.slice fo fr.length fcap, .func (.func nf) #[] caps] w fun e w' => CloseIs F fr w.heap.size A O ag w e w' := by
  have hmm := @run_makeMap Try.prog
  have heq := eq_func
  have HP := hide' (put_any w.heap.size (w.heap.size + 1) w.heap.size none 0 [] fr fo fcap _ (made w) (hx.turn (made_turn w (fun _ => False)) (fun _ _ _ _ q => q)) (made_not hx) (fun k hk => hok k (h1 k hk)) hc (by show [].length + _ ≤ _; simpa using hlen.out.1))
  have Ht := hide' (made_turn w (fun j => A j ∨ some j = ag))
  have HO := hide' (N.keep _ _ _ _ _ ho (made_turn w (fun _ => False)) (fun j _ q => q.elim))
  have Hlt := hide' (N.lt _ _ _ ho)
  have HN := hide' N
  have hent := N.enters
  have Hsub := hide' (fun n => Bf.st_sub (F := F) (fr := fr) h1 h2 n)
  have Hle := hide' (fun n => Bf.st_le (F := F) (fr := fr) h1 h2 n)
  have H2 := hide' h2
  have Hok := hide' hok
  obtain ⟨B, hB⟩ : ∃ B, B = w.heap.size := ⟨_, rfl⟩
  clear hx hok hc ho h1 h2 N
  go_enter Try.func82, Try.ntmps82
  go_wp2_with fail
  refine HP.out.mono ?_
  rintro e w1 ⟨rfl, hG⟩
  have hM : Hid (∃ ao cap, Mid F fr w.heap.size (w.heap.size + 1) w.heap.size A O ag w 0 w1 ao cap ag) := by
    obtain ⟨ao, cap, hL, t1, hgo⟩ := hG
    refine ⟨ao, cap, hL, ?_, ?_, .inl rfl, ?_, by omega⟩
    · refine HN.out.keep _ _ _ _ _ HO.out t1 (fun j hj q => ?_)
      rcases q with q | q | ⟨a, e, _⟩
      · exact ⟨by omega, fun e => by have := Hlt.out j e.symm; omega⟩
      · exact ⟨by omega, fun e => by have := Hlt.out j e.symm; omega⟩
      · cases e
    · refine Ht.out.then t1 (fun j hj q => ?_)
      rcases q with q | q | ⟨a, e, _⟩
      · exfalso; omega
      · exfalso; omega
      · cases e
    · intro j e q
      have hj := Hlt.out j e
      rcases q with q | q | ⟨a, e2, q⟩
      · omega
      · omega
      · have := (hL.apart (by decide) a e2).2.2.1; omega
  clear hG HP HO Ht
  go_wp2_with fail
  go_loopw [6] (fun i wx => ∃ n : Nat, i = .int .i64 (n : Int) ∧ ∃ ao cap ag', Mid F fr w.heap.size (w.heap.size + 1) w.heap.size A O ag w n wx ao cap ag') (fun i _ => u.length - (intOf i).toNat)
  case atStart =>
    obtain ⟨ao, cap, h⟩ := hM.out
    exact ⟨0, rfl, ao, cap, ag, h⟩
  case round =>
    obtain ⟨n, rfl, ao, cap, ag', h⟩ := hrel
    have hle := Hle.out n
    by_cases hlt : n < (Bf.st F fr n).length
    · obtain ⟨k, hk⟩ : ∃ k, (Bf.st F fr n)[n]? = some k := ⟨_, List.getElem?_eq_getElem hlt⟩
      have hku : k ∈ u := Hsub.out n k (List.mem_of_getElem? hk)
      obtain ⟨g, rfl, hcell, hcap, hg1, hg2⟩ := row_at h.1.row hk
      have c0 := h.1.c0
      have Hk := hide' hk
      have hl64 : ((Bf.st F fr n).length : Int) < 1099511627777 := by have := hlen.out.2 k hku; omega
      have hlt' : (n : Int) < ((Bf.st F fr n).length : Int) := by omega
      have Hst := hide' (fun ag2 w1 w2 o1 t1 hag hg => Mid.step HN.out (ag2 := ag2) (w1 := w1) (w2 := w2) h hk o1 t1 hag hg rfl)
      have hq := hide' h.2.2.2.2.1
      have HC := hide' (HN.out.call _ _ k _ hku h.2.1 (by have := h.2.2.1.size; omega) (by simp; omega))
      have HM := hide' h
      clear h
      go_wp2_with fail
      refine HC.out.mono ?_
      rintro e w2 ⟨to, tcap, ag2, rfl, htc, hI, ho2, t2, hag2, hto⟩
      have hL2 : LnI w.heap.size (w.heap.size + 1) w.heap.size (some ⟨g, 0, none⟩) cap (Bf.st F fr n) (Bf.st F fr n) w2 := by
        have hL := HM.out.1
        have nA : ∀ j, w.heap.size ≤ j → Own (w.heap.size + 1) w.heap.size (some ⟨g, 0, none⟩) j → ¬ (A j ∨ some j = ag') := fun j hj q r => by
          rcases r with r | r
          · have := HN.out.low j r; omega
          · exact hq.out j r.symm q
        exact hL.kept t2 (nA _ (by omega) (.inl rfl)) (nA _ (by omega) (.inr (.inl rfl))) (fun a e => by cases e; exact nA _ hg1 (.inr (.inr ⟨_, rfl, rfl⟩)))
      have hnot : F k ≠ [] → ∀ b off, to = some ⟨b, off, none⟩ → ¬ Own (w.heap.size + 1) w.heap.size (some ⟨g, 0, none⟩) b := fun hn b off e q => by
        have hr := hto hn b off e
        have hx := HM.out.1.lt
        have hm := HM.out.1.ltm
        rcases q with q | q | ⟨a, e2, q⟩
        · omega
        · omega
        · cases e2; simp at q; omega
      have HP2 := hide' (put_any w.heap.size (w.heap.size + 1) w.heap.size (some ⟨g, 0, none⟩) cap _ (F k) to tcap w2 hL2 hI hnot (fun j hj => Hok.out j (H2.out k hku j hj)) htc (by have := hlen.out.2 k hku; show _ ≤ _; omega))
      have HS := hide' (fun w3 hg => Hst.out ag2 w2 w3 ho2 t2 hag2 hg)
      clear hL2 hnot hI ho2 t2 hag2 hto htc
      go_wp2_with fail
      refine HP2.out.mono ?_
      rintro e w3 ⟨rfl, hG⟩
      obtain ⟨ao3, cap3, h3⟩ := HS.out w3 hG
      have H3 := hide' h3
      clear h3 hG
      go_wp2_with fail
      exact ⟨⟨n + 1, by go_num, ao3, cap3, ag2, H3.out⟩, by simp [intOf]; omega⟩
    · have hn : (Bf.st F fr n).length = n := by have := h.2.2.2.2.2; omega
      have c0 := h.1.c0
      have hlt' : ¬ (n : Int) < ((Bf.st F fr n).length : Int) := by omega
      have K : Hid (CloseIs F fr w.heap.size A O ag w (.returned (.slice ao (Bf.st F fr n).length cap)) wr) := by
        obtain ⟨hL, ho, ht, ha, hq, _⟩ := h
        refine ⟨n, ao, cap, ag', hn, by rw [hn], by have := hL.row; rw [hn] at this; exact this, ?_, ht, ha, fun a e q => ?_⟩
        · rw [List.take_of_length_le (by omega)] at ho; exact ho
        · exact hq _ q.symm (.inr (.inr ⟨a, e, rfl⟩))
      clear h hn
      go_wp2
      go_ret
      exact K.out
end S
end Go.Proofs.Ytdhmommfmmiieaa
set_option linter.unusedVariables false
set_option linter.unusedSimpArgs false
namespace Go.Proofs.Ytdhmommfmmiieaa
open Go.RowKit Go.Maps
namespace S
/-- a row of numbers of one's own -/
def RowI (B : Nat) (ao : Option Addr) (cap : Nat) (zs : List ByteArray) (w : World) : Prop := w.ownsRow B 9 1 (.slice ao zs.length cap) zs.length (zs.flatMap cells)
/-- the block of a row, if there is one -/
def At (ao : Option Addr) (j : Nat) : Prop := ∃ a, ao = some a ∧ j = a.block
theorem RowI.nil (B : Nat) (w : World) : RowI B none 0 [] w := World.ownsRow_nil _ _ _ _
theorem RowI.form {B : Nat} {ao : Option Addr} {cap : Nat} {zs : List ByteArray} {w : World} (h : RowI B ao cap zs w) : (ao = none ∧ zs = [] ∧ cap = 0) ∨ ∃ g, ao = some ⟨g, 0, none⟩ ∧ B ≤ g ∧ g < w.heap.size ∧ zs.length ≤ cap := by
  rcases h.2 with ⟨hv, h0⟩ | ⟨g, cap', cur, hv, hb, hg, h1, h2, h3, h4⟩
  · simp only [Value.slice.injEq] at hv
    exact .inl ⟨hv.1, List.eq_nil_of_length_eq_zero hv.2.1, hv.2.2⟩
  · simp only [Value.slice.injEq] at hv
    obtain ⟨rfl, _, rfl⟩ := hv
    exact .inr ⟨g, rfl, hb, lt_of_heap hg, by omega⟩
theorem RowI.cap {B : Nat} {ao : Option Addr} {cap : Nat} {zs : List ByteArray} {w : World} (h : RowI B ao cap zs w) : zs.length ≤ cap := by
  rcases h.form with ⟨_, rfl, rfl⟩ | ⟨g, _, _, _, h⟩
  · simp
  · exact h
theorem RowI.turn {S : Nat → Prop} {B : Nat} {ao : Option Addr} {cap : Nat} {zs : List ByteArray} {w w' : World} (h : RowI B ao cap zs w) (t : Turn S w w') (hn : ∀ j, At ao j → ¬ S j) : RowI B ao cap zs w' :=
  t.row h (fun g hg => hn g (by cases ao with | none => cases hg | some a => exact ⟨a, rfl, by simpa [Value.ownBlock] using hg.symm⟩))
theorem RowI.below {B : Nat} {ao : Option Addr} {cap : Nat} {zs : List ByteArray} {w w' : World} (h : RowI B ao cap zs w) (t : Below w.heap.size w w') : RowI B ao cap zs w' := h.turn (turn_below (S := fun _ => False) t) (fun _ _ q => q)
theorem RowI.ints {B : Nat} {ao : Option Addr} {cap : Nat} {zs : List ByteArray} {w : World} (h : RowI B ao cap zs w) : Ints ao zs w := by
  rcases h.form with ⟨_, rfl, rfl⟩ | ⟨g, rfl, _, hl, hc⟩
  · exact .inl rfl
  · refine .inr ⟨g, 0, rfl, hl, fun i k q => ?_⟩
    obtain ⟨g', e, hcell, _⟩ := row_at h q
    cases e
    rw [Nat.zero_add]; exact hcell
theorem RowI.lt {B : Nat} {ao : Option Addr} {cap : Nat} {zs : List ByteArray} {w : World} (h : RowI B ao cap zs w) : ∀ j, At ao j → B ≤ j ∧ j < w.heap.size := by
  rintro j ⟨a, rfl, rfl⟩
  rcases h.form with ⟨e, _⟩ | ⟨g, e, h1, h2, _⟩
  · cases e
  · cases e; exact ⟨h1, h2⟩
theorem RowI.mono {B C : Nat} {ao : Option Addr} {cap : Nat} {zs : List ByteArray} {w : World} (h : RowI B ao cap zs w) (hB : C ≤ B) : RowI C ao cap zs w := by
  refine ⟨h.1, ?_⟩
  rcases h.2 with h2 | ⟨g, cap', cur, hv, hb, rest⟩
  · exact .inl h2
  · exact .inr ⟨g, cap', cur, hv, by omega, rest⟩
/-- append of one number, that has been laid into a new block -/
theorem wpList_app1 (w0 : World) {ops : Array Oper} {rest : List Oper} {o : Oper} {a : Act} {Q : Exit → Act → World → Prop} (hgd : o.guard = none) (s x : Operand)
    (ho : o.op = .call { callee := .builtin .append, args := #[s, x], argTypes := #[25, 25] }) (B : Nat) (ao : Option Addr) (cap : Nat) (zs : List ByteArray) (k : ByteArray) (t : TypeId) (c : Nat) (hs : a.eval s = .slice ao zs.length cap) (hrow : RowI B ao cap zs w0)
    (hx : a.eval x = .slice (some ⟨w0.heap.size, 0, none⟩) 1 c) (hb : Hid (zs.length < 4398046511104)) (hB : B ≤ w0.heap.size)
    (h : ∀ g cap' w', RowI B (some ⟨g, 0, none⟩) cap' (zs ++ [k]) w' → Turn (At ao) w0 w' → (ao = some ⟨g, 0, none⟩ ∨ w0.heap.size ≤ g) → g < w'.heap.size → wpList Try.prog ops Q rest (a.put o.dst (.slice (some ⟨g, 0, none⟩) (zs.length + 1) cap')) w') :
    wpList Try.prog ops Q (o :: rest) a (w0.alloc (.cells #[.string k] t)) := by
  obtain ⟨i0, hi, hz0, hz1, hz2⟩ := info_parts infoE
  refine wpList_append_lies _ hgd s x 25 ho B 9 i0 (.string ByteArray.empty) 1 16 Try.underlying25 hi hz0 hz1 hz2 rfl (by decide) _ _ _ hs (World.ownsRow.alloc hrow _) ⟨w0.heap.size, 0, none⟩ 1 c [.string k] hx rfl (cell_one_new _ _ _) (by simp [Value.oneCell']) (by decide) (by have := hb.out; unfold maxLen; omega) (by have := hb.out; omega) (by simp; omega) (w0.heap.size + 1) (by simp) ?_
  intro g cap' w1 hrow1 hgrow hat hlt
  refine h g cap' w1 ?_ (((Turn.refl _ w0).alloc _).grown hgrow (fun j hj _ => by
    cases ao with
    | none => cases hj
    | some ad => exact ⟨ad, rfl, by simpa [Value.ownBlock] using hj.symm⟩)) ?_ hlt
  · unfold RowI; rw [List.length_append, List.flatMap_append]; simpa [cells] using hrow1
  · rcases hat with q | q
    · cases ao with
      | none => cases q
      | some ad =>
        left
        rcases hrow.form with ⟨e, _⟩ | ⟨g', e, _⟩
        · cases e
        · cases e; simp only [Value.ownBlock, Option.some.injEq] at q; rw [q]
    · right; omega
theorem flat_map (zs : List ByteArray) : zs.flatMap cells = zs.map (fun k => Value.string k) := by
  induction zs with
  | nil => rfl
  | cons a r ih => simp [cells, ih]
/-- a cell of one's own row is written over -/
theorem RowI.put {B : Nat} {g cap : Nat} {zs : List ByteArray} {w : World} (h : RowI B (some ⟨g, 0, none⟩) cap zs w) (i : Nat) (k : ByteArray) (hi : i < zs.length) : RowI B (some ⟨g, 0, none⟩) cap (zs.set i k) (w.setCell ⟨g, i, none⟩ (.string k)) := by
  rcases h.2 with ⟨hv, h0⟩ | ⟨g', cap', cur, hv, hb, hg, h1, h2, h3, h4⟩
  · cases hv
  simp only [Value.slice.injEq, Option.some.injEq] at hv
  obtain ⟨he, _, rfl⟩ := hv
  cases he
  refine ⟨by rw [flat_len]; simp, .inr ⟨g, cap, cur.setIfInBounds i (.string k), by simp, hb, ?_, by simp; omega, h2, by simpa using h3, ?_⟩⟩
  · simp [World.setCell, Array.getElem?_modify, hg]
  · rw [flat_map] at h4 ⊢
    rw [List.map_set, ← h4, Array.toList_setIfInBounds]
    simp only [List.length_set]
    rw [List.take_set]
end S
end Go.Proofs.Ytdhmommfmmiieaa
