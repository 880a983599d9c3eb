import Derived.Test.YtppcofopnelgjaaGreatDoorTok
import Derived.OwnWalk
import Derived.Deep.AppendLies
set_option linter.unusedVariables false
set_option linter.unusedSimpArgs false
namespace Go.Proofs.YtppcofopnelgjaaGreatDoor
open Go.RowKit
theorem info21 : (Tryz.prog.info? 21).map (fun i => (i.zero, i.size, i.bytes)) = some (some (.int .i32 0), 1, 4) := by kernel_rfl
theorem info3 : (Tryz.prog.info? 3).map (fun i => (i.zero, i.size, i.bytes)) = some (some (.int .i64 0), 1, 8) := by kernel_rfl
theorem World.size_alloc' (w : World) (o : Obj) : (w.alloc o).heap.size = w.heap.size + 1 := by simp
theorem size_setCell' (w : World) (a : Addr) (v : Value) : (w.setCell a v).heap.size = w.heap.size := by simp [World.setCell]
theorem addr_add (g j : Nat) : (⟨g, 0, none⟩ : Addr).add j = ⟨g, j, none⟩ := by
  unfold Addr.add; split <;> simp_all
theorem one_new (w : World) (x : Value) (t : TypeId) : ∀ j u, [x][j]? = some u → (w.alloc (.cells #[x] t)).cell? ((⟨w.heap.size, 0, none⟩ : Addr).add j) = some u := by
  intro j u hj
  exact World.news_of_block (heap_alloc_new w (.cells #[x] t)) j u (by simpa using hj)
theorem load3 (w : World) (g : Nat) (a b c : Value) (h0 : w.cell? ⟨g, 0, none⟩ = some a) (h1 : w.cell? ⟨g, 1, none⟩ = some b) (h2 : w.cell? ⟨g, 2, none⟩ = some c) : (loadVar 131 ⟨g, 0, none⟩).run Tryz.prog w = .ok (.agg #[a, b, c]) w := by
  have hu := Tryz.underlying131
  have hl : (loadCells ⟨g, 0, none⟩ [a, b, c].length).run Tryz.prog w = .ok [a, b, c].toArray w :=
    run_loadCells_list (P := Tryz.prog) w ⟨g, 0, none⟩ [a, b, c] (fun j v hv => by
      have hadd : (⟨g, 0, none⟩ : Addr).add j = ⟨g, j, none⟩ := by unfold Addr.add; split <;> simp_all
      rw [hadd]
      match j, hv with
      | 0, hv => simp at hv; subst hv; exact h0
      | 1, hv => simp at hv; subst hv; exact h1
      | 2, hv => simp at hv; subst hv; exact h2
      | _ + 3, hv => simp at hv)
  have hi : (Tryz.prog.info? 131).map (·.size) = some 3 := by kernel_rfl
  cases hq : Tryz.prog.info? 131 with
  | none => simp [hq] at hi
  | some i =>
    have hs : i.size = 3 := by simpa [hq] using hi
    have hagg : (isAgg 131).run Tryz.prog w = .ok true w := by
      unfold isAgg
      rw [Sem.run_bind, run_underlying hu w]
      rfl
    simp only [List.length_cons, List.length_nil] at hl
    simp [loadVar, Sem.run_bind, hagg, sizeOf, typeInfo, hq, hs, hl]
theorem results3 {fn : Func} {p : Tmp} (h : fn.results = #[.cell p 131]) (tmps : Array Value) (w : World) (g : Nat) (a b c : Value) (hp : tmps.getD p undef = .pointer (some ⟨g, 0, none⟩)) (h0 : w.cell? ⟨g, 0, none⟩ = some a) (h1 : w.cell? ⟨g, 1, none⟩ = some b) (h2 : w.cell? ⟨g, 2, none⟩ = some c) :
    (results fn tmps).run Tryz.prog w = .ok (.agg #[a, b, c]) w := by
  have hp' : tmps[p]?.getD undef = .pointer (some ⟨g, 0, none⟩) := by simpa using hp
  simp [results, h, hp', asAddr, load3 w g a b c h0 h1 h2]
/-- WHAT STANDS WHILE A TEXT IS TAKEN APART -/
structure CI (w : World) (s : ByteArray) (c : Nat) (rv sv : Value) (xs ys : List Value) (pos : Nat) (wx : World) : Prop where
  k0 : wx.cell? ⟨c, 0, none⟩ = some (.string s)
  k1 : wx.cell? ⟨c, 1, none⟩ = some rv
  k2 : wx.cell? ⟨c, 2, none⟩ = some sv
  f1 : wx.frozen? ⟨c, 1, none⟩ = false
  f2 : wx.frozen? ⟨c, 2, none⟩ = false
  it : wx.heap[c + 1]? = some (.stringIter s pos)
  rr : wx.ownsRow (c + 2) 21 1 rv xs.length xs
  sr : wx.ownsRow (c + 2) 3 1 sv ys.length ys
  ap : ∀ g, rv.ownBlock = some g → sv.ownBlock ≠ some g
  res : wx.heap[w.heap.size]? = some (.cells #[.string ⟨#[]⟩, .slice none 0 0, .slice none 0 0] 131 (0, 0))
  bel : Below w.heap.size w wx
  lo : w.heap.size < c
  le : c + 2 ≤ wx.heap.size
theorem CI.iter {w : World} {s : ByteArray} {c : Nat} {rv sv : Value} {xs ys : List Value} {pos : Nat} {wx : World} (h : CI w s c rv sv xs ys pos wx) (p : Nat) : CI w s c rv sv xs ys p (wx.iterAt (c + 1) s p) := by
  have hb : ∀ k, k ≠ c + 1 → (wx.iterAt (c + 1) s p).heap[k]? = wx.heap[k]? := fun k hk => Lib.iterAt_other wx (c + 1) k s p hk
  have t : Turn (fun k => k = c + 1) wx (wx.iterAt (c + 1) s p) := ⟨rfl, rfl, rfl, by rw [Lib.iterAt_size]; exact Nat.le_refl _, fun k _ hk => hb k hk⟩
  have lo := h.lo
  exact ⟨(World.cell?_of_block (hb c (by omega))).trans h.k0, (World.cell?_of_block (hb c (by omega))).trans h.k1, (World.cell?_of_block (hb c (by omega))).trans h.k2, (World.frozen?_of_block (hb c (by omega))).trans h.f1, (World.frozen?_of_block (hb c (by omega))).trans h.f2, Lib.iterAt_heap wx (c + 1) s pos p h.it, t.row h.rr (fun g hg => by have := (h.rr.lt g hg).1; omega), t.row h.sr (fun g hg => by have := (h.sr.lt g hg).1; omega), h.ap, (hb _ (by omega)).trans h.res, Lib.below_iterAt h.bel (by omega) s p, h.lo, by rw [Lib.iterAt_size]; exact h.le⟩
/-- one more rune -/
theorem CI.rune {w : World} {s : ByteArray} {c : Nat} {rv sv : Value} {xs ys : List Value} {pos : Nat} {wx w3 : World} (h : CI w s c rv sv xs ys pos wx) (o : Obj) (x : Value) (g cap : Nat)
    (hrow : w3.ownsRow (c + 2) 21 1 (.slice (some ⟨g, 0, none⟩) (xs.length + 1) cap) (xs.length + 1) (xs ++ [x])) (hgr : (wx.alloc o).grownBy w3 rv.ownBlock) (hg : rv.ownBlock = some g ∨ g = wx.heap.size + 1) :
    CI w s c (.slice (some ⟨g, 0, none⟩) (xs.length + 1) cap) sv (xs ++ [x]) ys pos (w3.setCell ⟨c, 1, none⟩ (.slice (some ⟨g, 0, none⟩) (xs.length + 1) cap)) := by
  have lo := h.lo
  have le := h.le
  have hlow : ∀ k, k < c + 2 → some k ≠ rv.ownBlock := fun k hk e => by have := (h.rr.lt k e.symm).1; omega
  have hb : ∀ k, k < c + 2 → w3.heap[k]? = wx.heap[k]? := fun k hk => (hgr.block k (by simp; omega) (hlow k hk)).trans (Below.heap_alloc _ _ _ (by omega))
  have hb' : ∀ k, k < c + 2 → k ≠ c → (w3.setCell ⟨c, 1, none⟩ (.slice (some ⟨g, 0, none⟩) (xs.length + 1) cap)).heap[k]? = wx.heap[k]? := fun k hk hne => (Below.heap_setCell _ _ _ _ (by simpa using hne)).trans (hb k hk)
  have t3 : Turn (fun k => k = c) w3 (w3.setCell ⟨c, 1, none⟩ (.slice (some ⟨g, 0, none⟩) (xs.length + 1) cap)) := (Turn.refl (fun k => k = c) w3).setCell (p := ⟨c, 1, none⟩) (fun _ => rfl) _
  have q0 := (World.cell?_of_block (hb c (by omega))).trans h.k0
  have q1 := (World.cell?_of_block (hb c (by omega))).trans h.k1
  have q2 := (World.cell?_of_block (hb c (by omega))).trans h.k2
  have hsr : w3.ownsRow (c + 2) 3 1 sv ys.length ys := (h.sr.alloc o).kept hgr (by
    cases hs : sv.ownBlock with
    | none => exact Or.inl rfl
    | some k => exact Or.inr (fun e => h.ap k e.symm hs))
  refine ⟨?_, (by go_simp), ?_, ?_, ?_, (hb' _ (by omega) (by omega)).trans h.it, ?_, t3.row hsr (fun k hk => by have := (hsr.lt k hk).1; omega), ?_, (hb' _ (by omega) (by omega)).trans h.res, ?_, lo, ?_⟩
  · go_simp
  · go_simp
  · rw [World.frozen?_setCell]; exact (World.frozen?_of_block (hb c (by omega))).trans h.f1
  · rw [World.frozen?_setCell]; exact (World.frozen?_of_block (hb c (by omega))).trans h.f2
  · rw [List.length_append]; exact t3.row hrow (fun k hk => by have := (hrow.lt k hk).1; omega)
  · intro k hk e
    have hk' : g = k := by simpa [Value.ownBlock] using hk
    rcases hg with hg | hg
    · exact h.ap g hg (by rw [hk']; exact e)
    · have := (h.sr.lt k e).2; omega
  · refine Below.setCell ?_ (by simp; omega) _
    exact (h.bel.alloc (by omega) o).grown hgr (by simp; omega) (fun k hk => by have := (h.rr.lt k hk).1; omega)
  · have h1 := hgr.size; have h2 := t3.size; simp at h1; omega
/-- behind an append the characters' block is as it was -/
theorem CI.mid {w : World} {s : ByteArray} {c : Nat} {rv sv : Value} {xs ys : List Value} {pos : Nat} {wx w3 : World} (h : CI w s c rv sv xs ys pos wx) (o : Obj) {v : Value} (hv : v = rv ∨ v = sv) (hgr : (wx.alloc o).grownBy w3 v.ownBlock) :
    w3.cell? ⟨c, 0, none⟩ = some (.string s) ∧ w3.cell? ⟨c, 1, none⟩ = some rv ∧ w3.cell? ⟨c, 2, none⟩ = some sv ∧ w3.frozen? ⟨c, 1, none⟩ = false ∧ w3.frozen? ⟨c, 2, none⟩ = false := by
  have lo := h.lo
  have le := h.le
  have hlow : some c ≠ v.ownBlock := fun e => by
    rcases hv with rfl | rfl
    · have := (h.rr.lt c e.symm).1; omega
    · have := (h.sr.lt c e.symm).1; omega
  have hb : w3.heap[c]? = wx.heap[c]? := (hgr.block c (by simp; omega) hlow).trans (Below.heap_alloc _ _ _ (by omega))
  exact ⟨(World.cell?_of_block hb).trans h.k0, (World.cell?_of_block hb).trans h.k1, (World.cell?_of_block hb).trans h.k2, (World.frozen?_of_block hb).trans h.f1, (World.frozen?_of_block hb).trans h.f2⟩
/-- one more start -/
theorem CI.start {w : World} {s : ByteArray} {c : Nat} {rv sv : Value} {xs ys : List Value} {pos : Nat} {wx w3 : World} (h : CI w s c rv sv xs ys pos wx) (o : Obj) (x : Value) (g cap : Nat)
    (hrow : w3.ownsRow (c + 2) 3 1 (.slice (some ⟨g, 0, none⟩) (ys.length + 1) cap) (ys.length + 1) (ys ++ [x])) (hgr : (wx.alloc o).grownBy w3 sv.ownBlock) (hg : sv.ownBlock = some g ∨ g = wx.heap.size + 1) :
    CI w s c rv (.slice (some ⟨g, 0, none⟩) (ys.length + 1) cap) xs (ys ++ [x]) pos (w3.setCell ⟨c, 2, none⟩ (.slice (some ⟨g, 0, none⟩) (ys.length + 1) cap)) := by
  have lo := h.lo
  have le := h.le
  have hlow : ∀ k, k < c + 2 → some k ≠ sv.ownBlock := fun k hk e => by have := (h.sr.lt k e.symm).1; omega
  have hb : ∀ k, k < c + 2 → w3.heap[k]? = wx.heap[k]? := fun k hk => (hgr.block k (by simp; omega) (hlow k hk)).trans (Below.heap_alloc _ _ _ (by omega))
  have hb' : ∀ k, k < c + 2 → k ≠ c → (w3.setCell ⟨c, 2, none⟩ (.slice (some ⟨g, 0, none⟩) (ys.length + 1) cap)).heap[k]? = wx.heap[k]? := fun k hk hne => (Below.heap_setCell _ _ _ _ (by simpa using hne)).trans (hb k hk)
  have t3 : Turn (fun k => k = c) w3 (w3.setCell ⟨c, 2, none⟩ (.slice (some ⟨g, 0, none⟩) (ys.length + 1) cap)) := (Turn.refl (fun k => k = c) w3).setCell (p := ⟨c, 2, none⟩) (fun _ => rfl) _
  have q0 := (World.cell?_of_block (hb c (by omega))).trans h.k0
  have q1 := (World.cell?_of_block (hb c (by omega))).trans h.k1
  have q2 := (World.cell?_of_block (hb c (by omega))).trans h.k2
  have hsr : w3.ownsRow (c + 2) 21 1 rv xs.length xs := (h.rr.alloc o).kept hgr (by
    cases hs : rv.ownBlock with
    | none => exact Or.inl rfl
    | some k => exact Or.inr (fun e => h.ap k hs e.symm))
  refine ⟨?_, ?_, (by go_simp), ?_, ?_, (hb' _ (by omega) (by omega)).trans h.it, t3.row hsr (fun k hk => by have := (hsr.lt k hk).1; omega), ?_, ?_, (hb' _ (by omega) (by omega)).trans h.res, ?_, lo, ?_⟩
  · go_simp
  · go_simp
  · rw [World.frozen?_setCell]; exact (World.frozen?_of_block (hb c (by omega))).trans h.f1
  · rw [World.frozen?_setCell]; exact (World.frozen?_of_block (hb c (by omega))).trans h.f2
  · rw [List.length_append]; exact t3.row hrow (fun k hk => by have := (hrow.lt k hk).1; omega)
  · intro k hk e
    have hk' : g = k := by simpa [Value.ownBlock] using e
    rcases hg with hg | hg
    · exact h.ap k hk (by rw [← hk']; exact hg)
    · have := (h.rr.lt k hk).2; omega
  · refine Below.setCell ?_ (by simp; omega) _
    exact (h.bel.alloc (by omega) o).grown hgr (by simp; omega) (fun k hk => by have := (h.sr.lt k hk).1; omega)
  · have h1 := hgr.size; have h2 := t3.size; simp at h1; omega

set_option maxHeartbeats 2000000 in
set_option maxRecDepth 100000 in
theorem charactersOf_any (s : ByteArray) (w : World) (hs : s.size ≤ 65536) :
    Calls Tryz.prog 66 #[.string s] w fun e w' => ∃ T : Tx, T.s = s ∧ T.C = L.cx s ∧ T.Ok ∧ e = .returned (.agg #[.string s, T.rv, T.sv]) ∧ T.In (fun k => k < w.heap.size) w' ∧ (0 < T.N ∨ T.ro = none) ∧ Below w.heap.size w w' := by
  obtain ⟨i0, hi, hz0, hz1, hz2⟩ := info_parts info21
  obtain ⟨i1, hi', hy0, hy1, hy2⟩ := info_parts info3
  go_enter Tryz.func66, Tryz.ntmps66
  go_wp2_with (go_at_call 76; refine (clone_any _ _ hs).mono ?_; rintro e w1 ⟨rfl, b1⟩)
  obtain ⟨c, hc⟩ : ∃ c, w1.heap.size = c := ⟨_, rfl⟩
  have C0 : Hid (CI w s c (.slice none 0 0) (.slice none 0 0) [] [] 0 ((w1.alloc (.cells #[.string s, .slice none 0 0, .slice none 0 0] 131)).iter s 0)) := by
    have hz := b1.size
    simp only [World.size_alloc'] at hz
    have hk : ((w1.alloc (.cells #[.string s, .slice none 0 0, .slice none 0 0] 131)).iter s 0).heap[c]? = some (.cells #[.string s, .slice none 0 0, .slice none 0 0] 131 (0, 0)) := by
      refine (Below.heap_alloc _ _ _ (by simp; omega)).trans ?_
      rw [← hc]; exact heap_alloc_new _ _
    have hi2 : ((w1.alloc (.cells #[.string s, .slice none 0 0, .slice none 0 0] 131)).iter s 0).heap[c + 1]? = some (.stringIter s 0) := by
      have := World.iter_heap (w1.alloc (.cells #[.string s, .slice none 0 0, .slice none 0 0] 131)) s 0
      simpa [hc] using this
    have hr : ((w1.alloc (.cells #[.string s, .slice none 0 0, .slice none 0 0] 131)).iter s 0).heap[w.heap.size]? = some (.cells #[.string ⟨#[]⟩, .slice none 0 0, .slice none 0 0] 131 (0, 0)) := by
      refine (Below.heap_alloc _ _ _ (by simp; omega)).trans ((Below.heap_alloc _ _ _ (by omega)).trans ?_)
      rw [b1.block _ (by simp)]; exact heap_alloc_new _ _
    have b0 : Below w.heap.size w (w.alloc (.cells #[.string ⟨#[]⟩, .slice none 0 0, .slice none 0 0] 131)) := (Below.refl _ _).alloc (Nat.le_refl _) _
    refine ⟨by simp [World.cell?, hk], by simp [World.cell?, hk], by simp [World.cell?, hk], by simp [World.frozen?, hk], by simp [World.frozen?, hk], hi2, World.ownsRow_nil _ _ _ _, World.ownsRow_nil _ _ _ _, fun g hg => by simp [Value.ownBlock] at hg, hr, ?_, by omega, ?_⟩
    · exact ((b0.trans (b1.mono (by simp))).alloc (by omega) _).alloc (by simp; omega) _
    · show c + 2 ≤ ((w1.alloc _).alloc _).heap.size; simp; omega
  obtain ⟨W, hW⟩ : ∃ W, (w1.alloc (.cells #[.string s, .slice none 0 0, .slice none 0 0] 131)).iter s 0 = W := ⟨_, rfl⟩
  rw [hW] at C0
  simp only [hc]
  simp only [hW]
  clear hW b1 hc
  go_loopw [] (fun wx => ∃ (pos f : Nat) (n : Int × Int) (acc : List L.Cx) (rv sv : Value), CI w s c rv sv (acc.map fun x => .int .i32 x.r) (acc.map fun x => .int .i64 (x.a : Int)) pos wx ∧ acc ++ L.cxs s f pos n = L.cx s ∧ s.size ≤ pos + f ∧ pos ≤ s.size ∧ acc.length ≤ pos ∧ (acc = [] → rv = .slice none 0 0)) (fun wx => s.size - wx.iterPos (c + 1))
  case atStart => exact ⟨0, s.size, (1, 1), [], _, _, C0.out, rfl, by omega, by omega, by simp, fun _ => rfl⟩
  case round =>
    obtain ⟨pos, f, n, acc, rv, sv, ci, hacc, hf, hp, hal, hnil⟩ := hrel
    have Hnil := hide' hnil
    clear hnil
    have Hacc := hide' hacc
    clear hacc
    by_cases hps : pos < s.size
    · have hnx : ∀ ty, (Instr.next (.pointer (some ⟨c + 1, 0, none⟩)) true ty).run Tryz.prog wr = .ok (.tuple #[.bool true, .int .i64 pos, .int .i32 (L.rn s pos)]) (wr.iterAt (c + 1) s (pos + L.wd s pos)) := fun ty => Lib.run_next_any_at wr (c + 1) s pos ty ci.it hps
      have ci2 := ci.iter (pos + L.wd s pos)
      have Hit := hide' ci.it
      obtain ⟨W2, hW2⟩ : ∃ W2, wr.iterAt (c + 1) s (pos + L.wd s pos) = W2 := ⟨_, rfl⟩
      rw [hW2] at hnx ci2
      have hwp := L.wd_pos s pos
      have hwi := L.wd_in s pos hps
      have x1 := ci2.k1
      have xf1 := ci2.f1
      have n1 : Hid (acc.length + 1 ≤ maxLen) := (show acc.length + 1 ≤ maxLen by unfold maxLen; omega)
      have n2 : Hid ((acc.length + 1) * 4 ≤ 140737488355328 ∧ (acc.length + 1) * 8 ≤ 140737488355328) := (show _ ∧ _ from ⟨by omega, by omega⟩)
      have A := hide' ci2
      have len1 : (acc.map fun x : L.Cx => Value.int .i32 x.r).length = acc.length := by simp
      have len2 : (acc.map fun x : L.Cx => Value.int .i64 (x.a : Int)).length = acc.length := by simp
      have Hl := hide' (And.intro len1 len2)
      clear ci ci2 hW2 len1 len2
      go_wp2_with (at_builtin; first
        | (refine wpList_append_lies _ rfl _ _ 62 rfl (c + 2) 3 i1 _ 1 8 Tryz.underlying62 hi' hy0 hy1 hy2 rfl (by decide) _ _ _ rfl (A3.out.sr.alloc _) ⟨w3.heap.size, 0, none⟩ 1 1 [.int .i64 pos] rfl rfl (by rw [← Hsz.out]; exact one_new _ _ _) (by simp [Value.oneCell']) (by decide) (by rw [Hl.out.2]; exact n1.out) (by rw [Hl.out.2]; exact n2.out.2) (by have := A3.out.le; rw [World.size_alloc']; omega) (w3.heap.size + 1) (by rw [World.size_alloc', Hsz.out]) ?_; intro g2 rc2 w5 hrow5 hgrow5 hat5 hlt5; obtain ⟨m0, m1, m2, m3, m4⟩ := A3.out.mid _ (Or.inr rfl) hgrow5; have A5 := hide' (A3.out.start _ _ _ _ hrow5 hgrow5 (by rw [Hsz.out]; exact hat5)); rw [Hl.out.2] at A5; clear hrow5 hgrow5 hat5)
        | (refine wpList_append_lies _ rfl _ _ 129 rfl (c + 2) 21 i0 _ 1 4 Tryz.underlying129 hi hz0 hz1 hz2 rfl (by decide) _ _ _ rfl (A.out.rr.alloc _) ⟨W2.heap.size, 0, none⟩ 1 1 [.int .i32 (L.rn s pos)] rfl rfl (one_new _ _ _) (by simp [Value.oneCell']) (by decide) (by rw [Hl.out.1]; exact n1.out) (by rw [Hl.out.1]; exact n2.out.1) (by have := A.out.le; simp; omega) (W2.heap.size + 1) (by simp) ?_; intro g rc w3 hrow3 hgrow3 hat3 hlt3; obtain ⟨l0, l1, l2, l3, l4⟩ := A.out.mid _ (Or.inl rfl) hgrow3; have A3 := hide' (A.out.rune _ _ _ _ hrow3 hgrow3 hat3); rw [Hl.out.1] at A3; have Hsz : Hid ((w3.setCell ⟨c, 1, none⟩ (.slice (some ⟨g, 0, none⟩) (acc.length + 1) rc)).heap.size = w3.heap.size) := size_setCell' _ _ _; clear hrow3 hgrow3 hat3))
      obtain ⟨f', q1, q2⟩ := L.cxs_on s f pos n hf hps
      have hci := A5.out
      have em1 : (acc.map fun x : L.Cx => Value.int .i32 x.r) ++ [.int .i32 (L.rn s pos)] = (acc ++ [(⟨s.extract pos (pos + L.wd s pos), L.rn s pos, n.1, n.2, pos⟩ : L.Cx)]).map fun x : L.Cx => Value.int .i32 x.r := by simp
      have em2 : (acc.map fun x : L.Cx => Value.int .i64 (x.a : Int)) ++ [.int .i64 (pos : Int)] = (acc ++ [(⟨s.extract pos (pos + L.wd s pos), L.rn s pos, n.1, n.2, pos⟩ : L.Cx)]).map fun x : L.Cx => Value.int .i64 (x.a : Int) := by simp
      rw [em1, em2] at hci
      refine ⟨⟨pos + L.wd s pos, f', L.nxt n (L.rn s pos), _, _, _, hci, ?_, q2, hwi, ?_, fun h => by simp at h⟩, ?_⟩
      · rw [List.append_assoc, ← Hacc.out, q1]; rfl
      · rw [List.length_append]; simp; omega
      · rw [iterPos_of A5.out.it, iterPos_of Hit.out]; omega
    · have hnx : ∀ ty, (Instr.next (.pointer (some ⟨c + 1, 0, none⟩)) true ty).run Tryz.prog wr = _ := fun ty => Lib.run_next_end_at wr (c + 1) s pos ty ci.it hps
      obtain ⟨ro, rc, hrv, hcap, hro⟩ : ∃ ro rc, rv = .slice ro acc.length rc ∧ acc.length ≤ rc ∧ ((ro = none ∧ acc.length = 0) ∨ ∃ g, ro = some ⟨g, 0, none⟩) := by
        rcases ci.rr.2 with ⟨h1, h2⟩ | ⟨g, cap, cur, h1, _, _, h4, _⟩
        · simp at h2; exact ⟨none, 0, by rw [h1]; simp [h2], by simp [h2], Or.inl ⟨rfl, by simp [h2]⟩⟩
        · rw [List.length_map] at h1 h4; exact ⟨_, _, h1, h4, Or.inr ⟨g, rfl⟩⟩
      subst hrv
      have hpe : pos = s.size := by omega
      have x0 := ci.k0
      have x1 := ci.k1
      have x2 := ci.k2
      have n1 : Hid (acc.length + 1 ≤ maxLen) := (show acc.length + 1 ≤ maxLen by unfold maxLen; omega)
      have n2 : Hid ((acc.length + 1) * 8 ≤ 140737488355328) := (show (acc.length + 1) * 8 ≤ 140737488355328 by omega)
      have len2 : (acc.map fun x : L.Cx => Value.int .i64 (x.a : Int)).length = acc.length := by simp
      have Hl := hide' len2
      have A := hide' ci
      have Hpe := hide' hpe
      clear ci len2 hpe
      go_wp2_with (at_builtin; go_loud (refine wpList_append_lies _ rfl _ _ 62 rfl (c + 2) 3 i1 _ 1 8 Tryz.underlying62 hi' hy0 hy1 hy2 rfl (by decide) _ _ _ rfl (A.out.sr.alloc _) ⟨wr.heap.size, 0, none⟩ 1 1 [.int .i64 s.size] rfl rfl (one_new _ _ _) (by simp [Value.oneCell']) (by decide) (by rw [Hl.out]; exact n1.out) (by rw [Hl.out]; exact n2.out) (by have := A.out.le; simp; omega) (wr.heap.size + 1) (by simp) ?_; intro g2 rc2 w5 hrow5 hgrow5 hat5 hlt5; obtain ⟨m0, m1, m2, m3, m4⟩ := A.out.mid _ (Or.inr rfl) hgrow5; have A5 := hide' (A.out.start _ _ _ _ hrow5 hgrow5 hat5); rw [Hl.out] at A5; have hlo := A.out.lo; have hr5 := (Below.heap_setCell w5 ⟨c, 2, none⟩ (.slice (some ⟨g2, 0, none⟩) (acc.length + 1) rc2) w.heap.size (by simp; omega)).symm.trans A5.out.res; have r0 : w5.cell? ⟨w.heap.size, 0, none⟩ = some (.string ⟨#[]⟩) := (by simp [World.cell?, hr5]); have r1 : w5.cell? ⟨w.heap.size, 1, none⟩ = some (.slice none 0 0) := (by simp [World.cell?, hr5]); have r2 : w5.cell? ⟨w.heap.size, 2, none⟩ = some (.slice none 0 0) := (by simp [World.cell?, hr5]); have z0 : w5.frozen? ⟨w.heap.size, 0, none⟩ = false := (by simp [World.frozen?, hr5]); have z1 : w5.frozen? ⟨w.heap.size, 1, none⟩ = false := (by simp [World.frozen?, hr5]); have z2 : w5.frozen? ⟨w.heap.size, 2, none⟩ = false := (by simp [World.frozen?, hr5]); have hne1 : w.heap.size ≠ c := (by omega); have hne2 : c ≠ w.heap.size := (by omega); clear hrow5 hgrow5 hat5))
      have e0 : ((((w5.setCell ⟨c, 2, none⟩ (.slice (some ⟨g2, 0, none⟩) (acc.length + 1) rc2)).setCell ⟨w.heap.size, 0, none⟩ (.string s)).setCell ⟨w.heap.size, 1, none⟩ (.slice ro acc.length rc)).setCell ⟨w.heap.size, 2, none⟩ (.slice (some ⟨g2, 0, none⟩) (acc.length + 1) rc2)).cell? ⟨w.heap.size, 0, none⟩ = some (.string s) := by go_simp
      have e1 : ((((w5.setCell ⟨c, 2, none⟩ (.slice (some ⟨g2, 0, none⟩) (acc.length + 1) rc2)).setCell ⟨w.heap.size, 0, none⟩ (.string s)).setCell ⟨w.heap.size, 1, none⟩ (.slice ro acc.length rc)).setCell ⟨w.heap.size, 2, none⟩ (.slice (some ⟨g2, 0, none⟩) (acc.length + 1) rc2)).cell? ⟨w.heap.size, 1, none⟩ = some (.slice ro acc.length rc) := by go_simp
      have e2 : ((((w5.setCell ⟨c, 2, none⟩ (.slice (some ⟨g2, 0, none⟩) (acc.length + 1) rc2)).setCell ⟨w.heap.size, 0, none⟩ (.string s)).setCell ⟨w.heap.size, 1, none⟩ (.slice ro acc.length rc)).setCell ⟨w.heap.size, 2, none⟩ (.slice (some ⟨g2, 0, none⟩) (acc.length + 1) rc2)).cell? ⟨w.heap.size, 2, none⟩ = some (.slice (some ⟨g2, 0, none⟩) (acc.length + 1) rc2) := by go_simp
      refine bodyPost_ret_by (results3 rfl _ _ w.heap.size _ _ _ rfl e0 e1 e2) rfl ?_
      have hcx : L.cx s = acc ++ [⟨ByteArray.empty, -1, n.1, n.2, s.size⟩] := by
        rw [← Hacc.out, L.cxs_end s f pos n hps, Hpe.out]
      obtain ⟨N, G⟩ := L.good_cx s
      have hN : N = acc.length := by
        have := G.len
        rw [hcx, List.length_append] at this
        simpa using this.symm
      subst hN
      have ht : Turn (fun k => k = w.heap.size) (w5.setCell ⟨c, 2, none⟩ (.slice (some ⟨g2, 0, none⟩) (acc.length + 1) rc2)) ((((w5.setCell ⟨c, 2, none⟩ (.slice (some ⟨g2, 0, none⟩) (acc.length + 1) rc2)).setCell ⟨w.heap.size, 0, none⟩ (.string s)).setCell ⟨w.heap.size, 1, none⟩ (.slice ro acc.length rc)).setCell ⟨w.heap.size, 2, none⟩ (.slice (some ⟨g2, 0, none⟩) (acc.length + 1) rc2)) :=
        (((Turn.refl (fun k => k = w.heap.size) _).setCell (p := ⟨w.heap.size, 0, none⟩) (fun _ => rfl) _).setCell (p := ⟨w.heap.size, 1, none⟩) (fun _ => rfl) _).setCell (p := ⟨w.heap.size, 2, none⟩) (fun _ => rfl) _
      have hrr := ht.row A5.out.rr (fun k hk => by have := (A5.out.rr.lt k hk).1; omega)
      have hsr := ht.row A5.out.sr (fun k hk => by have := (A5.out.sr.lt k hk).1; omega)
      have hgC : ∀ j, L.g (L.cx s) j = (acc ++ [(⟨ByteArray.empty, -1, n.1, n.2, s.size⟩ : L.Cx)]).getD j L.zc := fun j => by rw [hcx]; rfl
      refine ⟨⟨s, L.cx s, acc.length, ro, rc, g2, rc2⟩, rfl, rfl, ⟨G, hs, hcap⟩, rfl, ⟨fun j hj => ?_, ?_⟩, ?_, ?_⟩
      · have hj' : j < acc.length := hj
        rcases hro with ⟨h1, h2⟩ | ⟨g, rfl⟩
        · omega
        · have hlt := hrr.lt g rfl
          refine ⟨g, rfl, by omega, hlt.2, ?_⟩
          have := hrr.cells rfl j (.int .i32 (acc[j]).r) (by rw [List.getElem?_map, List.getElem?_eq_getElem hj']; rfl)
          rw [addr_add] at this
          rw [this]
          show some (Value.int .i32 (acc[j]).r) = some (.int .i32 (L.g (L.cx s) j).r)
          rw [hgC, List.getD_eq_getElem?_getD, List.getElem?_append_left hj', List.getElem?_eq_getElem hj']; rfl
      · have hlt := hsr.lt g2 rfl
        refine ⟨by show ¬ g2 < w.heap.size; omega, hlt.2, fun j hj => ?_⟩
        have hj' : j ≤ acc.length := hj
        show World.cell? _ ⟨g2, j, none⟩ = some (.int .i64 ((L.g (L.cx s) j).a : Int))
        rw [hgC, List.getD_eq_getElem?_getD]
        have hcell := fun u hu => hsr.cells rfl j u hu
        simp only [addr_add] at hcell
        by_cases hje : j < acc.length
        · rw [List.getElem?_append_left hje, List.getElem?_eq_getElem hje]
          exact hcell _ (by rw [List.getElem?_append_left (by simpa using hje), List.getElem?_map, List.getElem?_eq_getElem hje]; rfl)
        · have : j = acc.length := by omega
          subst this
          rw [List.getElem?_append_right (Nat.le_refl _), Nat.sub_self]
          exact hcell _ (by rw [List.getElem?_append_right (by simp)]; simp)
      · rcases hro with ⟨h1, h2⟩ | ⟨g, rfl⟩
        · exact Or.inr h1
        · show 0 < acc.length ∨ _
          by_cases h0 : acc.length = 0
          · have h1 := Hnil.out (List.eq_nil_of_length_eq_zero h0)
            cases h1
          · exact Or.inl (by omega)
      · exact ((A5.out.bel.setCell (p := ⟨w.heap.size, 0, none⟩) (Nat.le_refl _) _).setCell (p := ⟨w.heap.size, 1, none⟩) (Nat.le_refl _) _).setCell (p := ⟨w.heap.size, 2, none⟩) (Nat.le_refl _) _
end Go.Proofs.YtppcofopnelgjaaGreatDoor
