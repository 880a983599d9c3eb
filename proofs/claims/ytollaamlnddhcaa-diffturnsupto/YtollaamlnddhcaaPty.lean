import Derived.Test.YtollaamlnddhcaaLnW
import Derived.Test.YtollaamlnddhcaaShelf
set_option linter.unusedVariables false
set_option linter.unusedSimpArgs false
namespace Go.Proofs.Ytollaamlnddhcaa
open Go.RowKit Go.Maps
namespace U
set_option maxRecDepth 100000 in
set_option maxHeartbeats 1000000 in
theorem clone_any (s : ByteArray) (w : World) (hlim : s.size ≤ 281474976710656) :
    Calls Try.prog 63 #[.string s] w fun e w' => e = .returned (.string s) ∧ Below w.heap.size w w' := by
  go_enter Try.func63, Try.ntmps63
  go_wp2_with (go_at_call 78; refine (sh.stringslite_Clone _ _ hlim).mono ?_; rintro e w1 ⟨rfl, b1⟩)
  go_ret
  exact ⟨rfl, b1⟩
/-- what party's closure needs -/
def Op (bx bm B : Nat) (qs : List K2) (f : ByteArray → Option V3) (C : Nat) (ag : Option Nat) (w : World) : Prop := ag = none ∧ w.heap[bx]? = some (.cells #[.map (some bm)] 90 (0, 0)) ∧ Lm bm B qs f w ∧ (bx < C ∧ bm < C ∧ ∀ j, Bl f j → j < C) ∧ C ≤ w.heap.size
set_option maxRecDepth 100000 in
set_option maxHeartbeats 1000000 in
theorem cl83 (bx bm B : Nat) (qs : List K2) (f : ByteArray → Option V3) (k : ByteArray) (w : World) (hb : w.heap[bx]? = some (.cells #[.map (some bm)] 90 (0, 0))) (h : Lm bm B qs f w) (hk : S.okk k) :
    Calls Try.prog 67 #[.string k, .pointer (some ⟨bx, 0, none⟩)] w fun e w' => e = .returned (val (f k)) ∧ w' = w := by
  have cb : w.cell? ⟨bx, 0, none⟩ = some (.map (some bm)) := by rw [Lib.cell_of_heap hb]; rfl
  have hr := h.run hk
  clear h hb
  go_enter Try.func67, Try.ntmps67
  go_wp2_with fail
  go_ret
  exact ⟨rfl, rfl⟩
theorem nxtP (bx bm B : Nat) (qs : List K2) (f : ByteArray → Option V3) (z : ByteArray) (C : Nat) (hok : ∀ k ∈ N.uni qs z, S.okk k) : S.Nxt 67 #[.pointer (some ⟨bx, 0, none⟩)] (N.nxt qs) (N.uni qs z) C (fun _ => False) (fun _ ag w => Op bx bm B qs f C ag w) where
  enters := Try.call67
  low := fun _ q => q.elim
  lt := fun pre ag w h j e => by rw [h.1] at e; cases e
  keep := fun pre ag wx wy T h t hS => by
    obtain ⟨h1, h2, h3, ⟨h4, h5, h6⟩, h7⟩ := h
    refine ⟨h1, (t.block bx (lt_of_heap h2) (fun q => ?_)).trans h2, h3.turn t (fun q => ?_) (fun j q s => ?_), ⟨h4, h5, h6⟩, Nat.le_trans h7 t.size⟩
    · have := (hS bx (lt_of_heap h2) q).1; omega
    · have := (hS bm h3.ltm q).1; omega
    · have := (hS j (h3.lt q).2 s).1; have := h6 j q; omega
  call := fun pre ag k wx hk h hB hp => by
    obtain ⟨h1, h2, h3, ⟨h4, h5, h6⟩, h7⟩ := h
    refine (cl83 bx bm B qs f k wx h2 h3 (hok k hk)).mono ?_
    rintro e w' ⟨rfl, rfl⟩
    obtain ⟨ao, l, c, hval, hll, hrow, hcase⟩ := h3.row k
    refine ⟨ao, c, ag, by rw [hval, hll], hrow.cap, hrow.ints, ⟨h1, h2, h3, ⟨h4, h5, h6⟩, h7⟩, Turn.refl _ _, .inl rfl, fun _ b off e => .inl ?_⟩
    exact h6 b (atBl hval ⟨_, e, rfl⟩)
/-- a map of names: just ms -/
def Nset (nb : Nat) (ms : List ByteArray) (w : World) : Prop := ∃ n D, n ≤ ms.length ∧ w.ownsMap Try.prog 9 unitElem nb n D ∧ ∀ k, S.okk k → Maps.has (D : DataW Unit) (S.lit k) = isIn ms k
theorem Nset.turn {nb : Nat} {ms : List ByteArray} {w w' : World} {T : Nat → Prop} (h : Nset nb ms w) (t : Turn T w w') (hT : ¬ T nb) : Nset nb ms w' := by
  obtain ⟨n, D, h1, h2, h3⟩ := h
  exact ⟨n, D, h1, t.map h2 hT, h3⟩
theorem Nset.lt {nb : Nat} {ms : List ByteArray} {w : World} (h : Nset nb ms w) : nb < w.heap.size := by obtain ⟨n, D, _, h2, _⟩ := h; exact h2.lt
/-- what party tells -/
def PartyIs (qs : List K2) (z : ByteArray) (tr : Nat) (w : World) (e : Ending) (w' : World) : Prop := ∃ nb ms, e = .returned (.agg #[.string z, .float .f64 tr, .map (some nb)]) ∧ w.heap.size ≤ nb ∧ Nset nb ms w' ∧ (∀ y, y ∈ ms ↔ y ∈ N.clo qs z) ∧ Below w.heap.size w w'
set_option maxRecDepth 100000 in
set_option maxHeartbeats 2000000 in
theorem party_any (bm B : Nat) (qs : List K2) (f : ByteArray → Option V3) (z : ByteArray) (tr : Nat) (w : World) (h : Lm bm B qs f w) (hok : ∀ k ∈ N.uni qs z, S.okk k) (hz : z.size ≤ 1048576) (hlen : Hid (qs.length ≤ 1048576)) :
    Calls Try.prog 47 #[.map (some bm), .string z, .float .f64 tr] w fun e w' => PartyIs qs z tr w e w' := by
  have hmm := @run_makeMap Try.prog
  have hmf : ∀ (fn : Fn) (first cap : Array Value) (w : World), (Instr.makeFunc fn first cap).run Try.prog w = .ok (.func fn first cap) w := fun _ _ _ _ => rfl
  have hsf : ∀ (a : Addr) (k : FloatKind) (b : Nat) (m : Mode) (w : World), (store a (.float k b) m).run Try.prog w = stored Try.prog w a (.float k b) m := fun a k b m w => run_store Try.prog w a _ m rfl
  have H := hide' h
  have Hok := hide' hok
  clear h hok
  go_enter Try.func47, Try.ntmps47
  go_wp2_with fail
  obtain ⟨V, hV⟩ : ∃ V, V = ((((w.alloc (.cells #[.map (some bm)] 90)).alloc (.cells #[.string ⟨#[]⟩, .float .f64 0, .map none] 97)).alloc (.map #[] 0)).alloc (.cells #[.string z] 9)) := ⟨_, rfl⟩
  rw [← hV]
  have F : Hid (V.heap.size = w.heap.size + 4 ∧ Below w.heap.size w V ∧ V.heap[w.heap.size]? = some (.cells #[.map (some bm)] 90 (0, 0)) ∧ V.heap[w.heap.size + 1]? = some (.cells #[.string ⟨#[]⟩, .float .f64 0, .map none] 97 (0, 0)) ∧ Nset (w.heap.size + 1 + 1) [] V ∧ V.heap[w.heap.size + 1 + 1 + 1]? = some (.cells #[.string z] 9 (0, 0))) := by
    have a1 := heap_alloc_new w (.cells #[.map (some bm)] 90)
    have a2 := heap_alloc_new (w.alloc (.cells #[.map (some bm)] 90)) (.cells #[.string ⟨#[]⟩, .float .f64 0, .map none] 97)
    have a4 := heap_alloc_new (((w.alloc (.cells #[.map (some bm)] 90)).alloc (.cells #[.string ⟨#[]⟩, .float .f64 0, .map none] 97)).alloc (.map #[] 0)) (.cells #[.string z] 9)
    have m3 := World.ownsMap_made ((w.alloc (.cells #[.map (some bm)] 90)).alloc (.cells #[.string ⟨#[]⟩, .float .f64 0, .map none] 97)) Try.prog 9 (unitElem (H := Unit))
    have z1 : (w.alloc (.cells #[.map (some bm)] 90)).heap.size = w.heap.size + 1 := by simp
    have z2 : ((w.alloc (.cells #[.map (some bm)] 90)).alloc (.cells #[.string ⟨#[]⟩, .float .f64 0, .map none] 97)).heap.size = w.heap.size + 1 + 1 := by simp
    have z3 : (((w.alloc (.cells #[.map (some bm)] 90)).alloc (.cells #[.string ⟨#[]⟩, .float .f64 0, .map none] 97)).alloc (.map #[] 0)).heap.size = w.heap.size + 1 + 1 + 1 := by simp
    rw [z1] at a2
    rw [z3] at a4
    rw [z2] at m3
    rw [hV]
    refine ⟨by simp, ((((Below.refl _ _).alloc (Nat.le_refl _) _).alloc (by simp) _).alloc (by simp; omega) _).alloc (by simp; omega) _, ?_, ?_, ⟨0, .map [], by simp, m3.alloc _, fun k _ => by simp [Maps.has, isIn]⟩, a4⟩
    · exact (Below.heap_alloc _ _ _ (by omega)).trans ((Below.heap_alloc _ _ _ (by omega)).trans ((Below.heap_alloc _ _ _ (by omega)).trans a1))
    · exact (Below.heap_alloc _ _ _ (by omega)).trans ((Below.heap_alloc _ _ _ (by omega)).trans a2)
  clear hV
  obtain ⟨rb, hrb⟩ : ∃ rb, rb = w.heap.size + 1 := ⟨_, rfl⟩
  obtain ⟨nb, hnb⟩ : ∃ nb, nb = w.heap.size + 1 + 1 := ⟨_, rfl⟩
  have HC : Hid (Calls Try.prog 66 #[.slice (some ⟨w.heap.size + 1 + 1 + 1, 0, none⟩) 1 1, .func (.func 67) #[] #[.pointer (some ⟨w.heap.size, 0, none⟩)]] V fun e w' => ∃ ao cap, e = .returned (.slice ao (N.clo qs z).length cap) ∧ S.RowI V.heap.size ao cap (N.clo qs z) w' ∧ Below V.heap.size V w') := by
    obtain ⟨sV, bV, f1, f2, f3, f4⟩ := F.out
    have hLV := H.out.below bV
    have hlo : ∀ j, Bl f j → j < w.heap.size := fun j q => (H.out.lt q).2
    have hbm := H.out.ltm
    have hf : S.Ints (some ⟨w.heap.size + 1 + 1 + 1, 0, none⟩) [z] V := by
      refine .inr ⟨w.heap.size + 1 + 1 + 1, 0, rfl, by omega, fun i k q => ?_⟩
      cases i with
      | succ i => simp at q
      | zero => simp at q; subst q; rw [Lib.cell_of_heap f4]; rfl
    refine (S.close_any 67 _ (N.nxt qs) [z] (N.uni qs z) _ _ none (some ⟨w.heap.size + 1 + 1 + 1, 0, none⟩) 1 V (nxtP w.heap.size bm B qs f z V.heap.size Hok.out) ⟨rfl, f1, hLV, ⟨by omega, by omega, fun j q => by have := hlo j q; omega⟩, Nat.le_refl _⟩ hf (by simp) N.uni_from N.uni_next Hok.out ⟨by simp, fun k hk => by have := N.nxt_len qs k; have := N.uni_len qs z; have := hlen.out; omega⟩).mono ?_
    rintro e w' ⟨n, ao, cap, ag', hn, rfl, hr, ho, ht, hag, hq⟩
    have hcl := N.clo_of hn
    refine ⟨ao, cap, by rw [← hcl, hn], ?_, ⟨ht.os, ht.tape, ht.output, ht.size, fun k hk => ht.block k hk (fun q => by rcases q with q | q; exact q; cases q)⟩⟩
    rw [← hcl]; unfold S.RowI; rw [hn]; exact hr
  refine HC.out.mono ?_
  rintro e w5 ⟨ao, cap, rfl, r5, b5⟩
  have F5 : Hid (Below w.heap.size w w5 ∧ w5.heap[rb]? = some (.cells #[.string ⟨#[]⟩, .float .f64 0, .map none] 97 (0, 0)) ∧ Nset nb [] w5 ∧ S.Ints ao (N.clo qs z) w5 ∧ (∀ b off, ao = some ⟨b, off, none⟩ → b ≠ nb)) := by
    obtain ⟨sV, bV, f1, f2, f3, f4⟩ := F.out
    refine ⟨bV.trans (b5.mono (by omega)), ?_, ?_, r5.ints, fun b off e => ?_⟩
    · rw [hrb]; exact (b5.block _ (by omega)).trans f2
    · rw [hnb]; exact f3.turn (turn_below (S := fun _ => False) b5) id
    · have := (r5.lt b ⟨_, e, rfl⟩).1; omega
  have hlk : Hid (∀ y ∈ N.clo qs z, S.okk y) := fun y hy => Hok.out y (Bf.st_sub N.uni_from N.uni_next _ y hy)
  have hcl6 : Hid ((N.clo qs z).length ≤ 1048577) := by
    have c1 := Bf.st_le (F := N.nxt qs) (fr := [z]) N.uni_from N.uni_next (qs.length + 1)
    rw [N.uni_len] at c1
    have := hlen.out
    have c2 : (N.clo qs z).length ≤ qs.length + 1 := c1
    show _ ≤ _
    omega
  have hmem : Hid (∀ y, y ∈ N.clo qs z ↔ y ∈ N.clo qs z) := fun y => Iff.rfl
  have hcc := r5.cap
  clear F HC H Hok r5 b5
  have hrn : rb ≠ nb := by omega
  have hnw : w.heap.size ≤ nb := by omega
  have hrw : w.heap.size ≤ rb := by omega
  rw [← hnb, ← hrb]
  clear hrb hnb
  obtain ⟨l, hl⟩ : ∃ l, l = N.clo qs z := ⟨_, rfl⟩
  have Hl := hide' hl
  rw [← hl] at F5 hlk hcl6 hcc ⊢
  clear hl hmem
  have hl64 : (l.length : Int) ≤ 1048577 := by have := hcl6.out; omega
  go_wp2_with fail
  go_loopw [16] (fun iv wx => ∃ j : Nat, iv = .int .i64 (j : Int) ∧ j ≤ l.length ∧ Nset nb (l.take j) wx ∧ Turn (fun q => q = nb) w5 wx) (fun iv _ => l.length - (intOf iv).toNat)
  case atStart => exact ⟨0, rfl, by omega, F5.out.2.2.1, Turn.refl _ _⟩
  case round =>
    obtain ⟨j, rfl, hjl, hN, hT⟩ := hrel
    by_cases hlt : j < l.length
    · have hlt' : (j : Int) < (l.length : Int) := by omega
      obtain ⟨k, hk⟩ : ∃ k, l[j]? = some k := ⟨_, List.getElem?_eq_getElem hlt⟩
      obtain ⟨b, off, rfl, hb, d0⟩ := F5.out.2.2.2.1.at hk
      have d1 := (hT.cell (p := ⟨b, off + j, none⟩) hb (F5.out.2.2.2.2 b off rfl)).trans d0
      have hkk : Hid (S.okk k) := hlk.out k (List.mem_of_getElem? hk)
      have htk : Hid (l.take (j + 1) = l.take j ++ [k]) := by show _ = _; rw [List.take_add_one, hk]; rfl
      obtain ⟨n, D, hn, hown, hh⟩ := hN
      have hput := hide' (S.has_put hh hown.isMap hkk.out)
      have Hown := hide' hown
      have hnm : Hid (n < maxLen) := by rw [List.length_take] at hn; have := hcl6.out; show _ < _; unfold maxLen; omega
      have Hn := hide' hn
      have HT := hide' hT
      clear hh hown hn hT hk d0
      go_wp2_with (at_mapUpdate; refine wpList_mapUpdate_own _ rfl _ _ _ 95 rfl 9 114 S.law Try.underlying95 unitElem nb n D rfl Hown.out hnm.out _ _ _ rfl rfl (S.hkey hkk.out) _ [] unitElem_mk ?_; intro w6 hown6 hg6; have G6 := hide' (And.intro hown6 hg6); clear hown6 hg6)
      refine ⟨⟨j + 1, by go_num, by omega, ⟨n + 1, _, by rw [htk.out, List.length_append]; exact Nat.add_le_add Hn.out (Nat.le_refl 1), G6.out.1, by rw [htk.out]; exact hput.out⟩, HT.out.then (S' := fun q => q = nb) ⟨G6.out.2.os, G6.out.2.tape, G6.out.2.output, G6.out.2.size, fun k hk hne => G6.out.2.block k hk (by simpa using hne)⟩ (fun _ _ q => q)⟩, by simp [intOf]; omega⟩
    · have hjn : l.length = j := by omega
      have hlt' : ¬ (j : Int) < (l.length : Int) := by omega
      subst hjn
      rw [List.take_length] at hN
      have hrl : rb < w5.heap.size := lt_of_heap F5.out.2.1
      have hR6 : wr.heap[rb]? = some (.cells #[.string ⟨#[]⟩, .float .f64 0, .map none] 97 (0, 0)) := (hT.block rb hrl hrn).trans F5.out.2.1
      have hb6 : Hid (Below w.heap.size w wr) := F5.out.1.trans (below_own hT (fun q e => by rw [e]; exact hnw) F5.out.1.size)
      have HN := hide' (And.intro hN hR6)
      have hrl6 : rb < wr.heap.size := lt_of_heap hR6
      clear hN hT hR6 F5
      go_wp2_with fail
      refine (clone_any z wr (by omega)).mono ?_
      rintro e w7 ⟨rfl, b7⟩
      have hR7 : w7.heap[rb]? = some (.cells #[.string ⟨#[]⟩, .float .f64 0, .map none] 97 (0, 0)) := (b7.block rb hrl6).trans HN.out.2
      have c0 : w7.cell? ⟨rb, 0, none⟩ = some (.string ⟨#[]⟩) := by rw [Lib.cell_of_heap hR7]; rfl
      have c1 : w7.cell? ⟨rb, 1, none⟩ = some (.float .f64 0) := by rw [Lib.cell_of_heap hR7]; rfl
      have c2 : w7.cell? ⟨rb, 2, none⟩ = some (.map none) := by rw [Lib.cell_of_heap hR7]; rfl
      have s1 : ∀ u, (w7.setCell ⟨rb, 0, none⟩ u).cell? ⟨rb, 1, none⟩ = some (.float .f64 0) := fun u => by rw [World.cell?_setCell_other _ _ _ _ (by simp), c1]
      have s2 : ∀ u v, ((w7.setCell ⟨rb, 0, none⟩ u).setCell ⟨rb, 1, none⟩ v).cell? ⟨rb, 2, none⟩ = some (.map none) := fun u v => by rw [World.cell?_setCell_other _ _ _ _ (by simp), World.cell?_setCell_other _ _ _ _ (by simp), c2]
      have g1 : ∀ u, (w7.setCell ⟨rb, 0, none⟩ u).frozen? ⟨rb, 1, none⟩ = false := fun u => by rw [World.frozen?_setCell]; exact Lib.frozen_of_heap hR7 1
      have g2 : ∀ u v, ((w7.setCell ⟨rb, 0, none⟩ u).setCell ⟨rb, 1, none⟩ v).frozen? ⟨rb, 2, none⟩ = false := fun u v => by rw [World.frozen?_setCell, World.frozen?_setCell]; exact Lib.frozen_of_heap hR7 2
      have f0 := Lib.frozen_of_heap hR7 0
      have f1 := Lib.frozen_of_heap hR7 1
      have f2 := Lib.frozen_of_heap hR7 2
      have N7 : Hid (Nset nb l w7 ∧ Below w.heap.size w w7) := ⟨HN.out.1.turn (turn_below (S := fun _ => False) b7) id, hb6.out.trans (b7.mono hb6.out.size)⟩
      have HR7 := hide' hR7
      clear hR7 b7 HN hb6
      go_wp2_with fail
      have tH : (((w7.setCell ⟨rb, 0, none⟩ (.string z)).setCell ⟨rb, 1, none⟩ (.float .f64 tr)).setCell ⟨rb, 2, none⟩ (.map (some nb))).heap[rb]? = some (.cells #[.string z, .float .f64 tr, .map (some nb)] 97 (0, 0)) := by
        simp [World.setCell, Array.getElem?_modify, HR7.out]
      have hfin : Hid (PartyIs qs z tr w (.returned (.agg #[.string z, .float .f64 tr, .map (some nb)])) (((w7.setCell ⟨rb, 0, none⟩ (.string z)).setCell ⟨rb, 1, none⟩ (.float .f64 tr)).setCell ⟨rb, 2, none⟩ (.map (some nb)))) := by
        have tt : Turn (fun j => j = rb) w7 (((w7.setCell ⟨rb, 0, none⟩ (.string z)).setCell ⟨rb, 1, none⟩ (.float .f64 tr)).setCell ⟨rb, 2, none⟩ (.map (some nb))) := (((Turn.refl (fun j => j = rb) w7).setCell (p := ⟨rb, 0, none⟩) (fun _ => rfl) _).setCell (p := ⟨rb, 1, none⟩) (fun _ => rfl) _).setCell (p := ⟨rb, 2, none⟩) (fun _ => rfl) _
        exact ⟨nb, l, rfl, hnw, N7.out.1.turn tt (fun e => hrn e.symm), fun y => by rw [Hl.out], N7.out.2.trans (below_own tt (fun j q => by rw [q]; exact hrw) N7.out.2.size)⟩
      clear s1 s2 g1 g2 f0 f1 f2 c0 c1 c2 N7
      generalize (((w7.setCell ⟨rb, 0, none⟩ (.string z)).setCell ⟨rb, 1, none⟩ (.float .f64 tr)).setCell ⟨rb, 2, none⟩ (.map (some nb))) = W at *
      (try simp only [Exit.inBlock, Exit.then])
      refine bodyPost_ret (results_cell_row rfl _ _ rb 97 #[.string z, .float .f64 tr, .map (some nb)] (0, 0) _ rfl tH Try.underlying97 rfl (by kernel_rfl)) rfl ?_
      exact hfin.out
/-- 'party.is' -/
theorem look_set {nb : Nat} {ms : List ByteArray} {w : World} (h : Nset nb ms w) {k : ByteArray} (hk : S.okk k) : (Instr.lookup 95 (.map (some nb)) (.string k) true).run Try.prog w = .ok (.tuple #[.agg #[], .bool (isIn ms k)]) w := by
  obtain ⟨n, D, _, h2, h3⟩ := h
  obtain ⟨v, ps, hrun, hv⟩ := h2.look_ok S.law Try.underlying95 (S.zeroE w) unitElem_mk (S.hkey hk)
  obtain ⟨rfl, _⟩ := unitElem_inv hv
  rw [hrun, h3 k hk]
theorem look_nil (w : World) {k : ByteArray} (hk : S.okk k) : (Instr.lookup 95 (.map none) (.string k) true).run Try.prog w = .ok (.tuple #[.agg #[], .bool false]) w := by
  have := Maps.look_nil (P := Try.prog) true S.law Try.underlying95 (S.zeroE w) (S.hkey hk)
  simpa using this
end U
end Go.Proofs.Ytollaamlnddhcaa
