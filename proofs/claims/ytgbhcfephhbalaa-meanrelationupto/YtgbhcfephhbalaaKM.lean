import Derived.Test.YtgbhcfephhbalaaKL
import Derived.ArgAppend
import Derived.Deep.MidRow
import Derived.Test.YtgbhcfephhbalaaKD
import Derived.Test.YtgbhcfephhbalaaMml
set_option linter.unusedVariables false
set_option linter.unusedSimpArgs false
namespace Go.Proofs.Ytgbhcfephhbalaa
open Go.RowKit Go.Maps
namespace X
theorem flat_set3 (zs : List K3) (i : Nat) (k : K3) : (zs.set i k).flatMap cells = (((zs.flatMap cells).set (i * 3) (.string k.1)).set (i * 3 + 1) (.string k.2.1)).set (i * 3 + 2) (.string k.2.2) := by
  induction zs generalizing i with
  | nil => simp
  | cons z r ih =>
    cases i with
    | zero => simp [cells]
    | succ i =>
      have e : (i + 1) * 3 = i * 3 + 1 + 1 + 1 := by omega
      rw [List.set_cons_succ, List.flatMap_cons, List.flatMap_cons, ih, e]
      simp [cells]
theorem put3 {B : Nat} {g cap : Nat} {zs : List K3} {w : World} (h : RowI B (some ⟨g, 0, none⟩) cap zs w) (i : Nat) (k : K3) : RowI B (some ⟨g, 0, none⟩) cap (zs.set i k) (w.setCells g (i * 3) [.string k.1, .string k.2.1, .string k.2.2]) := by
  rcases h.2 with ⟨hv, h0⟩ | ⟨g', cap', cur, hv, hb, hg, h1, h2, h3, h4⟩
  · cases hv
  simp only [Value.slice.injEq, Option.some.injEq] at hv
  obtain ⟨he, _, rfl⟩ := hv
  cases he
  have hl := h.1
  refine ⟨by rw [flat_set3]; simpa using hl, .inr ⟨g, cap, ((cur.setIfInBounds (i * 3) (.string k.1)).setIfInBounds (i * 3 + 1) (.string k.2.1)).setIfInBounds (i * 3 + 2) (.string k.2.2), by simp, hb, ?_, by simpa using h1, by simpa using h2, by simpa using h3, ?_⟩⟩
  · simp [World.setCells, World.setCell, Array.getElem?_modify, hg]
  · rw [flat_set3, Array.toList_setIfInBounds, Array.toList_setIfInBounds, Array.toList_setIfInBounds]
    simp only [List.length_set]
    rw [List.take_set, List.take_set, List.take_set, h4]
theorem put3_turn (w : World) (g o : Nat) (vs : List Value) : Turn (fun j => j = g) w (w.setCells g o vs) := by
  induction vs generalizing w o with
  | nil => exact Turn.refl _ _
  | cons v r ih => exact ((Turn.refl (fun j => j = g) w).setCell (p := ⟨g, o, none⟩) (fun _ => rfl) v).trans (ih _ _)
theorem there3 {B : Nat} {g cap : Nat} {zs : List K3} {w : World} (h : RowI B (some ⟨g, 0, none⟩) cap zs w) {i : Nat} (hi : i < zs.length) : w.there g (i * 3) 3 := by
  obtain ⟨k, hk⟩ : ∃ k, zs[i]? = some k := ⟨_, List.getElem?_eq_getElem hi⟩
  obtain ⟨g', e, ⟨d1, d2, d3⟩, _⟩ := row_at h hk
  cases e
  rcases h.2 with ⟨hv, h0⟩ | ⟨g', cap', cur, hv, hb, hg, _⟩
  · cases hv
  simp only [Value.slice.injEq, Option.some.injEq] at hv
  obtain ⟨he, _⟩ := hv
  cases he
  intro j hj
  refine ⟨?_, Lib.frozen_of_heap hg _⟩
  match j, hj with
  | 0, _ => rw [Nat.add_zero, d1]; rfl
  | 1, _ => rw [d2]; rfl
  | 2, _ => rw [d3]; rfl
theorem Ints.turn {to : Option Addr} {xs : List K3} {w w' : World} {S : Nat → Prop} (h : Ints to xs w) (t : Turn S w w') (hS : ∀ b off, to = some ⟨b, off, none⟩ → ¬ S b) : Ints to xs w' := by
  rcases h with h | ⟨b, off, h1, h2, h3⟩
  · exact .inl h
  · have hc : ∀ o, w'.cell? ⟨b, o, none⟩ = w.cell? ⟨b, o, none⟩ := fun o => by
      have := t.block b h2 (hS b off h1)
      unfold World.cell?
      simp only [this]
    exact .inr ⟨b, off, h1, Nat.lt_of_lt_of_le h2 t.size, fun i k q => ⟨(hc _).trans (h3 i k q).1, (hc _).trans (h3 i k q).2.1, (hc _).trans (h3 i k q).2.2⟩⟩
theorem Ints.left {to : Option Addr} {xs ys : List K3} {w : World} (h : Ints to (xs ++ ys) w) : Ints to xs w := U.xints_cut h
/-- append of one triple: and what was there stays -/
theorem wpList_app1k (w0 : World) {ops : Array Oper} {rest : List Oper} {o : Oper} {a : Act} {Q : Exit → Act → World → Prop} (hgd : o.guard = none) (s x : Operand)
    (ho : o.op = .call { callee := .builtin .append, args := #[s, x], argTypes := #[32, 32] }) (B : Nat) (ao : Option Addr) (cap n : Nat) (zs : List K3) (k : K3) (t : TypeId) (c : Nat) (hzn : Hid (zs.length = n)) (hs : a.eval s = .slice ao n cap) (hrow : RowI B ao cap zs w0)
    (hx : a.eval x = .slice (some ⟨w0.heap.size, 0, none⟩) 1 c) (hb : Hid (zs.length < 1099511627776)) (hB : B ≤ w0.heap.size)
    (h : ∀ g cap' w', RowI B (some ⟨g, 0, none⟩) cap' (zs ++ [k]) w' → Turn (At ao) w0 w' → (ao = some ⟨g, 0, none⟩ ∨ w0.heap.size ≤ g) → Ints ao zs w' → wpList Try.prog ops Q rest (a.put o.dst (.slice (some ⟨g, 0, none⟩) (n + 1) cap')) w') :
    wpList Try.prog ops Q (o :: rest) a (w0.alloc (.cells #[.string k.1, .string k.2.1, .string k.2.2] t)) := by
  obtain ⟨i0, hi, hz0, hz1, hz2⟩ := info_parts infoE
  have hzn' := hzn.out
  subst hzn'
  rcases Nat.lt_or_ge cap (zs.length + 1) with hcap | hcap
  · have hi0 : Ints ao zs (w0.alloc (.cells #[.string k.1, .string k.2.1, .string k.2.2] t)) := hrow.ints.turn (S := fun _ => False) ((Turn.refl (fun _ => False) w0).alloc _) (fun _ _ _ q => q)
    refine wpList_append_grows _ hgd s x 32 ho 36 i0 (.agg #[.string ByteArray.empty, .string ByteArray.empty, .string ByteArray.empty]) 3 48 Try.underlying32 hi hz0 hz1 hz2 rfl (by decide) ao zs.length cap (zs.flatMap cells) hs (fun e => ?_) (by rw [flat_len]) (fun ad q j u hj => ?_) ⟨w0.heap.size, 0, none⟩ 1 c [.string k.1, .string k.2.1, .string k.2.2] hx rfl (three_new _ _ _ _ _) (by simp [Value.oneCell']) hcap (by have := hb.out; unfold maxLen; omega) (by have := hb.out; omega) ?_
    · rcases hrow.form with ⟨_, e1, e2⟩ | ⟨g, e', _⟩
      · rw [e1]; exact ⟨rfl, e2⟩
      · rw [e] at e'; cases e'
    · have hjl := (List.getElem?_eq_some_iff.1 hj).1
      rw [flat_len] at hjl
      obtain ⟨k', hk⟩ : ∃ k', zs[j / 3]? = some k' := ⟨_, List.getElem?_eq_getElem (by omega)⟩
      obtain ⟨b, off, e, _, hc1, hc2, hc3⟩ := hi0.at hk
      rw [q] at e; cases e
      obtain ⟨e1, e2, e3⟩ := flat_at zs (j / 3) hk
      rw [add_off]
      have hm : j % 3 = 0 ∨ j % 3 = 1 ∨ j % 3 = 2 := by omega
      rcases hm with hm | hm | hm
      · rw [show j = j / 3 * 3 by omega] at hj ⊢
        rw [e1] at hj; rw [hc1]; exact hj
      · rw [show j = j / 3 * 3 + 1 by omega] at hj ⊢
        rw [e2] at hj; rw [← Nat.add_assoc, hc2]; exact hj
      · rw [show j = j / 3 * 3 + 2 by omega] at hj ⊢
        rw [e3] at hj; rw [← Nat.add_assoc, hc3]; exact hj
    · intro v' w' r hg
      have r' : w'.ownsRow (w0.heap.size + 1) 36 3 v' (zs.length + 1) ((zs ++ [k]).flatMap cells) := by rw [List.flatMap_append]; simpa [cells] using r
      obtain ⟨g, cap', rfl, hg1, hg2⟩ := World.ownsRow.form r' (by omega)
      have t0 : Turn (fun _ => False) w0 w' := ((Turn.refl (fun _ => False) w0).alloc _).grown hg (fun j hj _ => by cases hj)
      refine h g cap' w' ?_ (t0.mono (fun _ _ q => q.elim)) (.inr (by omega)) (hrow.ints.turn t0 (fun _ _ _ q => q))
      have : RowI (w0.heap.size + 1) (some ⟨g, 0, none⟩) cap' (zs ++ [k]) w' := by unfold RowI; rw [List.length_append]; exact r'
      exact this.mono (by omega)
  · rcases hrow.form with ⟨_, e1, e2⟩ | ⟨g, rfl, hgB, hgl, _⟩
    · rw [e2] at hcap; omega
    · refine wpList_append_fits _ hgd s x 32 ho B 36 i0 3 Try.underlying32 hi hz1 g zs.length cap (zs.flatMap cells) hs (World.ownsRow.alloc hrow _) ⟨w0.heap.size, 0, none⟩ 1 c [.string k.1, .string k.2.1, .string k.2.2] hx rfl (three_new _ _ _ _ _) (by simp [Value.oneCell']) hcap ?_
      intro w' r hg
      have r' : RowI B (some ⟨g, 0, none⟩) cap (zs ++ [k]) w' := by unfold RowI; rw [List.length_append, List.flatMap_append]; simpa [cells] using r
      exact h g cap w' r' (((Turn.refl _ w0).alloc _).grown hg (fun j hj _ => by cases hj; exact ⟨_, rfl, rfl⟩)) (.inl rfl) r'.ints.left
end X
end Go.Proofs.Ytgbhcfephhbalaa
set_option linter.unusedVariables false
set_option linter.unusedSimpArgs false
namespace Go.Proofs.Ytgbhcfephhbalaa
open Go.RowKit Go.Maps
namespace U
def k1 : X.K3 := (⟨#[35, 49]⟩, ByteArray.empty, ByteArray.empty)
def k2 : X.K3 := (⟨#[35, 50]⟩, ByteArray.empty, ByteArray.empty)
def k3 : X.K3 := (⟨#[35, 51]⟩, ByteArray.empty, ByteArray.empty)
/-- a list written over up to a place -/
def ovr (k : X.K3) (i : Nat) (zs : List X.K3) : List X.K3 := List.replicate i k ++ zs.drop i
theorem ovr_len (k : X.K3) (i : Nat) (zs : List X.K3) (h : i ≤ zs.length) : (ovr k i zs).length = zs.length := by unfold ovr; simp; omega
theorem ovr_set (k : X.K3) (i : Nat) (zs : List X.K3) (h : i < zs.length) : (ovr k i zs).set i k = ovr k (i + 1) zs := by
  unfold ovr
  rw [List.set_append_right _ _ (by simp), List.length_replicate, Nat.sub_self, List.drop_eq_getElem_cons h, List.set_cons_zero, List.replicate_succ', List.append_assoc]
  rfl
theorem ovr_all (k : X.K3) (zs : List X.K3) : ovr k zs.length zs = List.replicate zs.length k := by unfold ovr; simp
theorem at_some {g j : Nat} (h : X.At (some ⟨g, 0, none⟩) j) : j = g := by obtain ⟨a, e, rfl⟩ := h; cases e; rfl
/-- three rows of answers -/
structure Mz (W0 : World) (ao bo co : Option Addr) (ac bc cc : Nat) (ya yb yc : List X.K3) (Bb Bc : Nat) (wx : World) : Prop where
  b : Below W0.heap.size W0 wx
  ra : X.RowI W0.heap.size ao ac ya wx
  la : ∀ j, X.At ao j → j < Bb
  rb : X.RowI Bb bo bc yb wx
  lb : ∀ j, X.At bo j → j < Bc
  rc : X.RowI Bc co cc yc wx
  s1 : W0.heap.size ≤ Bb
  s2 : Bb ≤ Bc
  s3 : Bc ≤ wx.heap.size
theorem Mz.below {W0 wx wy : World} {ao bo co : Option Addr} {ac bc cc : Nat} {ya yb yc : List X.K3} {Bb Bc : Nat} (h : Mz W0 ao bo co ac bc cc ya yb yc Bb Bc wx) (t : Below wx.heap.size wx wy) : Mz W0 ao bo co ac bc cc ya yb yc Bb Bc wy :=
  ⟨h.b.trans (t.mono h.b.size), h.ra.below t, h.la, h.rb.below t, h.lb, h.rc.below t, h.s1, h.s2, Nat.le_trans h.s3 t.size⟩
theorem Mz.putA {W0 wx : World} {g : Nat} {bo co : Option Addr} {ac bc cc : Nat} {ya yb yc : List X.K3} {Bb Bc : Nat} (h : Mz W0 (some ⟨g, 0, none⟩) bo co ac bc cc ya yb yc Bb Bc wx) (i : Nat) (k : X.K3) : Mz W0 (some ⟨g, 0, none⟩) bo co ac bc cc (ya.set i k) yb yc Bb Bc (wx.setCells g (i * 3) [.string k.1, .string k.2.1, .string k.2.2]) := by
  have t := X.put3_turn wx g (i * 3) [.string k.1, .string k.2.1, .string k.2.2]
  have hg := h.ra.lt g ⟨_, rfl, rfl⟩
  have hl := h.la g ⟨_, rfl, rfl⟩
  have hs2 := h.s2
  exact ⟨h.b.trans (below_own t (fun j q => by rw [q]; exact hg.1) h.b.size), X.put3 h.ra i k, h.la, h.rb.turn t (fun j q e => by have := (h.rb.lt j q).1; rw [e] at this; omega), h.lb, h.rc.turn t (fun j q e => by have := (h.rc.lt j q).1; rw [e] at this; omega), h.s1, h.s2, Nat.le_trans h.s3 t.size⟩
/-- .. of which the first is gone on with -/
structure Md (W0 : World) (ao bo co dd : Option Addr) (bc cc dc n j : Nat) (yb yc : List X.K3) (Bb Bc Bx : Nat) (wx : World) : Prop where
  b : Below W0.heap.size W0 wx
  ia : X.Ints ao (List.replicate n k1) wx
  rd : X.RowI W0.heap.size dd dc (List.replicate n k1 ++ List.replicate j k2) wx
  ad : dd = ao ∨ ∀ g, X.At dd g → Bx ≤ g
  la : ∀ g, X.At ao g → g < Bb
  rb : X.RowI Bb bo bc yb wx
  lb : ∀ g, X.At bo g → g < Bc
  rc : X.RowI Bc co cc yc wx
  lc : ∀ g, X.At co g → g < Bx
  s1 : W0.heap.size ≤ Bb
  s2 : Bb ≤ Bc
  s3 : Bc ≤ Bx
  s4 : Bx ≤ wx.heap.size
theorem Mz.gone {W0 wx : World} {ao bo co : Option Addr} {ac bc cc n : Nat} {yb yc : List X.K3} {Bb Bc : Nat} (h : Mz W0 ao bo co ac bc cc (List.replicate n k1) yb yc Bb Bc wx) : Md W0 ao bo co ao bc cc ac n 0 yb yc Bb Bc wx.heap.size wx :=
  ⟨h.b, h.ra.ints, by simpa using h.ra, .inl rfl, h.la, h.rb, h.lb, h.rc, fun g q => (h.rc.lt g q).2, h.s1, h.s2, h.s3, Nat.le_refl _⟩
theorem Md.app {W0 wx wy : World} {ao bo co dd : Option Addr} {bc cc dc dc' n j g : Nat} {yb yc : List X.K3} {Bb Bc Bx : Nat} (h : Md W0 ao bo co dd bc cc dc n j yb yc Bb Bc Bx wx) (r : X.RowI W0.heap.size (some ⟨g, 0, none⟩) dc' ((List.replicate n k1 ++ List.replicate j k2) ++ [k2]) wy) (t : Turn (X.At dd) wx wy) (hg : dd = some ⟨g, 0, none⟩ ∨ wx.heap.size ≤ g) (hi : X.Ints dd (List.replicate n k1 ++ List.replicate j k2) wy) :
    Md W0 ao bo co (some ⟨g, 0, none⟩) bc cc dc' n (j + 1) yb yc Bb Bc Bx wy := by
  have s1 := h.s1
  have s2 := h.s2
  have s3 := h.s3
  have s4 := h.s4
  have sz := t.size
  have hlow : ∀ q, X.At dd q → W0.heap.size ≤ q := fun q hq => (h.rd.lt q hq).1
  have nb : ∀ q, X.At bo q → ¬ X.At dd q := fun q hq hd => by
    rcases h.ad with e | e
    · rw [e] at hd; have := h.la q hd; have := (h.rb.lt q hq).1; omega
    · have := e q hd; have := h.lb q hq; omega
  have nc : ∀ q, X.At co q → ¬ X.At dd q := fun q hq hd => by
    rcases h.ad with e | e
    · rw [e] at hd; have := h.la q hd; have := (h.rc.lt q hq).1; omega
    · have := e q hd; have := h.lc q hq; omega
  refine ⟨h.b.trans (below_own t (fun q hq => hlow q hq) h.b.size), ?_, ?_, ?_, h.la, h.rb.turn t nb, h.lb, h.rc.turn t nc, h.lc, s1, s2, s3, by omega⟩
  · rcases h.ad with e | e
    · rw [e] at hi; exact hi.left
    · exact h.ia.turn t (fun b off eb hb => by
        have h1 := e b hb
        have h2 := h.la b ⟨_, eb, rfl⟩
        omega)
  · rw [List.replicate_succ', ← List.append_assoc]; exact r
  · rcases hg with e | e
    · rw [← e]; exact h.ad
    · exact .inr (fun q hq => by rw [at_some hq]; omega)
/-- .. and the third is written over -/
theorem Md.putC {W0 wx : World} {g : Nat} {ao bo dd : Option Addr} {bc cc dc n j : Nat} {yb yc : List X.K3} {Bb Bc Bx : Nat} (h : Md W0 ao bo (some ⟨g, 0, none⟩) dd bc cc dc n j yb yc Bb Bc Bx wx) (i : Nat) (k : X.K3) : Md W0 ao bo (some ⟨g, 0, none⟩) dd bc cc dc n j yb (yc.set i k) Bb Bc Bx (wx.setCells g (i * 3) [.string k.1, .string k.2.1, .string k.2.2]) := by
  have t := X.put3_turn wx g (i * 3) [.string k.1, .string k.2.1, .string k.2.2]
  have hg := h.rc.lt g ⟨_, rfl, rfl⟩
  have hx := h.lc g ⟨_, rfl, rfl⟩
  have s1 := h.s1
  have s2 := h.s2
  have s3 := h.s3
  refine ⟨h.b.trans (below_own t (fun j q => by rw [q]; omega) h.b.size), h.ia.turn t (fun b off e q => by have := h.la b ⟨_, e, rfl⟩; omega), h.rd.turn t (fun q hq e => ?_), h.ad, h.la, h.rb.turn t (fun j q e => by have := h.lb j q; omega), h.lb, X.put3 h.rc i k, h.lc, h.s1, h.s2, h.s3, Nat.le_trans h.s4 t.size⟩
  rcases h.ad with e2 | e2
  · rw [e2] at hq; have := h.la q hq; omega
  · have := e2 q hq; omega
theorem Md.below {W0 wx wy : World} {ao bo co dd : Option Addr} {bc cc dc n j : Nat} {yb yc : List X.K3} {Bb Bc Bx : Nat} (h : Md W0 ao bo co dd bc cc dc n j yb yc Bb Bc Bx wx) (t : Below wx.heap.size wx wy) : Md W0 ao bo co dd bc cc dc n j yb yc Bb Bc Bx wy :=
  ⟨h.b.trans (t.mono h.b.size), h.ia.below t, h.rd.below t, h.ad, h.la, h.rb.below t, h.lb, h.rc.below t, h.lc, h.s1, h.s2, h.s3, Nat.le_trans h.s4 t.size⟩
end U
end Go.Proofs.Ytgbhcfephhbalaa
set_option linter.unusedVariables false
set_option linter.unusedSimpArgs false
namespace Go.Proofs.Ytgbhcfephhbalaa
open Go.RowKit Go.Maps
namespace U
theorem rarr_size (F F' : Pf) (ls : List (Ru × Nat × Nat)) (lo : Option Addr) (lc : Nat) : (Try.prog.info? 39).map (·.size) = some (rarr F F' ls lo lc).size := by
  have : (Try.prog.info? 39).map (·.size) = some 23 := by kernel_rfl
  rw [this]; rfl
theorem rarr_mid {F F' : Pf} {ls : List (Ru × Nat × Nat)} {lo : Option Addr} {lc q : Nat} {W : World} (he : ls.map (·.1) = F.u.2.2) (h : W.heap[q]? = some (.cells (rarr F F' ls lo lc) 39 (0, 0))) : W.rangeAt q 0 (gvn F F' ls).arr.toList := fun j v hv => by
  rw [gvn_arr he] at hv
  rw [Nat.zero_add, Lib.cell_of_heap h]
  have e : (rarr F F' ls lo lc).toList = (F.cut F').arr.toList ++ (farr F F' ls).toList ++ [.slice lo ls.length lc] := rfl
  rw [← Array.getElem?_toList, e, List.append_assoc, List.getElem?_append_left (List.getElem?_eq_some_iff.1 hv).1]
  exact hv
theorem arr_size (F : Pf) : (Try.prog.info? 34).map (·.size) = some F.arr.toList.length := by
  have : (Try.prog.info? 34).map (·.size) = some 11 := by kernel_rfl
  rw [this]; rfl
/-- what stands in the law's own blocks -/
structure Mb (F F' : Pf) (lo : Option Addr) (lc : Nat) (ls : List (Ru × Nat × Nat)) (to : Option Addr) (q1 q5 q6 : Nat) (R : List X.K3) (W : World) : Prop where
  h1 : W.heap[q1]? = some (.cells F.arr 34 (0, 0))
  h5 : W.heap[q5]? = some (.cells (rarr F F' ls lo lc) 39 (0, 0))
  h6 : W.heap[q6]? = some (.cells (gvn F F' ls).arr 34 (0, 0))
  f : F.In W
  rm : Rm F F' lo lc ls W
  wt : X.Ints to R W
theorem Mb.below {F F' : Pf} {lo : Option Addr} {lc : Nat} {ls : List (Ru × Nat × Nat)} {to : Option Addr} {q1 q5 q6 : Nat} {R : List X.K3} {W W' : World} (h : Mb F F' lo lc ls to q1 q5 q6 R W) (b : Below W.heap.size W W') : Mb F F' lo lc ls to q1 q5 q6 R W' :=
  ⟨(b.block _ (lt_of_heap h.h1)).trans h.h1, (b.block _ (lt_of_heap h.h5)).trans h.h5, (b.block _ (lt_of_heap h.h6)).trans h.h6, h.f.below b, h.rm.below b, h.wt.below b⟩
set_option maxRecDepth 100000 in
set_option maxHeartbeats 8000000 in
theorem meanRelation_walk (F : Pf) (N : Nat) (w : World) (h : F.In w) (f : Fine F N) : Calls Try.prog 8 #[.agg F.arr] w fun e w' => e = .returned (.bool true) ∧ Below w.heap.size w w' := by
  have H := hide' h
  have Hf := hide' f
  clear h f
  go_enter Try.func8, Try.ntmps8
  go_wp2_with (with_reducible refine stay_load 34 _ rfl ?_)
  unfold Stay
  refine wpList_load_row rfl 34 _ rfl w.heap.size rfl 34 F.arr (0, 0) _ (heap_alloc_new w _) Try.underlying34 rfl (size_arr F) ?_
  go_wp2_with fail
  have K0 : Hid (Below w.heap.size w (w.alloc (.cells F.arr 34))) := (Below.refl _ _).alloc (Nat.le_refl _) _
  have K1 : Hid ((w.alloc (.cells F.arr 34)).heap[w.heap.size]? = some (.cells F.arr 34 (0, 0))) := heap_alloc_new w _
  generalize w.alloc (.cells F.arr 34) = V at *
  obtain ⟨q1, hq1⟩ : ∃ q1, q1 = w.heap.size := ⟨_, rfl⟩
  rw [← hq1] at K1
  rw [← hq1]
  clear hq1
  refine (vast_call F N V Hf.out).mono ?_
  rintro e V1 ⟨rfl, b1⟩
  have HB := hide' (K0.out.trans (b1.mono K0.out.size))
  have K2 := hide' ((b1.block _ (lt_of_heap K1.out)).trans K1.out)
  clear K0 K1 b1 V
  cases hv : vst F.s.2.2.length F.o.2.2.length F.a.2.2.length with
  | true =>
    clear hv
    go_wp2_with fail
    go_ret
    exact ⟨rfl, HB.out⟩
  | false =>
  have Hv := hide' (vst_few hv)
  clear hv
  go_wp2_with (with_reducible refine stay_load 34 _ rfl ?_)
  unfold Stay
  refine wpList_load_row rfl 34 _ rfl q1 rfl 34 F.arr (0, 0) _ K2.out Try.underlying34 rfl (size_arr F) ?_
  go_wp2_with fail
  refine (rrel_call F N V1 (H.out.below HB.out) Hf.out Hv.out).mono ?_
  rintro e V2 ⟨to, tc, rfl, rw0, b2⟩
  have HB2 := hide' (HB.out.trans (b2.mono HB.out.size))
  have K3 := hide' ((b2.block _ (lt_of_heap K2.out)).trans K2.out)
  have WT := hide' (And.intro rw0.ints rw0.cap)
  clear HB K2 b2 rw0 V1
  obtain ⟨n, hn⟩ : ∃ n, n = (rel F).length := ⟨_, rfl⟩
  have Hn := hide' hn
  rw [← hn]
  clear hn
  go_wp2_with (with_reducible refine stay_load 34 _ rfl ?_)
  unfold Stay
  refine wpList_load_row rfl 34 _ rfl q1 rfl 34 F.arr (0, 0) _ K3.out Try.underlying34 rfl (size_arr F) ?_
  go_wp2_with fail
  refine (roomy_any F V2 (H.out.below HB2.out) Hf.out.small).mono ?_
  rintro e V3 ⟨F', lo, lc, ls, rfl, rm, b3⟩
  rw [rm.all]
  have HB3 := hide' (HB2.out.trans (b3.mono HB2.out.size))
  have K4 := hide' ((b3.block _ (lt_of_heap K3.out)).trans K3.out)
  have WT3 := hide' (And.intro (WT.out.1.below b3) WT.out.2)
  have RM := hide' rm
  have Hel := hide' rm.el
  clear HB2 K3 b3 WT rm V2
  go_wp2_with (with_reducible refine stay_store 39 _ _ rfl ?_)
  unfold Stay
  refine wpList_store_row rfl 39 _ _ rfl V3.heap.size (rarr F F' ls lo lc) rfl rfl 39 _ (heap_alloc_new V3 _) (rarr_size F F' ls lo lc) rfl (by simp [rarr, Value.oneCell']) ?_
  rw [World.setRow_alloc_new]
  have c5 : Hid ((V3.alloc (.cells (rarr F F' ls lo lc) 39)).heap[V3.heap.size]? = some (.cells (rarr F F' ls lo lc) 39 (0, 0))) := heap_alloc_new V3 _
  have b4 : Hid (Below V3.heap.size V3 (V3.alloc (.cells (rarr F F' ls lo lc) 39))) := (Below.refl _ _).alloc (Nat.le_refl _) _
  generalize V3.alloc (.cells (rarr F F' ls lo lc) 39) = V4 at *
  have HB4 := hide' (HB3.out.trans (b4.out.mono HB3.out.size))
  have K5 := hide' ((b4.out.block _ (lt_of_heap K4.out)).trans K4.out)
  have WT4 := hide' (And.intro (WT3.out.1.below b4.out) WT3.out.2)
  have RM4 := hide' (RM.out.below b4.out)
  clear b4 HB3 K4 WT3 RM
  generalize V3.heap.size = q5 at *
  clear V3
  go_wp2_with (with_reducible refine stay_load 34 _ rfl ?_)
  unfold Stay
  refine wpList_load_mid rfl 34 _ rfl q5 0 rfl (gvn F F' ls).arr.toList _ (rarr_mid Hel.out c5.out) Try.underlying34 rfl (arr_size _) ?_
  rw [Array.toArray_toList]
  go_wp2_with (with_reducible refine stay_store 34 _ _ rfl ?_)
  unfold Stay
  refine wpList_store_row rfl 34 _ _ rfl V4.heap.size (gvn F F' ls).arr rfl rfl 34 _ (heap_alloc_new V4 _) (size_arr _) rfl (by simp [Pf.arr, Value.oneCell']) ?_
  rw [World.setRow_alloc_new]
  have c6 : Hid ((V4.alloc (.cells (gvn F F' ls).arr 34)).heap[V4.heap.size]? = some (.cells (gvn F F' ls).arr 34 (0, 0))) := heap_alloc_new V4 _
  have b5 : Hid (Below V4.heap.size V4 (V4.alloc (.cells (gvn F F' ls).arr 34))) := (Below.refl _ _).alloc (Nat.le_refl _) _
  generalize V4.alloc (.cells (gvn F F' ls).arr 34) = W0 at *
  have HB0 := hide' (HB4.out.trans (b5.out.mono HB4.out.size))
  have MB0 : Hid (∀ W, Below W0.heap.size W0 W → Mb F F' lo lc ls to q1 q5 V4.heap.size (rel F) W) := fun W b => Mb.below ⟨(b5.out.block _ (lt_of_heap K5.out)).trans K5.out, (b5.out.block _ (lt_of_heap c5.out)).trans c5.out, c6.out, H.out.below HB0.out, RM4.out.below b5.out, WT4.out.1.below b5.out⟩ b
  have Htc := hide' WT4.out.2
  clear c5 c6 b5 HB4 K5 WT4 RM4
  generalize V4.heap.size = q6 at *
  clear V4
  have C28 : Hid (∀ W, Below W0.heap.size W0 W → Calls Try.prog 28 #[.agg (gvn F F' ls).arr] W fun e w' => ∃ ao ac, e = .returned (.slice ao n ac) ∧ X.RowI W.heap.size ao ac (rel F) w' ∧ Below W.heap.size W w') := fun W b => by
    have q := rel_call (gvn F F' ls) N W (gvn_in (MB0.out W b).rm (MB0.out W b).f) (gvn_fine Hel.out Hf.out) Hv.out
    unfold RelIs at q
    rw [gvn_rel Hel.out, ← Hn.out] at q
    exact q
  have C21 : Hid (∀ W, Below W0.heap.size W0 W → Calls Try.prog 21 #[.agg (rarr F F' ls lo lc), .agg F.arr] W fun e w' => e = .returned (.bool true) ∧ Below W.heap.size W w') := fun W b => untouched_any F F' lo lc ls W (MB0.out W b).f Hf.out.small (MB0.out W b).rm
  have hnl : (n : Int) ≤ 65536 := by
    have q1 := relA_len F (fo F.a.2.2) (fo F.o.2.2) (fos F.s.2.2)
    have q2 := Hv.out
    have q3 := Hn.out
    unfold rel at q3
    omega
  go_wp2_with (with_reducible refine stay_load 34 _ rfl ?_)
  unfold Stay
  refine wpList_load_row rfl 34 _ rfl q6 rfl 34 (gvn F F' ls).arr (0, 0) _ (MB0.out _ (Below.refl _ _)).h6 Try.underlying34 rfl (size_arr _) ?_
  go_wp2_with fail
  refine (C28.out W0 (Below.refl _ _)).mono ?_
  rintro e w1 ⟨ao, ac, rfl, ra, d1⟩
  have D1 := hide' d1
  have RA := hide' ra
  clear d1 ra
  go_wp2_with (with_reducible refine stay_load 39 _ rfl ?_)
  unfold Stay
  refine wpList_load_row rfl 39 _ rfl q5 rfl 39 (rarr F F' ls lo lc) (0, 0) _ (MB0.out _ D1.out).h5 Try.underlying39 rfl (rarr_size F F' ls lo lc) ?_
  go_wp2_with (with_reducible refine stay_load 34 _ rfl ?_)
  unfold Stay
  refine wpList_load_row rfl 34 _ rfl q1 rfl 34 F.arr (0, 0) _ (MB0.out _ D1.out).h1 Try.underlying34 rfl (size_arr F) ?_
  go_wp2_with fail
  refine (C21.out w1 D1.out).mono ?_
  rintro e w2 ⟨rfl, t2⟩
  have D2 := hide' (D1.out.trans (t2.mono D1.out.size))
  have RA2 := hide' (RA.out.below t2)
  have LA := hide' (fun j (q : X.At ao j) => Nat.lt_of_lt_of_le (RA.out.lt j q).2 t2.size)
  clear t2 D1 RA
  go_wp2_with (with_reducible refine stay_load 34 _ rfl ?_)
  unfold Stay
  refine wpList_load_row rfl 34 _ rfl q6 rfl 34 (gvn F F' ls).arr (0, 0) _ (MB0.out _ D2.out).h6 Try.underlying34 rfl (size_arr _) ?_
  go_wp2_with fail
  refine (C28.out w2 D2.out).mono ?_
  rintro e w3 ⟨bo, bc, rfl, rb, d3⟩
  have D3 := hide' (D2.out.trans (d3.mono D2.out.size))
  have RB := hide' rb
  have RA3 := hide' (RA2.out.below d3)
  have S23 := hide' d3.size
  clear rb d3 RA2
  go_wp2_with (with_reducible refine stay_load 34 _ rfl ?_)
  unfold Stay
  refine wpList_load_row rfl 34 _ rfl q6 rfl 34 (gvn F F' ls).arr (0, 0) _ (MB0.out _ D3.out).h6 Try.underlying34 rfl (size_arr _) ?_
  go_wp2_with fail
  refine (C28.out w3 D3.out).mono ?_
  rintro e w4 ⟨co, cc, rfl, rc, d4⟩
  have MZ : Hid (Mz W0 ao bo co ac bc cc (rel F) (rel F) (rel F) w2.heap.size w3.heap.size w4) := ⟨D3.out.trans (d4.mono D3.out.size), RA3.out.below d4, LA.out, RB.out.below d4, fun j q => (RB.out.lt j q).2, rc, D2.out.size, S23.out, d4.size⟩
  have KP := hide' (And.intro RA3.out.cap (And.intro RB.out.cap rc.cap))
  clear rc d4 RA3 RB LA D2 D3 S23
  generalize w2.heap.size = Bb at *
  generalize w3.heap.size = Bc at *
  clear w1 w2 w3
  have C29 : Hid (∀ W xo xc, Below W0.heap.size W0 W → X.Ints xo (rel F) W → (rel F).length ≤ xc → Calls Try.prog 29 #[.slice xo n xc, .slice to n tc] W fun e w' => e = .returned (.bool true) ∧ Below W.heap.size W w') := fun W xo xc b i c => by
    rw [Hn.out]
    exact same_self xo to xc tc (rel F) W i (MB0.out W b).wt c Htc.out (by have := Hn.out; omega)
  go_wp2_with fail
  refine (C29.out _ ao ac MZ.out.b MZ.out.ra.ints KP.out.1).mono ?_
  rintro e w5 ⟨rfl, t5⟩
  have MZ5 := hide' (MZ.out.below t5)
  clear MZ t5 w4
  go_wp2_with fail
  refine (C29.out _ bo bc MZ5.out.b MZ5.out.rb.ints KP.out.2.1).mono ?_
  rintro e w6 ⟨rfl, t6⟩
  have MZ6 := hide' (MZ5.out.below t6)
  clear MZ5 t6 w5
  go_wp2_with fail
  refine (C29.out _ co cc MZ6.out.b MZ6.out.rc.ints KP.out.2.2).mono ?_
  rintro e w7 ⟨rfl, t7⟩
  have MZ7 := hide' (MZ6.out.below t7)
  clear MZ6 t7 w6
  obtain ⟨R, hR⟩ : ∃ R, R = rel F := ⟨_, rfl⟩
  rw [← hR] at Hn Htc MB0 C28 C29 MZ7 KP
  clear hR
  have hac : n ≤ ac := by have := Hn.out; have := KP.out.1; omega
  have hcc : n ≤ cc := by have := Hn.out; have := KP.out.2.2; omega
  go_wp2_with fail
  go_loopw [10] (fun iv wx => ∃ i : Nat, iv = .int .i64 (i : Int) ∧ i ≤ n ∧ Hid (Mz W0 ao bo co ac bc cc (ovr k1 i R) R R Bb Bc wx)) (fun iv _ => n - (intOf iv).toNat)
  case atStart => exact ⟨0, rfl, Nat.zero_le _, by have := MZ7.out; simpa [ovr, Hid] using this⟩
  case round =>
    obtain ⟨i, rfl, hi, MI⟩ := hrel
    clear MZ7
    by_cases hlt : i < n
    · have hlt' : (i : Int) < (n : Int) := by omega
      have hiR : i < R.length := by have := Hn.out; omega
      obtain ⟨z, hz⟩ : ∃ z, (ovr k1 i R)[i]? = some z := ⟨_, List.getElem?_eq_getElem (by rw [ovr_len _ _ _ (by omega)]; omega)⟩
      obtain ⟨g, hg, _⟩ := X.row_at MI.out.ra hz
      have Hg := hide' hg
      have MI2 := MI.out
      rw [hg] at MI2
      have TH := hide' (X.there3 MI2.ra (i := i) (by rw [ovr_len _ _ _ (by omega)]; omega))
      have MI3 := hide' (MI2.putA i k1)
      rw [ovr_set _ _ _ hiR] at MI3
      rw [hg]
      clear hz hg MI2
      go_wp2_with (with_reducible refine stay_store 36 _ _ rfl ?_)
      unfold Stay
      refine wpList_store_mid rfl 36 _ _ rfl g (i * 3) #[.string k1.1, .string k1.2.1, .string k1.2.2] rfl rfl TH.out (by kernel_rfl) (by simp [Value.oneCell']) ?_
      have MI4 : Hid (Mz W0 ao bo co ac bc cc (ovr k1 (i + 1) R) R R Bb Bc (wr.setCells g (i * 3) [.string k1.1, .string k1.2.1, .string k1.2.2])) := by rw [Hg.out]; exact MI3
      show wpList _ _ _ _ _ (wr.setCells g (i * 3) [.string k1.1, .string k1.2.1, .string k1.2.2])
      generalize wr.setCells g (i * 3) [.string k1.1, .string k1.2.1, .string k1.2.2] = wy at *
      clear MI3 TH MI
      go_wp2_with fail
      rw [← Hg.out]
      exact ⟨⟨i + 1, by go_num, by omega, MI4⟩, by simp [intOf]; omega⟩
    · have hk : n = i := by omega
      subst hk
      have hlt' : ¬ (n : Int) < (n : Int) := by omega
      have M1 : Hid (Mz W0 ao bo co ac bc cc (List.replicate n k1) R R Bb Bc wr) := by
        have q := MI.out
        rw [Hn.out, ovr_all, ← Hn.out] at q
        exact q
      have D0 := hide' M1.out.gone
      have lx := hide' (Nat.le_refl wr.heap.size)
      clear MI M1
      generalize wr.heap.size = Bx at D0 lx
      clear lx hi hlt
      go_wp2_with fail
      clear hlt'
      go_loopw [11, 12] (fun dv iv wx => ∃ (j : Nat) (dd : Option Addr) (dc : Nat), iv = .int .i64 (j : Int) ∧ j ≤ 40 ∧ dv = .slice dd (n + j) dc ∧ Hid (Md W0 ao bo co dd bc cc dc n j R R Bb Bc Bx wx)) (fun _ iv _ => 40 - (intOf iv).toNat)
      case atStart => exact ⟨0, ao, ac, rfl, by omega, rfl, D0⟩
      case round =>
        obtain ⟨j, dd, dc, rfl, hj, rfl, DJ⟩ := hrel
        clear D0
        by_cases hlt : j < 40
        · have hlt' : (j : Int) < 40 := by omega
          go_wp2_with (at_builtin; refine stay_app _ _ _ rfl ?_)
          unfold Stay
          refine X.wpList_app1k _ rfl _ _ rfl W0.heap.size dd dc (n + j) (List.replicate n k1 ++ List.replicate j k2) k2 36 _ (by show _ = _; simp) rfl DJ.out.rd rfl (by show _ < _; simp; omega) DJ.out.b.size ?_
          intro g cap' wy r t hg hi
          have DJ2 := hide' (DJ.out.app r t hg hi)
          clear r t hg hi DJ
          go_wp2_with fail
          exact ⟨⟨j + 1, _, _, by go_num, by omega, rfl, DJ2⟩, by simp [intOf]; omega⟩
        · have hk : j = 40 := by omega
          subst hk
          rw [show ((40 : Nat) : Int) = 40 from rfl]
          clear hj hlt
          have hdc : n + 40 ≤ dc := by have := DJ.out.rd.cap; simpa using this
          go_wp2_with fail
          go_loopw [13] (fun iv wx => ∃ i : Nat, iv = .int .i64 (i : Int) ∧ i ≤ n ∧ Hid (Md W0 ao bo co dd bc cc dc n 40 R (ovr k3 i R) Bb Bc Bx wx)) (fun iv _ => n - (intOf iv).toNat)
          case atStart => exact ⟨0, rfl, Nat.zero_le _, by have := DJ.out; simpa [ovr, Hid] using this⟩
          case round =>
            obtain ⟨i, rfl, hi, MI⟩ := hrel
            clear DJ
            by_cases hlt : i < n
            · have hlt' : (i : Int) < (n : Int) := by omega
              have hiR : i < R.length := by have := Hn.out; omega
              obtain ⟨z, hz⟩ : ∃ z, (ovr k3 i R)[i]? = some z := ⟨_, List.getElem?_eq_getElem (by rw [ovr_len _ _ _ (by omega)]; omega)⟩
              obtain ⟨g, hg, _⟩ := X.row_at MI.out.rc hz
              have Hg := hide' hg
              have MI2 := MI.out
              rw [hg] at MI2
              have TH := hide' (X.there3 MI2.rc (i := i) (by rw [ovr_len _ _ _ (by omega)]; omega))
              have MI3 := hide' (MI2.putC i k3)
              rw [ovr_set _ _ _ hiR] at MI3
              rw [hg]
              clear hz hg MI2
              go_wp2_with (with_reducible refine stay_store 36 _ _ rfl ?_)
              unfold Stay
              refine wpList_store_mid rfl 36 _ _ rfl g (i * 3) #[.string k3.1, .string k3.2.1, .string k3.2.2] rfl rfl TH.out (by kernel_rfl) (by simp [Value.oneCell']) ?_
              have MI4 : Hid (Md W0 ao bo co dd bc cc dc n 40 R (ovr k3 (i + 1) R) Bb Bc Bx (wr.setCells g (i * 3) [.string k3.1, .string k3.2.1, .string k3.2.2])) := by rw [Hg.out]; exact MI3
              show wpList _ _ _ _ _ (wr.setCells g (i * 3) [.string k3.1, .string k3.2.1, .string k3.2.2])
              generalize wr.setCells g (i * 3) [.string k3.1, .string k3.2.1, .string k3.2.2] = wy at *
              clear MI3 TH MI
              go_wp2_with fail
              rw [← Hg.out]
              exact ⟨⟨i + 1, by go_num, by omega, MI4⟩, by simp [intOf]; omega⟩
            · have hk : n = i := by omega
              subst hk
              have hlt' : ¬ (n : Int) < (n : Int) := by omega
              have JA : Hid (X.Ints ao (List.replicate n k1) wr ∧ X.Ints dd (List.replicate n k1) wr ∧ X.RowI Bb bo bc R wr ∧ Below W0.heap.size W0 wr) := ⟨MI.out.ia, MI.out.rd.ints.left, MI.out.rb, MI.out.b⟩
              clear MI hi hlt
              go_wp2_with fail
              clear hlt'
              go_loopw [14] (fun iv wx => ∃ i : Nat, iv = .int .i64 (i : Int) ∧ i ≤ n ∧ wx = wr) (fun iv _ => n - (intOf iv).toNat)
              case atStart => exact ⟨0, rfl, Nat.zero_le _, rfl⟩
              case round =>
                obtain ⟨i, rfl, hi, rfl⟩ := hrel
                by_cases hlt : i < n
                · have hlt' : (i : Int) < (n : Int) := by omega
                  have hz : (List.replicate n k1)[i]? = some k1 := by rw [List.getElem?_replicate, if_pos hlt]
                  obtain ⟨x, off, hx, _, d1, _⟩ := JA.out.1.at hz
                  obtain ⟨y, off2, hy, _, f1, _⟩ := JA.out.2.1.at hz
                  have g1 : k1.1.toList = [35, 49] := by rw [ByteArray.toList_eq]; rfl
                  have Hx := hide' hx
                  have Hy := hide' hy
                  rw [hx, hy]
                  clear hx hy hz
                  go_wp2_with fail
                  exact ⟨⟨i + 1, by go_num, by omega, trivial⟩, by simp [intOf]; omega⟩
                · have hk : n = i := by omega
                  subst hk
                  have hlt' : ¬ (n : Int) < (n : Int) := by omega
                  go_wp2_with (with_reducible refine stay_load 34 _ rfl ?_)
                  unfold Stay
                  clear hlt hlt' hi
                  have J3 := hide' JA.out.2.2
                  clear JA
                  refine wpList_load_row rfl 34 _ rfl q6 rfl 34 (gvn F F' ls).arr (0, 0) _ (MB0.out _ J3.out.2).h6 Try.underlying34 rfl (size_arr _) ?_
                  go_wp2_with fail
                  refine (C28.out _ J3.out.2).mono ?_
                  rintro e w8 ⟨eo, ec, rfl, re, d8⟩
                  have E8 := hide' (And.intro (J3.out.2.trans (d8.mono J3.out.2.size)) (And.intro (J3.out.1.below d8) re))
                  clear re d8 J3
                  go_wp2_with fail
                  refine (C29.out _ bo bc E8.out.1 E8.out.2.1.ints KP.out.2.1).mono ?_
                  rintro e w9 ⟨rfl, t9⟩
                  have E9 := hide' (And.intro (E8.out.1.trans (t9.mono E8.out.1.size)) (And.intro (E8.out.2.2.ints.below t9) E8.out.2.2.cap))
                  clear t9 E8
                  go_wp2_with fail
                  refine (C29.out _ eo ec E9.out.1 E9.out.2.1 E9.out.2.2).mono ?_
                  rintro e w10 ⟨rfl, t10⟩
                  have E10 := hide' (E9.out.1.trans (t10.mono E9.out.1.size))
                  clear t10 E9
                  go_wp2_with (with_reducible refine stay_load 39 _ rfl ?_)
                  unfold Stay
                  refine wpList_load_w (by rfl) 39 _ rfl q5 rfl 39 (rarr F F' ls lo lc) (0, 0) _ (MB0.out _ E10.out).h5 Try.underlying39 rfl (rarr_size F F' ls lo lc) ?_
                  go_wp2_with (with_reducible refine stay_load 34 _ rfl ?_)
                  unfold Stay
                  refine wpList_load_w (by rfl) 34 _ rfl q1 rfl 34 F.arr (0, 0) _ (MB0.out _ E10.out).h1 Try.underlying34 rfl (size_arr F) ?_
                  go_wp2_with fail
                  refine (C21.out _ E10.out).mono ?_
                  rintro e w11 ⟨rfl, t11⟩
                  go_wp2_with fail
                  go_ret
                  exact ⟨rfl, HB0.out.trans ((E10.out.trans (t11.mono E10.out.size)).mono HB0.out.size)⟩
end U
end Go.Proofs.Ytgbhcfephhbalaa
