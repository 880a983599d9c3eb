import Derived.Test.YtollaamlnddhcaaKC
import Derived.Deep.RegionHeld3
set_option linter.unusedVariables false
set_option linter.unusedSimpArgs false
namespace Go.Proofs.Ytollaamlnddhcaa
open Go.RowKit Go.Maps
namespace U
/-- each name where it stands first -/
def fo (ys : List ByteArray) : List ByteArray := ys.foldl (fun l y => if isIn l y = true then l else l ++ [y]) []
theorem fo_snoc (ys : List ByteArray) (y : ByteArray) : fo (ys ++ [y]) = if isIn (fo ys) y = true then fo ys else fo ys ++ [y] := by unfold fo; rw [List.foldl_append]; rfl
theorem fo_take {ys : List ByteArray} {i : Nat} {y : ByteArray} (h : ys[i]? = some y) : fo (ys.take (i + 1)) = if isIn (fo (ys.take i)) y = true then fo (ys.take i) else fo (ys.take i) ++ [y] := by rw [List.take_add_one, h]; exact fo_snoc _ _
theorem fo_len (ys : List ByteArray) (i : Nat) : (fo (ys.take i)).length ≤ i := by
  induction i with
  | zero => simp [fo]
  | succ i ih =>
    cases h : ys[i]? with
    | none => rw [List.take_add_one, h]; simp; omega
    | some y =>
      rw [fo_take h]
      split
      · omega
      · rw [List.length_append]; simp; omega
/-- a map and a row: what has been seen -/
structure Ox (nb : Nat) (ms : List ByteArray) (bo : Option Addr) (bc : Nat) (w V : World) : Prop where
  b : Below w.heap.size w V
  m : Nset nb ms V
  r : S.RowI w.heap.size bo bc ms V
theorem Nset.ne {nb : Nat} {ms : List ByteArray} {V : World} (h : Nset nb ms V) {j t : Nat} {c : Array Value} {r : Nat × Nat} (hc : V.heap[j]? = some (.cells c t r)) : j ≠ nb := by
  obtain ⟨n, D, _, hm, _⟩ := h
  exact map_ne hc hm
theorem Nset.made (w : World) : Nset w.heap.size [] (w.alloc (.map #[] 0)) := ⟨0, .map [], Nat.le_refl _, World.ownsMap_made w Try.prog 9 _, fun k _ => rfl⟩
/-- what once tells -/
def OncIs (ys : List ByteArray) (w : World) (e : Ending) (w' : World) : Prop := ∃ bo bc, e = .returned (.slice bo (fo ys).length bc) ∧ S.RowI w.heap.size bo bc (fo ys) w' ∧ Below w.heap.size w w'
set_option maxRecDepth 100000 in
set_option maxHeartbeats 4000000 in
theorem once_any (ao : Option Addr) (ac : Nat) (ys : List ByteArray) (w : World) (h : S.Ints ao ys w) (hc : ys.length ≤ ac) (hl : ys.length ≤ 1048576) (hk : ∀ y ∈ ys, y.size ≤ 1048576) : Calls Try.prog 43 #[.slice ao ys.length ac] w fun e w' => OncIs ys w e w' := by
  have hmm := @run_makeMap Try.prog
  have H := hide' h
  have HK := hide' hk
  have hl64 : (ys.length : Int) ≤ 1048576 := by omega
  clear h hk
  go_enter Try.func43, Try.ntmps43
  go_wp2_with fail
  have X0 : Hid (Ox w.heap.size [] none 0 w (w.alloc (.map #[] 0))) := ⟨(Below.refl _ _).alloc (Nat.le_refl _) _, Nset.made w, S.RowI.nil _ _⟩
  generalize w.alloc (.map #[] 0) = V0 at *
  obtain ⟨nb, hnb⟩ : ∃ nb, nb = w.heap.size := ⟨_, rfl⟩
  have hB : Hid (w.heap.size ≤ nb) := by rw [hnb]; exact Nat.le_refl _
  have X1 : Hid (Ox nb [] none 0 w V0) := by rw [hnb]; exact X0
  clear X0
  rw [← hnb]
  clear hnb
  go_loopw [4, 12] (fun sv iv wx => ∃ (i : Nat) (bo : Option Addr) (bc : Nat), iv = .int .i64 (i : Int) ∧ sv = .slice bo (fo (ys.take i)).length bc ∧ i ≤ ys.length ∧ Hid (Ox nb (fo (ys.take i)) bo bc w wx)) (fun _ iv _ => ys.length - (intOf iv).toNat)
  case atStart => exact ⟨0, none, 0, rfl, rfl, Nat.zero_le _, X1⟩
  case round =>
    obtain ⟨i, bo, bc, rfl, rfl, hi, HM⟩ := hrel
    clear X1
    by_cases hlt : i < ys.length
    · have hlt' : (i : Int) < (ys.length : Int) := by omega
      obtain ⟨y, hy⟩ : ∃ y, ys[i]? = some y := ⟨_, List.getElem?_eq_getElem hlt⟩
      obtain ⟨ab, off, hao, hab, x0⟩ := H.out.at hy
      have d0 := (HM.out.b.cell (p := ⟨ab, off + i, none⟩) hab).trans x0
      have hys : Hid (y.size ≤ 1048576) := HK.out y (List.mem_of_getElem? hy)
      have hyk : Hid (S.okk y) := okk_of hys.out
      have hft := hide' (fo_take hy)
      have hfl : Hid ((fo (ys.take i)).length ≤ 1048576) := by have := fo_len ys i; show _ ≤ _; omega
      generalize fo (ys.take i) = ms at *
      have r0 := look_set HM.out.m hyk.out
      subst hao
      cases hin : isIn ms y with
      | true =>
        rw [hin] at r0
        have hf2 : Hid (fo (ys.take (i + 1)) = ms) := by have q := hft.out; rw [if_pos hin] at q; exact q
        have bV : Hid (Below wr.heap.size wr (wr.alloc (.cells #[] 114))) := (Below.refl _ _).alloc (Nat.le_refl _) _
        have hO : Hid (Ox nb ms bo bc w (wr.alloc (.cells #[] 114))) := ⟨HM.out.b.trans (bV.out.mono HM.out.b.size), HM.out.m.turn (turn_below (S := fun _ => False) bV.out) id, HM.out.r.below bV.out⟩
        clear hft hin x0 hab HM hy bV
        go_wp2_with fail
        exact ⟨⟨i + 1, bo, bc, by go_num, by rw [hf2.out], by omega, by rw [hf2.out]; exact hO⟩, by simp [intOf]; omega⟩
      | false =>
        rw [hin] at r0
        have hf2 : Hid (fo (ys.take (i + 1)) = ms ++ [y]) := by have q := hft.out; rw [if_neg (by rw [hin]; decide)] at q; exact q
        have bV : Hid (Below wr.heap.size wr (wr.alloc (.cells #[] 114))) := (Below.refl _ _).alloc (Nat.le_refl _) _
        have hO : Hid (Ox nb ms bo bc w (wr.alloc (.cells #[] 114))) := ⟨HM.out.b.trans (bV.out.mono HM.out.b.size), HM.out.m.turn (turn_below (S := fun _ => False) bV.out) id, HM.out.r.below bV.out⟩
        obtain ⟨n, D, hn, hown, hh⟩ := id hO.out.m
        have hput := hide' (S.has_put hh hown.isMap hyk.out)
        have Hown := hide' hown
        have hnm : Hid (n < maxLen) := by have := hfl.out; show _ < _; unfold maxLen; omega
        have Hn := hide' hn
        clear hft hin x0 hab HM hy bV hh hown hn
        go_wp2_with (at_mapUpdate; refine wpList_mapUpdate_own _ rfl _ _ _ 95 rfl 9 114 S.law Try.underlying95 unitElem nb n D rfl Hown.out hnm.out _ _ _ rfl rfl (S.hkey hyk.out) _ [] unitElem_mk ?_; intro w6 hown6 hg6; have G6 := hide' (And.intro hown6 hg6); clear hown6 hg6)
        have t6 : Turn (fun q => q = nb) (wr.alloc (.cells #[] 114)) w6 := ⟨G6.out.2.os, G6.out.2.tape, G6.out.2.output, G6.out.2.size, fun k hk hne => G6.out.2.block k hk (by simpa using hne)⟩
        have M6 : Hid (Below w.heap.size w w6 ∧ Nset nb (ms ++ [y]) w6 ∧ S.RowI w.heap.size bo bc ms w6) := ⟨hO.out.b.trans (below_own t6 (fun j e => by rw [e]; exact hB.out) hO.out.b.size), ⟨n + 1, _, by rw [List.length_append]; exact Nat.add_le_add Hn.out (Nat.le_refl 1), G6.out.1, hput.out⟩, hO.out.r.turn t6 (fun j q e => by obtain ⟨cur, k⟩ := kindS hO.out.r q; exact hO.out.m.ne k e)⟩
        clear G6 hO Hown hput Hn hnm t6
        refine (clone_any y w6 (by have := hys.out; omega)).mono ?_
        rintro e w7 ⟨rfl, b7⟩
        have M7 : Hid (Below w.heap.size w w7 ∧ Nset nb (ms ++ [y]) w7 ∧ S.RowI w.heap.size bo bc ms w7) := ⟨M6.out.1.trans (b7.mono M6.out.1.size), M6.out.2.1.turn (turn_below (S := fun _ => False) b7) id, M6.out.2.2.below b7⟩
        clear M6 b7
        have hb2 : Hid (ms.length < 4398046511104) := by have := hfl.out; show _ < _; omega
        go_wp2_with (at_builtin; refine S.wpList_app1 w7 rfl _ _ rfl w.heap.size bo bc ms y _ 1 rfl M7.out.2.2 rfl hb2.out M7.out.1.size ?_; intro g cg w8 hr8 ht8 ho8 hl8; have G8 := hide' (And.intro hr8 ht8); clear hr8 ht8 ho8 hl8)
        have hO8 : Ox nb (ms ++ [y]) (some ⟨g, 0, none⟩) cg w w8 := ⟨M7.out.1.trans (below_own G8.out.2 (fun j q => (M7.out.2.2.lt j q).1) M7.out.1.size), M7.out.2.1.turn G8.out.2 (fun q => by obtain ⟨cur, k⟩ := kindS M7.out.2.2 q; exact M7.out.2.1.ne k rfl), G8.out.1⟩
        exact ⟨⟨i + 1, some ⟨g, 0, none⟩, cg, by go_num, by rw [hf2.out, List.length_append]; rfl, by omega, by rw [hf2.out]; exact hO8⟩, by simp [intOf]; omega⟩
    · have hk : i = ys.length := by omega
      subst hk
      have hlt' : ¬ (ys.length : Int) < (ys.length : Int) := by omega
      have KK : Hid (OncIs ys w (.returned (.slice bo (fo ys).length bc)) wr) := by have q := HM.out; rw [List.take_length] at q; exact ⟨bo, bc, rfl, q.r, q.b⟩
      rw [List.take_length]
      clear HM
      go_wp2_with fail
      go_ret
      exact KK.out
end U
end Go.Proofs.Ytollaamlnddhcaa
set_option linter.unusedVariables false
set_option linter.unusedSimpArgs false
namespace Go.Proofs.Ytollaamlnddhcaa
open Go.RowKit Go.Maps
namespace U
abbrev Sb := ByteArray × Nat
/-- each subject where its name stands first -/
def fos (ss : List Sb) : List Sb := ss.foldl (fun l s => if isIn (l.map (·.1)) s.1 = true then l else l ++ [s]) []
theorem fos_snoc (ss : List Sb) (s : Sb) : fos (ss ++ [s]) = if isIn ((fos ss).map (·.1)) s.1 = true then fos ss else fos ss ++ [s] := by unfold fos; rw [List.foldl_append]; rfl
theorem fos_take {ss : List Sb} {i : Nat} {s : Sb} (h : ss[i]? = some s) : fos (ss.take (i + 1)) = if isIn ((fos (ss.take i)).map (·.1)) s.1 = true then fos (ss.take i) else fos (ss.take i) ++ [s] := by rw [List.take_add_one, h]; exact fos_snoc _ _
theorem fos_len (ss : List Sb) (i : Nat) : (fos (ss.take i)).length ≤ i := by
  induction i with
  | zero => simp [fos]
  | succ i ih =>
    cases h : ss[i]? with
    | none => rw [List.take_add_one, h]; simp; omega
    | some y =>
      rw [fos_take h]
      split
      · omega
      · rw [List.length_append]; simp; omega
theorem kindT {B : Nat} {no : Option Addr} {ncap : Nat} {zs : List Sb} {w : World} (h : T.RowI B no ncap zs w) {j : Nat} (q : T.At no j) : ∃ cur, w.heap[j]? = some (.cells cur 67 (0, 0)) := by
  obtain ⟨a, e, rfl⟩ := q
  rcases h.2 with ⟨hv, _⟩ | ⟨g, c, cur, hv, _, hg, _⟩
  · rw [e] at hv; cases hv
  · simp only [Value.slice.injEq] at hv; rw [hv.1] at e; cases e; exact ⟨cur, hg⟩
structure Tx2 (nb : Nat) (ms : List Sb) (bo : Option Addr) (bc : Nat) (w V : World) : Prop where
  b : Below w.heap.size w V
  m : Nset nb (ms.map (·.1)) V
  r : T.RowI w.heap.size bo bc ms V
/-- what firstSubjects tells -/
def FsbIs (ss : List Sb) (w : World) (e : Ending) (w' : World) : Prop := ∃ bo bc, e = .returned (.slice bo (fos ss).length bc) ∧ T.RowI w.heap.size bo bc (fos ss) w' ∧ Below w.heap.size w w'
set_option maxRecDepth 100000 in
set_option maxHeartbeats 4000000 in
theorem firstS_any (ao : Option Addr) (ac : Nat) (ss : List Sb) (w : World) (h : Subs ao ss w) (hc : ss.length ≤ ac) (hl : ss.length ≤ 1048576) (hk : ∀ s ∈ ss, S.okk s.1) : Calls Try.prog 46 #[.slice ao ss.length ac] w fun e w' => FsbIs ss w e w' := by
  have hmm := @run_makeMap Try.prog
  have hsf : ∀ (a : Addr) (k : FloatKind) (b : Nat) (m : Mode) (w : World), (store a (.float k b) m).run Try.prog w = stored Try.prog w a (.float k b) m := fun a k b m w => run_store Try.prog w a _ m rfl
  have H := hide' h
  have HK := hide' hk
  have hl64 : (ss.length : Int) ≤ 1048576 := by omega
  clear h hk
  go_enter Try.func46, Try.ntmps46
  go_wp2_with fail
  have X0 : Hid (Tx2 w.heap.size [] none 0 w (w.alloc (.map #[] 0))) := ⟨(Below.refl _ _).alloc (Nat.le_refl _) _, Nset.made w, T.RowI.nil _ _⟩
  generalize w.alloc (.map #[] 0) = V0 at *
  obtain ⟨nb, hnb⟩ : ∃ nb, nb = w.heap.size := ⟨_, rfl⟩
  have hB : Hid (w.heap.size ≤ nb) := by rw [hnb]; exact Nat.le_refl _
  have X1 : Hid (Tx2 nb [] none 0 w V0) := by rw [hnb]; exact X0
  clear X0
  rw [← hnb]
  clear hnb
  go_loopw [4, 12] (fun sv iv wx => ∃ (i : Nat) (bo : Option Addr) (bc : Nat), iv = .int .i64 (i : Int) ∧ sv = .slice bo (fos (ss.take i)).length bc ∧ i ≤ ss.length ∧ Hid (Tx2 nb (fos (ss.take i)) bo bc w wx)) (fun _ iv _ => ss.length - (intOf iv).toNat)
  case atStart => exact ⟨0, none, 0, rfl, rfl, Nat.zero_le _, X1⟩
  case round =>
    obtain ⟨i, bo, bc, rfl, rfl, hi, HM⟩ := hrel
    clear X1
    by_cases hlt : i < ss.length
    · have hlt' : (i : Int) < (ss.length : Int) := by omega
      obtain ⟨s, hy⟩ : ∃ s, ss[i]? = some s := ⟨_, List.getElem?_eq_getElem hlt⟩
      obtain ⟨ab, off, hao, hab, x0, x1⟩ := H.out.at hy
      have d0 := (HM.out.b.cell (p := ⟨ab, off + i * 2, none⟩) hab).trans x0
      have d1 := (HM.out.b.cell (p := ⟨ab, off + i * 2 + 1, none⟩) hab).trans x1
      have hyk : Hid (S.okk s.1) := HK.out s (List.mem_of_getElem? hy)
      have hft := hide' (fos_take hy)
      have hfl : Hid ((fos (ss.take i)).length ≤ 1048576) := by have := fos_len ss i; show _ ≤ _; omega
      generalize fos (ss.take i) = ms at *
      obtain ⟨y, tr⟩ := s
      simp only at d0 d1 hyk hft x0 x1
      have bV : Hid (Below wr.heap.size wr (wr.alloc (.cells #[.string y, .float .f64 tr] 67))) := (Below.refl _ _).alloc (Nat.le_refl _) _
      have MV : Hid ((Tx2 nb ms bo bc w (wr.alloc (.cells #[.string y, .float .f64 tr] 67))) ∧ (wr.alloc (.cells #[.string y, .float .f64 tr] 67)).heap[wr.heap.size]? = some (.cells #[.string y, .float .f64 tr] 67 (0, 0))) := ⟨⟨HM.out.b.trans (bV.out.mono HM.out.b.size), HM.out.m.turn (turn_below (S := fun _ => False) bV.out) id, HM.out.r.below bV.out⟩, heap_alloc_new wr _⟩
      have e0 : (wr.alloc (.cells #[.string y, .float .f64 tr] 67)).cell? ⟨wr.heap.size, 0, none⟩ = some (.string y) := by rw [Lib.cell_of_heap MV.out.2]; rfl
      have r0 := look_set MV.out.1.m hyk.out
      subst hao
      have bV2 : Hid (Below (wr.alloc (.cells #[.string y, .float .f64 tr] 67)).heap.size (wr.alloc (.cells #[.string y, .float .f64 tr] 67)) ((wr.alloc (.cells #[.string y, .float .f64 tr] 67)).alloc (.cells #[] 114))) := (Below.refl _ _).alloc (Nat.le_refl _) _
      have MV2 : Hid ((Tx2 nb ms bo bc w ((wr.alloc (.cells #[.string y, .float .f64 tr] 67)).alloc (.cells #[] 114))) ∧ ((wr.alloc (.cells #[.string y, .float .f64 tr] 67)).alloc (.cells #[] 114)).heap[wr.heap.size]? = some (.cells #[.string y, .float .f64 tr] 67 (0, 0))) := ⟨⟨MV.out.1.b.trans (bV2.out.mono MV.out.1.b.size), MV.out.1.m.turn (turn_below (S := fun _ => False) bV2.out) id, MV.out.1.r.below bV2.out⟩, (bV2.out.block _ (lt_of_heap MV.out.2)).trans MV.out.2⟩
      have e1 : ((wr.alloc (.cells #[.string y, .float .f64 tr] 67)).alloc (.cells #[] 114)).cell? ⟨wr.heap.size, 0, none⟩ = some (.string y) := by rw [Lib.cell_of_heap MV2.out.2]; rfl
      clear bV bV2 MV HM hy x0 x1 hab
      cases hin : isIn (ms.map (·.1)) y with
      | true =>
        rw [hin] at r0
        have hf2 : Hid (fos (ss.take (i + 1)) = ms) := by have q := hft.out; rw [if_pos hin] at q; exact q
        clear hft hin
        go_wp2_with fail
        exact ⟨⟨i + 1, bo, bc, by go_num, by rw [hf2.out], by omega, by rw [hf2.out]; exact MV2.out.1⟩, by simp [intOf]; omega⟩
      | false =>
        rw [hin] at r0
        have hf2 : Hid (fos (ss.take (i + 1)) = ms ++ [(y, tr)]) := by have q := hft.out; rw [if_neg (by rw [hin]; decide)] at q; exact q
        obtain ⟨n, D, hn, hown, hh⟩ := id MV2.out.1.m
        have hput := hide' (S.has_put hh hown.isMap hyk.out)
        have Hown := hide' hown
        have hnm : Hid (n < maxLen) := by have := hfl.out; rw [List.length_map] at hn; show _ < _; unfold maxLen; omega
        have Hn := hide' hn
        clear hft hin hh hown hn
        have hb2 : Hid (ms.length < 1099511627776) := by have := hfl.out; show _ < _; omega
        go_wp2_with (first | (have G := M6; at_builtin; refine T.wpList_app1 w6 rfl _ _ rfl w.heap.size bo bc ms (y, tr) _ 1 rfl M6.out.2.2 rfl hb2.out M6.out.1.size ?_; intro g cg w8 hr8 ht8 ho8 hl8; have G8 := hide' (And.intro hr8 ht8); clear hr8 ht8 ho8 hl8) | (at_mapUpdate; refine wpList_mapUpdate_own _ rfl _ _ _ 95 rfl 9 114 S.law Try.underlying95 unitElem nb n D rfl Hown.out hnm.out _ _ _ rfl rfl (S.hkey hyk.out) _ [] unitElem_mk ?_; intro w6 hown6 hg6; have t6 : Turn (fun q => q = nb) ((wr.alloc (.cells #[.string y, .float .f64 tr] 67)).alloc (.cells #[] 114)) w6 := ⟨hg6.os, hg6.tape, hg6.output, hg6.size, fun k hk hne => hg6.block k hk (by simpa using hne)⟩; have hq6 : w6.heap[wr.heap.size]? = some (.cells #[.string y, .float .f64 tr] 67 (0, 0)) := (t6.block _ (lt_of_heap MV2.out.2) (MV2.out.1.m.ne MV2.out.2)).trans MV2.out.2; have c60 : w6.cell? ⟨wr.heap.size, 0, none⟩ = some (.string y) := (Lib.cell_of_heap hq6 0).trans rfl; have c61 : w6.cell? ⟨wr.heap.size, 1, none⟩ = some (.float .f64 tr) := (Lib.cell_of_heap hq6 1).trans rfl; have M6 : Hid (Below w.heap.size w w6 ∧ Nset nb ((ms ++ [(y, tr)]).map (·.1)) w6 ∧ T.RowI w.heap.size bo bc ms w6) := ⟨MV2.out.1.b.trans (below_own t6 (fun j e => by rw [e]; exact hB.out) MV2.out.1.b.size), by (rw [List.map_append]; exact ⟨n + 1, _, by (rw [List.length_append]; exact Nat.add_le_add Hn.out (Nat.le_refl 1)), hown6, hput.out⟩), MV2.out.1.r.turn t6 (fun j q e => by (obtain ⟨cur, k⟩ := kindT MV2.out.1.r q; exact MV2.out.1.m.ne k e))⟩; clear hown6 hg6 t6 hq6 e0 e1 MV2))
        have hO8 : Tx2 nb (ms ++ [(y, tr)]) (some ⟨g, 0, none⟩) cg w w8 := ⟨M6.out.1.trans (below_own G8.out.2 (fun j q => (M6.out.2.2.lt j q).1) M6.out.1.size), M6.out.2.1.turn G8.out.2 (fun q => by obtain ⟨cur, k⟩ := kindT M6.out.2.2 q; exact M6.out.2.1.ne k rfl), G8.out.1⟩
        exact ⟨⟨i + 1, some ⟨g, 0, none⟩, cg, by go_num, by rw [hf2.out, List.length_append]; rfl, by omega, by rw [hf2.out]; exact hO8⟩, by simp [intOf]; omega⟩
    · have hk : i = ss.length := by omega
      subst hk
      have hlt' : ¬ (ss.length : Int) < (ss.length : Int) := by omega
      have KK : Hid (FsbIs ss w (.returned (.slice bo (fos ss).length bc)) wr) := by have q := HM.out; rw [List.take_length] at q; exact ⟨bo, bc, rfl, q.r, q.b⟩
      rw [List.take_length]
      clear HM
      go_wp2_with fail
      go_ret
      exact KK.out
end U
end Go.Proofs.Ytollaamlnddhcaa
set_option linter.unusedVariables false
set_option linter.unusedSimpArgs false
namespace Go.Proofs.Ytollaamlnddhcaa
open Go.RowKit Go.Maps
namespace U
/-- an object's party as it lies -/
structure Ob where
  z : ByteArray
  nb : Nat
  ms : List ByteArray
def Ob.cells (o : Ob) : List Value := [.string o.z, .float .f64 0, .map (some o.nb)]
def Obs (B : Nat) (ro : Option Addr) (rc : Nat) (qs : List K2) (os : List Ob) (w : World) : Prop := G.RowI 97 3 B ro rc (os.map Ob.cells) w ∧ ∀ o ∈ os, Nset o.nb o.ms w ∧ ∀ y, y ∈ o.ms ↔ y ∈ N.clo qs o.z
theorem Obs.below {B : Nat} {ro : Option Addr} {rc : Nat} {qs : List K2} {os : List Ob} {w w' : World} (h : Obs B ro rc qs os w) (t : Below w.heap.size w w') : Obs B ro rc qs os w' := ⟨h.1.below t, fun o ho => ⟨(h.2 o ho).1.turn (turn_below (S := fun _ => False) t) id, (h.2 o ho).2⟩⟩
theorem Obs.snoc {B : Nat} {ro : Option Addr} {rc : Nat} {qs : List K2} {os : List Ob} {w w' : World} (h : Obs B ro rc qs os w) {o : Ob} (ho : Nset o.nb o.ms w ∧ ∀ y, y ∈ o.ms ↔ y ∈ N.clo qs o.z) {g c : Nat} (hg : G.RowI 97 3 B (some ⟨g, 0, none⟩) c (os.map Ob.cells ++ [o.cells]) w') (t : Turn (G.At ro) w w') : Obs B (some ⟨g, 0, none⟩) c qs (os ++ [o]) w' := by
  refine ⟨by rw [List.map_append]; exact hg, fun x hx => ?_⟩
  have hx' : Nset x.nb x.ms w ∧ ∀ y, y ∈ x.ms ↔ y ∈ N.clo qs x.z := by
    rcases List.mem_append.1 hx with q | q
    · exact h.2 x q
    · rw [List.mem_singleton] at q; rw [q]; exact ho
  exact ⟨hx'.1.turn t (fun q => by obtain ⟨c, k⟩ := kindG h.1 q; exact hx'.1.ne k rfl), hx'.2⟩
theorem gmono {e m B C : Nat} {ao : Option Addr} {cap : Nat} {zs : List (List Value)} {w : World} (h : G.RowI e m B ao cap zs w) (hB : C ≤ B) : G.RowI e m C ao cap zs w := by
  refine ⟨h.1, ?_⟩
  rcases h.2 with h2 | ⟨g, cap', cur, hv, hb, rest⟩
  · exact .inl h2
  · exact .inr ⟨g, cap', cur, hv, by omega, rest⟩
theorem Obs.mono {B C : Nat} {ro : Option Addr} {rc : Nat} {qs : List K2} {os : List Ob} {w : World} (h : Obs B ro rc qs os w) (hB : C ≤ B) : Obs C ro rc qs os w := ⟨gmono h.1 hB, h.2⟩
theorem uni_okk {qs : List K2} {z : ByteArray} (hz : z.size ≤ 1048576) (ht : ∀ q ∈ qs, q.1.size ≤ 1048576 ∧ q.2.size ≤ 1048576) : ∀ y ∈ N.uni qs z, S.okk y := fun y hy => by
  unfold N.uni at hy
  rcases List.mem_cons.1 hy with e | e
  · rw [e]; exact okk_of hz
  · obtain ⟨q, hq, rfl⟩ := List.mem_map.1 e
    exact okk_of (ht q hq).2
theorem info66 : (Try.prog.info? 97).map (fun i => (i.zero, i.size, i.bytes)) = some (some (.agg #[.string ByteArray.empty, .float .f64 0, .map none]), 3, 32) := by kernel_rfl
def AljIs (F : Pf) (w : World) (e : Ending) (w' : World) : Prop := ∃ ro rc os, e = .returned (.slice ro os.length rc) ∧ Obs w.heap.size ro rc (F.po.p.2.2 ++ F.po.w.2.2) os w' ∧ os.map (·.z) = fo F.o.2.2 ∧ Below w.heap.size w w'
theorem fo_mem {ys : List ByteArray} {y : ByteArray} (h : y ∈ fo ys) : y ∈ ys := by
  have hh : ∀ n, ∀ y ∈ fo (ys.take n), y ∈ ys := by
    intro n
    induction n with
    | zero => intro y h; simp [fo] at h
    | succ n ih =>
      intro y h
      cases q : ys[n]? with
      | none => rw [List.take_add_one, q] at h; exact ih y (by simpa using h)
      | some a =>
        rw [fo_take q] at h
        split at h
        · exact ih y h
        · rcases List.mem_append.1 h with r | r
          · exact ih y r
          · rw [List.mem_singleton] at r; rw [r]; exact List.mem_of_getElem? q
  exact hh ys.length y (by rw [List.take_length]; exact h)
set_option maxRecDepth 100000 in
set_option maxHeartbeats 4000000 in
theorem allObjects_any (F : Pf) (w : World) (h : F.In w) (hs : F.Small) (hps : F.po.Small) (hok : ∀ y ∈ F.o.2.2, y.size ≤ 1048576) : Calls Try.prog 45 #[.agg #[.slice F.a.1 F.a.2.2.length F.a.2.1, .slice F.s.1 F.s.2.2.length F.s.2.1, .slice F.r.1 F.r.2.2.length F.r.2.1, .slice F.o.1 F.o.2.2.length F.o.2.1, .slice F.g.1 F.g.2.2.length F.g.2.1, .slice F.m.1 F.m.2.2.length F.m.2.1, .slice F.i.1 F.i.2.2.length F.i.2.1, .slice F.p.1 F.p.2.2.length F.p.2.1, .slice F.w.1 F.w.2.2.length F.w.2.1, .slice F.u.1 F.u.2.2.length F.u.2.1, .slice F.x.1 F.x.2.2.length F.x.2.1]] w fun e w' => AljIs F w e w' := by
  have hPv : F.po.val = .agg #[.slice F.a.1 F.a.2.2.length F.a.2.1, .slice F.s.1 F.s.2.2.length F.s.2.1, .slice F.r.1 F.r.2.2.length F.r.2.1, .slice F.o.1 F.o.2.2.length F.o.2.1, .slice F.g.1 F.g.2.2.length F.g.2.1, .slice F.m.1 F.m.2.2.length F.m.2.1, .slice F.i.1 F.i.2.2.length F.i.2.1, .slice F.p.1 F.p.2.2.length F.p.2.1, .slice F.w.1 F.w.2.2.length F.w.2.1, .slice F.u.1 F.u.2.2.length F.u.2.1, .slice F.x.1 F.x.2.2.length F.x.2.1] := rfl
  have C79 : Hid (∀ V, Below w.heap.size w V → Calls Try.prog 65 #[.agg #[.slice F.a.1 F.a.2.2.length F.a.2.1, .slice F.s.1 F.s.2.2.length F.s.2.1, .slice F.r.1 F.r.2.2.length F.r.2.1, .slice F.o.1 F.o.2.2.length F.o.2.1, .slice F.g.1 F.g.2.2.length F.g.2.1, .slice F.m.1 F.m.2.2.length F.m.2.1, .slice F.i.1 F.i.2.2.length F.i.2.1, .slice F.p.1 F.p.2.2.length F.p.2.1, .slice F.w.1 F.w.2.2.length F.w.2.1, .slice F.u.1 F.u.2.2.length F.u.2.1, .slice F.x.1 F.x.2.2.length F.x.2.1]] V fun e w' => LinesIs (F.po.p.2.2 ++ F.po.w.2.2) V e w') := fun V b => by rw [← hPv]; exact whatLines_any F.po V (h.below b).po hps
  have C63 : Hid (∀ V, Below w.heap.size w V → Calls Try.prog 43 #[.slice F.o.1 F.o.2.2.length F.o.2.1] V fun e w' => OncIs F.o.2.2 V e w') := fun V b => once_any F.o.1 F.o.2.1 F.o.2.2 V (h.below b).o.1 h.o.2.1 hs.o hok
  have hqs : Hid ((F.po.p.2.2 ++ F.po.w.2.2).length ≤ 1048576) := by show _ ≤ _; rw [List.length_append]; exact hps.pw
  have C67 : Hid (∀ V bm B f z, z.size ≤ 1048576 → Lm bm B (F.po.p.2.2 ++ F.po.w.2.2) f V → Calls Try.prog 47 #[.map (some bm), .string z, .float .f64 0] V fun e w' => PartyIs (F.po.p.2.2 ++ F.po.w.2.2) z 0 V e w') := fun V bm B f z hz hL => party_any bm B _ f z 0 V hL (uni_okk hz hps.tp) hz hqs
  have hol : Hid ((fo F.o.2.2).length ≤ 1048576) := by have q := fo_len F.o.2.2 F.o.2.2.length; rw [List.take_length] at q; have := hs.o; show _ ≤ _; omega
  have hfo : Hid (∀ z ∈ fo F.o.2.2, z.size ≤ 1048576) := fun z hz => hok z (fo_mem hz)
  clear h hs hps hok hPv
  generalize hqd : F.po.p.2.2 ++ F.po.w.2.2 = qs at *
  have Hqd := hide' hqd
  clear hqd
  go_enter Try.func45, Try.ntmps45
  have hq1 := heap_alloc_new w (.cells #[.slice F.a.1 F.a.2.2.length F.a.2.1, .slice F.s.1 F.s.2.2.length F.s.2.1, .slice F.r.1 F.r.2.2.length F.r.2.1, .slice F.o.1 F.o.2.2.length F.o.2.1, .slice F.g.1 F.g.2.2.length F.g.2.1, .slice F.m.1 F.m.2.2.length F.m.2.1, .slice F.i.1 F.i.2.2.length F.i.2.1, .slice F.p.1 F.p.2.2.length F.p.2.1, .slice F.w.1 F.w.2.2.length F.w.2.1, .slice F.u.1 F.u.2.2.length F.u.2.1, .slice F.x.1 F.x.2.2.length F.x.2.1] 28)
  have hbV : Below w.heap.size w (w.alloc (.cells #[.slice F.a.1 F.a.2.2.length F.a.2.1, .slice F.s.1 F.s.2.2.length F.s.2.1, .slice F.r.1 F.r.2.2.length F.r.2.1, .slice F.o.1 F.o.2.2.length F.o.2.1, .slice F.g.1 F.g.2.2.length F.g.2.1, .slice F.m.1 F.m.2.2.length F.m.2.1, .slice F.i.1 F.i.2.2.length F.i.2.1, .slice F.p.1 F.p.2.2.length F.p.2.1, .slice F.w.1 F.w.2.2.length F.w.2.1, .slice F.u.1 F.u.2.2.length F.u.2.1, .slice F.x.1 F.x.2.2.length F.x.2.1] 28)) := (Below.refl _ _).alloc (Nat.le_refl _) _
  go_wp2_with fail
  generalize w.alloc (.cells #[.slice F.a.1 F.a.2.2.length F.a.2.1, .slice F.s.1 F.s.2.2.length F.s.2.1, .slice F.r.1 F.r.2.2.length F.r.2.1, .slice F.o.1 F.o.2.2.length F.o.2.1, .slice F.g.1 F.g.2.2.length F.g.2.1, .slice F.m.1 F.m.2.2.length F.m.2.1, .slice F.i.1 F.i.2.2.length F.i.2.1, .slice F.p.1 F.p.2.2.length F.p.2.1, .slice F.w.1 F.w.2.2.length F.w.2.1, .slice F.u.1 F.u.2.2.length F.u.2.1, .slice F.x.1 F.x.2.2.length F.x.2.1] 28) = V at *
  obtain ⟨q1, hq⟩ : ∃ q1, q1 = w.heap.size := ⟨_, rfl⟩
  rw [← hq] at hq1
  rw [← hq]
  clear hq
  have m0 : V.cell? ⟨q1, 0, none⟩ = some (.slice F.a.1 F.a.2.2.length F.a.2.1) := by rw [Lib.cell_of_heap hq1]; rfl
  have m1 : V.cell? ⟨q1, 1, none⟩ = some (.slice F.s.1 F.s.2.2.length F.s.2.1) := by rw [Lib.cell_of_heap hq1]; rfl
  have m2 : V.cell? ⟨q1, 2, none⟩ = some (.slice F.r.1 F.r.2.2.length F.r.2.1) := by rw [Lib.cell_of_heap hq1]; rfl
  have m3 : V.cell? ⟨q1, 3, none⟩ = some (.slice F.o.1 F.o.2.2.length F.o.2.1) := by rw [Lib.cell_of_heap hq1]; rfl
  have m4 : V.cell? ⟨q1, 4, none⟩ = some (.slice F.g.1 F.g.2.2.length F.g.2.1) := by rw [Lib.cell_of_heap hq1]; rfl
  have m5 : V.cell? ⟨q1, 5, none⟩ = some (.slice F.m.1 F.m.2.2.length F.m.2.1) := by rw [Lib.cell_of_heap hq1]; rfl
  have m6 : V.cell? ⟨q1, 6, none⟩ = some (.slice F.i.1 F.i.2.2.length F.i.2.1) := by rw [Lib.cell_of_heap hq1]; rfl
  have m7 : V.cell? ⟨q1, 7, none⟩ = some (.slice F.p.1 F.p.2.2.length F.p.2.1) := by rw [Lib.cell_of_heap hq1]; rfl
  have m8 : V.cell? ⟨q1, 8, none⟩ = some (.slice F.w.1 F.w.2.2.length F.w.2.1) := by rw [Lib.cell_of_heap hq1]; rfl
  have m9 : V.cell? ⟨q1, 9, none⟩ = some (.slice F.u.1 F.u.2.2.length F.u.2.1) := by rw [Lib.cell_of_heap hq1]; rfl
  have m10 : V.cell? ⟨q1, 10, none⟩ = some (.slice F.x.1 F.x.2.2.length F.x.2.1) := by rw [Lib.cell_of_heap hq1]; rfl
  refine (C79.out V hbV).mono ?_
  rintro e w1 ⟨bm, f, rfl, hL, b1⟩
  have hq2 := (b1.block _ (lt_of_heap hq1)).trans hq1
  have K1 : Hid (Below w.heap.size w w1 ∧ Lm bm V.heap.size qs f w1) := ⟨hbV.trans (b1.mono hbV.size), hL⟩
  have e3 : w1.cell? ⟨q1, 3, none⟩ = some (.slice F.o.1 F.o.2.2.length F.o.2.1) := by rw [Lib.cell_of_heap hq2]; rfl
  clear hL b1 hq1 hq2 hbV m0 m1 m2 m3 m4 m5 m6 m7 m8 m9 m10 C79
  go_wp2_with fail
  refine (C63.out w1 K1.out.1).mono ?_
  rintro e w2 ⟨bo, bc, rfl, hr, b2⟩
  generalize V.heap.size = B0 at *
  have K2 : Hid ((Below w.heap.size w w2 ∧ Lm bm B0 qs f w2) ∧ S.Ints bo (fo F.o.2.2) w2) := ⟨⟨K1.out.1.trans (b2.mono K1.out.1.size), K1.out.2.below b2⟩, hr.ints⟩
  have hbc : (fo F.o.2.2).length ≤ bc := hr.cap
  clear K1 b2 hr e3 C63
  clear w1
  clear V
  obtain ⟨os0, hos0⟩ : ∃ os0, os0 = fo F.o.2.2 := ⟨_, rfl⟩
  have Hos := hide' hos0
  rw [← hos0] at hbc K2 hol hfo ⊢
  clear hos0
  have hol64 : (os0.length : Int) ≤ 1048576 := by have := hol.out; omega
  go_wp2_with fail
  go_loopw [4, 13] (fun sv iv wx => ∃ (i : Nat) (ro : Option Addr) (rc : Nat) (os : List Ob), iv = .int .i64 (i : Int) ∧ sv = .slice ro os.length rc ∧ i ≤ os0.length ∧ Hid (Below w2.heap.size w2 wx ∧ Obs w2.heap.size ro rc qs os wx ∧ os.map (·.z) = os0.take i ∧ os.length ≤ i)) (fun _ iv _ => os0.length - (intOf iv).toNat)
  case atStart => exact ⟨0, none, 0, [], rfl, rfl, Nat.zero_le _, Below.refl _ _, ⟨G.RowI.nil _ _ _ _, fun o ho => by cases ho⟩, rfl, Nat.le_refl _⟩
  case round =>
    obtain ⟨i, ro, rc, os, rfl, rfl, hi, HM⟩ := hrel
    by_cases hlt : i < os0.length
    · have hlt' : (i : Int) < (os0.length : Int) := by omega
      obtain ⟨z, hz⟩ : ∃ z, os0[i]? = some z := ⟨_, List.getElem?_eq_getElem hlt⟩
      obtain ⟨ab, off, hbo, hab, x0⟩ := K2.out.2.at hz
      have d0 := (HM.out.1.cell (p := ⟨ab, off + i, none⟩) hab).trans x0
      have htk : Hid (os0.take (i + 1) = os0.take i ++ [z]) := by show _ = _; rw [List.take_add_one, hz]; rfl
      have C := hide' (C67.out wr bm B0 f z (hfo.out z (List.mem_of_getElem? hz)) (K2.out.1.2.below HM.out.1))
      have Hbo := hide' hbo
      rw [hbo]
      clear hbo hz hab x0
      go_wp2_with fail
      refine C.out.mono ?_
      rintro e w3 ⟨nb, ms, rfl, _, hN, hmem, b3⟩
      have M3 : Hid ((Below w2.heap.size w2 w3 ∧ Obs w2.heap.size ro rc qs os w3) ∧ Nset nb ms w3 ∧ ∀ y, y ∈ ms ↔ y ∈ N.clo qs z) := ⟨⟨HM.out.1.trans (b3.mono HM.out.1.size), HM.out.2.1.below b3⟩, hN, hmem⟩
      have HD := hide' HM.out.2.2
      have hsl : Hid ((os.map Ob.cells).length < 1073741824) := by rw [List.length_map]; have := HD.out.2; show _ < _; omega
      clear HM C hN hmem b3 d0
      go_wp2_with (at_builtin; refine G.wpList_app1 w3 rfl _ _ 92 97 3 32 _ rfl Try.underlying92 info66 rfl (by decide) (by decide) w2.heap.size ro rc (os.map Ob.cells) (Ob.cells ⟨z, nb, ms⟩) rfl (by simp [Ob.cells, Value.oneCell']) _ 1 (by rw [List.length_map]; rfl) M3.out.1.2.1 rfl hsl.out M3.out.1.1.size ?_; intro g cg w5 hg5 ht5 ho5 hl5; rw [List.length_map]; have M5 := hide' (And.intro hg5 ht5); clear hg5 ht5 ho5 hl5)
      exact ⟨⟨i + 1, some ⟨g, 0, none⟩, cg, os ++ [⟨z, nb, ms⟩], by go_num, by rw [List.length_append]; rfl, by omega, M3.out.1.1.trans (below_own M5.out.2 (fun j r => (M3.out.1.2.1.lt j r).1) M3.out.1.1.size), M3.out.1.2.snoc (o := ⟨z, nb, ms⟩) M3.out.2 M5.out.1 M5.out.2, by rw [htk.out, List.map_append, HD.out.1]; rfl, by rw [List.length_append]; exact Nat.succ_le_succ HD.out.2⟩, by simp [intOf]; omega⟩
    · have hk : i = os0.length := by omega
      subst hk
      have hlt' : ¬ (os0.length : Int) < (os0.length : Int) := by omega
      have KK : Hid (AljIs F w (.returned (.slice ro os.length rc)) wr) := by
        have q := HM.out
        rw [List.take_length] at q
        have hlo : w.heap.size ≤ w2.heap.size := K2.out.1.1.size
        exact ⟨ro, rc, os, rfl, by rw [Hqd.out]; exact q.2.1.mono hlo, q.2.2.1.trans Hos.out, K2.out.1.1.trans (q.1.mono hlo)⟩
      clear HM
      go_wp2_with fail
      go_ret
      exact KK.out
end U
end Go.Proofs.Ytollaamlnddhcaa
set_option linter.unusedVariables false
set_option linter.unusedSimpArgs false
namespace Go.Proofs.Ytollaamlnddhcaa
open Go.RowKit Go.Maps
namespace U
/-- two calls, the second of what the first told -/
structure Cy (w : World) (pv av : Value) (J1 : Value → World → Prop) (J2 : Value → Value → World → Prop) : Prop where
  s1 : ∀ v V V' T, J1 v V → Turn T V V' → Soft T V → J1 v V'
  s2 : ∀ u v V V' T, J2 u v V → Turn T V V' → Soft T V → J2 u v V'
  c1 : ∀ V, Below w.heap.size w V → Calls Try.prog 43 #[av] V fun e w' => ∃ v, e = .returned v ∧ J1 v w' ∧ Below V.heap.size V w'
  c2 : ∀ u V, Below w.heap.size w V → J1 u V → Calls Try.prog 42 #[pv, u] V fun e w' => ∃ v, e = .returned v ∧ J2 u v w' ∧ Below V.heap.size V w'
  f2 : ∀ u v V, J2 u v V → ∃ ao n ac p uo ul uc x, v = .agg #[.slice ao n ac, .map p, .slice uo ul uc, .map x]
def ops28 : Array Oper := #[{ dst := some 15, op := Op.load 28 (Operand.tmp 1), type := 28, pos := "mean.go:49", after := #[], guard := none }, { dst := some 16, op := Op.fieldAddr 28 (Operand.tmp 1) 0, type := 0, pos := "mean.go:49", after := #[], guard := none }, { dst := some 17, op := Op.load 22 (Operand.tmp 16), type := 22, pos := "mean.go:49", after := #[{ on := 1, ground := Ground.data }], guard := none }, { dst := some 18, op := Op.call { callee := Callee.value (Operand.func 43), args := #[Operand.tmp 17], argTypes := #[22] }, type := 22, pos := "mean.go:49", after := #[{ on := 2, ground := Ground.data }], guard := none }, { dst := some 19, op := Op.call { callee := Callee.value (Operand.func 42), args := #[Operand.tmp 15, Operand.tmp 18], argTypes := #[28, 22] }, type := 87, pos := "mean.go:49", after := #[{ on := 0, ground := Ground.data }, { on := 3, ground := Ground.data }, { on := 3, ground := Ground.chain }], guard := none }, { dst := some 3, op := Op.alloc 87, type := 0, pos := "mean.go:49", after := #[], guard := none }, { dst := none, op := Op.store 87 (Operand.tmp 3) (Operand.tmp 19), type := 0, pos := "mean.go:49", after := #[{ on := 5, ground := Ground.data }, { on := 4, ground := Ground.data }, { on := 4, ground := Ground.chain }, { on := 0, ground := Ground.phase }, { on := 1, ground := Ground.phase }, { on := 2, ground := Ground.phase }, { on := 3, ground := Ground.phase }, { on := 4, ground := Ground.phase }, { on := 5, ground := Ground.phase }], guard := none }]
set_option maxRecDepth 100000 in
set_option maxHeartbeats 4000000 in
theorem M2_a {w : World} {q1 : Nat} {pol : Array Value} {av : Value} {J1 : Value → World → Prop} {J2 : Value → Value → World → Prop} {Q : Exit → Act → World → Prop} (X : Cy w (.agg pol) av J1 J2) (HQ : ∀ v18 xo xn xc xp uo ul uc xx b3 V, J2 v18 (.agg #[.slice xo xn xc, .map xp, .slice uo ul uc, .map xx]) V → V.heap[b3]? = some (.cells #[.slice xo xn xc, .map xp, .slice uo ul uc, .map xx] 87 (0, 0)) → Below w.heap.size w V → V.heap[q1]? = some (.cells pol 28 (0, 0)) → Q .normal { tmps := #[.agg pol, .pointer (some ⟨q1, 0, none⟩), .slice none 0 0, .pointer (some ⟨b3, 0, none⟩), undef, undef, undef, undef, undef, undef, undef, undef, undef, undef, undef, .agg pol, .pointer (some ⟨q1, 0, none⟩), av, v18, .agg #[.slice xo xn xc, .map xp, .slice uo ul uc, .map xx], undef, undef, undef, undef, undef, undef, undef, undef, undef, undef, undef, undef, undef, undef, undef, undef, undef, undef, undef, undef, undef, undef, undef, undef, undef, undef, undef, undef, undef, undef, undef, undef, undef, undef, undef, undef, undef, undef, undef, undef, undef, undef, undef, undef, undef, undef, undef, undef, undef], defers := [] } V) (v18 v19 : Value) (b3 : Nat) (V : World) (hB : Below w.heap.size w V) (hS : V.heap[q1]? = some (.cells pol 28 (0, 0)) ∧ V.cell? ⟨q1, 0, none⟩ = some av) (j2 : J2 v18 v19 V) (z3 : V.heap[b3]? = some (.cells #[.slice none 0 0, .map none, .slice none 0 0, .map none] 87 (0, 0))) (l3 : w.heap.size ≤ b3) : wpAnyH Try.prog .any ops28 Q (fun V => V.heap[q1]? = some (.cells pol 28 (0, 0)) ∧ V.cell? ⟨q1, 0, none⟩ = some av) 1 #[true, true, true, true, true, true, false] { tmps := #[.agg pol, .pointer (some ⟨q1, 0, none⟩), .slice none 0 0, .pointer (some ⟨b3, 0, none⟩), undef, undef, undef, undef, undef, undef, undef, undef, undef, undef, undef, .agg pol, .pointer (some ⟨q1, 0, none⟩), av, v18, v19, undef, undef, undef, undef, undef, undef, undef, undef, undef, undef, undef, undef, undef, undef, undef, undef, undef, undef, undef, undef, undef, undef, undef, undef, undef, undef, undef, undef, undef, undef, undef, undef, undef, undef, undef, undef, undef, undef, undef, undef, undef, undef, undef, undef, undef, undef, undef, undef, undef], defers := [] } V := by
  obtain ⟨xo, xn, xc, xp, uo, ul, uc, xx, rfl⟩ := X.f2 _ _ _ j2
  have n13 : q1 ≠ b3 := cells_ne hS.1 z3 (by decide)
  have D : Hid ((Below w.heap.size w V ∧ (V.heap[q1]? = some (.cells pol 28 (0, 0)) ∧ V.cell? ⟨q1, 0, none⟩ = some av) ∧ J2 v18 (.agg #[.slice xo xn xc, .map xp, .slice uo ul uc, .map xx]) V) ∧ V.heap[b3]? = some (.cells #[.slice none 0 0, .map none, .slice none 0 0, .map none] 87 (0, 0))) := ⟨⟨hB, hS, j2⟩, z3⟩
  clear hB hS j2 z3
  have SS1 := hide' (sto4 D.out.2)
  obtain ⟨a0, c0⟩ := SS1.out.c0
  have g0 := SS1.out.f0
  obtain ⟨a1, c1⟩ := SS1.out.c1 (.slice xo xn xc)
  have g1 := SS1.out.f1 (.slice xo xn xc)
  obtain ⟨a2, c2⟩ := SS1.out.c2 (.slice xo xn xc) (.map xp)
  have g2 := SS1.out.f2 (.slice xo xn xc) (.map xp)
  obtain ⟨a3, c3⟩ := SS1.out.c3 (.slice xo xn xc) (.map xp) (.slice uo ul uc)
  have g3 := SS1.out.f3 (.slice xo xn xc) (.map xp) (.slice uo ul uc)
  have tH := hide' (SS1.out.fin (.slice xo xn xc) (.map xp) (.slice uo ul uc) (.map xx))
  have tT := hide' (SS1.out.tt (.slice xo xn xc) (.map xp) (.slice uo ul uc) (.map xx))
  clear SS1
  refine wpAnyH_ready (rs := [6]) (by kernel_rfl) (by simp) ?_
  refine AllReadyH.cons (o := { dst := none, op := Op.store 87 (Operand.tmp 3) (Operand.tmp 19), type := 0, pos := "mean.go:49", after := #[{ on := 5, ground := Ground.data }, { on := 4, ground := Ground.data }, { on := 4, ground := Ground.chain }, { on := 0, ground := Ground.phase }, { on := 1, ground := Ground.phase }, { on := 2, ground := Ground.phase }, { on := 3, ground := Ground.phase }, { on := 4, ground := Ground.phase }, { on := 5, ground := Ground.phase }], guard := none }) rfl (fun K hK => ?_) AllReadyH.nil
  go_simp
  generalize ((((V.setCell ⟨b3, 0, none⟩ (.slice xo xn xc)).setCell ⟨b3, 1, none⟩ (.map xp)).setCell ⟨b3, 2, none⟩ (.slice uo ul uc)).setCell ⟨b3, 3, none⟩ (.map xx)) = V1 at *
  clear c0 c1 c2 c3 g0 g1 g2 g3
  have h1 : V1.heap[q1]? = some (.cells pol 28 (0, 0)) := (tT.out.block _ (lt_of_heap D.out.1.2.1.1) n13).trans D.out.1.2.1.1
  have h1c : V1.cell? ⟨q1, 0, none⟩ = some av := (tT.out.cell (p := ⟨q1, 0, none⟩) (lt_of_heap D.out.1.2.1.1) n13).trans D.out.1.2.1.2
  refine hK.out _ _ ⟨h1, h1c⟩ (fun hHeld => ?_)
  clear hK K hHeld
  (try simp only [Act.put, List.setIfInBounds_toArray, List.set_cons_zero, List.set_cons_succ])
  refine wpAnyH_done (by kernel_rfl) ?_ _
  exact HQ _ _ _ _ _ _ _ _ _ _ _ (X.s2 _ _ _ _ _ D.out.1.2.2 tT.out (soft_at D.out.2 (.inr rfl))) tH.out (D.out.1.1.trans (below_own tT.out (fun j e => by rw [e]; exact l3) D.out.1.1.size)) h1
set_option maxRecDepth 100000 in
set_option maxHeartbeats 4000000 in
theorem M2_0 {w : World} {q1 : Nat} {pol : Array Value} {av : Value} {J1 : Value → World → Prop} {J2 : Value → Value → World → Prop} {Q : Exit → Act → World → Prop} (X : Cy w (.agg pol) av J1 J2) (HQ : ∀ v18 xo xn xc xp uo ul uc xx b3 V, J2 v18 (.agg #[.slice xo xn xc, .map xp, .slice uo ul uc, .map xx]) V → V.heap[b3]? = some (.cells #[.slice xo xn xc, .map xp, .slice uo ul uc, .map xx] 87 (0, 0)) → Below w.heap.size w V → V.heap[q1]? = some (.cells pol 28 (0, 0)) → Q .normal { tmps := #[.agg pol, .pointer (some ⟨q1, 0, none⟩), .slice none 0 0, .pointer (some ⟨b3, 0, none⟩), undef, undef, undef, undef, undef, undef, undef, undef, undef, undef, undef, .agg pol, .pointer (some ⟨q1, 0, none⟩), av, v18, .agg #[.slice xo xn xc, .map xp, .slice uo ul uc, .map xx], undef, undef, undef, undef, undef, undef, undef, undef, undef, undef, undef, undef, undef, undef, undef, undef, undef, undef, undef, undef, undef, undef, undef, undef, undef, undef, undef, undef, undef, undef, undef, undef, undef, undef, undef, undef, undef, undef, undef, undef, undef, undef, undef, undef, undef, undef, undef, undef, undef], defers := [] } V) (v18 v19 : Value) (V : World) (hB : Below w.heap.size w V) (hS : V.heap[q1]? = some (.cells pol 28 (0, 0)) ∧ V.cell? ⟨q1, 0, none⟩ = some av) (j2 : J2 v18 v19 V) : wpAnyH Try.prog .any ops28 Q (fun V => V.heap[q1]? = some (.cells pol 28 (0, 0)) ∧ V.cell? ⟨q1, 0, none⟩ = some av) 2 #[true, true, true, true, true, false, false] { tmps := #[.agg pol, .pointer (some ⟨q1, 0, none⟩), .slice none 0 0, undef, undef, undef, undef, undef, undef, undef, undef, undef, undef, undef, undef, .agg pol, .pointer (some ⟨q1, 0, none⟩), av, v18, v19, undef, undef, undef, undef, undef, undef, undef, undef, undef, undef, undef, undef, undef, undef, undef, undef, undef, undef, undef, undef, undef, undef, undef, undef, undef, undef, undef, undef, undef, undef, undef, undef, undef, undef, undef, undef, undef, undef, undef, undef, undef, undef, undef, undef, undef, undef, undef, undef, undef], defers := [] } V := by
  refine wpAnyH_ready (rs := [5]) (by kernel_rfl) (by simp) ?_
  refine AllReadyH.cons (o := { dst := some 3, op := Op.alloc 87, type := 0, pos := "mean.go:49", after := #[], guard := none }) rfl (fun K hK => ?_) AllReadyH.nil
  go_simp
  have bn : Below V.heap.size V (V.alloc (.cells #[.slice none 0 0, .map none, .slice none 0 0, .map none] 87)) := (Below.refl _ _).alloc (Nat.le_refl _) _
  have hS1 := (bn.block _ (lt_of_heap hS.1)).trans hS.1
  have hS2 := (bn.cell (p := ⟨q1, 0, none⟩) (lt_of_heap hS.1)).trans hS.2
  refine hK.out _ _ ⟨hS1, hS2⟩ (fun hHeld => ?_)
  clear hK K hHeld
  (try simp only [Act.put, List.setIfInBounds_toArray, List.set_cons_zero, List.set_cons_succ])
  exact M2_a X HQ v18 v19 V.heap.size (V.alloc (.cells #[.slice none 0 0, .map none, .slice none 0 0, .map none] 87)) (hB.trans (bn.mono hB.size)) ⟨hS1, hS2⟩ (X.s2 _ _ _ _ _ j2 (turn_below (S := fun _ => False) bn) (soft_no _)) (heap_alloc_new V _) hB.size
set_option maxRecDepth 100000 in
set_option maxHeartbeats 4000000 in
theorem M1_a {w : World} {q1 : Nat} {pol : Array Value} {av : Value} {J1 : Value → World → Prop} {J2 : Value → Value → World → Prop} {Q : Exit → Act → World → Prop} (X : Cy w (.agg pol) av J1 J2) (HQ : ∀ v18 xo xn xc xp uo ul uc xx b3 V, J2 v18 (.agg #[.slice xo xn xc, .map xp, .slice uo ul uc, .map xx]) V → V.heap[b3]? = some (.cells #[.slice xo xn xc, .map xp, .slice uo ul uc, .map xx] 87 (0, 0)) → Below w.heap.size w V → V.heap[q1]? = some (.cells pol 28 (0, 0)) → Q .normal { tmps := #[.agg pol, .pointer (some ⟨q1, 0, none⟩), .slice none 0 0, .pointer (some ⟨b3, 0, none⟩), undef, undef, undef, undef, undef, undef, undef, undef, undef, undef, undef, .agg pol, .pointer (some ⟨q1, 0, none⟩), av, v18, .agg #[.slice xo xn xc, .map xp, .slice uo ul uc, .map xx], undef, undef, undef, undef, undef, undef, undef, undef, undef, undef, undef, undef, undef, undef, undef, undef, undef, undef, undef, undef, undef, undef, undef, undef, undef, undef, undef, undef, undef, undef, undef, undef, undef, undef, undef, undef, undef, undef, undef, undef, undef, undef, undef, undef, undef, undef, undef, undef, undef], defers := [] } V) (v18 : Value) (b3 : Nat) (V : World) (hB : Below w.heap.size w V) (hS : V.heap[q1]? = some (.cells pol 28 (0, 0)) ∧ V.cell? ⟨q1, 0, none⟩ = some av) (j1 : J1 v18 V) (z3 : V.heap[b3]? = some (.cells #[.slice none 0 0, .map none, .slice none 0 0, .map none] 87 (0, 0))) (l3 : w.heap.size ≤ b3) : wpAnyH Try.prog .any ops28 Q (fun V => V.heap[q1]? = some (.cells pol 28 (0, 0)) ∧ V.cell? ⟨q1, 0, none⟩ = some av) 2 #[true, true, true, true, false, true, false] { tmps := #[.agg pol, .pointer (some ⟨q1, 0, none⟩), .slice none 0 0, .pointer (some ⟨b3, 0, none⟩), undef, undef, undef, undef, undef, undef, undef, undef, undef, undef, undef, .agg pol, .pointer (some ⟨q1, 0, none⟩), av, v18, undef, undef, undef, undef, undef, undef, undef, undef, undef, undef, undef, undef, undef, undef, undef, undef, undef, undef, undef, undef, undef, undef, undef, undef, undef, undef, undef, undef, undef, undef, undef, undef, undef, undef, undef, undef, undef, undef, undef, undef, undef, undef, undef, undef, undef, undef, undef, undef, undef, undef], defers := [] } V := by
  refine wpAnyH_ready (rs := [4]) (by kernel_rfl) (by simp) ?_
  refine AllReadyH.cons (o := { dst := some 19, op := Op.call { callee := Callee.value (Operand.func 42), args := #[Operand.tmp 15, Operand.tmp 18], argTypes := #[28, 22] }, type := 87, pos := "mean.go:49", after := #[{ on := 0, ground := Ground.data }, { on := 3, ground := Ground.data }, { on := 3, ground := Ground.chain }], guard := none }) rfl (fun K hK => ?_) AllReadyH.nil
  go_simp
  refine (X.c2 v18 V hB j1).mono ?_
  rintro e x1 ⟨v19, rfl, jn, bn⟩
  (try dsimp only)
  have hS1 := (bn.block _ (lt_of_heap hS.1)).trans hS.1
  have hS2 := (bn.cell (p := ⟨q1, 0, none⟩) (lt_of_heap hS.1)).trans hS.2
  refine hK.out _ _ ⟨hS1, hS2⟩ (fun hHeld => ?_)
  clear hK K hHeld
  (try simp only [Act.put, List.setIfInBounds_toArray, List.set_cons_zero, List.set_cons_succ])
  exact M2_a X HQ v18 v19 b3 x1 (hB.trans (bn.mono hB.size)) ⟨hS1, hS2⟩ jn ((bn.block _ (lt_of_heap z3)).trans z3) l3
set_option maxRecDepth 100000 in
set_option maxHeartbeats 4000000 in
theorem M1_0 {w : World} {q1 : Nat} {pol : Array Value} {av : Value} {J1 : Value → World → Prop} {J2 : Value → Value → World → Prop} {Q : Exit → Act → World → Prop} (X : Cy w (.agg pol) av J1 J2) (HQ : ∀ v18 xo xn xc xp uo ul uc xx b3 V, J2 v18 (.agg #[.slice xo xn xc, .map xp, .slice uo ul uc, .map xx]) V → V.heap[b3]? = some (.cells #[.slice xo xn xc, .map xp, .slice uo ul uc, .map xx] 87 (0, 0)) → Below w.heap.size w V → V.heap[q1]? = some (.cells pol 28 (0, 0)) → Q .normal { tmps := #[.agg pol, .pointer (some ⟨q1, 0, none⟩), .slice none 0 0, .pointer (some ⟨b3, 0, none⟩), undef, undef, undef, undef, undef, undef, undef, undef, undef, undef, undef, .agg pol, .pointer (some ⟨q1, 0, none⟩), av, v18, .agg #[.slice xo xn xc, .map xp, .slice uo ul uc, .map xx], undef, undef, undef, undef, undef, undef, undef, undef, undef, undef, undef, undef, undef, undef, undef, undef, undef, undef, undef, undef, undef, undef, undef, undef, undef, undef, undef, undef, undef, undef, undef, undef, undef, undef, undef, undef, undef, undef, undef, undef, undef, undef, undef, undef, undef, undef, undef, undef, undef], defers := [] } V) (v18 : Value) (V : World) (hB : Below w.heap.size w V) (hS : V.heap[q1]? = some (.cells pol 28 (0, 0)) ∧ V.cell? ⟨q1, 0, none⟩ = some av) (j1 : J1 v18 V) : wpAnyH Try.prog .any ops28 Q (fun V => V.heap[q1]? = some (.cells pol 28 (0, 0)) ∧ V.cell? ⟨q1, 0, none⟩ = some av) 3 #[true, true, true, true, false, false, false] { tmps := #[.agg pol, .pointer (some ⟨q1, 0, none⟩), .slice none 0 0, undef, undef, undef, undef, undef, undef, undef, undef, undef, undef, undef, undef, .agg pol, .pointer (some ⟨q1, 0, none⟩), av, v18, undef, undef, undef, undef, undef, undef, undef, undef, undef, undef, undef, undef, undef, undef, undef, undef, undef, undef, undef, undef, undef, undef, undef, undef, undef, undef, undef, undef, undef, undef, undef, undef, undef, undef, undef, undef, undef, undef, undef, undef, undef, undef, undef, undef, undef, undef, undef, undef, undef, undef], defers := [] } V := by
  refine wpAnyH_ready (rs := [4, 5]) (by kernel_rfl) (by simp) ?_
  refine AllReadyH.cons (o := { dst := some 19, op := Op.call { callee := Callee.value (Operand.func 42), args := #[Operand.tmp 15, Operand.tmp 18], argTypes := #[28, 22] }, type := 87, pos := "mean.go:49", after := #[{ on := 0, ground := Ground.data }, { on := 3, ground := Ground.data }, { on := 3, ground := Ground.chain }], guard := none }) rfl (fun K hK => ?_) ?_
  · go_simp
    refine (X.c2 v18 V hB j1).mono ?_
    rintro e x1 ⟨v19, rfl, jn, bn⟩
    (try dsimp only)
    have hS1 := (bn.block _ (lt_of_heap hS.1)).trans hS.1
    have hS2 := (bn.cell (p := ⟨q1, 0, none⟩) (lt_of_heap hS.1)).trans hS.2
    refine hK.out _ _ ⟨hS1, hS2⟩ (fun hHeld => ?_)
    clear hK K hHeld
    (try simp only [Act.put, List.setIfInBounds_toArray, List.set_cons_zero, List.set_cons_succ])
    exact M2_0 X HQ v18 v19 x1 (hB.trans (bn.mono hB.size)) ⟨hS1, hS2⟩ jn
  refine AllReadyH.cons (o := { dst := some 3, op := Op.alloc 87, type := 0, pos := "mean.go:49", after := #[], guard := none }) rfl (fun K hK => ?_) AllReadyH.nil
  go_simp
  have bn : Below V.heap.size V (V.alloc (.cells #[.slice none 0 0, .map none, .slice none 0 0, .map none] 87)) := (Below.refl _ _).alloc (Nat.le_refl _) _
  have hS1 := (bn.block _ (lt_of_heap hS.1)).trans hS.1
  have hS2 := (bn.cell (p := ⟨q1, 0, none⟩) (lt_of_heap hS.1)).trans hS.2
  refine hK.out _ _ ⟨hS1, hS2⟩ (fun hHeld => ?_)
  clear hK K hHeld
  (try simp only [Act.put, List.setIfInBounds_toArray, List.set_cons_zero, List.set_cons_succ])
  exact M1_a X HQ v18 V.heap.size (V.alloc (.cells #[.slice none 0 0, .map none, .slice none 0 0, .map none] 87)) (hB.trans (bn.mono hB.size)) ⟨hS1, hS2⟩ (X.s1 _ _ _ _ j1 (turn_below (S := fun _ => False) bn) (soft_no _)) (heap_alloc_new V _) hB.size
set_option maxRecDepth 100000 in
set_option maxHeartbeats 4000000 in
theorem M0_a {w : World} {q1 : Nat} {pol : Array Value} {av : Value} {J1 : Value → World → Prop} {J2 : Value → Value → World → Prop} {Q : Exit → Act → World → Prop} (X : Cy w (.agg pol) av J1 J2) (HQ : ∀ v18 xo xn xc xp uo ul uc xx b3 V, J2 v18 (.agg #[.slice xo xn xc, .map xp, .slice uo ul uc, .map xx]) V → V.heap[b3]? = some (.cells #[.slice xo xn xc, .map xp, .slice uo ul uc, .map xx] 87 (0, 0)) → Below w.heap.size w V → V.heap[q1]? = some (.cells pol 28 (0, 0)) → Q .normal { tmps := #[.agg pol, .pointer (some ⟨q1, 0, none⟩), .slice none 0 0, .pointer (some ⟨b3, 0, none⟩), undef, undef, undef, undef, undef, undef, undef, undef, undef, undef, undef, .agg pol, .pointer (some ⟨q1, 0, none⟩), av, v18, .agg #[.slice xo xn xc, .map xp, .slice uo ul uc, .map xx], undef, undef, undef, undef, undef, undef, undef, undef, undef, undef, undef, undef, undef, undef, undef, undef, undef, undef, undef, undef, undef, undef, undef, undef, undef, undef, undef, undef, undef, undef, undef, undef, undef, undef, undef, undef, undef, undef, undef, undef, undef, undef, undef, undef, undef, undef, undef, undef, undef], defers := [] } V) (b3 : Nat) (V : World) (hB : Below w.heap.size w V) (hS : V.heap[q1]? = some (.cells pol 28 (0, 0)) ∧ V.cell? ⟨q1, 0, none⟩ = some av) (z3 : V.heap[b3]? = some (.cells #[.slice none 0 0, .map none, .slice none 0 0, .map none] 87 (0, 0))) (l3 : w.heap.size ≤ b3) : wpAnyH Try.prog .any ops28 Q (fun V => V.heap[q1]? = some (.cells pol 28 (0, 0)) ∧ V.cell? ⟨q1, 0, none⟩ = some av) 3 #[true, true, true, false, false, true, false] { tmps := #[.agg pol, .pointer (some ⟨q1, 0, none⟩), .slice none 0 0, .pointer (some ⟨b3, 0, none⟩), undef, undef, undef, undef, undef, undef, undef, undef, undef, undef, undef, .agg pol, .pointer (some ⟨q1, 0, none⟩), av, undef, undef, undef, undef, undef, undef, undef, undef, undef, undef, undef, undef, undef, undef, undef, undef, undef, undef, undef, undef, undef, undef, undef, undef, undef, undef, undef, undef, undef, undef, undef, undef, undef, undef, undef, undef, undef, undef, undef, undef, undef, undef, undef, undef, undef, undef, undef, undef, undef, undef, undef], defers := [] } V := by
  refine wpAnyH_ready (rs := [3]) (by kernel_rfl) (by simp) ?_
  refine AllReadyH.cons (o := { dst := some 18, op := Op.call { callee := Callee.value (Operand.func 43), args := #[Operand.tmp 17], argTypes := #[22] }, type := 22, pos := "mean.go:49", after := #[{ on := 2, ground := Ground.data }], guard := none }) rfl (fun K hK => ?_) AllReadyH.nil
  go_simp
  refine (X.c1 V hB).mono ?_
  rintro e x1 ⟨v18, rfl, jn, bn⟩
  (try dsimp only)
  have hS1 := (bn.block _ (lt_of_heap hS.1)).trans hS.1
  have hS2 := (bn.cell (p := ⟨q1, 0, none⟩) (lt_of_heap hS.1)).trans hS.2
  refine hK.out _ _ ⟨hS1, hS2⟩ (fun hHeld => ?_)
  clear hK K hHeld
  (try simp only [Act.put, List.setIfInBounds_toArray, List.set_cons_zero, List.set_cons_succ])
  exact M1_a X HQ v18 b3 x1 (hB.trans (bn.mono hB.size)) ⟨hS1, hS2⟩ jn ((bn.block _ (lt_of_heap z3)).trans z3) l3
set_option maxRecDepth 100000 in
set_option maxHeartbeats 4000000 in
theorem M0_0 {w : World} {q1 : Nat} {pol : Array Value} {av : Value} {J1 : Value → World → Prop} {J2 : Value → Value → World → Prop} {Q : Exit → Act → World → Prop} (X : Cy w (.agg pol) av J1 J2) (HQ : ∀ v18 xo xn xc xp uo ul uc xx b3 V, J2 v18 (.agg #[.slice xo xn xc, .map xp, .slice uo ul uc, .map xx]) V → V.heap[b3]? = some (.cells #[.slice xo xn xc, .map xp, .slice uo ul uc, .map xx] 87 (0, 0)) → Below w.heap.size w V → V.heap[q1]? = some (.cells pol 28 (0, 0)) → Q .normal { tmps := #[.agg pol, .pointer (some ⟨q1, 0, none⟩), .slice none 0 0, .pointer (some ⟨b3, 0, none⟩), undef, undef, undef, undef, undef, undef, undef, undef, undef, undef, undef, .agg pol, .pointer (some ⟨q1, 0, none⟩), av, v18, .agg #[.slice xo xn xc, .map xp, .slice uo ul uc, .map xx], undef, undef, undef, undef, undef, undef, undef, undef, undef, undef, undef, undef, undef, undef, undef, undef, undef, undef, undef, undef, undef, undef, undef, undef, undef, undef, undef, undef, undef, undef, undef, undef, undef, undef, undef, undef, undef, undef, undef, undef, undef, undef, undef, undef, undef, undef, undef, undef, undef], defers := [] } V) (V : World) (hB : Below w.heap.size w V) (hS : V.heap[q1]? = some (.cells pol 28 (0, 0)) ∧ V.cell? ⟨q1, 0, none⟩ = some av) : wpAnyH Try.prog .any ops28 Q (fun V => V.heap[q1]? = some (.cells pol 28 (0, 0)) ∧ V.cell? ⟨q1, 0, none⟩ = some av) 4 #[true, true, true, false, false, false, false] { tmps := #[.agg pol, .pointer (some ⟨q1, 0, none⟩), .slice none 0 0, undef, undef, undef, undef, undef, undef, undef, undef, undef, undef, undef, undef, .agg pol, .pointer (some ⟨q1, 0, none⟩), av, undef, undef, undef, undef, undef, undef, undef, undef, undef, undef, undef, undef, undef, undef, undef, undef, undef, undef, undef, undef, undef, undef, undef, undef, undef, undef, undef, undef, undef, undef, undef, undef, undef, undef, undef, undef, undef, undef, undef, undef, undef, undef, undef, undef, undef, undef, undef, undef, undef, undef, undef], defers := [] } V := by
  refine wpAnyH_ready (rs := [3, 5]) (by kernel_rfl) (by simp) ?_
  refine AllReadyH.cons (o := { dst := some 18, op := Op.call { callee := Callee.value (Operand.func 43), args := #[Operand.tmp 17], argTypes := #[22] }, type := 22, pos := "mean.go:49", after := #[{ on := 2, ground := Ground.data }], guard := none }) rfl (fun K hK => ?_) ?_
  · go_simp
    refine (X.c1 V hB).mono ?_
    rintro e x1 ⟨v18, rfl, jn, bn⟩
    (try dsimp only)
    have hS1 := (bn.block _ (lt_of_heap hS.1)).trans hS.1
    have hS2 := (bn.cell (p := ⟨q1, 0, none⟩) (lt_of_heap hS.1)).trans hS.2
    refine hK.out _ _ ⟨hS1, hS2⟩ (fun hHeld => ?_)
    clear hK K hHeld
    (try simp only [Act.put, List.setIfInBounds_toArray, List.set_cons_zero, List.set_cons_succ])
    exact M1_0 X HQ v18 x1 (hB.trans (bn.mono hB.size)) ⟨hS1, hS2⟩ jn
  refine AllReadyH.cons (o := { dst := some 3, op := Op.alloc 87, type := 0, pos := "mean.go:49", after := #[], guard := none }) rfl (fun K hK => ?_) AllReadyH.nil
  go_simp
  have bn : Below V.heap.size V (V.alloc (.cells #[.slice none 0 0, .map none, .slice none 0 0, .map none] 87)) := (Below.refl _ _).alloc (Nat.le_refl _) _
  have hS1 := (bn.block _ (lt_of_heap hS.1)).trans hS.1
  have hS2 := (bn.cell (p := ⟨q1, 0, none⟩) (lt_of_heap hS.1)).trans hS.2
  refine hK.out _ _ ⟨hS1, hS2⟩ (fun hHeld => ?_)
  clear hK K hHeld
  (try simp only [Act.put, List.setIfInBounds_toArray, List.set_cons_zero, List.set_cons_succ])
  exact M0_a X HQ V.heap.size (V.alloc (.cells #[.slice none 0 0, .map none, .slice none 0 0, .map none] 87)) (hB.trans (bn.mono hB.size)) ⟨hS1, hS2⟩ (heap_alloc_new V _) hB.size
end U
end Go.Proofs.Ytollaamlnddhcaa
set_option linter.unusedVariables false
set_option linter.unusedSimpArgs false
namespace Go.Proofs.Ytollaamlnddhcaa
open Go.RowKit Go.Maps
namespace U
theorem tru_snoc (l : List Sb) (s : Sb) (y : ByteArray) : tru (l ++ [s]) y = (match tru l y with | some t => some t | none => if s.1 = y then some s.2 else none) := by
  unfold tru
  rw [List.find?_append]
  cases h : l.find? (fun u => decide (u.1 = y)) with
  | some u => rfl
  | none =>
    by_cases e : s.1 = y
    · simp [e]
    · simp [e]
theorem fos_facts (ss : List Sb) (n : Nat) : (∀ s ∈ fos (ss.take n), tru (ss.take n) s.1 = some s.2) ∧ ∀ y, isIn ((fos (ss.take n)).map (·.1)) y = false → tru (ss.take n) y = none := by
  induction n with
  | zero => exact ⟨fun s h => by simp [fos] at h, fun y _ => by simp [tru]⟩
  | succ n ih =>
    cases hs : ss[n]? with
    | none =>
      have e : ss.take (n + 1) = ss.take n := by rw [List.take_add_one, hs]; simp
      rw [e]; exact ih
    | some s =>
      have e : ss.take (n + 1) = ss.take n ++ [s] := by rw [List.take_add_one, hs]; rfl
      rw [fos_take hs, e]
      by_cases q : isIn ((fos (ss.take n)).map (·.1)) s.1 = true
      · rw [if_pos q]
        refine ⟨fun x hx => by rw [tru_snoc, ih.1 x hx], fun y hy => ?_⟩
        rw [tru_snoc, ih.2 y hy]
        have ne : ¬ s.1 = y := fun e2 => by rw [e2] at q; rw [q] at hy; cases hy
        simp [ne]
      · rw [if_neg q]
        have q' : isIn ((fos (ss.take n)).map (·.1)) s.1 = false := by simpa using q
        refine ⟨fun x hx => ?_, fun y hy => ?_⟩
        · rcases List.mem_append.1 hx with r | r
          · rw [tru_snoc, ih.1 x r]
          · rw [List.mem_singleton] at r; subst r; rw [tru_snoc, ih.2 x.1 q']; simp
        · rw [List.map_append] at hy
          have h1 : isIn ((fos (ss.take n)).map (·.1)) y = false := isIn_no (fun m => by rw [isIn_yes (List.mem_append_left _ m)] at hy; cases hy)
          have ne : ¬ s.1 = y := fun e2 => by rw [isIn_yes (List.mem_append_right _ (by simp [e2]))] at hy; cases hy
          rw [tru_snoc, ih.2 y h1]
          simp [ne]
theorem tru_fos {ss : List Sb} {s : Sb} (h : s ∈ fos ss) : tru ss s.1 = some s.2 := by
  have := (fos_facts ss ss.length).1
  rw [List.take_length] at this
  exact this s h
theorem fos_mem {ss : List Sb} {s : Sb} (h : s ∈ fos ss) : s ∈ ss := by
  have hh : ∀ n, ∀ y ∈ fos (ss.take n), y ∈ ss := by
    intro n
    induction n with
    | zero => intro y h; simp [fos] at h
    | succ n ih =>
      intro y h
      cases q : ss[n]? with
      | none => rw [List.take_add_one, q] at h; exact ih y (by simpa using h)
      | some a =>
        rw [fos_take q] at h
        split at h
        · exact ih y h
        · rcases List.mem_append.1 h with r | r
          · exact ih y r
          · rw [List.mem_singleton] at r; rw [r]; exact List.mem_of_getElem? q
  exact hh ss.length s (by rw [List.take_length]; exact h)
/-- what a subject may do with an object, as triples -/
def relO (F : Pf) (al : List ByteArray) (s o : ByteArray) : List X.K3 := (plw F s o al).map (fun k => (s, o, al.getD k.toNat ⟨#[]⟩))
def relS (F : Pf) (al ol : List ByteArray) (s : Sb) : List X.K3 := ol.flatMap (relO F al s.1)
def relA (F : Pf) (al ol : List ByteArray) (sl : List Sb) : List X.K3 := sl.flatMap (relS F al ol)
/-- 8.5 -/
def rel (F : Pf) : List X.K3 := relA F (fo F.a.2.2) (fo F.o.2.2) (fos F.s.2.2)
theorem relO_len (F : Pf) (al : List ByteArray) (s o : ByteArray) : (relO F al s o).length ≤ al.length := by unfold relO; rw [List.length_map]; exact plw_len F s o al
theorem relS_len (F : Pf) (al ol : List ByteArray) (s : Sb) : (relS F al ol s).length ≤ ol.length * al.length := by
  induction ol with
  | nil => simp [relS]
  | cons o ol ih =>
    have e : relS F al (o :: ol) s = relO F al s.1 o ++ relS F al ol s := by simp [relS]
    have := relO_len F al s.1 o
    rw [e, List.length_append, List.length_cons, Nat.succ_mul]
    omega
theorem relA_len (F : Pf) (al ol : List ByteArray) (sl : List Sb) : (relA F al ol sl).length ≤ sl.length * (ol.length * al.length) := by
  induction sl with
  | nil => simp [relA]
  | cons s sl ih =>
    have e : relA F al ol (s :: sl) = relS F al ol s ++ relA F al ol sl := by simp [relA]
    have := relS_len F al ol s
    rw [e, List.length_append, List.length_cons, Nat.succ_mul]
    omega
theorem relA_take {F : Pf} {al ol : List ByteArray} {sl : List Sb} {i : Nat} {s : Sb} (h : sl[i]? = some s) : relA F al ol (sl.take (i + 1)) = relA F al ol (sl.take i) ++ relS F al ol s := by unfold relA; rw [List.take_add_one, h]; simp
theorem relS_take {F : Pf} {al ol : List ByteArray} {s : Sb} {j : Nat} {o : ByteArray} (h : ol[j]? = some o) : relS F al (ol.take (j + 1)) s = relS F al (ol.take j) s ++ relO F al s.1 o := by unfold relS; rw [List.take_add_one, h]; simp
/-- the list that is being made is never longer than all triples -/
theorem rel_bnd {F : Pf} {al ol : List ByteArray} {sl : List Sb} {s : Sb} {i j k M : Nat} {o : ByteArray} (hi : i < sl.length) (hj : j < ol.length) (hk : k < (relO F al s.1 o).length) (hM : sl.length * (ol.length * al.length) ≤ M) : (relA F al ol (sl.take i) ++ (relS F al (ol.take j) s ++ (relO F al s.1 o).take k)).length < M := by
  have h1 := relA_len F al ol (sl.take i)
  have h2 := relS_len F al (ol.take j) s
  have h3 := relO_len F al s.1 o
  rw [List.length_take] at h1 h2
  rw [List.length_append, List.length_append, List.length_take]
  have e1 : min i sl.length = i := by omega
  have e2 : min j ol.length = j := by omega
  rw [e1] at h1
  rw [e2] at h2
  have a1 : (j + 1) * al.length ≤ ol.length * al.length := Nat.mul_le_mul_right _ hj
  have a2 : (i + 1) * (ol.length * al.length) ≤ sl.length * (ol.length * al.length) := Nat.mul_le_mul_right _ hi
  rw [Nat.succ_mul] at a1 a2
  omega
/-- only rows of triples are turned -/
def Tr36 (T : Nat → Prop) (V : World) : Prop := ∀ j, T j → ∃ c, V.heap[j]? = some (.cells c 42 (0, 0))
def St36 (K : World → Prop) : Prop := ∀ V V' T, K V → Turn T V V' → Tr36 T V → K V'
theorem St36.below {K : World → Prop} (h : St36 K) {V V' : World} (k : K V) (b : Below V.heap.size V V') : K V' := h V V' (fun _ => False) k (turn_below b) (fun _ q => q.elim)
theorem St36.and {K L : World → Prop} (h : St36 K) (l : St36 L) : St36 (fun V => K V ∧ L V) := fun V V' T q t s => ⟨h V V' T q.1 t s, l V V' T q.2 t s⟩
theorem st_block {b t : Nat} {c : Array Value} (ht : t ≠ 42) : St36 (fun V => V.heap[b]? = some (.cells c t (0, 0))) := fun V V' T q tt s => (tt.block _ (lt_of_heap q) (fun r => by obtain ⟨c', k⟩ := s b r; exact cells_ne q k ht rfl)).trans q
theorem st_nset {nb : Nat} {ms : List ByteArray} : St36 (Nset nb ms) := fun V V' T q t s => q.turn t (fun r => by obtain ⟨c', k⟩ := s nb r; exact q.ne k rfl)
theorem st_tset {xb : Nat} {ms : List X.K3} : St36 (X.Tset xb ms) := fun V V' T q t s => q.turn t (fun r => by obtain ⟨c', k⟩ := s xb r; obtain ⟨n, D, _, hm, _⟩ := q; exact map_ne k hm rfl)
theorem st_irow {B : Nat} {bo : Option Addr} {bc : Nat} {zs : List Int} : St36 (I.RowI B bo bc zs) := fun V V' T q t s => q.turn t (fun j r1 r2 => by obtain ⟨c1, k1⟩ := Pl.kindI q r1; obtain ⟨c2, k2⟩ := s j r2; exact cells_ne k1 k2 (by decide) rfl)
theorem st_srow {B : Nat} {bo : Option Addr} {bc : Nat} {zs : List ByteArray} : St36 (S.RowI B bo bc zs) := fun V V' T q t s => q.turn t (fun j r1 r2 => by obtain ⟨c1, k1⟩ := kindS q r1; obtain ⟨c2, k2⟩ := s j r2; exact cells_ne k1 k2 (by decide) rfl)
theorem st_trow {B : Nat} {bo : Option Addr} {bc : Nat} {zs : List Sb} : St36 (T.RowI B bo bc zs) := fun V V' T q t s => q.turn t (fun j r1 r2 => by obtain ⟨c1, k1⟩ := kindT q r1; obtain ⟨c2, k2⟩ := s j r2; exact cells_ne k1 k2 (by decide) rfl)
theorem st_grow {e m B : Nat} {bo : Option Addr} {bc : Nat} {zs : List (List Value)} (he : e ≠ 42) : St36 (G.RowI e m B bo bc zs) := fun V V' T q t s => q.turn t (fun j r1 r2 => by obtain ⟨c1, k1⟩ := kindG q r1; obtain ⟨c2, k2⟩ := s j r2; exact cells_ne k1 k2 he rfl)
theorem st_obs {B : Nat} {ro : Option Addr} {rc : Nat} {qs : List K2} {os : List Ob} : St36 (Obs B ro rc qs os) := fun V V' T q t s => ⟨st_grow (by decide) V V' T q.1 t s, fun o ho => ⟨st_nset V V' T (q.2 o ho).1 t s, (q.2 o ho).2⟩⟩
theorem st_rls {B : Nat} {ro : Option Addr} {rc : Nat} {rs : List Rl} : St36 (Rls B ro rc rs) := fun V V' T q t s => ⟨st_grow (by decide) V V' T q.1 t s, fun r hr => st_irow V V' T (q.2 r hr) t s⟩
theorem st_plm {bm B : Nat} {al : List ByteArray} {f : ByteArray → Option V3} : St36 (Pl.Lm bm B al f) := fun V V' T q t s => q.turn t (fun r => by obtain ⟨c', k⟩ := s bm r; obtain ⟨D, hm, _⟩ := q.map; exact map_ne k hm rfl) (fun j r1 r2 => by
  obtain ⟨k', ⟨g, l, cc⟩, e1, e2⟩ := r1
  obtain ⟨cur, kk⟩ := Pl.kindI (q.each k' g l cc e1).2 ⟨_, rfl, rfl⟩
  obtain ⟨c2, k2⟩ := s j r2
  have e3 : j = g := e2
  rw [e3] at k2
  exact cells_ne kk k2 (by decide) rfl)
theorem st_lm {bm B : Nat} {qs : List K2} {f : ByteArray → Option V3} : St36 (Lm bm B qs f) := fun V V' T q t s => q.turn t (fun r => by obtain ⟨c', k⟩ := s bm r; obtain ⟨D, hm, _⟩ := q.map; exact map_ne k hm rfl) (fun j r1 r2 => by
  obtain ⟨k', ⟨g, l, cc⟩, e1, e2⟩ := r1
  obtain ⟨cur, kk⟩ := kindS (q.each k' g l cc e1).2 ⟨_, rfl, rfl⟩
  obtain ⟨c2, k2⟩ := s j r2
  have e3 : j = g := e2
  rw [e3] at k2
  exact cells_ne kk k2 (by decide) rfl)
theorem kindX {B : Nat} {no : Option Addr} {ncap : Nat} {zs : List X.K3} {w : World} (h : X.RowI B no ncap zs w) : Tr36 (X.At no) w := by
  rintro j ⟨a, e, rfl⟩
  rcases h.2 with ⟨hv, _⟩ | ⟨g, c, cur, hv, _, hg, _⟩
  · rw [e] at hv; cases hv
  · simp only [Value.slice.injEq] at hv; rw [hv.1] at e; cases e; exact ⟨cur, hg⟩
end U
end Go.Proofs.Ytollaamlnddhcaa
set_option linter.unusedVariables false
set_option linter.unusedSimpArgs false
namespace Go.Proofs.Ytollaamlnddhcaa
open Go.RowKit Go.Maps
namespace U
/-- the actions, each once, wherever they lie -/
def AJ (ys : List ByteArray) (v : Value) (V : World) : Prop := ∃ bo bc B, v = .slice bo (fo ys).length bc ∧ S.RowI B bo bc (fo ys) V
theorem AJ.turn {ys : List ByteArray} {v : Value} {V V' : World} {T : Nat → Prop} (h : AJ ys v V) (t : Turn T V V') (hs : Soft T V) : AJ ys v V' := by
  obtain ⟨bo, bc, B, h1, h2⟩ := h
  refine ⟨bo, bc, B, h1, h2.turn t (fun j q1 q2 => ?_)⟩
  obtain ⟨c1, k1⟩ := kindS h2 q1
  obtain ⟨c2, ty, k2, hty⟩ := hs j q2
  exact cells_ne k1 k2 (by rcases hty with e | e <;> rw [e] <;> decide) rfl
/-- a reading of actions that lie somewhere -/
def RK (F : Pf) (al : List ByteArray) (u v : Value) (V : World) : Prop := ∃ ao ac B, u = .slice ao al.length ac ∧ S.RowI B ao ac al V ∧ RJ F ao ac al v V
theorem RK.turn {F : Pf} {al : List ByteArray} {u v : Value} {V V' : World} {T : Nat → Prop} (h : RK F al u v V) (t : Turn T V V') (hs : Soft T V) : RK F al u v V' := by
  obtain ⟨ao, ac, B, h1, h2, h3⟩ := h
  refine ⟨ao, ac, B, h1, h2.turn t (fun j q1 q2 => ?_), h3.turn t hs⟩
  obtain ⟨c1, k1⟩ := kindS h2 q1
  obtain ⟨c2, ty, k2, hty⟩ := hs j q2
  exact cells_ne k1 k2 (by rcases hty with e | e <;> rw [e] <;> decide) rfl
/-- what Relation tells -/
def RelIs (F : Pf) (w : World) (e : Ending) (w' : World) : Prop := ∃ to tc, e = .returned (.slice to (rel F).length tc) ∧ X.RowI w.heap.size to tc (rel F) w' ∧ Below w.heap.size w w'
set_option maxRecDepth 100000 in
set_option maxHeartbeats 8000000 in
theorem relation_any (F : Pf) (w : World) (h : F.In w) (hs : F.Small) (hps : F.po.Small) (hak : ∀ a ∈ F.a.2.2, a.size ≤ 1048576) (hok : ∀ y ∈ F.o.2.2, y.size ≤ 1048576) (hsk : ∀ s ∈ F.s.2.2, s.1.size ≤ 1048576) (hxk : ∀ t ∈ F.x.2.2, X.okk t) (hu : ∀ R ∈ F.u.2.2, S.okk R.who ∧ S.okk R.what ∧ ∀ a ∈ R.rl, S.okk a) (hv : (fos F.s.2.2).length * ((fo F.o.2.2).length * (fo F.a.2.2).length) ≤ 1099511627776) : Calls Try.prog 23 #[.agg #[.slice F.a.1 F.a.2.2.length F.a.2.1, .slice F.s.1 F.s.2.2.length F.s.2.1, .slice F.r.1 F.r.2.2.length F.r.2.1, .slice F.o.1 F.o.2.2.length F.o.2.1, .slice F.g.1 F.g.2.2.length F.g.2.1, .slice F.m.1 F.m.2.2.length F.m.2.1, .slice F.i.1 F.i.2.2.length F.i.2.1, .slice F.p.1 F.p.2.2.length F.p.2.1, .slice F.w.1 F.w.2.2.length F.w.2.1, .slice F.u.1 F.u.2.2.length F.u.2.1, .slice F.x.1 F.x.2.2.length F.x.2.1]] w fun e w' => RelIs F w e w' := by
  have hPv : F.po.val = .agg #[.slice F.a.1 F.a.2.2.length F.a.2.1, .slice F.s.1 F.s.2.2.length F.s.2.1, .slice F.r.1 F.r.2.2.length F.r.2.1, .slice F.o.1 F.o.2.2.length F.o.2.1, .slice F.g.1 F.g.2.2.length F.g.2.1, .slice F.m.1 F.m.2.2.length F.m.2.1, .slice F.i.1 F.i.2.2.length F.i.2.1, .slice F.p.1 F.p.2.2.length F.p.2.1, .slice F.w.1 F.w.2.2.length F.w.2.1, .slice F.u.1 F.u.2.2.length F.u.2.1, .slice F.x.1 F.x.2.2.length F.x.2.1] := rfl
  have hsf : ∀ (a : Addr) (k : FloatKind) (b : Nat) (m : Mode) (w : World), (store a (.float k b) m).run Try.prog w = stored Try.prog w a (.float k b) m := fun a k b m w => run_store Try.prog w a _ m rfl
  have hfa : ∀ a ∈ fo F.a.2.2, a.size ≤ 1048576 := fun a ha => hak a (fo_mem ha)
  have hfal : (fo F.a.2.2).length ≤ 1048576 := by have q := fo_len F.a.2.2 F.a.2.2.length; rw [List.take_length] at q; have := hs.a; omega
  have hfsl : (fos F.s.2.2).length ≤ 1048576 := by have q := fos_len F.s.2.2 F.s.2.2.length; rw [List.take_length] at q; have := hs.s; omega
  have X : Cy w (.agg #[.slice F.a.1 F.a.2.2.length F.a.2.1, .slice F.s.1 F.s.2.2.length F.s.2.1, .slice F.r.1 F.r.2.2.length F.r.2.1, .slice F.o.1 F.o.2.2.length F.o.2.1, .slice F.g.1 F.g.2.2.length F.g.2.1, .slice F.m.1 F.m.2.2.length F.m.2.1, .slice F.i.1 F.i.2.2.length F.i.2.1, .slice F.p.1 F.p.2.2.length F.p.2.1, .slice F.w.1 F.w.2.2.length F.w.2.1, .slice F.u.1 F.u.2.2.length F.u.2.1, .slice F.x.1 F.x.2.2.length F.x.2.1]) (.slice F.a.1 F.a.2.2.length F.a.2.1) (AJ F.a.2.2) (RK F (fo F.a.2.2)) := by
    refine ⟨fun v V V' T j t s => j.turn t s, fun u v V V' T j t s => j.turn t s, fun V b => ?_, fun u V b j => ?_, fun u v V j => ?_⟩
    · refine (once_any F.a.1 F.a.2.1 F.a.2.2 V (h.below b).a.1 h.a.2.1 hs.a hak).mono ?_
      rintro e w' ⟨bo, bc, rfl, h1, h2⟩
      exact ⟨_, rfl, ⟨bo, bc, _, rfl, h1⟩, h2⟩
    · obtain ⟨bo, bc, B, rfl, h1⟩ := j
      refine (read_any F bo bc (fo F.a.2.2) V (h.below b) hs h1.ints h1.cap hfal (fun a ha => okk_of (hfa a ha)) hxk).mono ?_
      rintro e w' ⟨qp, qx, f, rfl, k1, k2, _, k5⟩
      exact ⟨_, rfl, ⟨bo, bc, B, rfl, h1.below k5, qp, qx, _, f, rfl, k1, k2⟩, k5⟩
    · obtain ⟨ao, ac, B, _, _, qp, qx, B', f, rfl, _⟩ := j
      exact ⟨_, _, _, _, _, _, _, _, rfl⟩
  have HX := hide' X
  have C64 : Hid (∀ V, Below w.heap.size w V → Calls Try.prog 44 #[.agg #[.slice F.a.1 F.a.2.2.length F.a.2.1, .slice F.s.1 F.s.2.2.length F.s.2.1, .slice F.r.1 F.r.2.2.length F.r.2.1, .slice F.o.1 F.o.2.2.length F.o.2.1, .slice F.g.1 F.g.2.2.length F.g.2.1, .slice F.m.1 F.m.2.2.length F.m.2.1, .slice F.i.1 F.i.2.2.length F.i.2.1, .slice F.p.1 F.p.2.2.length F.p.2.1, .slice F.w.1 F.w.2.2.length F.w.2.1, .slice F.u.1 F.u.2.2.length F.u.2.1, .slice F.x.1 F.x.2.2.length F.x.2.1]] V fun e w' => LinesIs (F.po.m.2.2 ++ F.po.i.2.2) V e w') := fun V b => by rw [← hPv]; exact whoLines_any F.po V (h.below b).po hps
  have C65 : Hid (∀ V, Below w.heap.size w V → Calls Try.prog 45 #[.agg #[.slice F.a.1 F.a.2.2.length F.a.2.1, .slice F.s.1 F.s.2.2.length F.s.2.1, .slice F.r.1 F.r.2.2.length F.r.2.1, .slice F.o.1 F.o.2.2.length F.o.2.1, .slice F.g.1 F.g.2.2.length F.g.2.1, .slice F.m.1 F.m.2.2.length F.m.2.1, .slice F.i.1 F.i.2.2.length F.i.2.1, .slice F.p.1 F.p.2.2.length F.p.2.1, .slice F.w.1 F.w.2.2.length F.w.2.1, .slice F.u.1 F.u.2.2.length F.u.2.1, .slice F.x.1 F.x.2.2.length F.x.2.1]] V fun e w' => AljIs F V e w') := fun V b => allObjects_any F V (h.below b) hs hps hok
  have C66 : Hid (∀ V, Below w.heap.size w V → Calls Try.prog 46 #[.slice F.s.1 F.s.2.2.length F.s.2.1] V fun e w' => FsbIs F.s.2.2 V e w') := fun V b => firstS_any F.s.1 F.s.2.1 F.s.2.2 V (h.below b).s.1 h.s.2.1 hs.s (fun s hs' => okk_of (hsk s hs'))
  have hmq : Hid ((F.po.m.2.2 ++ F.po.i.2.2).length ≤ 1048576) := by show _ ≤ _; rw [List.length_append]; exact hps.mi
  have C67 : Hid (∀ V bm B f z r, z.size ≤ 1048576 → Lm bm B (F.po.m.2.2 ++ F.po.i.2.2) f V → Calls Try.prog 47 #[.map (some bm), .string z, .float .f64 r] V fun e w' => PartyIs (F.po.m.2.2 ++ F.po.i.2.2) z r V e w') := fun V bm B f z r hz hL => party_any bm B _ f z r V hL (uni_okk hz hps.tm) hz hmq
  have H := hide' h
  have Hs := hide' hs
  have HA9 := hide' hfa
  have HAL := hide' hfal
  have HU := hide' hu
  have HV := hide' hv
  have hRl : Hid (∀ R ∈ F.u.2.2, S.okk R.what ∧ R.rl.length ≤ 1048576) := fun R hR => ⟨(hu R hR).2.1, (h.u.1.2 R hR).2.2⟩
  have hul : Hid (F.u.2.2.length ≤ 1048576) := hs.u
  have hsz : Hid (∀ s ∈ fos F.s.2.2, s.1.size ≤ 1048576 ∧ tru F.po.sl s.1 = some s.2) := fun s hs' => ⟨hsk s (fos_mem hs'), tru_fos hs'⟩
  have hoz : Hid (∀ y ∈ fo F.o.2.2, y.size ≤ 1048576 ∧ isIn F.po.ol y = true) := fun y hy => ⟨hok y (fo_mem hy), isIn_yes (fo_mem hy)⟩
  have hasub : Hid (∀ a ∈ fo F.a.2.2, isIn F.po.al a = true) := fun a ha => isIn_yes (fo_mem ha)
  have hsl64 : ((fos F.s.2.2).length : Int) ≤ 1048576 := by omega
  have hol64 : ((fo F.o.2.2).length : Int) ≤ 1048576 := by have q := fo_len F.o.2.2 F.o.2.2.length; rw [List.take_length] at q; have := hs.o; omega
  clear X h hs hps hak hok hsk hxk hu hv hPv hfa hfal hfsl
  go_enter Try.func23, Try.ntmps23
  go_wp2_with fail
  have hq1 := heap_alloc_new w (.cells #[.slice F.a.1 F.a.2.2.length F.a.2.1, .slice F.s.1 F.s.2.2.length F.s.2.1, .slice F.r.1 F.r.2.2.length F.r.2.1, .slice F.o.1 F.o.2.2.length F.o.2.1, .slice F.g.1 F.g.2.2.length F.g.2.1, .slice F.m.1 F.m.2.2.length F.m.2.1, .slice F.i.1 F.i.2.2.length F.i.2.1, .slice F.p.1 F.p.2.2.length F.p.2.1, .slice F.w.1 F.w.2.2.length F.w.2.1, .slice F.u.1 F.u.2.2.length F.u.2.1, .slice F.x.1 F.x.2.2.length F.x.2.1] 28)
  have hbV : Below w.heap.size w (w.alloc (.cells #[.slice F.a.1 F.a.2.2.length F.a.2.1, .slice F.s.1 F.s.2.2.length F.s.2.1, .slice F.r.1 F.r.2.2.length F.r.2.1, .slice F.o.1 F.o.2.2.length F.o.2.1, .slice F.g.1 F.g.2.2.length F.g.2.1, .slice F.m.1 F.m.2.2.length F.m.2.1, .slice F.i.1 F.i.2.2.length F.i.2.1, .slice F.p.1 F.p.2.2.length F.p.2.1, .slice F.w.1 F.w.2.2.length F.w.2.1, .slice F.u.1 F.u.2.2.length F.u.2.1, .slice F.x.1 F.x.2.2.length F.x.2.1] 28)) := (Below.refl _ _).alloc (Nat.le_refl _) _
  generalize w.alloc (.cells #[.slice F.a.1 F.a.2.2.length F.a.2.1, .slice F.s.1 F.s.2.2.length F.s.2.1, .slice F.r.1 F.r.2.2.length F.r.2.1, .slice F.o.1 F.o.2.2.length F.o.2.1, .slice F.g.1 F.g.2.2.length F.g.2.1, .slice F.m.1 F.m.2.2.length F.m.2.1, .slice F.i.1 F.i.2.2.length F.i.2.1, .slice F.p.1 F.p.2.2.length F.p.2.1, .slice F.w.1 F.w.2.2.length F.w.2.1, .slice F.u.1 F.u.2.2.length F.u.2.1, .slice F.x.1 F.x.2.2.length F.x.2.1] 28) = V at *
  obtain ⟨q1, hq⟩ : ∃ q1, q1 = w.heap.size := ⟨_, rfl⟩
  rw [← hq] at hq1
  rw [← hq]
  clear hq
  have hdr : Below V.heap.size V V.drew := ⟨rfl, rfl, rfl, Nat.le_refl _, fun _ _ => rfl⟩
  have hqc : V.drew.cell? ⟨q1, 0, none⟩ = some (.slice F.a.1 F.a.2.2.length F.a.2.1) := by rw [Lib.cell_of_heap (w := V.drew) hq1]; rfl
  refine wp_region_held_drew (S := fun V => V.heap[q1]? = some (.cells #[.slice F.a.1 F.a.2.2.length F.a.2.1, .slice F.s.1 F.s.2.2.length F.s.2.1, .slice F.r.1 F.r.2.2.length F.r.2.1, .slice F.o.1 F.o.2.2.length F.o.2.1, .slice F.g.1 F.g.2.2.length F.g.2.1, .slice F.m.1 F.m.2.2.length F.m.2.1, .slice F.i.1 F.i.2.2.length F.i.2.1, .slice F.p.1 F.p.2.2.length F.p.2.1, .slice F.w.1 F.w.2.2.length F.w.2.1, .slice F.u.1 F.u.2.2.length F.u.2.1, .slice F.x.1 F.x.2.2.length F.x.2.1] 28 (0, 0)) ∧ V.cell? ⟨q1, 0, none⟩ = some (.slice F.a.1 F.a.2.2.length F.a.2.1)) (by kernel_rfl) ⟨hq1, hqc⟩ (fun hHeld => ?_)
  refine wpAnyH_take (i := 0) (oi := { dst := some 15, op := Op.load 28 (Operand.tmp 1), type := 28, pos := "mean.go:49", after := #[], guard := none }) (v := .agg #[.slice F.a.1 F.a.2.2.length F.a.2.1, .slice F.s.1 F.s.2.2.length F.s.2.1, .slice F.r.1 F.r.2.2.length F.r.2.1, .slice F.o.1 F.o.2.2.length F.o.2.1, .slice F.g.1 F.g.2.2.length F.g.2.1, .slice F.m.1 F.m.2.2.length F.m.2.1, .slice F.i.1 F.i.2.2.length F.i.2.1, .slice F.p.1 F.p.2.2.length F.p.2.1, .slice F.w.1 F.w.2.2.length F.w.2.1, .slice F.u.1 F.u.2.2.length F.u.2.1, .slice F.x.1 F.x.2.2.length F.x.2.1]) rfl (by kernel_rfl) (by kernel_rfl) (by kernel_rfl) (fun _ _ _ h => h) (Or.inl ⟨by kernel_rfl, fun w hSw => ?_⟩) (by assumption) ?_
  · exact ex_row 28 _ rfl q1 rfl 28 _ (0, 0) _ hSw.1 Try.underlying28 rfl (by kernel_rfl)
  (try simp only [Act.put, List.setIfInBounds_toArray, List.set_cons_zero, List.set_cons_succ])
  refine wpAnyH_take (i := 1) (oi := { dst := some 16, op := Op.fieldAddr 28 (Operand.tmp 1) 0, type := 0, pos := "mean.go:49", after := #[], guard := none }) (v := .pointer (some ⟨q1, 0, none⟩)) rfl (by kernel_rfl) (by kernel_rfl) (by kernel_rfl) (fun _ _ _ h => h) (Or.inl ⟨by kernel_rfl, fun w hSw => ?_⟩) (by assumption) ?_
  · clear hSw; go_simp
  (try simp only [Act.put, List.setIfInBounds_toArray, List.set_cons_zero, List.set_cons_succ])
  refine wpAnyH_take (i := 2) (oi := { dst := some 17, op := Op.load 22 (Operand.tmp 16), type := 22, pos := "mean.go:49", after := #[{ on := 1, ground := Ground.data }], guard := none }) (v := .slice F.a.1 F.a.2.2.length F.a.2.1) rfl (by kernel_rfl) (by kernel_rfl) (by kernel_rfl) (fun _ _ _ h => h) (Or.inl ⟨by kernel_rfl, fun w hSw => ?_⟩) (by assumption) ?_
  · have h0 := hSw.2; clear hSw; go_simp
  (try simp only [Act.put, List.setIfInBounds_toArray, List.set_cons_zero, List.set_cons_succ])
  refine M0_0 HX.out ?_ V.drew (hbV.trans (hdr.mono hbV.size)) ⟨hq1, hqc⟩
  clear hq1 hbV hdr hHeld hqc V HX
  intro v18 xo xn xc xp uo ul uc xx b3 V j2 h3 hB hq1
  obtain ⟨ao, ac, Ba, rfl, hA, qp, qx, Bp, f, e3, hL, hT⟩ := j2
  have e : xo = ao ∧ xn = (fo F.a.2.2).length ∧ xc = ac ∧ xp = some qp ∧ uo = F.u.1 ∧ ul = F.u.2.2.length ∧ uc = F.u.2.1 ∧ xx = some qx := by simpa [and_assoc] using e3
  clear e3
  obtain ⟨rfl, rfl, rfl, rfl, rfl, rfl, rfl, rfl⟩ := e
  have KT : Hid (∀ W', Below V.heap.size V W' → W'.heap[q1]? = some (.cells #[.slice F.a.1 F.a.2.2.length F.a.2.1, .slice F.s.1 F.s.2.2.length F.s.2.1, .slice F.r.1 F.r.2.2.length F.r.2.1, .slice F.o.1 F.o.2.2.length F.o.2.1, .slice F.g.1 F.g.2.2.length F.g.2.1, .slice F.m.1 F.m.2.2.length F.m.2.1, .slice F.i.1 F.i.2.2.length F.i.2.1, .slice F.p.1 F.p.2.2.length F.p.2.1, .slice F.w.1 F.w.2.2.length F.w.2.1, .slice F.u.1 F.u.2.2.length F.u.2.1, .slice F.x.1 F.x.2.2.length F.x.2.1] 28 (0, 0))) := fun W' b => (b.block _ (lt_of_heap hq1)).trans hq1
  have BT : Hid (∀ W', Below V.heap.size V W' → Below w.heap.size w W') := fun W' b => hB.trans (b.mono hB.size)
  have hd : Below V.heap.size V V.drew := ⟨rfl, rfl, rfl, Nat.le_refl _, fun _ _ => rfl⟩
  have JV : Hid (∀ W', Below V.heap.size V W' → (W'.heap[b3]? = some (.cells #[.slice xo (fo F.a.2.2).length xc, .map (some qp), .slice F.u.1 F.u.2.2.length F.u.2.1, .map (some qx)] 87 (0, 0)) ∧ Pl.Lm qp Bp (fo F.a.2.2) f W' ∧ X.Tset qx F.x.2.2 W') ∧ S.RowI Ba xo xc (fo F.a.2.2) W') := fun W' b => ⟨⟨(b.block _ (lt_of_heap h3)).trans h3, hL.below b, hT.below b⟩, hA.below b⟩
  have hac : (fo F.a.2.2).length ≤ xc := hA.cap
  clear hA hL hT h3 hB
  simp only [Exit.then]
  go_wp2_with fail
  refine wp_region_held_drew (S := fun W' => W'.heap[q1]? = some (.cells #[.slice F.a.1 F.a.2.2.length F.a.2.1, .slice F.s.1 F.s.2.2.length F.s.2.1, .slice F.r.1 F.r.2.2.length F.r.2.1, .slice F.o.1 F.o.2.2.length F.o.2.1, .slice F.g.1 F.g.2.2.length F.g.2.1, .slice F.m.1 F.m.2.2.length F.m.2.1, .slice F.i.1 F.i.2.2.length F.i.2.1, .slice F.p.1 F.p.2.2.length F.p.2.1, .slice F.w.1 F.w.2.2.length F.w.2.1, .slice F.u.1 F.u.2.2.length F.u.2.1, .slice F.x.1 F.x.2.2.length F.x.2.1] 28 (0, 0))) (by kernel_rfl) (KT.out _ hd) (fun hHeld => ?_)
  refine wpAnyH_take (i := 0) (oi := { dst := some 20, op := Op.load 28 (Operand.tmp 1), type := 28, pos := "mean.go:50", after := #[], guard := none }) (v := .agg #[.slice F.a.1 F.a.2.2.length F.a.2.1, .slice F.s.1 F.s.2.2.length F.s.2.1, .slice F.r.1 F.r.2.2.length F.r.2.1, .slice F.o.1 F.o.2.2.length F.o.2.1, .slice F.g.1 F.g.2.2.length F.g.2.1, .slice F.m.1 F.m.2.2.length F.m.2.1, .slice F.i.1 F.i.2.2.length F.i.2.1, .slice F.p.1 F.p.2.2.length F.p.2.1, .slice F.w.1 F.w.2.2.length F.w.2.1, .slice F.u.1 F.u.2.2.length F.u.2.1, .slice F.x.1 F.x.2.2.length F.x.2.1]) rfl (by kernel_rfl) (by kernel_rfl) (by kernel_rfl) (fun _ _ _ h => h) (Or.inl ⟨by kernel_rfl, fun w hSw => ?_⟩) (by assumption) ?_
  · exact ex_row 28 _ rfl q1 rfl 28 _ (0, 0) _ hSw Try.underlying28 rfl (by kernel_rfl)
  (try simp only [Act.put, List.setIfInBounds_toArray, List.set_cons_zero, List.set_cons_succ])
  refine wpAnyH_take (i := 2) (oi := { dst := some 22, op := Op.load 28 (Operand.tmp 1), type := 28, pos := "mean.go:50", after := #[], guard := none }) (v := .agg #[.slice F.a.1 F.a.2.2.length F.a.2.1, .slice F.s.1 F.s.2.2.length F.s.2.1, .slice F.r.1 F.r.2.2.length F.r.2.1, .slice F.o.1 F.o.2.2.length F.o.2.1, .slice F.g.1 F.g.2.2.length F.g.2.1, .slice F.m.1 F.m.2.2.length F.m.2.1, .slice F.i.1 F.i.2.2.length F.i.2.1, .slice F.p.1 F.p.2.2.length F.p.2.1, .slice F.w.1 F.w.2.2.length F.w.2.1, .slice F.u.1 F.u.2.2.length F.u.2.1, .slice F.x.1 F.x.2.2.length F.x.2.1]) rfl (by kernel_rfl) (by kernel_rfl) (by kernel_rfl) (fun _ _ _ h => h) (Or.inl ⟨by kernel_rfl, fun w hSw => ?_⟩) (by assumption) ?_
  · exact ex_row 28 _ rfl q1 rfl 28 _ (0, 0) _ hSw Try.underlying28 rfl (by kernel_rfl)
  (try simp only [Act.put, List.setIfInBounds_toArray, List.set_cons_zero, List.set_cons_succ])
  refine wpAnyH_ready (rs := [1]) (by kernel_rfl) (by simp) ?_
  refine AllReadyH.cons (o := { dst := some 21, op := Op.call { callee := Callee.value (Operand.func 44), args := #[Operand.tmp 20], argTypes := #[28] }, type := 90, pos := "mean.go:50", after := #[{ on := 0, ground := Ground.data }], guard := none }) rfl (fun K hK => ?_) AllReadyH.nil
  go_simp
  refine (C64.out _ (BT.out _ hd)).mono ?_
  rintro e x1 ⟨bm, fm, rfl, hW1, t1⟩
  have d1 : Below V.heap.size V x1 := hd.trans (t1.mono hd.size)
  clear t1
  (try dsimp only)
  refine hK.out _ _ (KT.out _ d1) (fun hHeld => ?_)
  clear hK K
  (try simp only [Act.put, List.setIfInBounds_toArray, List.set_cons_zero, List.set_cons_succ])
  refine wpAnyH_ready (rs := [3]) (by kernel_rfl) (by simp) ?_
  refine AllReadyH.cons (o := { dst := some 23, op := Op.call { callee := Callee.value (Operand.func 45), args := #[Operand.tmp 22], argTypes := #[28] }, type := 92, pos := "mean.go:50", after := #[{ on := 2, ground := Ground.data }, { on := 1, ground := Ground.chain }], guard := none }) rfl (fun K hK => ?_) AllReadyH.nil
  go_simp
  refine (C65.out _ (BT.out _ d1)).mono ?_
  rintro e x2 ⟨oo, oc, os, rfl, hO2, hos, t2⟩
  have d2 : Below V.heap.size V x2 := d1.trans (t2.mono d1.size)
  have hW2 := hW1.below t2
  clear t2
  (try dsimp only)
  refine hK.out _ _ (KT.out _ d2) (fun hHeld => ?_)
  clear hK K
  (try simp only [Act.put, List.setIfInBounds_toArray, List.set_cons_zero, List.set_cons_succ])
  refine wpAnyH_take (i := 4) (oi := { dst := some 4, op := Op.assign (Operand.tmp 21), type := 90, pos := "mean.go:50", after := #[{ on := 1, ground := Ground.data }, { on := 3, ground := Ground.chain }, { on := 0, ground := Ground.phase }, { on := 1, ground := Ground.phase }, { on := 2, ground := Ground.textOnly Departure.lateStores }, { on := 3, ground := Ground.textOnly Departure.lateStoresUnsure }], guard := none }) (v := .map (some bm)) rfl (by kernel_rfl) (by kernel_rfl) (by kernel_rfl) (fun _ _ _ h => h) (Or.inl ⟨by kernel_rfl, fun w hSw => ?_⟩) (by assumption) ?_
  · clear hSw; go_simp
  (try simp only [Act.put, List.setIfInBounds_toArray, List.set_cons_zero, List.set_cons_succ])
  refine wpAnyH_take (i := 5) (oi := { dst := some 5, op := Op.assign (Operand.tmp 23), type := 92, pos := "mean.go:50", after := #[{ on := 3, ground := Ground.data }, { on := 4, ground := Ground.chain }, { on := 0, ground := Ground.phase }, { on := 1, ground := Ground.phase }, { on := 2, ground := Ground.phase }, { on := 3, ground := Ground.phase }, { on := 4, ground := Ground.phase }], guard := none }) (v := .slice oo os.length oc) rfl (by kernel_rfl) (by kernel_rfl) (by kernel_rfl) (fun _ _ _ h => h) (Or.inl ⟨by kernel_rfl, fun w hSw => ?_⟩) (by assumption) ?_
  · clear hSw; go_simp
  (try simp only [Act.put, List.setIfInBounds_toArray, List.set_cons_zero, List.set_cons_succ])
  refine wpAnyH_done (by kernel_rfl) ?_ _
  have e1 : x2.cell? ⟨q1, 1, none⟩ = some (.slice F.s.1 F.s.2.2.length F.s.2.1) := by rw [Lib.cell_of_heap (KT.out _ d2)]; rfl
  have K2 : Hid ((((x2.heap[b3]? = some (.cells #[.slice xo (fo F.a.2.2).length xc, .map (some qp), .slice F.u.1 F.u.2.2.length F.u.2.1, .map (some qx)] 87 (0, 0)) ∧ Pl.Lm qp Bp (fo F.a.2.2) f x2 ∧ X.Tset qx F.x.2.2 x2) ∧ S.RowI Ba xo xc (fo F.a.2.2) x2) ∧ Lm bm V.drew.heap.size (F.po.m.2.2 ++ F.po.i.2.2) fm x2) ∧ Obs x1.heap.size oo oc (F.po.p.2.2 ++ F.po.w.2.2) os x2) := ⟨⟨JV.out _ d2, hW2⟩, hO2⟩
  have B2 : Hid (Below w.heap.size w x2) := BT.out _ d2
  have Hos := hide' hos
  have hoc : os.length ≤ oc := by have := hO2.1.cap; rw [List.length_map] at this; exact this
  have hosl : os.length = (fo F.o.2.2).length := by rw [← hos, List.length_map]
  clear hHeld KT JV BT C64 C65 hd d1 d2 hW1 hW2 hO2 hos hq1
  go_wp2_with fail
  refine (C66.out x2 B2.out).mono ?_
  rintro e x3 ⟨so, sc, rfl, hS3, b3'⟩
  have B3 : Hid (Below w.heap.size w x3) := B2.out.trans (b3'.mono B2.out.size)
  have hsc : (fos F.s.2.2).length ≤ sc := hS3.cap
  obtain ⟨K, SK, HK3, HE⟩ : ∃ K : World → Prop, Hid (St36 K) ∧ Hid (K x3) ∧ Hid (∀ W, K W → ((((W.heap[b3]? = some (.cells #[.slice xo (fo F.a.2.2).length xc, .map (some qp), .slice F.u.1 F.u.2.2.length F.u.2.1, .map (some qx)] 87 (0, 0)) ∧ Pl.Lm qp Bp (fo F.a.2.2) f W ∧ X.Tset qx F.x.2.2 W) ∧ S.RowI Ba xo xc (fo F.a.2.2) W) ∧ Lm bm V.drew.heap.size (F.po.m.2.2 ++ F.po.i.2.2) fm W) ∧ Obs x1.heap.size oo oc (F.po.p.2.2 ++ F.po.w.2.2) os W) ∧ T.RowI x2.heap.size so sc (fos F.s.2.2) W) := by
    refine ⟨_, ?_, ?_, fun W q => q⟩
    · exact ((((((st_block (by decide)).and (st_plm.and st_tset)).and st_srow).and st_lm).and st_obs).and st_trow)
    · have b := b3'
      exact ⟨⟨⟨⟨⟨(b.block _ (lt_of_heap K2.out.1.1.1.1)).trans K2.out.1.1.1.1, K2.out.1.1.1.2.1.below b, K2.out.1.1.1.2.2.below b⟩, K2.out.1.1.2.below b⟩, K2.out.1.2.below b⟩, K2.out.2.below b⟩, hS3⟩
  clear K2 hS3 b3' e1 C66 B2
  generalize x2.heap.size = Bs at *
  generalize x1.heap.size = Bo at *
  generalize V.drew.heap.size = Bw at *


  obtain ⟨al, hal⟩ : ∃ al, al = fo F.a.2.2 := ⟨_, rfl⟩
  obtain ⟨sl, hsl⟩ : ∃ sl, sl = fos F.s.2.2 := ⟨_, rfl⟩
  obtain ⟨ol, hol⟩ : ∃ ol, ol = fo F.o.2.2 := ⟨_, rfl⟩
  have hrel : Hid (rel F = relA F al ol sl) := by rw [hal, hsl, hol]; rfl
  rw [← hal] at HA9 HAL HV hasub hac HE ⊢
  rw [← hsl] at HV hsz hsl64 hsc HE ⊢
  rw [← hol] at HV hoz hol64 Hos hosl
  clear hal hsl hol
  have hos64 : (os.length : Int) ≤ 1048576 := by omega
  go_wp2_with fail
  go_loopw [6, 28] (fun tv iv wx => ∃ (i : Nat) (to : Option Addr) (tc : Nat), iv = .int .i64 (i : Int) ∧ tv = .slice to (relA F al ol (sl.take i)).length tc ∧ i ≤ sl.length ∧ Hid (Below w.heap.size w wx ∧ K wx ∧ X.RowI w.heap.size to tc (relA F al ol (sl.take i)) wx)) (fun _ iv _ => sl.length - (intOf iv).toNat)
  case atStart => exact ⟨0, none, 0, rfl, rfl, Nat.zero_le _, B3.out, HK3.out, X.RowI.nil _ _⟩
  case round =>
    obtain ⟨i, to, tc, rfl, rfl, hi, HM⟩ := hrel
    clear HK3 B3
    by_cases hlt : i < sl.length
    · have hlt' : (i : Int) < (sl.length : Int) := by omega
      obtain ⟨s, hsi⟩ : ∃ s, sl[i]? = some s := ⟨_, List.getElem?_eq_getElem hlt⟩
      obtain ⟨g, hso, ⟨d0, d1⟩, _⟩ := T.row_at (HE.out wr HM.out.2.1).2 hsi
      have hstep := hide' (relA_take (F := F) (al := al) (ol := ol) hsi)
      have hss := hide' (hsz.out s (List.mem_of_getElem? hsi))
      obtain ⟨z1, r1⟩ := s
      simp only at d0 d1 hss
      have bV : Hid (Below wr.heap.size wr (wr.alloc (.cells #[.string z1, .float .f64 r1] 67))) := (Below.refl _ _).alloc (Nat.le_refl _) _
      have MV : Hid (Below w.heap.size w (wr.alloc (.cells #[.string z1, .float .f64 r1] 67)) ∧ K (wr.alloc (.cells #[.string z1, .float .f64 r1] 67)) ∧ X.RowI w.heap.size to tc (relA F al ol (sl.take i)) (wr.alloc (.cells #[.string z1, .float .f64 r1] 67))) := ⟨HM.out.1.trans (bV.out.mono HM.out.1.size), SK.out.below HM.out.2.1 bV.out, HM.out.2.2.below bV.out⟩
      have e0 : (wr.alloc (.cells #[.string z1, .float .f64 r1] 67)).cell? ⟨wr.heap.size, 0, none⟩ = some (.string z1) := by rw [Lib.cell_of_heap (heap_alloc_new wr _)]; rfl
      have e1 : (wr.alloc (.cells #[.string z1, .float .f64 r1] 67)).cell? ⟨wr.heap.size, 1, none⟩ = some (.float .f64 r1) := by rw [Lib.cell_of_heap (heap_alloc_new wr _)]; rfl
      have C := hide' (C67.out _ bm Bw fm z1 r1 hss.out.1 (HE.out _ MV.out.2.1).1.1.2)
      rw [hso]
      have Hso := hide' hso
      clear hso HM bV hsi
      go_wp2_with fail
      refine C.out.mono ?_
      rintro e w3 ⟨nb, ms, rfl, _, hN, hmem, b3'⟩
      have M3 : Hid ((Below w.heap.size w w3 ∧ K w3 ∧ X.RowI w.heap.size to tc (relA F al ol (sl.take i)) w3) ∧ Nset nb ms w3) := ⟨⟨MV.out.1.trans (b3'.mono MV.out.1.size), SK.out.below MV.out.2.1 b3', MV.out.2.2.below b3'⟩, hN⟩
      have Hmem := hide' hmem
      clear MV C e0 e1 hN hmem b3' d0 d1
      have bW : Hid (Below w3.heap.size w3 (w3.alloc (.cells #[.string z1, .float .f64 r1, .map (some nb)] 97))) := (Below.refl _ _).alloc (Nat.le_refl _) _
      have M4 : Hid (((Below w.heap.size w (w3.alloc (.cells #[.string z1, .float .f64 r1, .map (some nb)] 97)) ∧ K (w3.alloc (.cells #[.string z1, .float .f64 r1, .map (some nb)] 97)) ∧ X.RowI w.heap.size to tc (relA F al ol (sl.take i)) (w3.alloc (.cells #[.string z1, .float .f64 r1, .map (some nb)] 97))) ∧ Nset nb ms (w3.alloc (.cells #[.string z1, .float .f64 r1, .map (some nb)] 97))) ∧ (w3.alloc (.cells #[.string z1, .float .f64 r1, .map (some nb)] 97)).heap[w3.heap.size]? = some (.cells #[.string z1, .float .f64 r1, .map (some nb)] 97 (0, 0))) := ⟨⟨⟨M3.out.1.1.trans (bW.out.mono M3.out.1.1.size), SK.out.below M3.out.1.2.1 bW.out, M3.out.1.2.2.below bW.out⟩, M3.out.2.turn (turn_below (S := fun _ => False) bW.out) id⟩, heap_alloc_new w3 _⟩
      clear M3 bW
      have hIs : Hid (∀ V, Nset nb ms V → IsOf z1 r1 (.map (some nb)) (isIn ms) V) := fun V q => fun V' s' hs' b => is_any _ _ _ _ _ _ (q.turn (turn_below (S := fun _ => False) b) id) hs'
      have EE := hide' (HE.out _ M4.out.1.1.2.1)
      have C68 := hide' (rabout_any F xo xc al qp qx Bp f z1 r1 (.map (some nb)) (isIn ms) (w3.alloc (.cells #[.string z1, .float .f64 r1, .map (some nb)] 97)) (H.out.below M4.out.1.1.1) Hs.out EE.out.1.1.1.1.2.1 EE.out.1.1.1.2.ints hac HAL.out (fun a ha => okk_of (HA9.out a ha)) (fun R hR => ⟨(HU.out R hR).1, (HU.out R hR).2.2⟩) (hIs.out _ M4.out.1.2))
      have c30 : (w3.alloc (.cells #[.string z1, .float .f64 r1, .map (some nb)] 97)).cell? ⟨b3, 0, none⟩ = some (.slice xo al.length xc) := by rw [Lib.cell_of_heap EE.out.1.1.1.1.1]; rfl
      have c31 : (w3.alloc (.cells #[.string z1, .float .f64 r1, .map (some nb)] 97)).cell? ⟨b3, 1, none⟩ = some (.map (some qp)) := by rw [Lib.cell_of_heap EE.out.1.1.1.1.1]; rfl
      have c32 : (w3.alloc (.cells #[.string z1, .float .f64 r1, .map (some nb)] 97)).cell? ⟨b3, 2, none⟩ = some (.slice F.u.1 F.u.2.2.length F.u.2.1) := by rw [Lib.cell_of_heap EE.out.1.1.1.1.1]; rfl
      have c33 : (w3.alloc (.cells #[.string z1, .float .f64 r1, .map (some nb)] 97)).cell? ⟨b3, 3, none⟩ = some (.map (some qx)) := by rw [Lib.cell_of_heap EE.out.1.1.1.1.1]; rfl
      have c90 : (w3.alloc (.cells #[.string z1, .float .f64 r1, .map (some nb)] 97)).cell? ⟨w3.heap.size, 0, none⟩ = some (.string z1) := by rw [Lib.cell_of_heap M4.out.2]; rfl
      have c91 : (w3.alloc (.cells #[.string z1, .float .f64 r1, .map (some nb)] 97)).cell? ⟨w3.heap.size, 1, none⟩ = some (.float .f64 r1) := by rw [Lib.cell_of_heap M4.out.2]; rfl
      have c92 : (w3.alloc (.cells #[.string z1, .float .f64 r1, .map (some nb)] 97)).cell? ⟨w3.heap.size, 2, none⟩ = some (.map (some nb)) := by rw [Lib.cell_of_heap M4.out.2]; rfl
      clear EE
      go_wp2_with fail
      refine C68.out.mono ?_
      rintro e w5 ⟨ro, rc, rs, rfl, hR5, hd5, b5⟩
      have M5 : Hid (Below w.heap.size w w5 ∧ X.RowI w.heap.size to tc (relA F al ol (sl.take i)) w5) := ⟨M4.out.1.1.1.trans (b5.mono M4.out.1.1.1.size), M4.out.1.1.2.2.below b5⟩
      have fine := hide' (ruls_fine hd5 HAL.out hRl.out)
      have Hd5 := hide' hd5
      obtain ⟨K1, SK1, HK1, HE1⟩ : ∃ K1 : World → Prop, Hid (St36 K1) ∧ Hid (K1 w5) ∧ Hid (∀ W, K1 W → ((K W ∧ W.heap[w3.heap.size]? = some (.cells #[.string z1, .float .f64 r1, .map (some nb)] 97 (0, 0))) ∧ Nset nb ms W) ∧ Rls (w3.alloc (.cells #[.string z1, .float .f64 r1, .map (some nb)] 97)).heap.size ro rc rs W) := by
        refine ⟨_, ?_, ?_, fun W q => q⟩
        · exact (((SK.out : St36 K).and (st_block (by decide))).and st_nset).and st_rls
        · exact ⟨⟨⟨SK.out.below M4.out.1.1.2.1 b5, (b5.block _ (lt_of_heap M4.out.2)).trans M4.out.2⟩, M4.out.1.2.turn (turn_below (S := fun _ => False) b5) id⟩, hR5⟩
      clear M4 C68 hR5 hd5 b5 c30 c31 c32 c33 c90 c91 c92
      generalize (w3.alloc (.cells #[.string z1, .float .f64 r1, .map (some nb)] 97)).heap.size = Br at *
      generalize w3.heap.size = q9 at *
      clear w3
      have h1 : Hid (∀ R, abt (isIn ms) r1 R = sbj F.po z1 R) := fun R => by
        unfold abt sbj
        rw [hss.out.2, isIn_iff Hmem.out]
      go_wp2_with fail
      go_loopw [6, 43] (fun tv jv wx => ∃ (j : Nat) (to : Option Addr) (tc : Nat), jv = .int .i64 (j : Int) ∧ tv = .slice to (relA F al ol (sl.take i) ++ relS F al (ol.take j) (z1, r1)).length tc ∧ j ≤ os.length ∧ Hid (Below w.heap.size w wx ∧ K1 wx ∧ X.RowI w.heap.size to tc (relA F al ol (sl.take i) ++ relS F al (ol.take j) (z1, r1)) wx)) (fun _ jv _ => os.length - (intOf jv).toNat)
      case atStart => exact ⟨0, to, tc, rfl, by simp [relS], Nat.zero_le _, M5.out.1, HK1.out, by have q := M5.out.2; simpa [relS] using q⟩
      case round =>
        obtain ⟨j, to, tc, rfl, rfl, hj, HM⟩ := hrel
        clear M5 HK1
        by_cases hjt : j < os.length
        · have hjt' : (j : Int) < (os.length : Int) := by omega
          obtain ⟨o, hoj⟩ : ∃ o, os[j]? = some o := ⟨_, List.getElem?_eq_getElem hjt⟩
          have hoz1 : Hid (ol[j]? = some o.z) := by show _ = _; rw [← Hos.out, List.getElem?_map, hoj]; rfl
          have hozz := hide' (hoz.out o.z (List.mem_of_getElem? hoz1.out))
          have hOb := hide' ((HE.out wr (HE1.out wr HM.out.2.1).1.1.1).1.2)
          have hca : ∀ k ∈ os.map Ob.cells, k.length = 3 := fun k hk => by rw [List.mem_map] at hk; obtain ⟨x, _, rfl⟩ := hk; rfl
          have hom : (os.map Ob.cells)[j]? = some o.cells := by rw [List.getElem?_map, hoj]; rfl
          obtain ⟨g2, hg2, f0, _⟩ := hOb.out.1.at hca hom (r := 0) (u := .string o.z) rfl
          obtain ⟨g', hg', f1, _⟩ := hOb.out.1.at hca hom (r := 1) (u := .float .f64 0) rfl
          obtain ⟨g'', hg'', f2, _⟩ := hOb.out.1.at hca hom (r := 2) (u := .map (some o.nb)) rfl
          rw [hg2] at hg' hg''
          cases hg'
          cases hg''
          rw [Nat.add_zero] at f0
          have hoN := hide' (hOb.out.2 o (List.mem_of_getElem? hoj)).2
          have bV : Hid (Below wr.heap.size wr (wr.alloc (.cells #[.string o.z, .float .f64 0, .map (some o.nb)] 97))) := (Below.refl _ _).alloc (Nat.le_refl _) _
          have MV : Hid ((Below w.heap.size w (wr.alloc (.cells #[.string o.z, .float .f64 0, .map (some o.nb)] 97)) ∧ K1 (wr.alloc (.cells #[.string o.z, .float .f64 0, .map (some o.nb)] 97)) ∧ X.RowI w.heap.size to tc (relA F al ol (sl.take i) ++ relS F al (ol.take j) (z1, r1)) (wr.alloc (.cells #[.string o.z, .float .f64 0, .map (some o.nb)] 97))) ∧ (wr.alloc (.cells #[.string o.z, .float .f64 0, .map (some o.nb)] 97)).heap[wr.heap.size]? = some (.cells #[.string o.z, .float .f64 0, .map (some o.nb)] 97 (0, 0))) := ⟨⟨HM.out.1.trans (bV.out.mono HM.out.1.size), SK1.out.below HM.out.2.1 bV.out, HM.out.2.2.below bV.out⟩, heap_alloc_new wr _⟩
          have E1 := hide' (HE1.out _ MV.out.1.2.1)
          have EE := hide' (HE.out _ E1.out.1.1.1)
          have hNo := hide' (EE.out.1.2.2 o (List.mem_of_getElem? hoj)).1
          have C69 : Hid (Calls Try.prog 49 #[.agg #[.slice xo al.length xc, .map (some qp), .slice F.u.1 F.u.2.2.length F.u.2.1, .map (some qx)], .slice ro rs.length rc, .agg #[.string z1, .float .f64 r1, .map (some nb)], .agg #[.string o.z, .float .f64 0, .map (some o.nb)]] (wr.alloc (.cells #[.string o.z, .float .f64 0, .map (some o.nb)] 97)) fun e w' => AlwIs F z1 o.z al (wr.alloc (.cells #[.string o.z, .float .f64 0, .map (some o.nb)] 97)) e w') := by
            have h2 : ∀ s, isIn o.ms s = obj F.po o.z s := fun s => by unfold obj; rw [hozz.out.2, isIn_iff hoN.out]; rfl
            refine (allowedR_any F xo xc al qp qx Br F.x.2.2 ro rc rs z1 o.z r1 0 (.map (some nb)) (.map (some o.nb)) (isIn o.ms) _ EE.out.1.1.1.2.ints hac HAL.out EE.out.1.1.1.1.2.2 (fun a ha => ⟨okk_of hss.out.1, okk_of hozz.out.1, okk_of (HA9.out a ha)⟩) E1.out.2 (Nat.le_trans fine.out.1 hul.out) fine.out.2 (fun V' s' hs' b => is_any _ _ _ _ _ _ (hNo.out.turn (turn_below (S := fun _ => False) b) id) hs')).mono ?_
            rintro e w' ⟨po, pc, rfl, k1, k2⟩
            rw [Hd5.out, res_plw h1.out h2 (fun _ => rfl) (fun _ => rfl) hasub.out] at k1 ⊢
            exact ⟨po, pc, rfl, k1, k2⟩
          have c30 : (wr.alloc (.cells #[.string o.z, .float .f64 0, .map (some o.nb)] 97)).cell? ⟨b3, 0, none⟩ = some (.slice xo al.length xc) := by rw [Lib.cell_of_heap EE.out.1.1.1.1.1]; rfl
          have c31 : (wr.alloc (.cells #[.string o.z, .float .f64 0, .map (some o.nb)] 97)).cell? ⟨b3, 1, none⟩ = some (.map (some qp)) := by rw [Lib.cell_of_heap EE.out.1.1.1.1.1]; rfl
          have c32 : (wr.alloc (.cells #[.string o.z, .float .f64 0, .map (some o.nb)] 97)).cell? ⟨b3, 2, none⟩ = some (.slice F.u.1 F.u.2.2.length F.u.2.1) := by rw [Lib.cell_of_heap EE.out.1.1.1.1.1]; rfl
          have c33 : (wr.alloc (.cells #[.string o.z, .float .f64 0, .map (some o.nb)] 97)).cell? ⟨b3, 3, none⟩ = some (.map (some qx)) := by rw [Lib.cell_of_heap EE.out.1.1.1.1.1]; rfl
          have c90 : (wr.alloc (.cells #[.string o.z, .float .f64 0, .map (some o.nb)] 97)).cell? ⟨q9, 0, none⟩ = some (.string z1) := by rw [Lib.cell_of_heap E1.out.1.1.2]; rfl
          have c91 : (wr.alloc (.cells #[.string o.z, .float .f64 0, .map (some o.nb)] 97)).cell? ⟨q9, 1, none⟩ = some (.float .f64 r1) := by rw [Lib.cell_of_heap E1.out.1.1.2]; rfl
          have c92 : (wr.alloc (.cells #[.string o.z, .float .f64 0, .map (some o.nb)] 97)).cell? ⟨q9, 2, none⟩ = some (.map (some nb)) := by rw [Lib.cell_of_heap E1.out.1.1.2]; rfl
          have c20 : (wr.alloc (.cells #[.string o.z, .float .f64 0, .map (some o.nb)] 97)).cell? ⟨wr.heap.size, 0, none⟩ = some (.string o.z) := by rw [Lib.cell_of_heap MV.out.2]; rfl
          have c21 : (wr.alloc (.cells #[.string o.z, .float .f64 0, .map (some o.nb)] 97)).cell? ⟨wr.heap.size, 1, none⟩ = some (.float .f64 0) := by rw [Lib.cell_of_heap MV.out.2]; rfl
          have c22 : (wr.alloc (.cells #[.string o.z, .float .f64 0, .map (some o.nb)] 97)).cell? ⟨wr.heap.size, 2, none⟩ = some (.map (some o.nb)) := by rw [Lib.cell_of_heap MV.out.2]; rfl
          have Hg2 := hide' hg2
          rw [hg2]
          clear hg2 hoj hca hom hOb HM bV EE E1 hNo
          go_wp2_with fail
          refine C69.out.mono ?_
          rintro e w7 ⟨po, pc, rfl, hP7, b7⟩
          have M7 : Hid (Below w.heap.size w w7 ∧ X.RowI w.heap.size to tc (relA F al ol (sl.take i) ++ relS F al (ol.take j) (z1, r1)) w7) := ⟨MV.out.1.1.trans (b7.mono MV.out.1.1.size), MV.out.1.2.2.below b7⟩
          obtain ⟨K2, SK2, HK2, HE2⟩ : ∃ K2 : World → Prop, Hid (St36 K2) ∧ Hid (K2 w7) ∧ Hid (∀ W, K2 W → (K1 W ∧ W.heap[wr.heap.size]? = some (.cells #[.string o.z, .float .f64 0, .map (some o.nb)] 97 (0, 0))) ∧ I.RowI (wr.alloc (.cells #[.string o.z, .float .f64 0, .map (some o.nb)] 97)).heap.size po pc (plw F z1 o.z al) W) := by
            refine ⟨_, ?_, ?_, fun W q => q⟩
            · exact ((SK1.out : St36 K1).and (st_block (by decide))).and st_irow
            · exact ⟨⟨SK1.out.below MV.out.1.2.1 b7, (b7.block _ (lt_of_heap MV.out.2)).trans MV.out.2⟩, hP7⟩
          have hpc : (plw F z1 o.z al).length ≤ pc := hP7.cap
          have hpl64 : ((plw F z1 o.z al).length : Int) ≤ 1048576 := by have := plw_len F z1 o.z al; have := HAL.out; omega
          have hrO : Hid ((relO F al z1 o.z).length = (plw F z1 o.z al).length) := by show _ = _; unfold relO; rw [List.length_map]
          clear MV C69 hP7 b7 c30 c31 c32 c33 c90 c91 c92 c20 c21 c22 f0 f1 f2
          generalize (wr.alloc (.cells #[.string o.z, .float .f64 0, .map (some o.nb)] 97)).heap.size = Bp2 at *
          generalize wr.heap.size = q12 at *
          clear wr
          go_wp2_with fail
          go_loopw [6, 53] (fun tv kv wx => ∃ (k : Nat) (to : Option Addr) (tc : Nat), kv = .int .i64 (k : Int) ∧ tv = .slice to (relA F al ol (sl.take i) ++ (relS F al (ol.take j) (z1, r1) ++ (relO F al z1 o.z).take k)).length tc ∧ k ≤ (plw F z1 o.z al).length ∧ Hid (Below w.heap.size w wx ∧ K2 wx ∧ X.RowI w.heap.size to tc (relA F al ol (sl.take i) ++ (relS F al (ol.take j) (z1, r1) ++ (relO F al z1 o.z).take k)) wx)) (fun _ kv _ => (plw F z1 o.z al).length - (intOf kv).toNat)
          case atStart => exact ⟨0, to, tc, rfl, by simp, Nat.zero_le _, M7.out.1, HK2.out, by have q := M7.out.2; simpa using q⟩
          case round =>
            obtain ⟨k, to, tc, rfl, rfl, hk, HM⟩ := hrel
            clear M7 HK2
            by_cases hkt : k < (plw F z1 o.z al).length
            · have hkt' : (k : Int) < ((plw F z1 o.z al).length : Int) := by omega
              obtain ⟨kz, hkz⟩ : ∃ kz, (plw F z1 o.z al)[k]? = some kz := ⟨_, List.getElem?_eq_getElem hkt⟩
              obtain ⟨kn, rfl, hkn⟩ := mem_plw (List.mem_of_getElem? hkz)
              obtain ⟨a, ha⟩ : ∃ a, al[kn]? = some a := ⟨_, List.getElem?_eq_getElem hkn⟩
              have hOk : (relO F al z1 o.z)[k]? = some (z1, o.z, a) := by unfold relO; rw [List.getElem?_map, hkz]; simp [List.getD, ha]
              have htk : Hid ((relO F al z1 o.z).take (k + 1) = (relO F al z1 o.z).take k ++ [(z1, o.z, a)]) := by show _ = _; rw [List.take_add_one, hOk]; rfl
              have hbd : Hid ((relA F al ol (sl.take i) ++ (relS F al (ol.take j) (z1, r1) ++ (relO F al z1 o.z).take k)).length < 1099511627776) := rel_bnd (s := (z1, r1)) (o := o.z) hlt (by rw [← hosl]; exact hjt) (by show k < (relO F al z1 o.z).length; rw [hrO.out]; exact hkt) HV.out
              obtain ⟨pb, off, hpo, hpb, d0⟩ := (HE2.out wr HM.out.2.1).2.ints.at hkz
              have E1 := hide' (HE1.out _ (HE2.out wr HM.out.2.1).1.1)
              have E2 := hide' (HE2.out wr HM.out.2.1).1.2
              have EE := hide' (HE.out _ E1.out.1.1.1)
              have C70 := hide' (triple_is F xo xc al qp qx z1 o.z a r1 0 (.map (some nb)) (.map (some o.nb)) kn wr EE.out.1.1.1.2.ints hac HAL.out ha)
              have c30 : wr.cell? ⟨b3, 0, none⟩ = some (.slice xo al.length xc) := by rw [Lib.cell_of_heap EE.out.1.1.1.1.1]; rfl
              have c31 : wr.cell? ⟨b3, 1, none⟩ = some (.map (some qp)) := by rw [Lib.cell_of_heap EE.out.1.1.1.1.1]; rfl
              have c32 : wr.cell? ⟨b3, 2, none⟩ = some (.slice F.u.1 F.u.2.2.length F.u.2.1) := by rw [Lib.cell_of_heap EE.out.1.1.1.1.1]; rfl
              have c33 : wr.cell? ⟨b3, 3, none⟩ = some (.map (some qx)) := by rw [Lib.cell_of_heap EE.out.1.1.1.1.1]; rfl
              have c90 : wr.cell? ⟨q9, 0, none⟩ = some (.string z1) := by rw [Lib.cell_of_heap E1.out.1.1.2]; rfl
              have c91 : wr.cell? ⟨q9, 1, none⟩ = some (.float .f64 r1) := by rw [Lib.cell_of_heap E1.out.1.1.2]; rfl
              have c92 : wr.cell? ⟨q9, 2, none⟩ = some (.map (some nb)) := by rw [Lib.cell_of_heap E1.out.1.1.2]; rfl
              have c20 : wr.cell? ⟨q12, 0, none⟩ = some (.string o.z) := by rw [Lib.cell_of_heap E2.out]; rfl
              have c21 : wr.cell? ⟨q12, 1, none⟩ = some (.float .f64 0) := by rw [Lib.cell_of_heap E2.out]; rfl
              have c22 : wr.cell? ⟨q12, 2, none⟩ = some (.map (some o.nb)) := by rw [Lib.cell_of_heap E2.out]; rfl
              have Hpo := hide' hpo
              rw [hpo]
              clear hpo hkz ha hOk hpb E1 E2 EE
              have hzs : Hid (relA F al ol (sl.take i) ++ (relS F al (ol.take j) (z1, r1) ++ (relO F al z1 o.z).take (k + 1)) = (relA F al ol (sl.take i) ++ (relS F al (ol.take j) (z1, r1) ++ (relO F al z1 o.z).take k)) ++ [(z1, o.z, a)]) := by show _ = _; rw [htk.out, List.append_assoc, List.append_assoc]
              generalize relA F al ol (sl.take i) ++ (relS F al (ol.take j) (z1, r1) ++ (relO F al z1 o.z).take k) = zs at *
              go_wp2_with fail
              refine C70.out.mono ?_
              rintro e w8 ⟨rfl, b8⟩
              have M8 : Hid (Below w.heap.size w w8 ∧ K2 w8 ∧ X.RowI w.heap.size to tc zs w8) := ⟨HM.out.1.trans (b8.mono HM.out.1.size), SK2.out.below HM.out.2.1 b8, HM.out.2.2.below b8⟩
              clear HM C70 b8 c30 c31 c32 c33 c90 c91 c92 c20 c21 c22 d0
              go_wp2_with (at_builtin; refine X.wpList_app1 w8 rfl _ _ rfl w.heap.size to tc zs (z1, o.z, a) _ 1 rfl M8.out.2.2 rfl hbd.out M8.out.1.size ?_; intro g9 cg w9 hr9 ht9 ho9 hl9; have G9 := hide' (And.intro hr9 ht9); clear hr9 ht9 ho9 hl9)
              exact ⟨⟨k + 1, some ⟨g9, 0, none⟩, cg, by go_num, by rw [hzs.out, List.length_append]; rfl, by omega, by rw [hzs.out]; exact ⟨M8.out.1.trans (below_own G9.out.2 (fun j q => (M8.out.2.2.lt j q).1) M8.out.1.size), SK2.out _ _ _ M8.out.2.1 G9.out.2 (kindX M8.out.2.2), G9.out.1⟩⟩, by simp [intOf]; omega⟩
            · have hkl : k = (plw F z1 o.z al).length := by omega
              have hkt' : ¬ (k : Int) < ((plw F z1 o.z al).length : Int) := by omega
              have htk : Hid ((relO F al z1 o.z).take k = relO F al z1 o.z) := by show _ = _; rw [hkl, ← hrO.out, List.take_length]
              have hst := hide' (relS_take (F := F) (al := al) (s := (z1, r1)) hoz1.out)
              have M9 : Hid (Below w.heap.size w wr ∧ K1 wr ∧ X.RowI w.heap.size to tc (relA F al ol (sl.take i) ++ relS F al (ol.take (j + 1)) (z1, r1)) wr) := by
                have q := HM.out
                rw [htk.out] at q
                have q3 : relS F al (ol.take (j + 1)) (z1, r1) = relS F al (ol.take j) (z1, r1) ++ relO F al z1 o.z := hst.out
                rw [← q3] at q
                exact ⟨q.1, (HE2.out wr q.2.1).1.1, q.2.2⟩
              have hln : Hid ((relA F al ol (sl.take i) ++ (relS F al (ol.take j) (z1, r1) ++ (relO F al z1 o.z).take k)).length = (relA F al ol (sl.take i) ++ relS F al (ol.take (j + 1)) (z1, r1)).length) := by
                have q3 : relS F al (ol.take (j + 1)) (z1, r1) = relS F al (ol.take j) (z1, r1) ++ relO F al z1 o.z := hst.out
                show _ = _
                rw [htk.out, q3]
              rw [hln.out]
              clear HM hkl
              go_wp2_with fail
              exact ⟨⟨j + 1, to, tc, by go_num, rfl, by omega, M9⟩, by simp [intOf]; omega⟩
        · have hjl : j = os.length := by omega
          have hjt' : ¬ (j : Int) < (os.length : Int) := by omega
          have hfull : Hid (ol.take j = ol) := by show _ = _; rw [hjl, hosl, List.take_length]
          have M9 : Hid (Below w.heap.size w wr ∧ K wr ∧ X.RowI w.heap.size to tc (relA F al ol (sl.take (i + 1))) wr) := by
            have q := HM.out
            rw [hfull.out] at q
            rw [hstep.out]
            exact ⟨q.1, (HE1.out wr q.2.1).1.1.1, q.2.2⟩
          rw [hfull.out, ← hstep.out]
          clear HM hjl
          go_wp2_with fail
          exact ⟨⟨i + 1, to, tc, by go_num, rfl, by omega, M9⟩, by simp [intOf]; omega⟩
    · have hil : i = sl.length := by omega
      have hlt' : ¬ (i : Int) < (sl.length : Int) := by omega
      have KK : Hid (RelIs F w (.returned (.slice to (rel F).length tc)) wr) := by
        have q := HM.out
        rw [hil, List.take_length, ← hrel.out] at q
        exact ⟨to, tc, rfl, q.2.2, q.1⟩
      have hfull : Hid (relA F al ol (sl.take i) = rel F) := by show _ = _; rw [hil, List.take_length, hrel.out]
      rw [hfull.out]
      clear HM hil
      go_wp2_with fail
      go_ret
      exact KK.out
end U
end Go.Proofs.Ytollaamlnddhcaa
