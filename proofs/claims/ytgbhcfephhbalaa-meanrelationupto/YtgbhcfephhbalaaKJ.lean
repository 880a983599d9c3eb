import Derived.Test.YtgbhcfephhbalaaKH
import Derived.Deep.RegionHeld3
set_option linter.unusedVariables false
set_option linter.unusedSimpArgs false
namespace Go.Proofs.Ytgbhcfephhbalaa
open Go.RowKit Go.Maps
namespace U
set_option maxRecDepth 100000 in
set_option maxHeartbeats 4000000 in
theorem first_any (ao : Option Addr) (ac : Nat) (ys : List ByteArray) (w : World) (h : S.Ints ao ys w) (hc : ys.length ≤ ac) (hl : ys.length ≤ 1048576) : Calls Try.prog 58 #[.slice ao ys.length ac] w fun e w' => OncIs ys w e w' := by
  have H := hide' h
  have hl64 : (ys.length : Int) ≤ 1048576 := by omega
  clear h
  go_enter Try.func58, Try.ntmps58
  go_wp2_with fail
  go_loopw [3, 4] (fun sv iv wx => ∃ (i : Nat) (bo : Option Addr) (bc : Nat), iv = .int .i64 (i : Int) ∧ sv = .slice bo (fo (ys.take i)).length bc ∧ i ≤ ys.length ∧ Hid (Below w.heap.size w wx ∧ S.RowI w.heap.size bo bc (fo (ys.take i)) wx)) (fun _ iv _ => ys.length - (intOf iv).toNat)
  case atStart => exact ⟨0, none, 0, rfl, rfl, Nat.zero_le _, Below.refl _ _, S.RowI.nil _ _⟩
  case round =>
    obtain ⟨i, bo, bc, rfl, rfl, hi, HM⟩ := hrel
    by_cases hlt : i < ys.length
    · have hlt' : (i : Int) < (ys.length : Int) := by omega
      obtain ⟨y, hy⟩ : ∃ y, ys[i]? = some y := ⟨_, List.getElem?_eq_getElem hlt⟩
      obtain ⟨ab, off, hao, hab, x0⟩ := H.out.at hy
      have d0 := (HM.out.1.cell (p := ⟨ab, off + i, none⟩) hab).trans x0
      have hft := hide' (fo_take hy)
      have hfl : Hid ((fo (ys.take i)).length < 4398046511104) := by have := fo_len ys i; show _ < _; omega
      generalize fo (ys.take i) = ms at *
      have C50 := hide' (S.in_any bo bc ms y wr HM.out.2.ints HM.out.2.cap hfl)
      subst hao
      clear x0 hab hy
      go_wp2_with fail
      refine C50.out.mono ?_
      rintro e w2 ⟨rfl, rfl⟩
      clear C50
      cases hin : isIn ms y with
      | true =>
        have hf2 : Hid (fo (ys.take (i + 1)) = ms) := by have q := hft.out; rw [if_pos hin] at q; exact q
        clear hft hin
        go_wp2_with fail
        exact ⟨⟨i + 1, bo, bc, by go_num, by rw [hf2.out], by omega, by rw [hf2.out]; exact HM⟩, by simp [intOf]; omega⟩
      | false =>
        have hf2 : Hid (fo (ys.take (i + 1)) = ms ++ [y]) := by have q := hft.out; rw [if_neg (by rw [hin]; decide)] at q; exact q
        clear hft hin
        go_wp2_with (at_builtin; refine S.wpList_app1 w2 rfl _ _ rfl w.heap.size bo bc ms y _ 1 rfl HM.out.2 rfl hfl HM.out.1.size ?_; intro g cg w8 hr8 ht8 ho8 hl8; have G8 := hide' (And.intro hr8 ht8); clear hr8 ht8 ho8 hl8)
        exact ⟨⟨i + 1, some ⟨g, 0, none⟩, cg, by go_num, by rw [hf2.out, List.length_append]; rfl, by omega, by rw [hf2.out]; exact ⟨HM.out.1.trans (below_own G8.out.2 (fun j q => (HM.out.2.lt j q).1) HM.out.1.size), G8.out.1⟩⟩, by simp [intOf]; omega⟩
    · have hk : i = ys.length := by omega
      subst hk
      have hlt' : ¬ (ys.length : Int) < (ys.length : Int) := by omega
      have KK : Hid (OncIs ys w (.returned (.slice bo (fo ys).length bc)) wr) := by have q := HM.out; rw [List.take_length] at q; exact ⟨bo, bc, rfl, q.2, q.1⟩
      rw [List.take_length]
      clear HM
      go_wp2_with fail
      go_ret
      exact KK.out
/-- what Subjects tells -/
def SubsIs (ss : List Sb) (w : World) (e : Ending) (w' : World) : Prop := ∃ bo bc, e = .returned (.slice bo ss.length bc) ∧ S.RowI w.heap.size bo bc (ss.map (·.1)) w' ∧ Below w.heap.size w w'
set_option maxRecDepth 100000 in
set_option maxHeartbeats 4000000 in
theorem subjects_any (F : Pf) (w : World) (h : F.In w) (hs : F.Small) : Calls Try.prog 59 #[.agg #[.slice F.a.1 F.a.2.2.length F.a.2.1, .slice F.s.1 F.s.2.2.length F.s.2.1, .slice F.r.1 F.r.2.2.length F.r.2.1, .slice F.o.1 F.o.2.2.length F.o.2.1, .slice F.g.1 F.g.2.2.length F.g.2.1, .slice F.m.1 F.m.2.2.length F.m.2.1, .slice F.i.1 F.i.2.2.length F.i.2.1, .slice F.p.1 F.p.2.2.length F.p.2.1, .slice F.w.1 F.w.2.2.length F.w.2.1, .slice F.u.1 F.u.2.2.length F.u.2.1, .slice F.x.1 F.x.2.2.length F.x.2.1]] w fun e w' => SubsIs F.s.2.2 w e w' := by
  have H := hide' h
  have hsc := h.s.2.1
  have hl64 : (F.s.2.2.length : Int) ≤ 1048576 := by have := hs.s; omega
  clear h hs
  go_enter Try.func59, Try.ntmps59
  go_wp2_with fail
  have hq1 := heap_alloc_new w (.cells #[.slice F.a.1 F.a.2.2.length F.a.2.1, .slice F.s.1 F.s.2.2.length F.s.2.1, .slice F.r.1 F.r.2.2.length F.r.2.1, .slice F.o.1 F.o.2.2.length F.o.2.1, .slice F.g.1 F.g.2.2.length F.g.2.1, .slice F.m.1 F.m.2.2.length F.m.2.1, .slice F.i.1 F.i.2.2.length F.i.2.1, .slice F.p.1 F.p.2.2.length F.p.2.1, .slice F.w.1 F.w.2.2.length F.w.2.1, .slice F.u.1 F.u.2.2.length F.u.2.1, .slice F.x.1 F.x.2.2.length F.x.2.1] 34)
  have hbV : Hid (Below w.heap.size w (w.alloc (.cells #[.slice F.a.1 F.a.2.2.length F.a.2.1, .slice F.s.1 F.s.2.2.length F.s.2.1, .slice F.r.1 F.r.2.2.length F.r.2.1, .slice F.o.1 F.o.2.2.length F.o.2.1, .slice F.g.1 F.g.2.2.length F.g.2.1, .slice F.m.1 F.m.2.2.length F.m.2.1, .slice F.i.1 F.i.2.2.length F.i.2.1, .slice F.p.1 F.p.2.2.length F.p.2.1, .slice F.w.1 F.w.2.2.length F.w.2.1, .slice F.u.1 F.u.2.2.length F.u.2.1, .slice F.x.1 F.x.2.2.length F.x.2.1] 34))) := (Below.refl _ _).alloc (Nat.le_refl _) _
  generalize w.alloc (.cells #[.slice F.a.1 F.a.2.2.length F.a.2.1, .slice F.s.1 F.s.2.2.length F.s.2.1, .slice F.r.1 F.r.2.2.length F.r.2.1, .slice F.o.1 F.o.2.2.length F.o.2.1, .slice F.g.1 F.g.2.2.length F.g.2.1, .slice F.m.1 F.m.2.2.length F.m.2.1, .slice F.i.1 F.i.2.2.length F.i.2.1, .slice F.p.1 F.p.2.2.length F.p.2.1, .slice F.w.1 F.w.2.2.length F.w.2.1, .slice F.u.1 F.u.2.2.length F.u.2.1, .slice F.x.1 F.x.2.2.length F.x.2.1] 34) = V at *
  obtain ⟨q1, hq⟩ : ∃ q1, q1 = w.heap.size := ⟨_, rfl⟩
  rw [← hq] at hq1
  rw [← hq]
  clear hq
  have HQ := hide' hq1
  clear hq1
  go_loopw [3, 4] (fun sv iv wx => ∃ (i : Nat) (bo : Option Addr) (bc : Nat), iv = .int .i64 (i : Int) ∧ sv = .slice bo ((F.s.2.2.map (·.1)).take i).length bc ∧ i ≤ F.s.2.2.length ∧ Hid ((Below w.heap.size w wx ∧ wx.heap[q1]? = some (.cells #[.slice F.a.1 F.a.2.2.length F.a.2.1, .slice F.s.1 F.s.2.2.length F.s.2.1, .slice F.r.1 F.r.2.2.length F.r.2.1, .slice F.o.1 F.o.2.2.length F.o.2.1, .slice F.g.1 F.g.2.2.length F.g.2.1, .slice F.m.1 F.m.2.2.length F.m.2.1, .slice F.i.1 F.i.2.2.length F.i.2.1, .slice F.p.1 F.p.2.2.length F.p.2.1, .slice F.w.1 F.w.2.2.length F.w.2.1, .slice F.u.1 F.u.2.2.length F.u.2.1, .slice F.x.1 F.x.2.2.length F.x.2.1] 34 (0, 0))) ∧ S.RowI w.heap.size bo bc ((F.s.2.2.map (·.1)).take i) wx)) (fun _ iv _ => F.s.2.2.length - (intOf iv).toNat)
  case atStart => exact ⟨0, none, 0, rfl, rfl, Nat.zero_le _, ⟨hbV.out, HQ.out⟩, S.RowI.nil _ _⟩
  case round =>
    obtain ⟨i, bo, bc, rfl, rfl, hi, HM⟩ := hrel
    clear HQ hbV
    have e1 : wr.cell? ⟨q1, 1, none⟩ = some (.slice F.s.1 F.s.2.2.length F.s.2.1) := by rw [Lib.cell_of_heap HM.out.1.2]; rfl
    by_cases hlt : i < F.s.2.2.length
    · have hlt' : (i : Int) < (F.s.2.2.length : Int) := by omega
      obtain ⟨s, hy⟩ : ∃ s, F.s.2.2[i]? = some s := ⟨_, List.getElem?_eq_getElem hlt⟩
      obtain ⟨ab, off, hao, hab, x0, _⟩ := H.out.s.1.at hy
      have d0 := (HM.out.1.1.cell (p := ⟨ab, off + i * 2, none⟩) hab).trans x0
      have htk : Hid ((F.s.2.2.map (·.1)).take (i + 1) = (F.s.2.2.map (·.1)).take i ++ [s.1]) := by show _ = _; rw [List.take_add_one, List.getElem?_map, hy]; rfl
      have hfl : Hid (((F.s.2.2.map (·.1)).take i).length < 4398046511104) := by show _ < _; rw [List.length_take, List.length_map]; omega
      generalize (F.s.2.2.map (·.1)).take i = ms at *
      rw [hao] at e1
      clear x0 hab hy hao
      go_wp2_with (at_builtin; refine S.wpList_app1 wr rfl _ _ rfl w.heap.size bo bc ms s.1 _ 1 rfl HM.out.2 rfl hfl HM.out.1.1.size ?_; intro g cg w8 hr8 ht8 ho8 hl8; have G8 := hide' (And.intro hr8 ht8); clear hr8 ht8 ho8 hl8)
      have hq8 : w8.heap[q1]? = some (.cells #[.slice F.a.1 F.a.2.2.length F.a.2.1, .slice F.s.1 F.s.2.2.length F.s.2.1, .slice F.r.1 F.r.2.2.length F.r.2.1, .slice F.o.1 F.o.2.2.length F.o.2.1, .slice F.g.1 F.g.2.2.length F.g.2.1, .slice F.m.1 F.m.2.2.length F.m.2.1, .slice F.i.1 F.i.2.2.length F.i.2.1, .slice F.p.1 F.p.2.2.length F.p.2.1, .slice F.w.1 F.w.2.2.length F.w.2.1, .slice F.u.1 F.u.2.2.length F.u.2.1, .slice F.x.1 F.x.2.2.length F.x.2.1] 34 (0, 0)) := (G8.out.2.block _ (lt_of_heap HM.out.1.2) (fun q => by obtain ⟨cur, k⟩ := kindS HM.out.2 q; exact cells_ne k HM.out.1.2 (by decide) rfl)).trans HM.out.1.2
      exact ⟨⟨i + 1, some ⟨g, 0, none⟩, cg, by go_num, by rw [htk.out, List.length_append]; rfl, by omega, by rw [htk.out]; exact ⟨⟨HM.out.1.1.trans (below_own G8.out.2 (fun j q => (HM.out.2.lt j q).1) HM.out.1.1.size), hq8⟩, G8.out.1⟩⟩, by simp [intOf]; omega⟩
    · have hk : i = F.s.2.2.length := by omega
      have hlt' : ¬ (i : Int) < (F.s.2.2.length : Int) := by omega
      have hfull : Hid ((F.s.2.2.map (·.1)).take i = F.s.2.2.map (·.1)) := by show _ = _; rw [hk, List.take_of_length_le (by rw [List.length_map]; exact Nat.le_refl _)]
      have KK : Hid (SubsIs F.s.2.2 w (.returned (.slice bo F.s.2.2.length bc)) wr) := by have q := HM.out; rw [hfull.out] at q; exact ⟨bo, bc, rfl, q.2, q.1.1⟩
      rw [hfull.out]
      clear HM hk
      go_wp2_with fail
      go_ret
      exact KK.out
/-- a rule that speaks of a subject and an object -/
def onb (ws zs : List ByteArray) (t : Nat) (R : Ru) : Bool := isIn ws R.who && isIn zs R.what && M.pass R.cd R.lv t
def OneIs (ws zs : List ByteArray) (t : Nat) (us : List Ru) (w : World) (e : Ending) (w' : World) : Prop := ∃ ro rc, e = .returned (.slice ro (us.filter (onb ws zs t)).length rc) ∧ G.RowI 27 6 w.heap.size ro rc ((us.filter (onb ws zs t)).map Ru.cells) w' ∧ Below w.heap.size w w'
set_option maxRecDepth 100000 in
set_option maxHeartbeats 4000000 in
theorem one_any (F : Pf) (wo : Option Addr) (wc : Nat) (ws : List ByteArray) (t : Nat) (zo : Option Addr) (zc : Nat) (zs : List ByteArray) (w : World) (h : F.In w) (hs : F.Small) (h1 : S.Ints wo ws w) (hw : ws.length ≤ wc) (h2 : S.Ints zo zs w) (hzc : zs.length ≤ zc) (hl : Hid (ws.length < 4398046511104 ∧ zs.length < 4398046511104)) : Calls Try.prog 60 #[.agg #[.slice F.a.1 F.a.2.2.length F.a.2.1, .slice F.s.1 F.s.2.2.length F.s.2.1, .slice F.r.1 F.r.2.2.length F.r.2.1, .slice F.o.1 F.o.2.2.length F.o.2.1, .slice F.g.1 F.g.2.2.length F.g.2.1, .slice F.m.1 F.m.2.2.length F.m.2.1, .slice F.i.1 F.i.2.2.length F.i.2.1, .slice F.p.1 F.p.2.2.length F.p.2.1, .slice F.w.1 F.w.2.2.length F.w.2.1, .slice F.u.1 F.u.2.2.length F.u.2.1, .slice F.x.1 F.x.2.2.length F.x.2.1], .slice wo ws.length wc, .float .f64 t, .slice zo zs.length zc] w fun e w' => OneIs ws zs t F.u.2.2 w e w' := by
  have H := hide' h
  have H1 := hide' h1
  have H2 := hide' h2
  have cu := h.u.2.1
  have hl64 : (F.u.2.2.length : Int) ≤ 1048576 := by have := hs.u; omega
  clear h hs h1 h2
  go_enter Try.func60, Try.ntmps60
  go_wp2_with fail
  have hq1 := heap_alloc_new w (.cells #[.slice F.a.1 F.a.2.2.length F.a.2.1, .slice F.s.1 F.s.2.2.length F.s.2.1, .slice F.r.1 F.r.2.2.length F.r.2.1, .slice F.o.1 F.o.2.2.length F.o.2.1, .slice F.g.1 F.g.2.2.length F.g.2.1, .slice F.m.1 F.m.2.2.length F.m.2.1, .slice F.i.1 F.i.2.2.length F.i.2.1, .slice F.p.1 F.p.2.2.length F.p.2.1, .slice F.w.1 F.w.2.2.length F.w.2.1, .slice F.u.1 F.u.2.2.length F.u.2.1, .slice F.x.1 F.x.2.2.length F.x.2.1] 34)
  have hbV : Hid (Below w.heap.size w (w.alloc (.cells #[.slice F.a.1 F.a.2.2.length F.a.2.1, .slice F.s.1 F.s.2.2.length F.s.2.1, .slice F.r.1 F.r.2.2.length F.r.2.1, .slice F.o.1 F.o.2.2.length F.o.2.1, .slice F.g.1 F.g.2.2.length F.g.2.1, .slice F.m.1 F.m.2.2.length F.m.2.1, .slice F.i.1 F.i.2.2.length F.i.2.1, .slice F.p.1 F.p.2.2.length F.p.2.1, .slice F.w.1 F.w.2.2.length F.w.2.1, .slice F.u.1 F.u.2.2.length F.u.2.1, .slice F.x.1 F.x.2.2.length F.x.2.1] 34))) := (Below.refl _ _).alloc (Nat.le_refl _) _
  generalize w.alloc (.cells #[.slice F.a.1 F.a.2.2.length F.a.2.1, .slice F.s.1 F.s.2.2.length F.s.2.1, .slice F.r.1 F.r.2.2.length F.r.2.1, .slice F.o.1 F.o.2.2.length F.o.2.1, .slice F.g.1 F.g.2.2.length F.g.2.1, .slice F.m.1 F.m.2.2.length F.m.2.1, .slice F.i.1 F.i.2.2.length F.i.2.1, .slice F.p.1 F.p.2.2.length F.p.2.1, .slice F.w.1 F.w.2.2.length F.w.2.1, .slice F.u.1 F.u.2.2.length F.u.2.1, .slice F.x.1 F.x.2.2.length F.x.2.1] 34) = V at *
  obtain ⟨q1, hq⟩ : ∃ q1, q1 = w.heap.size := ⟨_, rfl⟩
  rw [← hq] at hq1
  rw [← hq]
  clear hq
  have HQ := hide' hq1
  clear hq1
  go_loopw [9, 10] (fun sv iv wx => ∃ (i : Nat) (bo : Option Addr) (bc : Nat), iv = .int .i64 (i : Int) ∧ sv = .slice bo ((F.u.2.2.take i).filter (onb ws zs t)).length bc ∧ i ≤ F.u.2.2.length ∧ Hid ((Below w.heap.size w wx ∧ wx.heap[q1]? = some (.cells #[.slice F.a.1 F.a.2.2.length F.a.2.1, .slice F.s.1 F.s.2.2.length F.s.2.1, .slice F.r.1 F.r.2.2.length F.r.2.1, .slice F.o.1 F.o.2.2.length F.o.2.1, .slice F.g.1 F.g.2.2.length F.g.2.1, .slice F.m.1 F.m.2.2.length F.m.2.1, .slice F.i.1 F.i.2.2.length F.i.2.1, .slice F.p.1 F.p.2.2.length F.p.2.1, .slice F.w.1 F.w.2.2.length F.w.2.1, .slice F.u.1 F.u.2.2.length F.u.2.1, .slice F.x.1 F.x.2.2.length F.x.2.1] 34 (0, 0))) ∧ G.RowI 27 6 w.heap.size bo bc (((F.u.2.2.take i).filter (onb ws zs t)).map Ru.cells) wx)) (fun _ iv _ => F.u.2.2.length - (intOf iv).toNat)
  case atStart => exact ⟨0, none, 0, rfl, rfl, Nat.zero_le _, ⟨hbV.out, HQ.out⟩, G.RowI.nil _ _ _ _⟩
  case round =>
    obtain ⟨i, bo, bc, rfl, rfl, hi, HM⟩ := hrel
    clear HQ hbV
    have e9 : wr.cell? ⟨q1, 9, none⟩ = some (.slice F.u.1 F.u.2.2.length F.u.2.1) := by rw [Lib.cell_of_heap HM.out.1.2]; rfl
    by_cases hlt : i < F.u.2.2.length
    · have hlt' : (i : Int) < (F.u.2.2.length : Int) := by omega
      obtain ⟨R, hR⟩ : ∃ R, F.u.2.2[i]? = some R := ⟨_, List.getElem?_eq_getElem hlt⟩
      obtain ⟨ub, uoff, huo, hub, hc⟩ := H.out.u.1.1.at (show (F.u.2.2.map Ru.cells)[i]? = some R.cells by rw [List.getElem?_map, hR]; rfl)
      obtain ⟨_, ⟨bv, hbv⟩, _⟩ := H.out.u.1.2 R (List.mem_of_getElem? hR)
      have hft : Hid ((F.u.2.2.take (i + 1)).filter (onb ws zs t) = (F.u.2.2.take i).filter (onb ws zs t) ++ (if onb ws zs t R = true then [R] else [])) := by
        show _ = _
        rw [List.take_add_one, hR, List.filter_append]
        by_cases q : onb ws zs t R = true
        · rw [if_pos q]; simp [q]
        · rw [if_neg q]; simp [q]
      have hfl : Hid ((((F.u.2.2.take i).filter (onb ws zs t)).map Ru.cells).length < 1073741824) := by
        rw [List.length_map]
        have := List.length_filter_le (onb ws zs t) (F.u.2.2.take i)
        rw [List.length_take] at this
        show _ < _
        omega
      have C51 : Hid (∀ V, Below w.heap.size w V → Calls Try.prog 51 #[R.val, .slice wo ws.length wc, .float .f64 t, .slice zo zs.length zc] V fun e w' => e = .returned (.bool (onb ws zs t R)) ∧ Below V.heap.size V w') := fun V b => about_any R wo wc ws t zo zc zs V (H1.out.below b) hw (H2.out.below b) hzc hl
      generalize (F.u.2.2.take i).filter (onb ws zs t) = ms at *
      have hRc : Hid (R.cells = [.bool bv, .string R.who, .string R.what, .slice R.ro R.rl.length R.rc, .int .i8 R.cd, .float .f64 R.lv]) := by show _ = _; unfold Ru.cells; rw [hbv]
      obtain ⟨d, who, what, ro, rc, rl, cd, lv⟩ := R
      simp only at hbv
      subst hbv
      unfold Ru.val at C51
      have CE : Hid (∀ V, Below w.heap.size w V → (V.cell? ⟨ub, uoff + i * 6, none⟩ = some (.bool bv) ∧ V.cell? ⟨ub, uoff + i * 6 + 1, none⟩ = some (.string who) ∧ V.cell? ⟨ub, uoff + i * 6 + 2, none⟩ = some (.string what)) ∧ V.cell? ⟨ub, uoff + i * 6 + 3, none⟩ = some (.slice ro rl.length rc) ∧ V.cell? ⟨ub, uoff + i * 6 + 4, none⟩ = some (.int .i8 cd) ∧ V.cell? ⟨ub, uoff + i * 6 + 5, none⟩ = some (.float .f64 lv)) := fun V b => ⟨⟨(b.cell (p := ⟨ub, uoff + i * 6, none⟩) hub).trans (hc 0 _ rfl), (b.cell (p := ⟨ub, uoff + i * 6 + 1, none⟩) hub).trans (hc 1 _ rfl), (b.cell (p := ⟨ub, uoff + i * 6 + 2, none⟩) hub).trans (hc 2 _ rfl)⟩, (b.cell (p := ⟨ub, uoff + i * 6 + 3, none⟩) hub).trans (hc 3 _ rfl), (b.cell (p := ⟨ub, uoff + i * 6 + 4, none⟩) hub).trans (hc 4 _ rfl), (b.cell (p := ⟨ub, uoff + i * 6 + 5, none⟩) hub).trans (hc 5 _ rfl)⟩
      obtain ⟨⟨d0, d1, d2⟩, d3, d4, d5⟩ := CE.out wr HM.out.1.1
      have Huo := hide' huo
      rw [huo] at e9
      clear hc hub hR huo
      go_wp2_with fail
      refine (C51.out wr HM.out.1.1).mono ?_
      rintro e w2 ⟨rfl, b2⟩
      have M2 : Hid ((Below w.heap.size w w2 ∧ w2.heap[q1]? = some (.cells #[.slice F.a.1 F.a.2.2.length F.a.2.1, .slice F.s.1 F.s.2.2.length F.s.2.1, .slice F.r.1 F.r.2.2.length F.r.2.1, .slice F.o.1 F.o.2.2.length F.o.2.1, .slice F.g.1 F.g.2.2.length F.g.2.1, .slice F.m.1 F.m.2.2.length F.m.2.1, .slice F.i.1 F.i.2.2.length F.i.2.1, .slice F.p.1 F.p.2.2.length F.p.2.1, .slice F.w.1 F.w.2.2.length F.w.2.1, .slice F.u.1 F.u.2.2.length F.u.2.1, .slice F.x.1 F.x.2.2.length F.x.2.1] 34 (0, 0))) ∧ G.RowI 27 6 w.heap.size bo bc (ms.map Ru.cells) w2) := ⟨⟨HM.out.1.1.trans (b2.mono HM.out.1.1.size), (b2.block _ (lt_of_heap HM.out.1.2)).trans HM.out.1.2⟩, HM.out.2.below b2⟩
      clear HM C51 b2 d0 d1 d2 d3 d4 d5 e9
      obtain ⟨⟨d0, d1, d2⟩, d3, d4, d5⟩ := CE.out w2 M2.out.1.1
      have e9 : w2.cell? ⟨q1, 9, none⟩ = some (.slice (some ⟨ub, uoff, none⟩) F.u.2.2.length F.u.2.1) := by rw [Lib.cell_of_heap M2.out.1.2, ← Huo.out]; rfl
      clear CE
      clear wr
      obtain ⟨ov, hov⟩ : ∃ ov, onb ws zs t ⟨.bool bv, who, what, ro, rc, rl, cd, lv⟩ = ov := ⟨_, rfl⟩
      rw [hov] at hft ⊢
      clear hov
      cases ov with
      | false =>
        have hf2 : Hid ((F.u.2.2.take (i + 1)).filter (onb ws zs t) = ms) := by have q := hft.out; show _ = _; simpa using q
        clear hft
        go_wp2_with fail
        exact ⟨⟨i + 1, bo, bc, by go_num, by rw [hf2.out], by omega, by rw [hf2.out]; exact M2⟩, by simp [intOf]; omega⟩
      | true =>
        have hf2 : Hid ((F.u.2.2.take (i + 1)).filter (onb ws zs t) = ms ++ [⟨.bool bv, who, what, ro, rc, rl, cd, lv⟩]) := by have q := hft.out; show _ = _; simpa using q
        clear hft
        go_wp2_with (at_builtin; refine G.wpList_app1 w2 rfl _ _ 31 27 6 80 _ rfl Try.underlying31 G.info27 rfl (by decide) (by decide) w.heap.size bo bc (ms.map Ru.cells) (Ru.cells ⟨.bool bv, who, what, ro, rc, rl, cd, lv⟩) rfl (by simp [Ru.cells, Value.oneCell']) _ 1 (by rw [List.length_map]; rfl) M2.out.2 rfl hfl.out M2.out.1.1.size ?_; intro g cg w8 hr8 ht8 ho8 hl8; rw [List.length_map]; have G8 := hide' (And.intro hr8 ht8); clear hr8 ht8 ho8 hl8)
        have hq8 : w8.heap[q1]? = some (.cells #[.slice F.a.1 F.a.2.2.length F.a.2.1, .slice F.s.1 F.s.2.2.length F.s.2.1, .slice F.r.1 F.r.2.2.length F.r.2.1, .slice F.o.1 F.o.2.2.length F.o.2.1, .slice F.g.1 F.g.2.2.length F.g.2.1, .slice F.m.1 F.m.2.2.length F.m.2.1, .slice F.i.1 F.i.2.2.length F.i.2.1, .slice F.p.1 F.p.2.2.length F.p.2.1, .slice F.w.1 F.w.2.2.length F.w.2.1, .slice F.u.1 F.u.2.2.length F.u.2.1, .slice F.x.1 F.x.2.2.length F.x.2.1] 34 (0, 0)) := (G8.out.2.block _ (lt_of_heap M2.out.1.2) (fun q => by obtain ⟨cur, k⟩ := kindG M2.out.2 q; exact cells_ne k M2.out.1.2 (by decide) rfl)).trans M2.out.1.2
        exact ⟨⟨i + 1, some ⟨g, 0, none⟩, cg, by go_num, by rw [hf2.out, List.length_append]; rfl, by omega, by rw [hf2.out, List.map_append]; exact ⟨⟨M2.out.1.1.trans (below_own G8.out.2 (fun j q => (M2.out.2.lt j q).1) M2.out.1.1.size), hq8⟩, G8.out.1⟩⟩, by simp [intOf]; omega⟩
    · have hk : i = F.u.2.2.length := by omega
      have hlt' : ¬ (i : Int) < (F.u.2.2.length : Int) := by omega
      have hfull : Hid (F.u.2.2.take i = F.u.2.2) := by show _ = _; rw [hk, List.take_length]
      have KK : Hid (OneIs ws zs t F.u.2.2 w (.returned (.slice bo (F.u.2.2.filter (onb ws zs t)).length bc)) wr) := by have q := HM.out; rw [hfull.out] at q; exact ⟨bo, bc, rfl, q.2, q.1.1⟩
      rw [hfull.out]
      clear HM hk
      go_wp2_with fail
      go_ret
      exact KK.out
end U
end Go.Proofs.Ytgbhcfephhbalaa
set_option linter.unusedVariables false
set_option linter.unusedSimpArgs false
namespace Go.Proofs.Ytgbhcfephhbalaa
open Go.RowKit Go.Maps
namespace U
/-- a rule that speaks of an action -/
def nmd (ta : ByteArray) (R : Ru) : Bool := isIn R.rl ta || R.rl.isEmpty
def mayb (F : Pf) (rs : List Ru) (ts to ta : ByteArray) : Bool := rs.any (nmd ta) && !rs.any (fun R => nmd ta R && den R) && !exc F.x.2.2 (ts, to, ta)
theorem any_take {α : Type} {p : α → Bool} {l : List α} {i : Nat} {a : α} (h : l[i]? = some a) : (l.take (i + 1)).any p = ((l.take i).any p || p a) := by rw [List.take_add_one, h, List.any_append]; simp
theorem any_hit {α : Type} {p : α → Bool} {l : List α} {i : Nat} {a : α} (h : l[i]? = some a) (hp : p a = true) : l.any p = true := by rw [List.any_eq_true]; exact ⟨a, List.mem_of_getElem? h, hp⟩
set_option maxRecDepth 100000 in
set_option maxHeartbeats 4000000 in
theorem may_any (F : Pf) (uo : Option Addr) (uc : Nat) (rs : List Ru) (ts to ta : ByteArray) (w : World) (h : F.In w) (hs : F.Small) (hr : Rus uo rs w) (hc : rs.length ≤ uc) (hl : rs.length ≤ 1048576) : Calls Try.prog 61 #[.agg #[.slice F.a.1 F.a.2.2.length F.a.2.1, .slice F.s.1 F.s.2.2.length F.s.2.1, .slice F.r.1 F.r.2.2.length F.r.2.1, .slice F.o.1 F.o.2.2.length F.o.2.1, .slice F.g.1 F.g.2.2.length F.g.2.1, .slice F.m.1 F.m.2.2.length F.m.2.1, .slice F.i.1 F.i.2.2.length F.i.2.1, .slice F.p.1 F.p.2.2.length F.p.2.1, .slice F.w.1 F.w.2.2.length F.w.2.1, .slice F.u.1 F.u.2.2.length F.u.2.1, .slice F.x.1 F.x.2.2.length F.x.2.1], .slice uo rs.length uc, .agg #[.string ts, .string to, .string ta]] w fun e w' => e = .returned (.bool (mayb F rs ts to ta)) ∧ Below w.heap.size w w' := by
  have H := hide' h
  have Hs := hide' hs
  have HR := hide' hr
  have hl64 : (rs.length : Int) ≤ 1048576 := by omega
  clear h hs hr
  go_enter Try.func61, Try.ntmps61
  go_wp2_with fail
  have B0 := hide' (Bx.mk2 F ts to ta w)
  generalize (w.alloc (.cells #[.slice F.a.1 F.a.2.2.length F.a.2.1, .slice F.s.1 F.s.2.2.length F.s.2.1, .slice F.r.1 F.r.2.2.length F.r.2.1, .slice F.o.1 F.o.2.2.length F.o.2.1, .slice F.g.1 F.g.2.2.length F.g.2.1, .slice F.m.1 F.m.2.2.length F.m.2.1, .slice F.i.1 F.i.2.2.length F.i.2.1, .slice F.p.1 F.p.2.2.length F.p.2.1, .slice F.w.1 F.w.2.2.length F.w.2.1, .slice F.u.1 F.u.2.2.length F.u.2.1, .slice F.x.1 F.x.2.2.length F.x.2.1] 34)).alloc (.cells #[.string ts, .string to, .string ta] 36) = V at *
  obtain ⟨q3, hq3⟩ : ∃ q3, q3 = w.heap.size := ⟨_, rfl⟩
  generalize w.heap.size + 1 = q5 at *
  have B1 : Hid (Bx F ts to ta q3 q5 w V) := by rw [hq3]; exact B0
  clear B0
  rw [← hq3]
  clear hq3
  go_loopw [7, 8] (fun yv iv wx => ∃ i : Nat, iv = .int .i64 (i : Int) ∧ i ≤ rs.length ∧ yv = .bool ((rs.take i).any (nmd ta)) ∧ Hid ((rs.take i).any (fun R => nmd ta R && den R) = false) ∧ Hid (Bx F ts to ta q3 q5 w wx)) (fun _ iv _ => rs.length - (intOf iv).toNat)
  case atStart => exact ⟨0, rfl, Nat.zero_le _, rfl, rfl, B1⟩
  case round =>
    obtain ⟨i, rfl, hi, rfl, HD, UU⟩ := hrel
    clear B1
    by_cases hlt : i < rs.length
    · have hlt' : (i : Int) < (rs.length : Int) := by omega
      obtain ⟨R, hR⟩ : ∃ R, rs[i]? = some R := ⟨_, List.getElem?_eq_getElem hlt⟩
      obtain ⟨ub, uoff, huo, hub, hcc⟩ := HR.out.1.at (show (rs.map Ru.cells)[i]? = some R.cells by rw [List.getElem?_map, hR]; rfl)
      obtain ⟨hRo, ⟨bv, hbv⟩, hRl⟩ := HR.out.2 R (List.mem_of_getElem? hR)
      have ta1 := hide' (any_take (p := nmd ta) hR)
      have ta2 := hide' (any_take (p := fun R => nmd ta R && den R) hR)
      have hit : Hid (nmd ta R = true → den R = true → mayb F rs ts to ta = false) := fun q1 q2 => by
        unfold mayb
        rw [any_hit (p := fun R => nmd ta R && den R) hR (by rw [q1, q2]; rfl)]
        cases rs.any (nmd ta) <;> rfl
      have HRo := hide' hRo
      have hrl64 : (R.rl.length : Int) ≤ 1048576 := by omega
      have nm1 : Hid (nmd ta R = (isIn R.rl ta || R.rl.isEmpty)) := rfl
      have dn1 : Hid (den R = bv) := by show _ = _; unfold den; rw [hbv]
      obtain ⟨d, who, what, ro, rc, rl, cd, lv⟩ := R
      simp only at hbv
      subst hbv
      have d3 := (UU.out.b.cell (p := ⟨ub, uoff + i * 6 + 3, none⟩) hub).trans (hcc 3 _ rfl)
      have d0 := (UU.out.b.cell (p := ⟨ub, uoff + i * 6, none⟩) hub).trans (hcc 0 _ rfl)
      have t2 : wr.cell? ⟨q5, 2, none⟩ = some (.string ta) := by rw [Lib.cell_of_heap UU.out.h3]; rfl
      have C50 := hide' (S.in_any ro rc rl ta wr.drew ((HRo.out.below (fun q => q.below UU.out.b)).1) HRo.out.2.1 (by show _ < _; simp only at hrl64; omega))
      simp only at hrl64 nm1 C50 d3 d0
      have Huo := hide' huo
      rw [huo]
      clear huo hR hcc hub hRo hRl HRo
      obtain ⟨iv, hiv⟩ : ∃ iv, iv = isIn rl ta := ⟨_, rfl⟩
      rw [← hiv] at C50 nm1
      clear hiv
      generalize (rs.take i).any (nmd ta) = va at *
      go_wp2_with fail
      refine wp_region_held_drew (S := fun W' => W'.cell? ⟨ub, uoff + i * 6 + 3, none⟩ = some (.slice ro rl.length rc) ∧ W'.cell? ⟨q5, 2, none⟩ = some (.string ta)) (by kernel_rfl) ⟨d3, t2⟩ (fun hHeld => ?_)
      refine wpAnyH_take (i := 0) (oi := { dst := some 17, op := Op.move (Operand.tmp 1), type := 31, pos := "ref.go:138", after := #[], guard := none }) (v := .slice (some ⟨ub, uoff, none⟩) rs.length uc) rfl (by kernel_rfl) (by kernel_rfl) (by kernel_rfl) (fun _ _ _ h => h) (Or.inl ⟨by kernel_rfl, fun w hSw => ?_⟩) (by assumption) ?_
      · clear hSw; go_simp
      (try simp only [Act.put, List.setIfInBounds_toArray, List.set_cons_zero, List.set_cons_succ])
      refine wpAnyH_take (i := 1) (oi := { dst := some 18, op := Op.move (Operand.tmp 8), type := 3, pos := "ref.go:138", after := #[], guard := none }) (v := .int .i64 (i : Int)) rfl (by kernel_rfl) (by kernel_rfl) (by kernel_rfl) (fun _ _ _ h => h) (Or.inl ⟨by kernel_rfl, fun w hSw => ?_⟩) (by assumption) ?_
      · clear hSw; go_simp
      (try simp only [Act.put, List.setIfInBounds_toArray, List.set_cons_zero, List.set_cons_succ])
      refine wpAnyH_take (i := 2) (oi := { dst := some 19, op := Op.indexAddr 31 (Operand.tmp 17) (Operand.tmp 18), type := 0, pos := "ref.go:138", after := #[{ on := 0, ground := Ground.data }, { on := 1, ground := Ground.data }], guard := none }) (v := .pointer (some ⟨ub, uoff + i * 6, none⟩)) rfl (by kernel_rfl) (by kernel_rfl) (by kernel_rfl) (fun _ _ _ h => h) (Or.inl ⟨by kernel_rfl, fun w hSw => ?_⟩) (by assumption) ?_
      · clear hSw; go_simp
      (try simp only [Act.put, List.setIfInBounds_toArray, List.set_cons_zero, List.set_cons_succ])
      refine wpAnyH_take (i := 3) (oi := { dst := some 20, op := Op.fieldAddr 27 (Operand.tmp 19) 3, type := 0, pos := "ref.go:138", after := #[{ on := 2, ground := Ground.data }], guard := none }) (v := .pointer (some ⟨ub, uoff + i * 6 + 3, none⟩)) rfl (by kernel_rfl) (by kernel_rfl) (by kernel_rfl) (fun _ _ _ h => h) (Or.inl ⟨by kernel_rfl, fun w hSw => ?_⟩) (by assumption) ?_
      · clear hSw; go_simp
      (try simp only [Act.put, List.setIfInBounds_toArray, List.set_cons_zero, List.set_cons_succ])
      refine wpAnyH_take (i := 4) (oi := { dst := some 21, op := Op.load 25 (Operand.tmp 20), type := 25, pos := "ref.go:138", after := #[{ on := 3, ground := Ground.data }], guard := none }) (v := .slice ro rl.length rc) rfl (by kernel_rfl) (by kernel_rfl) (by kernel_rfl) (fun _ _ _ h => h) (Or.inl ⟨by kernel_rfl, fun w hSw => ?_⟩) (by assumption) ?_
      · have h0 := hSw.1; clear hSw; go_simp
      (try simp only [Act.put, List.setIfInBounds_toArray, List.set_cons_zero, List.set_cons_succ])
      refine wpAnyH_take (i := 5) (oi := { dst := some 22, op := Op.fieldAddr 36 (Operand.tmp 5) 2, type := 0, pos := "ref.go:138", after := #[], guard := none }) (v := .pointer (some ⟨q5, 2, none⟩)) rfl (by kernel_rfl) (by kernel_rfl) (by kernel_rfl) (fun _ _ _ h => h) (Or.inl ⟨by kernel_rfl, fun w hSw => ?_⟩) (by assumption) ?_
      · clear hSw; go_simp
      (try simp only [Act.put, List.setIfInBounds_toArray, List.set_cons_zero, List.set_cons_succ])
      refine wpAnyH_take (i := 6) (oi := { dst := some 23, op := Op.load 9 (Operand.tmp 22), type := 9, pos := "ref.go:138", after := #[{ on := 5, ground := Ground.data }], guard := none }) (v := .string ta) rfl (by kernel_rfl) (by kernel_rfl) (by kernel_rfl) (fun _ _ _ h => h) (Or.inl ⟨by kernel_rfl, fun w hSw => ?_⟩) (by assumption) ?_
      · have h0 := hSw.2; clear hSw; go_simp
      (try simp only [Act.put, List.setIfInBounds_toArray, List.set_cons_zero, List.set_cons_succ])
      refine wpAnyH_ready (rs := [7]) (by kernel_rfl) (by simp) ?_
      refine AllReadyH.cons (o := { dst := some 24, op := Op.call { callee := Callee.value (Operand.func 50), args := #[Operand.tmp 21, Operand.tmp 23], argTypes := #[25, 9] }, type := 4, pos := "ref.go:138", after := #[{ on := 4, ground := Ground.data }, { on := 6, ground := Ground.data }], guard := none }) rfl (fun K hK => ?_) AllReadyH.nil
      go_simp
      refine C50.out.mono ?_
      rintro e x1 ⟨rfl, rfl⟩
      (try dsimp only)
      refine hK.out _ _ ⟨d3, t2⟩ (fun hHeld => ?_)
      clear hK K
      (try simp only [Act.put, List.setIfInBounds_toArray, List.set_cons_zero, List.set_cons_succ])
      refine wpAnyH_take (i := 8) (oi := { dst := some 9, op := Op.assign (Operand.tmp 24), type := 4, pos := "ref.go:138", after := #[{ on := 7, ground := Ground.data }, { on := 7, ground := Ground.chain }, { on := 0, ground := Ground.phase }, { on := 1, ground := Ground.phase }, { on := 2, ground := Ground.phase }, { on := 3, ground := Ground.phase }, { on := 4, ground := Ground.phase }, { on := 5, ground := Ground.phase }, { on := 6, ground := Ground.phase }, { on := 7, ground := Ground.phase }], guard := none }) (v := .bool iv) rfl (by kernel_rfl) (by kernel_rfl) (by kernel_rfl) (fun _ _ _ h => h) (Or.inl ⟨by kernel_rfl, fun w hSw => ?_⟩) (by assumption) ?_
      · clear hSw; go_simp
      (try simp only [Act.put, List.setIfInBounds_toArray, List.set_cons_zero, List.set_cons_succ])
      refine wpAnyH_done (by kernel_rfl) ?_ _
      clear hHeld
      have U1 : Hid (Bx F ts to ta q3 q5 w wr.drew) := UU.out.below ⟨rfl, rfl, rfl, Nat.le_refl _, fun _ _ => rfl⟩
      have e0 : wr.drew.cell? ⟨ub, uoff + i * 6, none⟩ = some (.bool bv) := d0
      have e3 : wr.drew.cell? ⟨ub, uoff + i * 6 + 3, none⟩ = some (.slice ro rl.length rc) := d3
      clear d0 d3 t2 UU
      generalize wr.drew = W at *
      clear wr
      cases iv with
      | true =>
        have nmt : Hid (nmd ta ⟨.bool bv, who, what, ro, rc, rl, cd, lv⟩ = true) := by show _ = _; rw [nm1.out]; rfl
        cases bv with
        | true =>
          have hmf := hide' (hit.out nmt.out dn1.out)
          clear hit ta1 ta2 nm1 dn1
          go_wp2_with fail
          go_ret
          exact ⟨by rw [hmf.out]; rfl, U1.out.b⟩
        | false =>
          have h1 : Hid ((rs.take (i + 1)).any (nmd ta) = true) := by show _ = _; rw [ta1.out, nmt.out]; simp
          have h2 : Hid ((rs.take (i + 1)).any (fun R => nmd ta R && den R) = false) := by show _ = _; rw [ta2.out, HD.out, dn1.out]; simp
          clear hit ta1 ta2 nm1 dn1
          go_wp2_with fail
          exact ⟨⟨i + 1, by go_num, by omega, by rw [h1.out], h2, U1⟩, by simp [intOf]; omega⟩
      | false =>
        by_cases hrl : rl = []
        · subst hrl
          have nmt : Hid (nmd ta ⟨.bool bv, who, what, ro, rc, [], cd, lv⟩ = true) := by show _ = _; rw [nm1.out]; rfl
          cases bv with
          | true =>
            have hmf := hide' (hit.out nmt.out dn1.out)
            clear hit ta1 ta2 nm1 dn1
            go_wp2_with fail
            go_ret
            exact ⟨by rw [hmf.out]; rfl, U1.out.b⟩
          | false =>
            have h1 : Hid ((rs.take (i + 1)).any (nmd ta) = true) := by show _ = _; rw [ta1.out, nmt.out]; simp
            have h2 : Hid ((rs.take (i + 1)).any (fun R => nmd ta R && den R) = false) := by show _ = _; rw [ta2.out, HD.out, dn1.out]; simp
            clear hit ta1 ta2 nm1 dn1
            go_wp2_with fail
            exact ⟨⟨i + 1, by go_num, by omega, by rw [h1.out], h2, U1⟩, by simp [intOf]; omega⟩
        · have hr0 : ¬ ((rl.length : Int) = 0) := by have : rl.length ≠ 0 := fun e => hrl (List.eq_nil_of_length_eq_zero e); omega
          have hem : rl.isEmpty = false := by cases rl with | nil => exact absurd rfl hrl | cons b r => rfl
          have h1 : Hid ((rs.take (i + 1)).any (nmd ta) = va) := by show _ = _; rw [ta1.out, nm1.out, hem]; simp
          have h2 : Hid ((rs.take (i + 1)).any (fun R => nmd ta R && den R) = false) := by show _ = _; rw [ta2.out, HD.out, nm1.out, hem]; simp
          clear hit ta1 ta2 nm1 dn1 hem
          go_wp2_with fail
          exact ⟨⟨i + 1, by go_num, by omega, by rw [h1.out], h2, U1⟩, by simp [intOf]; omega⟩
    · have hk : i = rs.length := by omega
      have hlt' : ¬ (i : Int) < (rs.length : Int) := by omega
      have hfull : Hid (rs.take i = rs) := by show _ = _; rw [hk, List.take_length]
      rw [hfull.out] at HD ⊢
      have CX := hide' (excepted_any F ts to ta wr (H.out.below UU.out.b) Hs.out)
      have AL : Hid (mayb F rs ts to ta = (rs.any (nmd ta) && !exc F.x.2.2 (ts, to, ta))) := by show _ = _; unfold mayb; rw [HD.out]; simp
      generalize rs.any (nmd ta) = va at *
      generalize exc F.x.2.2 (ts, to, ta) = vx at *
      have m0 : wr.cell? ⟨q3, 0, none⟩ = some (.slice F.a.1 F.a.2.2.length F.a.2.1) := by rw [Lib.cell_of_heap UU.out.h2]; rfl
      have m1 : wr.cell? ⟨q3, 1, none⟩ = some (.slice F.s.1 F.s.2.2.length F.s.2.1) := by rw [Lib.cell_of_heap UU.out.h2]; rfl
      have m2 : wr.cell? ⟨q3, 2, none⟩ = some (.slice F.r.1 F.r.2.2.length F.r.2.1) := by rw [Lib.cell_of_heap UU.out.h2]; rfl
      have m3 : wr.cell? ⟨q3, 3, none⟩ = some (.slice F.o.1 F.o.2.2.length F.o.2.1) := by rw [Lib.cell_of_heap UU.out.h2]; rfl
      have m4 : wr.cell? ⟨q3, 4, none⟩ = some (.slice F.g.1 F.g.2.2.length F.g.2.1) := by rw [Lib.cell_of_heap UU.out.h2]; rfl
      have m5 : wr.cell? ⟨q3, 5, none⟩ = some (.slice F.m.1 F.m.2.2.length F.m.2.1) := by rw [Lib.cell_of_heap UU.out.h2]; rfl
      have m6 : wr.cell? ⟨q3, 6, none⟩ = some (.slice F.i.1 F.i.2.2.length F.i.2.1) := by rw [Lib.cell_of_heap UU.out.h2]; rfl
      have m7 : wr.cell? ⟨q3, 7, none⟩ = some (.slice F.p.1 F.p.2.2.length F.p.2.1) := by rw [Lib.cell_of_heap UU.out.h2]; rfl
      have m8 : wr.cell? ⟨q3, 8, none⟩ = some (.slice F.w.1 F.w.2.2.length F.w.2.1) := by rw [Lib.cell_of_heap UU.out.h2]; rfl
      have m9 : wr.cell? ⟨q3, 9, none⟩ = some (.slice F.u.1 F.u.2.2.length F.u.2.1) := by rw [Lib.cell_of_heap UU.out.h2]; rfl
      have m10 : wr.cell? ⟨q3, 10, none⟩ = some (.slice F.x.1 F.x.2.2.length F.x.2.1) := by rw [Lib.cell_of_heap UU.out.h2]; rfl
      have s0 : wr.cell? ⟨q5, 0, none⟩ = some (.string ts) := by rw [Lib.cell_of_heap UU.out.h3]; rfl
      have s1 : wr.cell? ⟨q5, 1, none⟩ = some (.string to) := by rw [Lib.cell_of_heap UU.out.h3]; rfl
      have s2 : wr.cell? ⟨q5, 2, none⟩ = some (.string ta) := by rw [Lib.cell_of_heap UU.out.h3]; rfl
      clear hk
      go_wp2_with fail
      refine CX.out.mono ?_
      rintro e w1 ⟨rfl, t1⟩
      have bf := hide' (UU.out.b.trans (t1.mono UU.out.b.size))
      clear t1 m0 m1 m2 m3 m4 m5 m6 m7 m8 m9 m10 s0 s1 s2
      cases va <;> cases vx
      all_goals go_wp2_with fail
      all_goals go_ret
      all_goals exact ⟨by rw [AL.out]; rfl, bf.out⟩
end U
end Go.Proofs.Ytgbhcfephhbalaa
set_option linter.unusedVariables false
set_option linter.unusedSimpArgs false
namespace Go.Proofs.Ytgbhcfephhbalaa
open Go.RowKit Go.Maps
namespace U
theorem fo_fos_take (ss : List Sb) (n : Nat) : fo ((ss.map (·.1)).take n) = (fos (ss.take n)).map (·.1) := by
  induction n with
  | zero => simp [fo, fos]
  | succ n ih =>
    cases h : ss[n]? with
    | none =>
      have e1 : ss.take (n + 1) = ss.take n := by rw [List.take_add_one, h]; simp
      have e2 : (ss.map (·.1)).take (n + 1) = (ss.map (·.1)).take n := by rw [List.take_add_one, List.getElem?_map, h]; simp
      rw [e1, e2]; exact ih
    | some s =>
      rw [fo_take (show (ss.map (·.1))[n]? = some s.1 by rw [List.getElem?_map, h]; rfl), fos_take h, ih]
      by_cases q : isIn ((fos (ss.take n)).map (·.1)) s.1 = true
      · rw [if_pos q, if_pos q]
      · rw [if_neg q, if_neg q, List.map_append]; rfl
theorem fo_fos (ss : List Sb) : fo (ss.map (·.1)) = (fos ss).map (·.1) := by
  have := fo_fos_take ss ss.length
  rw [List.take_length, List.take_of_length_le (by rw [List.length_map]; exact Nat.le_refl _)] at this
  exact this
theorem relO_eq_take (F : Pf) (al : List ByteArray) (s o : ByteArray) (n : Nat) (h : n ≤ al.length) : ((List.range n).filter (fun k => alw F s o (al.getD k ⟨#[]⟩))).map (fun k => (s, o, al.getD k ⟨#[]⟩)) = ((al.take n).filter (alw F s o)).map (fun a => (s, o, a)) := by
  induction n with
  | zero => simp
  | succ n ih =>
    obtain ⟨a, ha⟩ : ∃ a, al[n]? = some a := ⟨_, List.getElem?_eq_getElem (by omega)⟩
    have hg : al.getD n ⟨#[]⟩ = a := by simp [List.getD, ha]
    rw [List.range_succ, List.filter_append, List.map_append, ih (by omega), List.take_add_one, ha, List.filter_append, List.map_append]
    congr 1
    by_cases q : alw F s o a = true
    · rw [List.filter_cons_of_pos (by rw [hg]; exact q)]
      simp [q, List.getD, ha]
    · rw [List.filter_cons_of_neg (by rw [hg]; exact q)]
      simp [q]
theorem relO_eq (F : Pf) (al : List ByteArray) (s o : ByteArray) : relO F al s o = (al.filter (alw F s o)).map (fun a => (s, o, a)) := by
  have e := relO_eq_take F al s o al.length (Nat.le_refl _)
  rw [List.take_length] at e
  rw [← e]
  unfold relO plw
  rw [List.map_map]
  rfl
theorem mayb_alw {F : Pf} {ws zs : List ByteArray} {t : Nat} {s o a : ByteArray} (h : ∀ R, onb ws zs t R = (sbj F.po s R && obj F.po o R.what)) (ha : isIn F.po.al a = true) : mayb F (F.u.2.2.filter (onb ws zs t)) s o a = alw F s o a := by
  have hm : ∀ R, (onb ws zs t R && nmd a R) = mtc F.po R s o a := fun R => by
    rw [h R]
    unfold nmd mtc sbj obj
    rw [ha]
    cases tru F.po.sl s <;> cases isIn R.rl a <;> cases R.rl.isEmpty <;> simp
  have e1 : (F.u.2.2.filter (onb ws zs t)).any (nmd a) = F.u.2.2.any (fun R => mtc F.po R s o a) := by
    rw [List.any_filter]
    congr 1
    funext R
    exact hm R
  have e2 : (F.u.2.2.filter (onb ws zs t)).any (fun R => nmd a R && den R) = rany F s o a true F.u.2.2 := by
    rw [List.any_filter]
    unfold rany
    congr 1
    funext R
    unfold rsay
    rw [← hm R]
    cases onb ws zs t R <;> cases nmd a R <;> cases den R <;> rfl
  have e3 : F.u.2.2.any (fun R => mtc F.po R s o a) = (rany F s o a false F.u.2.2 || rany F s o a true F.u.2.2) := by
    unfold rany
    generalize F.u.2.2 = us
    induction us with
    | nil => rfl
    | cons R us ih =>
      rw [List.any_cons, List.any_cons, List.any_cons, ih]
      unfold rsay
      cases mtc F.po R s o a <;> cases den R <;> cases us.any (fun R => mtc F.po R s o a && (den R == false)) <;> cases us.any (fun R => mtc F.po R s o a && (den R == true)) <;> rfl
  unfold mayb alw
  rw [e1, e2, e3]
  cases rany F s o a false F.u.2.2 <;> cases rany F s o a true F.u.2.2 <;> rfl
theorem none_alw {F : Pf} {ws zs : List ByteArray} {t : Nat} {s o : ByteArray} {al : List ByteArray} (h : ∀ R, onb ws zs t R = (sbj F.po s R && obj F.po o R.what)) (ha : ∀ a ∈ al, isIn F.po.al a = true) (hn : F.u.2.2.filter (onb ws zs t) = []) : al.filter (alw F s o) = [] := by
  rw [List.filter_eq_nil_iff]
  intro a hx
  rw [← mayb_alw h (ha a hx), hn]
  simp [mayb]
end U
end Go.Proofs.Ytgbhcfephhbalaa
set_option linter.unusedVariables false
set_option linter.unusedSimpArgs false
namespace Go.Proofs.Ytgbhcfephhbalaa
open Go.RowKit Go.Maps
namespace U
theorem grownG {e B : Nat} {ao : Option Addr} {cap n : Nat} {zs : List (List Value)} {k : Value} {w0 w1 : World} {ob : Obj} {g cap' : Nat} (h : G.RowI e 1 B ao cap zs w0) (hn : zs.length = n) (hrow1 : w1.ownsRow B e 1 (.slice (some ⟨g, 0, none⟩) (n + 1) cap') (n + 1) (zs.flatten ++ [k])) (hgrow : (w0.alloc ob).grownBy w1 (Value.slice ao n cap).ownBlock) :
    G.RowI e 1 B (some ⟨g, 0, none⟩) cap' (zs ++ [[k]]) w1 ∧ Turn (G.At ao) w0 w1 := by
  subst hn
  refine ⟨by unfold G.RowI; rw [List.length_append, List.flatten_append]; simpa using hrow1, ((Turn.refl _ w0).alloc _).grown hgrow (fun j hj _ => by
    cases ao with
    | none => cases hj
    | some ad => exact ⟨ad, rfl, by simpa [Value.ownBlock] using hj.symm⟩)⟩
theorem rel_bnd2 {F : Pf} {al ol : List ByteArray} {sl : List Sb} {s : Sb} {p : ByteArray → Bool} {mk : ByteArray → X.K3} {i j k M : Nat} (hi : i < sl.length) (hj : j < ol.length) (hk : k < al.length) (hM : sl.length * (ol.length * al.length) ≤ M) : (relA F al ol (sl.take i) ++ (relS F al (ol.take j) s ++ ((al.take k).filter p).map mk)).length < M := by
  have h1 := relA_len F al ol (sl.take i)
  have h2 := relS_len F al (ol.take j) s
  have h3 := List.length_filter_le p (al.take k)
  rw [List.length_take] at h1 h2 h3
  rw [List.length_append, List.length_append, List.length_map]
  have e1 : min i sl.length = i := by omega
  have e2 : min j ol.length = j := by omega
  rw [e1] at h1
  rw [e2] at h2
  have a1 : (j + 1) * al.length ≤ ol.length * al.length := Nat.mul_le_mul_right _ hj
  have a2 : (i + 1) * (ol.length * al.length) ≤ sl.length * (ol.length * al.length) := Nat.mul_le_mul_right _ hi
  rw [Nat.succ_mul] at a1 a2
  omega
/-- what is reached from an object, as it lies -/
structure Wl where
  z : ByteArray
  go : Option Addr
  gc : Nat
  ms : List ByteArray
def Wl.cells (x : Wl) : List Value := [.slice x.go x.ms.length x.gc]
def Wls (B : Nat) (wo : Option Addr) (wc : Nat) (qs : List K2) (ls : List Wl) (w : World) : Prop := G.RowI 25 1 B wo wc (ls.map Wl.cells) w ∧ ∀ x ∈ ls, S.RowI B x.go x.gc x.ms w ∧ (∀ y, y ∈ x.ms ↔ y ∈ N.clo qs x.z) ∧ x.ms.length ≤ 1048577
theorem Wls.below {B : Nat} {wo : Option Addr} {wc : Nat} {qs : List K2} {ls : List Wl} {w w' : World} (h : Wls B wo wc qs ls w) (t : Below w.heap.size w w') : Wls B wo wc qs ls w' := ⟨h.1.below t, fun x hx => ⟨(h.2 x hx).1.below t, (h.2 x hx).2⟩⟩
theorem Wls.snoc {B : Nat} {wo : Option Addr} {wc : Nat} {qs : List K2} {ls : List Wl} {w w' : World} (h : Wls B wo wc qs ls w) {x : Wl} (hx : S.RowI B x.go x.gc x.ms w ∧ (∀ y, y ∈ x.ms ↔ y ∈ N.clo qs x.z) ∧ x.ms.length ≤ 1048577) {g c : Nat} (hg : G.RowI 25 1 B (some ⟨g, 0, none⟩) c (ls.map Wl.cells ++ [x.cells]) w') (t : Turn (G.At wo) w w') : Wls B (some ⟨g, 0, none⟩) c qs (ls ++ [x]) w' := by
  refine ⟨by rw [List.map_append]; exact hg, fun y hy => ?_⟩
  have hy' : S.RowI B y.go y.gc y.ms w ∧ (∀ u, u ∈ y.ms ↔ u ∈ N.clo qs y.z) ∧ y.ms.length ≤ 1048577 := by
    rcases List.mem_append.1 hy with q | q
    · exact h.2 y q
    · rw [List.mem_singleton] at q; rw [q]; exact hx
  exact ⟨hy'.1.turn t (fun j q1 q2 => by
    obtain ⟨c1, k1⟩ := kindS hy'.1 q1
    obtain ⟨c2, k2⟩ := kindG h.1 q2
    exact cells_ne k1 k2 (by decide) rfl), hy'.2⟩
theorem st_wls {B : Nat} {wo : Option Addr} {wc : Nat} {qs : List K2} {ls : List Wl} : St36 (Wls B wo wc qs ls) := fun V V' T q t s => ⟨st_grow (by decide) V V' T q.1 t s, fun x hx => ⟨st_srow V V' T (q.2 x hx).1 t s, (q.2 x hx).2⟩⟩
set_option maxRecDepth 100000 in
set_option maxHeartbeats 8000000 in
theorem rrelation_any (F : Pf) (w : World) (h : F.In w) (hs : F.Small) (hps : F.po.Small) (hv : (fos F.s.2.2).length * ((fo F.o.2.2).length * (fo F.a.2.2).length) ≤ 1099511627776) : Calls Try.prog 27 #[.agg #[.slice F.a.1 F.a.2.2.length F.a.2.1, .slice F.s.1 F.s.2.2.length F.s.2.1, .slice F.r.1 F.r.2.2.length F.r.2.1, .slice F.o.1 F.o.2.2.length F.o.2.1, .slice F.g.1 F.g.2.2.length F.g.2.1, .slice F.m.1 F.m.2.2.length F.m.2.1, .slice F.i.1 F.i.2.2.length F.i.2.1, .slice F.p.1 F.p.2.2.length F.p.2.1, .slice F.w.1 F.w.2.2.length F.w.2.1, .slice F.u.1 F.u.2.2.length F.u.2.1, .slice F.x.1 F.x.2.2.length F.x.2.1]] w fun e w' => RelIs F w e w' := by
  have hPv : F.po.val = .agg #[.slice F.a.1 F.a.2.2.length F.a.2.1, .slice F.s.1 F.s.2.2.length F.s.2.1, .slice F.r.1 F.r.2.2.length F.r.2.1, .slice F.o.1 F.o.2.2.length F.o.2.1, .slice F.g.1 F.g.2.2.length F.g.2.1, .slice F.m.1 F.m.2.2.length F.m.2.1, .slice F.i.1 F.i.2.2.length F.i.2.1, .slice F.p.1 F.p.2.2.length F.p.2.1, .slice F.w.1 F.w.2.2.length F.w.2.1, .slice F.u.1 F.u.2.2.length F.u.2.1, .slice F.x.1 F.x.2.2.length F.x.2.1] := rfl
  have C59 : Hid (∀ V, Below w.heap.size w V → Calls Try.prog 59 #[.agg #[.slice F.a.1 F.a.2.2.length F.a.2.1, .slice F.s.1 F.s.2.2.length F.s.2.1, .slice F.r.1 F.r.2.2.length F.r.2.1, .slice F.o.1 F.o.2.2.length F.o.2.1, .slice F.g.1 F.g.2.2.length F.g.2.1, .slice F.m.1 F.m.2.2.length F.m.2.1, .slice F.i.1 F.i.2.2.length F.i.2.1, .slice F.p.1 F.p.2.2.length F.p.2.1, .slice F.w.1 F.w.2.2.length F.w.2.1, .slice F.u.1 F.u.2.2.length F.u.2.1, .slice F.x.1 F.x.2.2.length F.x.2.1]] V fun e w' => SubsIs F.s.2.2 V e w') := fun V b => subjects_any F V (h.below b) hs
  have C52p : Hid (∀ V z, Below w.heap.size w V → Calls Try.prog 52 #[.slice F.p.1 F.p.2.2.length F.p.2.1, .slice F.w.1 F.w.2.2.length F.w.2.1, .string z] V fun e w' => N.UpIs (F.p.2.2 ++ F.w.2.2) z V e w') := fun V z b => N.rups_any F.p.1 F.w.1 F.p.2.1 F.w.2.1 F.p.2.2 F.w.2.2 z V (h.below b).p.1 (h.below b).w.1 h.p.2.1 h.w.2.1 hps.pw
  have C58o : Hid (∀ V, Below w.heap.size w V → Calls Try.prog 58 #[.slice F.o.1 F.o.2.2.length F.o.2.1] V fun e w' => OncIs F.o.2.2 V e w') := fun V b => first_any F.o.1 F.o.2.1 F.o.2.2 V (h.below b).o.1 h.o.2.1 hs.o
  have C58a : Hid (∀ V, Below w.heap.size w V → Calls Try.prog 58 #[.slice F.a.1 F.a.2.2.length F.a.2.1] V fun e w' => OncIs F.a.2.2 V e w') := fun V b => first_any F.a.1 F.a.2.1 F.a.2.2 V (h.below b).a.1 h.a.2.1 hs.a
  have hpq : Hid ((F.p.2.2 ++ F.w.2.2).length ≤ 1048576) := by show _ ≤ _; rw [List.length_append]; exact hps.pw
  have H := hide' h
  have Hs := hide' hs
  have Hp := hide' hps
  have HV := hide' hv
  have HP := hide' hPv
  have hol : Hid ((fo F.o.2.2).length ≤ 1048576) := by have q := fo_len F.o.2.2 F.o.2.2.length; rw [List.take_length] at q; have := hs.o; show _ ≤ _; omega
  have hal : Hid ((fo F.a.2.2).length ≤ 1048576) := by have q := fo_len F.a.2.2 F.a.2.2.length; rw [List.take_length] at q; have := hs.a; show _ ≤ _; omega
  have hsl : Hid ((fos F.s.2.2).length ≤ 1048576) := by have q := fos_len F.s.2.2 F.s.2.2.length; rw [List.take_length] at q; have := hs.s; show _ ≤ _; omega
  have hss : Hid ((F.s.2.2.map (·.1)).length ≤ 1048576) := by rw [List.length_map]; exact hs.s
  have hml : (F.s.2.2.map (·.1)).length = F.s.2.2.length := by rw [List.length_map]
  have Hml := hide' hml
  obtain ⟨i0, hi, hz0, hz1, hz2⟩ := info_parts G.info25
  clear h hs hps hv hPv hml
  go_enter Try.func27, Try.ntmps27
  have hq1 := heap_alloc_new w (.cells #[.slice F.a.1 F.a.2.2.length F.a.2.1, .slice F.s.1 F.s.2.2.length F.s.2.1, .slice F.r.1 F.r.2.2.length F.r.2.1, .slice F.o.1 F.o.2.2.length F.o.2.1, .slice F.g.1 F.g.2.2.length F.g.2.1, .slice F.m.1 F.m.2.2.length F.m.2.1, .slice F.i.1 F.i.2.2.length F.i.2.1, .slice F.p.1 F.p.2.2.length F.p.2.1, .slice F.w.1 F.w.2.2.length F.w.2.1, .slice F.u.1 F.u.2.2.length F.u.2.1, .slice F.x.1 F.x.2.2.length F.x.2.1] 34)
  have hbV : Below w.heap.size w (w.alloc (.cells #[.slice F.a.1 F.a.2.2.length F.a.2.1, .slice F.s.1 F.s.2.2.length F.s.2.1, .slice F.r.1 F.r.2.2.length F.r.2.1, .slice F.o.1 F.o.2.2.length F.o.2.1, .slice F.g.1 F.g.2.2.length F.g.2.1, .slice F.m.1 F.m.2.2.length F.m.2.1, .slice F.i.1 F.i.2.2.length F.i.2.1, .slice F.p.1 F.p.2.2.length F.p.2.1, .slice F.w.1 F.w.2.2.length F.w.2.1, .slice F.u.1 F.u.2.2.length F.u.2.1, .slice F.x.1 F.x.2.2.length F.x.2.1] 34)) := (Below.refl _ _).alloc (Nat.le_refl _) _
  go_wp2_with fail
  generalize w.alloc (.cells #[.slice F.a.1 F.a.2.2.length F.a.2.1, .slice F.s.1 F.s.2.2.length F.s.2.1, .slice F.r.1 F.r.2.2.length F.r.2.1, .slice F.o.1 F.o.2.2.length F.o.2.1, .slice F.g.1 F.g.2.2.length F.g.2.1, .slice F.m.1 F.m.2.2.length F.m.2.1, .slice F.i.1 F.i.2.2.length F.i.2.1, .slice F.p.1 F.p.2.2.length F.p.2.1, .slice F.w.1 F.w.2.2.length F.w.2.1, .slice F.u.1 F.u.2.2.length F.u.2.1, .slice F.x.1 F.x.2.2.length F.x.2.1] 34) = V at *
  obtain ⟨q1, hq⟩ : ∃ q1, q1 = w.heap.size := ⟨_, rfl⟩
  rw [← hq] at hq1
  rw [← hq]
  clear hq
  have m0 : V.cell? ⟨q1, 0, none⟩ = some (.slice F.a.1 F.a.2.2.length F.a.2.1) := by rw [Lib.cell_of_heap hq1]; rfl
  have m1 : V.cell? ⟨q1, 1, none⟩ = some (.slice F.s.1 F.s.2.2.length F.s.2.1) := by rw [Lib.cell_of_heap hq1]; rfl
  have m2 : V.cell? ⟨q1, 2, none⟩ = some (.slice F.r.1 F.r.2.2.length F.r.2.1) := by rw [Lib.cell_of_heap hq1]; rfl
  have m3 : V.cell? ⟨q1, 3, none⟩ = some (.slice F.o.1 F.o.2.2.length F.o.2.1) := by rw [Lib.cell_of_heap hq1]; rfl
  have m4 : V.cell? ⟨q1, 4, none⟩ = some (.slice F.g.1 F.g.2.2.length F.g.2.1) := by rw [Lib.cell_of_heap hq1]; rfl
  have m5 : V.cell? ⟨q1, 5, none⟩ = some (.slice F.m.1 F.m.2.2.length F.m.2.1) := by rw [Lib.cell_of_heap hq1]; rfl
  have m6 : V.cell? ⟨q1, 6, none⟩ = some (.slice F.i.1 F.i.2.2.length F.i.2.1) := by rw [Lib.cell_of_heap hq1]; rfl
  have m7 : V.cell? ⟨q1, 7, none⟩ = some (.slice F.p.1 F.p.2.2.length F.p.2.1) := by rw [Lib.cell_of_heap hq1]; rfl
  have m8 : V.cell? ⟨q1, 8, none⟩ = some (.slice F.w.1 F.w.2.2.length F.w.2.1) := by rw [Lib.cell_of_heap hq1]; rfl
  have m9 : V.cell? ⟨q1, 9, none⟩ = some (.slice F.u.1 F.u.2.2.length F.u.2.1) := by rw [Lib.cell_of_heap hq1]; rfl
  have m10 : V.cell? ⟨q1, 10, none⟩ = some (.slice F.x.1 F.x.2.2.length F.x.2.1) := by rw [Lib.cell_of_heap hq1]; rfl
  refine (C59.out V hbV).mono ?_
  rintro e w1 ⟨bo, bc, rfl, hr1, b1⟩
  have K1 : Hid (Below w.heap.size w w1 ∧ w1.heap[q1]? = some (.cells #[.slice F.a.1 F.a.2.2.length F.a.2.1, .slice F.s.1 F.s.2.2.length F.s.2.1, .slice F.r.1 F.r.2.2.length F.r.2.1, .slice F.o.1 F.o.2.2.length F.o.2.1, .slice F.g.1 F.g.2.2.length F.g.2.1, .slice F.m.1 F.m.2.2.length F.m.2.1, .slice F.i.1 F.i.2.2.length F.i.2.1, .slice F.p.1 F.p.2.2.length F.p.2.1, .slice F.w.1 F.w.2.2.length F.w.2.1, .slice F.u.1 F.u.2.2.length F.u.2.1, .slice F.x.1 F.x.2.2.length F.x.2.1] 34 (0, 0))) := ⟨hbV.trans (b1.mono hbV.size), (b1.block _ (lt_of_heap hq1)).trans hq1⟩
  have C58s : Hid (Calls Try.prog 58 #[.slice bo F.s.2.2.length bc] w1 fun e w' => OncIs (F.s.2.2.map (·.1)) w1 e w') := by
    have q := first_any bo bc (F.s.2.2.map (·.1)) w1 hr1.ints hr1.cap hss.out
    rw [Hml.out] at q
    exact q
  clear hr1 b1 hbV hq1 m0 m1 m2 m3 m4 m5 m6 m7 m8 m9 m10 C59
  go_wp2_with fail
  refine C58s.out.mono ?_
  rintro e w2 ⟨so, sc, rfl, hr2, b2⟩
  have K2 : Hid ((Below w.heap.size w w2 ∧ w2.heap[q1]? = some (.cells #[.slice F.a.1 F.a.2.2.length F.a.2.1, .slice F.s.1 F.s.2.2.length F.s.2.1, .slice F.r.1 F.r.2.2.length F.r.2.1, .slice F.o.1 F.o.2.2.length F.o.2.1, .slice F.g.1 F.g.2.2.length F.g.2.1, .slice F.m.1 F.m.2.2.length F.m.2.1, .slice F.i.1 F.i.2.2.length F.i.2.1, .slice F.p.1 F.p.2.2.length F.p.2.1, .slice F.w.1 F.w.2.2.length F.w.2.1, .slice F.u.1 F.u.2.2.length F.u.2.1, .slice F.x.1 F.x.2.2.length F.x.2.1] 34 (0, 0))) ∧ S.RowI w1.heap.size so sc (fo (F.s.2.2.map (·.1))) w2) := ⟨⟨K1.out.1.trans (b2.mono K1.out.1.size), (b2.block _ (lt_of_heap K1.out.2)).trans K1.out.2⟩, hr2⟩
  have e3 : w2.cell? ⟨q1, 3, none⟩ = some (.slice F.o.1 F.o.2.2.length F.o.2.1) := by rw [Lib.cell_of_heap K2.out.1.2]; rfl
  clear K1 C58s hr2 b2
  go_wp2_with fail
  refine (C58o.out w2 K2.out.1.1).mono ?_
  rintro e w3 ⟨oo, oc, rfl, hr3, b3⟩
  have K3 : Hid (((Below w.heap.size w w3 ∧ w3.heap[q1]? = some (.cells #[.slice F.a.1 F.a.2.2.length F.a.2.1, .slice F.s.1 F.s.2.2.length F.s.2.1, .slice F.r.1 F.r.2.2.length F.r.2.1, .slice F.o.1 F.o.2.2.length F.o.2.1, .slice F.g.1 F.g.2.2.length F.g.2.1, .slice F.m.1 F.m.2.2.length F.m.2.1, .slice F.i.1 F.i.2.2.length F.i.2.1, .slice F.p.1 F.p.2.2.length F.p.2.1, .slice F.w.1 F.w.2.2.length F.w.2.1, .slice F.u.1 F.u.2.2.length F.u.2.1, .slice F.x.1 F.x.2.2.length F.x.2.1] 34 (0, 0))) ∧ S.RowI w1.heap.size so sc (fo (F.s.2.2.map (·.1))) w3) ∧ S.RowI w2.heap.size oo oc (fo F.o.2.2) w3) := ⟨⟨⟨K2.out.1.1.trans (b3.mono K2.out.1.1.size), (b3.block _ (lt_of_heap K2.out.1.2)).trans K2.out.1.2⟩, K2.out.2.below b3⟩, hr3⟩
  have e0 : w3.cell? ⟨q1, 0, none⟩ = some (.slice F.a.1 F.a.2.2.length F.a.2.1) := by rw [Lib.cell_of_heap K3.out.1.1.2]; rfl
  clear K2 C58o hr3 b3 e3
  go_wp2_with fail
  refine (C58a.out w3 K3.out.1.1.1).mono ?_
  rintro e w4 ⟨ao, ac, rfl, hr4, b4⟩
  have K4 : Hid ((((Below w.heap.size w w4 ∧ w4.heap[q1]? = some (.cells #[.slice F.a.1 F.a.2.2.length F.a.2.1, .slice F.s.1 F.s.2.2.length F.s.2.1, .slice F.r.1 F.r.2.2.length F.r.2.1, .slice F.o.1 F.o.2.2.length F.o.2.1, .slice F.g.1 F.g.2.2.length F.g.2.1, .slice F.m.1 F.m.2.2.length F.m.2.1, .slice F.i.1 F.i.2.2.length F.i.2.1, .slice F.p.1 F.p.2.2.length F.p.2.1, .slice F.w.1 F.w.2.2.length F.w.2.1, .slice F.u.1 F.u.2.2.length F.u.2.1, .slice F.x.1 F.x.2.2.length F.x.2.1] 34 (0, 0))) ∧ S.RowI w1.heap.size so sc (fo (F.s.2.2.map (·.1))) w4) ∧ S.RowI w2.heap.size oo oc (fo F.o.2.2) w4) ∧ S.RowI w3.heap.size ao ac (fo F.a.2.2) w4) := ⟨⟨⟨⟨K3.out.1.1.1.trans (b4.mono K3.out.1.1.1.size), (b4.block _ (lt_of_heap K3.out.1.1.2)).trans K3.out.1.1.2⟩, K3.out.1.2.below b4⟩, K3.out.2.below b4⟩, hr4⟩
  clear K3 C58a hr4 b4 e0
  rw [fo_fos] at K4 ⊢
  generalize w1.heap.size = Bs at *
  generalize w2.heap.size = Bo at *
  generalize w3.heap.size = Ba at *
  clear w1 w2 w3
  clear V
  obtain ⟨al, hald⟩ : ∃ al, al = fo F.a.2.2 := ⟨_, rfl⟩
  obtain ⟨sl, hsld⟩ : ∃ sl, sl = fos F.s.2.2 := ⟨_, rfl⟩
  obtain ⟨ol, hold⟩ : ∃ ol, ol = fo F.o.2.2 := ⟨_, rfl⟩
  have hrel : Hid (rel F = relA F al ol sl) := by rw [hald, hsld, hold]; rfl
  have hfacts : Hid ((∀ a ∈ al, isIn F.po.al a = true) ∧ (∀ s ∈ sl, tru F.po.sl s.1 = some s.2) ∧ ∀ y ∈ ol, isIn F.po.ol y = true) := by
    rw [hald, hsld, hold]
    exact ⟨fun a ha => isIn_yes (fo_mem ha), fun s hs' => tru_fos hs', fun y hy => isIn_yes (fo_mem hy)⟩
  have Hrel := hrel
  clear hrel
  rw [← hald] at hal HV K4 ⊢
  rw [← hsld] at hsl HV K4 ⊢
  rw [← hold] at hol HV K4 ⊢
  clear hald hsld hold
  have hsl64 : ((sl.map (·.1)).length : Int) ≤ 1048576 := by rw [List.length_map]; have := hsl.out; omega
  have hsl64' : (sl.length : Int) ≤ 1048576 := by have := hsl.out; omega
  have hol64 : (ol.length : Int) ≤ 1048576 := by have := hol.out; omega
  have hal64 : (al.length : Int) ≤ 1048576 := by have := hal.out; omega
  have hoc : ol.length ≤ oc := K4.out.1.2.cap
  have hac : al.length ≤ ac := K4.out.2.cap
  have hsc : (sl.map (·.1)).length ≤ sc := K4.out.1.1.2.cap
  go_wp2_with fail
  go_loopw [6, 7] (fun wv jv wx => ∃ (j : Nat) (wo : Option Addr) (wc : Nat) (ls : List Wl), jv = .int .i64 (j : Int) ∧ wv = .slice wo ls.length wc ∧ j ≤ ol.length ∧ Hid (Below w4.heap.size w4 wx ∧ Wls w4.heap.size wo wc (F.p.2.2 ++ F.w.2.2) ls wx ∧ ls.map (·.z) = ol.take j ∧ ls.length ≤ j)) (fun _ jv _ => ol.length - (intOf jv).toNat)
  case atStart => exact ⟨0, none, 0, [], rfl, rfl, Nat.zero_le _, Below.refl _ _, ⟨G.RowI.nil _ _ _ _, fun x hx => by cases hx⟩, rfl, Nat.le_refl _⟩
  case round =>
    obtain ⟨j, wo, wc, ls, rfl, rfl, hj, HM⟩ := hrel
    by_cases hlt : j < ol.length
    · as_aux_lemma =>
        have hlt' : (j : Int) < (ol.length : Int) := by omega
        obtain ⟨z, hz⟩ : ∃ z, ol[j]? = some z := ⟨_, List.getElem?_eq_getElem hlt⟩
        obtain ⟨ob, ooff, hoo, hob, x0⟩ := K4.out.1.2.ints.at hz
        have htk : Hid (ol.take (j + 1) = ol.take j ++ [z]) := by show _ = _; rw [List.take_add_one, hz]; rfl
        have BT : Hid (∀ W', Below wr.heap.size wr W' → Below w.heap.size w W') := fun W' b => (K4.out.1.1.1.1.trans (HM.out.1.mono K4.out.1.1.1.1.size)).trans (b.mono (Nat.le_trans K4.out.1.1.1.1.size HM.out.1.size))
        have B4 : Hid (∀ W', Below wr.heap.size wr W' → Below w4.heap.size w4 W') := fun W' b => HM.out.1.trans (b.mono HM.out.1.size)
        have KT : Hid (∀ W', Below w4.heap.size w4 W' → W'.cell? ⟨q1, 7, none⟩ = some (.slice F.p.1 F.p.2.2.length F.p.2.1) ∧ W'.cell? ⟨q1, 8, none⟩ = some (.slice F.w.1 F.w.2.2.length F.w.2.1) ∧ W'.cell? ⟨ob, ooff + j, none⟩ = some (.string z)) := fun W' bb => by
          have g := (bb.block _ (lt_of_heap K4.out.1.1.1.2)).trans K4.out.1.1.1.2
          exact ⟨by rw [Lib.cell_of_heap g]; rfl, by rw [Lib.cell_of_heap g]; rfl, (bb.cell (p := ⟨ob, ooff + j, none⟩) hob).trans x0⟩
        have hd : Below wr.heap.size wr wr.drew := ⟨rfl, rfl, rfl, Nat.le_refl _, fun _ _ => rfl⟩
        have hls := HM.out.2.2.2
        have B1 : Hid (ls.length + 1 ≤ maxLen) := by show _ ≤ _; unfold maxLen; omega
        have B2 : Hid ((ls.length + 1) * 24 ≤ 140737488355328) := by show _ ≤ _; omega
        have Hoo := hide' hoo
        rw [hoo]
        clear hoo hz hob x0
        go_wp2_with fail
        refine wp_region_held_drew (S := fun W' => W'.cell? ⟨q1, 7, none⟩ = some (.slice F.p.1 F.p.2.2.length F.p.2.1) ∧ W'.cell? ⟨q1, 8, none⟩ = some (.slice F.w.1 F.w.2.2.length F.w.2.1) ∧ W'.cell? ⟨ob, ooff + j, none⟩ = some (.string z)) (by kernel_rfl) (KT.out _ (B4.out _ hd)) (fun hHeld => ?_)
        refine wpAnyH_take (i := 0) (oi := { dst := some 33, op := Op.move (Operand.tmp 6), type := 37, pos := "ref.go:206", after := #[], guard := none }) (v := .slice wo ls.length wc) rfl (by kernel_rfl) (by kernel_rfl) (by kernel_rfl) (fun _ _ _ h => h) (Or.inl ⟨by kernel_rfl, fun w hSw => ?_⟩) (by assumption) ?_
        · clear hSw; go_simp
        (try simp only [Act.put, List.setIfInBounds_toArray, List.set_cons_zero, List.set_cons_succ])
        refine wpAnyH_take (i := 1) (oi := { dst := some 34, op := Op.fieldAddr 34 (Operand.tmp 1) 7, type := 0, pos := "ref.go:206", after := #[], guard := none }) (v := .pointer (some ⟨q1, 7, none⟩)) rfl (by kernel_rfl) (by kernel_rfl) (by kernel_rfl) (fun _ _ _ h => h) (Or.inl ⟨by kernel_rfl, fun w hSw => ?_⟩) (by assumption) ?_
        · clear hSw; go_simp
        (try simp only [Act.put, List.setIfInBounds_toArray, List.set_cons_zero, List.set_cons_succ])
        refine wpAnyH_take (i := 2) (oi := { dst := some 35, op := Op.load 30 (Operand.tmp 34), type := 30, pos := "ref.go:206", after := #[{ on := 1, ground := Ground.data }], guard := none }) (v := .slice F.p.1 F.p.2.2.length F.p.2.1) rfl (by kernel_rfl) (by kernel_rfl) (by kernel_rfl) (fun _ _ _ h => h) (Or.inl ⟨by kernel_rfl, fun w hSw => ?_⟩) (by assumption) ?_
        · have h0 := hSw.1; clear hSw; go_simp
        (try simp only [Act.put, List.setIfInBounds_toArray, List.set_cons_zero, List.set_cons_succ])
        refine wpAnyH_take (i := 3) (oi := { dst := some 36, op := Op.fieldAddr 34 (Operand.tmp 1) 8, type := 0, pos := "ref.go:206", after := #[], guard := none }) (v := .pointer (some ⟨q1, 8, none⟩)) rfl (by kernel_rfl) (by kernel_rfl) (by kernel_rfl) (fun _ _ _ h => h) (Or.inl ⟨by kernel_rfl, fun w hSw => ?_⟩) (by assumption) ?_
        · clear hSw; go_simp
        (try simp only [Act.put, List.setIfInBounds_toArray, List.set_cons_zero, List.set_cons_succ])
        refine wpAnyH_take (i := 4) (oi := { dst := some 37, op := Op.load 30 (Operand.tmp 36), type := 30, pos := "ref.go:206", after := #[{ on := 3, ground := Ground.data }], guard := none }) (v := .slice F.w.1 F.w.2.2.length F.w.2.1) rfl (by kernel_rfl) (by kernel_rfl) (by kernel_rfl) (fun _ _ _ h => h) (Or.inl ⟨by kernel_rfl, fun w hSw => ?_⟩) (by assumption) ?_
        · have h0 := hSw.2.1; clear hSw; go_simp
        (try simp only [Act.put, List.setIfInBounds_toArray, List.set_cons_zero, List.set_cons_succ])
        refine wpAnyH_take (i := 5) (oi := { dst := some 38, op := Op.move (Operand.tmp 4), type := 25, pos := "ref.go:206", after := #[], guard := none }) (v := .slice (some ⟨ob, ooff, none⟩) ol.length oc) rfl (by kernel_rfl) (by kernel_rfl) (by kernel_rfl) (fun _ _ _ h => h) (Or.inl ⟨by kernel_rfl, fun w hSw => ?_⟩) (by assumption) ?_
        · clear hSw; go_simp
        (try simp only [Act.put, List.setIfInBounds_toArray, List.set_cons_zero, List.set_cons_succ])
        refine wpAnyH_take (i := 6) (oi := { dst := some 39, op := Op.move (Operand.tmp 7), type := 3, pos := "ref.go:206", after := #[], guard := none }) (v := .int .i64 (j : Int)) rfl (by kernel_rfl) (by kernel_rfl) (by kernel_rfl) (fun _ _ _ h => h) (Or.inl ⟨by kernel_rfl, fun w hSw => ?_⟩) (by assumption) ?_
        · clear hSw; go_simp
        (try simp only [Act.put, List.setIfInBounds_toArray, List.set_cons_zero, List.set_cons_succ])
        refine wpAnyH_take (i := 7) (oi := { dst := some 40, op := Op.indexAddr 25 (Operand.tmp 38) (Operand.tmp 39), type := 0, pos := "ref.go:206", after := #[{ on := 5, ground := Ground.data }, { on := 6, ground := Ground.data }], guard := none }) (v := .pointer (some ⟨ob, ooff + j, none⟩)) rfl (by kernel_rfl) (by kernel_rfl) (by kernel_rfl) (fun _ _ _ h => h) (Or.inl ⟨by kernel_rfl, fun w hSw => ?_⟩) (by assumption) ?_
        · clear hSw; go_simp
        (try simp only [Act.put, List.setIfInBounds_toArray, List.set_cons_zero, List.set_cons_succ])
        refine wpAnyH_take (i := 8) (oi := { dst := some 41, op := Op.load 9 (Operand.tmp 40), type := 9, pos := "ref.go:206", after := #[{ on := 7, ground := Ground.data }], guard := none }) (v := .string z) rfl (by kernel_rfl) (by kernel_rfl) (by kernel_rfl) (fun _ _ _ h => h) (Or.inl ⟨by kernel_rfl, fun w hSw => ?_⟩) (by assumption) ?_
        · have h0 := hSw.2.2; clear hSw; go_simp
        (try simp only [Act.put, List.setIfInBounds_toArray, List.set_cons_zero, List.set_cons_succ])
        refine wpAnyH_ready (rs := [9]) (by kernel_rfl) (by simp) ?_
        refine AllReadyH.cons (o := { dst := some 42, op := Op.call { callee := Callee.value (Operand.func 52), args := #[Operand.tmp 35, Operand.tmp 37, Operand.tmp 41], argTypes := #[30, 30, 9] }, type := 25, pos := "ref.go:206", after := #[{ on := 2, ground := Ground.data }, { on := 4, ground := Ground.data }, { on := 8, ground := Ground.data }], guard := none }) rfl (fun K' hK => ?_) AllReadyH.nil
        go_simp
        refine (C52p.out _ z (BT.out _ hd)).mono ?_
        rintro e x1 ⟨l, lo, lc, rfl, hl1, hmem, hll, t1⟩
        have d1 : Below wr.heap.size wr x1 := hd.trans (t1.mono hd.size)
        clear t1
        (try dsimp only)
        refine hK.out _ _ (KT.out _ (B4.out _ d1)) (fun hHeld => ?_)
        clear hK K'
        (try simp only [Act.put, List.setIfInBounds_toArray, List.set_cons_zero, List.set_cons_succ])
        refine wpAnyH_ready (rs := [10]) (by kernel_rfl) (by simp) ?_
        refine AllReadyH.cons (o := { dst := some 43, op := Op.buildSlice 37 1 #[(0, Operand.tmp 42)], type := 37, pos := "ref.go:206", after := #[{ on := 9, ground := Ground.data }], guard := none }) rfl (fun K' hK => ?_) AllReadyH.nil
        go_simp
        refine hK.out _ _ (KT.out _ (B4.out _ (d1.alloc d1.size _))) (fun hHeld => ?_)
        clear hK K'
        (try simp only [Act.put, List.setIfInBounds_toArray, List.set_cons_zero, List.set_cons_succ])
        have hW1 := hide' (HM.out.2.1.below d1)
        have hown : x1.ownsRow w4.heap.size 25 1 (.slice wo ls.length wc) ls.length (ls.map Wl.cells).flatten := by have r := hW1.out.1; unfold G.RowI at r; rw [List.length_map] at r; exact r
        refine wpAnyH_ready (rs := [11]) (by kernel_rfl) (by simp) ?_
        refine AllReadyH.cons (o := { dst := some 44, op := Op.call { callee := Callee.builtin Builtin.append, args := #[Operand.tmp 33, Operand.tmp 43], argTypes := #[37, 37] }, type := 37, pos := "ref.go:206", after := #[{ on := 0, ground := Ground.data }, { on := 10, ground := Ground.data }, { on := 9, ground := Ground.chain }], guard := none }) rfl (fun K' hK => ?_) AllReadyH.nil
        refine step_append_lies _ (by rfl) _ _ 37 (by rfl) w4.heap.size 25 i0 (.slice none 0 0) 1 24 Try.underlying37 hi hz0 hz1 hz2 rfl (by decide) _ ls.length (ls.map Wl.cells).flatten (by rfl) (by exact (World.ownsRow.alloc hown _)) ⟨x1.heap.size, 0, none⟩ 1 1 [.slice lo l.length lc] (by rfl) (by rfl) (by exact cell_one_new _ _ _) (by simp [Value.oneCell']) (by decide) B1.out B2.out (by have := HM.out.1.size; have := d1.size; simp; omega) (x1.heap.size + 1) (by simp) ?_
        intro g2 cap2 x2 hrow1 hgrow hat1 hlt1
        have gr := hide' (grownG hW1.out.1 (by rw [List.length_map]) hrow1 hgrow)
        have d2 : Below w4.heap.size w4 x2 := (B4.out _ d1).trans (below_own gr.out.2 (fun k r => (hW1.out.1.lt k r).1) (B4.out _ d1).size)
        clear hrow1 hgrow hat1 hlt1
        refine hK.out _ _ (KT.out _ d2) (fun hHeld => ?_)
        clear hK K'
        (try simp only [Act.put, List.setIfInBounds_toArray, List.set_cons_zero, List.set_cons_succ])
        refine wpAnyH_take (i := 12) (oi := { dst := some 6, op := Op.assign (Operand.tmp 44), type := 37, pos := "ref.go:206", after := #[{ on := 11, ground := Ground.data }, { on := 11, ground := Ground.chain }, { on := 0, ground := Ground.phase }, { on := 1, ground := Ground.phase }, { on := 2, ground := Ground.phase }, { on := 3, ground := Ground.phase }, { on := 4, ground := Ground.phase }, { on := 5, ground := Ground.phase }, { on := 6, ground := Ground.phase }, { on := 7, ground := Ground.phase }, { on := 8, ground := Ground.phase }, { on := 9, ground := Ground.phase }, { on := 10, ground := Ground.phase }, { on := 11, ground := Ground.phase }], guard := none }) (v := .slice (some ⟨g2, 0, none⟩) (ls.length + 1) cap2) rfl (by kernel_rfl) (by kernel_rfl) (by kernel_rfl) (fun _ _ _ h => h) (Or.inl ⟨by kernel_rfl, fun w hSw => ?_⟩) (by assumption) ?_
        · clear hSw; go_simp
        (try simp only [Act.put, List.setIfInBounds_toArray, List.set_cons_zero, List.set_cons_succ])
        refine wpAnyH_done (by kernel_rfl) ?_ _
        have hWx : Wls w4.heap.size (some ⟨g2, 0, none⟩) cap2 (F.p.2.2 ++ F.w.2.2) (ls ++ [⟨z, lo, lc, l⟩]) x2 := hW1.out.snoc (x := ⟨z, lo, lc, l⟩) ⟨hl1.mono HM.out.1.size, hmem, by show l.length ≤ _; have := hpq.out; omega⟩ gr.out.1 gr.out.2
        have M2 : Hid (Below w4.heap.size w4 x2 ∧ Wls w4.heap.size (some ⟨g2, 0, none⟩) cap2 (F.p.2.2 ++ F.w.2.2) (ls ++ [⟨z, lo, lc, l⟩]) x2 ∧ (ls ++ [(⟨z, lo, lc, l⟩ : Wl)]).map (·.z) = ol.take (j + 1) ∧ (ls ++ [(⟨z, lo, lc, l⟩ : Wl)]).length ≤ j + 1) := ⟨d2, hWx, by rw [htk.out, List.map_append, HM.out.2.2.1]; rfl, by rw [List.length_append]; exact Nat.succ_le_succ HM.out.2.2.2⟩
        clear hWx gr hW1 hown d2 d1 hmem hll hl1 HM KT BT B4 hd hls
        go_wp2_with fail
        exact ⟨⟨j + 1, some ⟨g2, 0, none⟩, cap2, ls ++ [⟨z, lo, lc, l⟩], by go_num, by rw [List.length_append]; rfl, by omega, M2⟩, by simp [intOf]; omega⟩
    · have hjl : j = ol.length := by omega
      have hlt' : ¬ (j : Int) < (ol.length : Int) := by omega
      obtain ⟨K, SK, HK, HE⟩ : ∃ K : World → Prop, Hid (St36 K) ∧ Hid (K wr) ∧ Hid (∀ W, K W → ((((W.heap[q1]? = some (.cells #[.slice F.a.1 F.a.2.2.length F.a.2.1, .slice F.s.1 F.s.2.2.length F.s.2.1, .slice F.r.1 F.r.2.2.length F.r.2.1, .slice F.o.1 F.o.2.2.length F.o.2.1, .slice F.g.1 F.g.2.2.length F.g.2.1, .slice F.m.1 F.m.2.2.length F.m.2.1, .slice F.i.1 F.i.2.2.length F.i.2.1, .slice F.p.1 F.p.2.2.length F.p.2.1, .slice F.w.1 F.w.2.2.length F.w.2.1, .slice F.u.1 F.u.2.2.length F.u.2.1, .slice F.x.1 F.x.2.2.length F.x.2.1] 34 (0, 0))) ∧ S.RowI Bs so sc (sl.map (·.1)) W) ∧ S.RowI Bo oo oc ol W) ∧ S.RowI Ba ao ac al W) ∧ Wls w4.heap.size wo wc (F.p.2.2 ++ F.w.2.2) ls W) := by
        refine ⟨_, ?_, ?_, fun W q => q⟩
        · exact (((((st_block (by decide)).and st_srow).and st_srow).and st_srow).and st_wls)
        · have b := HM.out.1
          exact ⟨⟨⟨⟨(b.block _ (lt_of_heap K4.out.1.1.1.2)).trans K4.out.1.1.1.2, K4.out.1.1.2.below b⟩, K4.out.1.2.below b⟩, K4.out.2.below b⟩, HM.out.2.1⟩
      have Hlz : Hid (ls.map (·.z) = ol) := by have q := HM.out.2.2.1; rw [hjl, List.take_length] at q; exact q
      have BW : Hid (Below w.heap.size w wr) := K4.out.1.1.1.1.trans (HM.out.1.mono K4.out.1.1.1.1.size)
      have hwc : ls.length ≤ wc := by have := HM.out.2.1.1.cap; rw [List.length_map] at this; exact this
      have hlsl : ls.length = ol.length := by rw [← Hlz.out, List.length_map]
      clear HM K4 hjl
      go_wp2_with fail
      go_loopw [8, 9] (fun tv iv wx => ∃ (i : Nat) (to : Option Addr) (tc : Nat), iv = .int .i64 (i : Int) ∧ tv = .slice to (relA F al ol (sl.take i)).length tc ∧ i ≤ sl.length ∧ Hid (Below w.heap.size w wx ∧ K wx ∧ X.RowI w.heap.size to tc (relA F al ol (sl.take i)) wx)) (fun _ iv _ => sl.length - (intOf iv).toNat)
      case atStart => exact ⟨0, none, 0, rfl, rfl, Nat.zero_le _, BW.out, HK.out, X.RowI.nil _ _⟩
      case round =>
        obtain ⟨i, to, tc, rfl, rfl, hi', HM⟩ := hrel
        have hrel := Hrel
        clear HK BW
        by_cases hlt : i < sl.length
        · have hlt' : (i : Int) < (sl.length : Int) := by omega
          obtain ⟨s, hsi⟩ : ∃ s, sl[i]? = some s := ⟨_, List.getElem?_eq_getElem hlt⟩
          have hstep := hide' (relA_take (F := F) (al := al) (ol := ol) hsi)
          have htr := hide' (hfacts.out.2.1 s (List.mem_of_getElem? hsi))
          obtain ⟨sb, soff, hso, hsb, x0⟩ := (HE.out wr HM.out.2.1).1.1.1.2.ints.at (show (sl.map (·.1))[i]? = some s.1 by rw [List.getElem?_map, hsi]; rfl)
          obtain ⟨z1, r1⟩ := s
          simp only at x0 htr
          have BT : Hid (∀ W', Below wr.heap.size wr W' → Below w.heap.size w W') := fun W' b => HM.out.1.trans (b.mono HM.out.1.size)
          have KT : Hid (∀ W', Below wr.heap.size wr W' → W'.heap[q1]? = some (.cells #[.slice F.a.1 F.a.2.2.length F.a.2.1, .slice F.s.1 F.s.2.2.length F.s.2.1, .slice F.r.1 F.r.2.2.length F.r.2.1, .slice F.o.1 F.o.2.2.length F.o.2.1, .slice F.g.1 F.g.2.2.length F.g.2.1, .slice F.m.1 F.m.2.2.length F.m.2.1, .slice F.i.1 F.i.2.2.length F.i.2.1, .slice F.p.1 F.p.2.2.length F.p.2.1, .slice F.w.1 F.w.2.2.length F.w.2.1, .slice F.u.1 F.u.2.2.length F.u.2.1, .slice F.x.1 F.x.2.2.length F.x.2.1] 34 (0, 0)) ∧ W'.cell? ⟨sb, soff + i, none⟩ = some (.string z1)) := fun W' b => ⟨(b.block _ (lt_of_heap (HE.out wr HM.out.2.1).1.1.1.1)).trans (HE.out wr HM.out.2.1).1.1.1.1, (b.cell (p := ⟨sb, soff + i, none⟩) hsb).trans x0⟩
          have KT2 : Hid (∀ W', Below wr.heap.size wr W' → W'.cell? ⟨q1, 5, none⟩ = some (.slice F.m.1 F.m.2.2.length F.m.2.1) ∧ W'.cell? ⟨q1, 6, none⟩ = some (.slice F.i.1 F.i.2.2.length F.i.2.1) ∧ W'.cell? ⟨sb, soff + i, none⟩ = some (.string z1)) := fun W' b => ⟨by rw [Lib.cell_of_heap (KT.out W' b).1]; rfl, by rw [Lib.cell_of_heap (KT.out W' b).1]; rfl, (KT.out W' b).2⟩
          have C49 : Hid (∀ W', Below w.heap.size w W' → Calls Try.prog 49 #[.agg #[.slice F.a.1 F.a.2.2.length F.a.2.1, .slice F.s.1 F.s.2.2.length F.s.2.1, .slice F.r.1 F.r.2.2.length F.r.2.1, .slice F.o.1 F.o.2.2.length F.o.2.1, .slice F.g.1 F.g.2.2.length F.g.2.1, .slice F.m.1 F.m.2.2.length F.m.2.1, .slice F.i.1 F.i.2.2.length F.i.2.1, .slice F.p.1 F.p.2.2.length F.p.2.1, .slice F.w.1 F.w.2.2.length F.w.2.1, .slice F.u.1 F.u.2.2.length F.u.2.1, .slice F.x.1 F.x.2.2.length F.x.2.1], .string z1] W' fun e w' => e = .returned (.tuple #[.float .f64 r1, .bool true]) ∧ Below W'.heap.size W' w') := fun W' b => by
            have q := trust_any F.po z1 W' (H.out.below b).po Hp.out
            have e : trv F.po z1 = .tuple #[.float .f64 r1, .bool true] := by unfold trv; rw [htr.out]
            rw [e, HP.out] at q
            exact q
          have C52m : Hid (∀ V z, Below w.heap.size w V → Calls Try.prog 52 #[.slice F.m.1 F.m.2.2.length F.m.2.1, .slice F.i.1 F.i.2.2.length F.i.2.1, .string z] V fun e w' => N.UpIs (F.m.2.2 ++ F.i.2.2) z V e w') := fun V z b => N.rups_any F.m.1 F.i.1 F.m.2.1 F.i.2.1 F.m.2.2 F.i.2.2 z V (H.out.below b).m.1 (H.out.below b).i.1 H.out.m.2.1 H.out.i.2.1 Hp.out.mi
          have hd : Below wr.heap.size wr wr.drew := ⟨rfl, rfl, rfl, Nat.le_refl _, fun _ _ => rfl⟩
          have Hso := hide' hso
          have Hsi : Hid ((sl.map (·.1))[i]? = some z1) := by show _ = _; rw [List.getElem?_map, hsi]; rfl
          rw [hso]
          clear hso hsi hsb x0
          go_wp2_with fail
          refine wp_region_held_drew (S := fun W' => W'.heap[q1]? = some (.cells #[.slice F.a.1 F.a.2.2.length F.a.2.1, .slice F.s.1 F.s.2.2.length F.s.2.1, .slice F.r.1 F.r.2.2.length F.r.2.1, .slice F.o.1 F.o.2.2.length F.o.2.1, .slice F.g.1 F.g.2.2.length F.g.2.1, .slice F.m.1 F.m.2.2.length F.m.2.1, .slice F.i.1 F.i.2.2.length F.i.2.1, .slice F.p.1 F.p.2.2.length F.p.2.1, .slice F.w.1 F.w.2.2.length F.w.2.1, .slice F.u.1 F.u.2.2.length F.u.2.1, .slice F.x.1 F.x.2.2.length F.x.2.1] 34 (0, 0)) ∧ W'.cell? ⟨sb, soff + i, none⟩ = some (.string z1)) (by kernel_rfl) (KT.out _ hd) (fun hHeld => ?_)
          refine wpAnyH_take (i := 0) (oi := { dst := some 52, op := Op.load 34 (Operand.tmp 1), type := 34, pos := "ref.go:210", after := #[], guard := none }) (v := .agg #[.slice F.a.1 F.a.2.2.length F.a.2.1, .slice F.s.1 F.s.2.2.length F.s.2.1, .slice F.r.1 F.r.2.2.length F.r.2.1, .slice F.o.1 F.o.2.2.length F.o.2.1, .slice F.g.1 F.g.2.2.length F.g.2.1, .slice F.m.1 F.m.2.2.length F.m.2.1, .slice F.i.1 F.i.2.2.length F.i.2.1, .slice F.p.1 F.p.2.2.length F.p.2.1, .slice F.w.1 F.w.2.2.length F.w.2.1, .slice F.u.1 F.u.2.2.length F.u.2.1, .slice F.x.1 F.x.2.2.length F.x.2.1]) rfl (by kernel_rfl) (by kernel_rfl) (by kernel_rfl) (fun _ _ _ h => h) (Or.inl ⟨by kernel_rfl, fun w hSw => ?_⟩) (by assumption) ?_
          · exact ex_row 34 _ rfl q1 rfl 34 _ (0, 0) _ hSw.1 Try.underlying34 rfl (by kernel_rfl)
          (try simp only [Act.put, List.setIfInBounds_toArray, List.set_cons_zero, List.set_cons_succ])
          refine wpAnyH_take (i := 1) (oi := { dst := some 53, op := Op.move (Operand.tmp 3), type := 25, pos := "ref.go:210", after := #[], guard := none }) (v := .slice (some ⟨sb, soff, none⟩) sl.length sc) rfl (by kernel_rfl) (by kernel_rfl) (by kernel_rfl) (fun _ _ _ h => h) (Or.inl ⟨by kernel_rfl, fun w hSw => ?_⟩) (by assumption) ?_
          · clear hSw; go_simp
          (try simp only [Act.put, List.setIfInBounds_toArray, List.set_cons_zero, List.set_cons_succ])
          refine wpAnyH_take (i := 2) (oi := { dst := some 54, op := Op.move (Operand.tmp 9), type := 3, pos := "ref.go:210", after := #[], guard := none }) (v := .int .i64 (i : Int)) rfl (by kernel_rfl) (by kernel_rfl) (by kernel_rfl) (fun _ _ _ h => h) (Or.inl ⟨by kernel_rfl, fun w hSw => ?_⟩) (by assumption) ?_
          · clear hSw; go_simp
          (try simp only [Act.put, List.setIfInBounds_toArray, List.set_cons_zero, List.set_cons_succ])
          refine wpAnyH_take (i := 3) (oi := { dst := some 55, op := Op.indexAddr 25 (Operand.tmp 53) (Operand.tmp 54), type := 0, pos := "ref.go:210", after := #[{ on := 1, ground := Ground.data }, { on := 2, ground := Ground.data }], guard := none }) (v := .pointer (some ⟨sb, soff + i, none⟩)) rfl (by kernel_rfl) (by kernel_rfl) (by kernel_rfl) (fun _ _ _ h => h) (Or.inl ⟨by kernel_rfl, fun w hSw => ?_⟩) (by assumption) ?_
          · clear hSw; go_simp
          (try simp only [Act.put, List.setIfInBounds_toArray, List.set_cons_zero, List.set_cons_succ])
          refine wpAnyH_take (i := 4) (oi := { dst := some 56, op := Op.load 9 (Operand.tmp 55), type := 9, pos := "ref.go:210", after := #[{ on := 3, ground := Ground.data }], guard := none }) (v := .string z1) rfl (by kernel_rfl) (by kernel_rfl) (by kernel_rfl) (fun _ _ _ h => h) (Or.inl ⟨by kernel_rfl, fun w hSw => ?_⟩) (by assumption) ?_
          · have h0 := hSw.2; clear hSw; go_simp
          (try simp only [Act.put, List.setIfInBounds_toArray, List.set_cons_zero, List.set_cons_succ])
          refine wpAnyH_ready (rs := [5]) (by kernel_rfl) (by simp) ?_
          refine AllReadyH.cons (o := { dst := some 57, op := Op.call { callee := Callee.value (Operand.func 49), args := #[Operand.tmp 52, Operand.tmp 56], argTypes := #[34, 9] }, type := 69, pos := "ref.go:210", after := #[{ on := 0, ground := Ground.data }, { on := 4, ground := Ground.data }], guard := none }) rfl (fun K' hK => ?_) AllReadyH.nil
          go_simp
          refine (C49.out _ (BT.out _ hd)).mono ?_
          rintro e x1 ⟨rfl, t1⟩
          have d1 : Below wr.heap.size wr x1 := hd.trans (t1.mono hd.size)
          clear t1
          (try dsimp only)
          refine hK.out _ _ (KT.out _ d1) (fun hHeld => ?_)
          clear hK K'
          (try simp only [Act.put, List.setIfInBounds_toArray, List.set_cons_zero, List.set_cons_succ])
          refine wpAnyH_take (i := 6) (oi := { dst := some 51, op := Op.move (Operand.tmp 57), type := 69, pos := "ref.go:210", after := #[{ on := 5, ground := Ground.data }], guard := none }) (v := .tuple #[.float .f64 r1, .bool true]) rfl (by kernel_rfl) (by kernel_rfl) (by kernel_rfl) (fun _ _ _ h => h) (Or.inl ⟨by kernel_rfl, fun w hSw => ?_⟩) (by assumption) ?_
          · clear hSw; go_simp
          (try simp only [Act.put, List.setIfInBounds_toArray, List.set_cons_zero, List.set_cons_succ])
          refine wpAnyH_take (i := 7) (oi := { dst := some 58, op := Op.extract (Operand.tmp 51) 0, type := 24, pos := "ref.go:210", after := #[{ on := 6, ground := Ground.data }], guard := none }) (v := .float .f64 r1) rfl (by kernel_rfl) (by kernel_rfl) (by kernel_rfl) (fun _ _ _ h => h) (Or.inl ⟨by kernel_rfl, fun w hSw => ?_⟩) (by assumption) ?_
          · clear hSw; go_simp
          (try simp only [Act.put, List.setIfInBounds_toArray, List.set_cons_zero, List.set_cons_succ])
          refine wpAnyH_take (i := 8) (oi := { dst := some 59, op := Op.extract (Operand.tmp 51) 1, type := 4, pos := "ref.go:210", after := #[{ on := 6, ground := Ground.data }, { on := 9, ground := Ground.gcOnly Departure.lateStores }], guard := none }) (v := .bool true) rfl (by kernel_rfl) (by kernel_rfl) (by kernel_rfl) (fun _ _ _ h => h) (Or.inl ⟨by kernel_rfl, fun w hSw => ?_⟩) (by assumption) ?_
          · clear hSw; go_simp
          (try simp only [Act.put, List.setIfInBounds_toArray, List.set_cons_zero, List.set_cons_succ])
          refine wpAnyH_take (i := 9) (oi := { dst := some 10, op := Op.assign (Operand.tmp 58), type := 24, pos := "ref.go:210", after := #[{ on := 7, ground := Ground.data }, { on := 5, ground := Ground.chain }, { on := 0, ground := Ground.phase }, { on := 1, ground := Ground.phase }, { on := 2, ground := Ground.phase }, { on := 3, ground := Ground.phase }, { on := 4, ground := Ground.phase }, { on := 5, ground := Ground.phase }, { on := 6, ground := Ground.phase }, { on := 7, ground := Ground.phase }, { on := 8, ground := Ground.textOnly Departure.lateStores }], guard := none }) (v := .float .f64 r1) rfl (by kernel_rfl) (by kernel_rfl) (by kernel_rfl) (fun _ _ _ h => h) (Or.inl ⟨by kernel_rfl, fun w hSw => ?_⟩) (by assumption) ?_
          · clear hSw; go_simp
          (try simp only [Act.put, List.setIfInBounds_toArray, List.set_cons_zero, List.set_cons_succ])
          refine wpAnyH_take (i := 10) (oi := { dst := some 11, op := Op.assign (Operand.tmp 59), type := 4, pos := "ref.go:210", after := #[{ on := 8, ground := Ground.data }, { on := 9, ground := Ground.chain }, { on := 0, ground := Ground.phase }, { on := 1, ground := Ground.phase }, { on := 2, ground := Ground.phase }, { on := 3, ground := Ground.phase }, { on := 4, ground := Ground.phase }, { on := 5, ground := Ground.phase }, { on := 6, ground := Ground.phase }, { on := 7, ground := Ground.phase }, { on := 8, ground := Ground.phase }, { on := 9, ground := Ground.phase }], guard := none }) (v := .bool true) rfl (by kernel_rfl) (by kernel_rfl) (by kernel_rfl) (fun _ _ _ h => h) (Or.inl ⟨by kernel_rfl, fun w hSw => ?_⟩) (by assumption) ?_
          · clear hSw; go_simp
          (try simp only [Act.put, List.setIfInBounds_toArray, List.set_cons_zero, List.set_cons_succ])
          refine wpAnyH_done (by kernel_rfl) ?_ _
          clear hHeld
          go_wp2_with fail
          have hd2 : Below wr.heap.size wr x1.drew := d1.trans ⟨rfl, rfl, rfl, Nat.le_refl _, fun _ _ => rfl⟩
          refine wp_region_held_drew (S := fun W' => W'.cell? ⟨q1, 5, none⟩ = some (.slice F.m.1 F.m.2.2.length F.m.2.1) ∧ W'.cell? ⟨q1, 6, none⟩ = some (.slice F.i.1 F.i.2.2.length F.i.2.1) ∧ W'.cell? ⟨sb, soff + i, none⟩ = some (.string z1)) (by kernel_rfl) (KT2.out _ hd2) (fun hHeld => ?_)
          refine wpAnyH_take (i := 0) (oi := { dst := some 60, op := Op.fieldAddr 34 (Operand.tmp 1) 5, type := 0, pos := "ref.go:211", after := #[], guard := none }) (v := .pointer (some ⟨q1, 5, none⟩)) rfl (by kernel_rfl) (by kernel_rfl) (by kernel_rfl) (fun _ _ _ h => h) (Or.inl ⟨by kernel_rfl, fun w hSw => ?_⟩) (by assumption) ?_
          · clear hSw; go_simp
          (try simp only [Act.put, List.setIfInBounds_toArray, List.set_cons_zero, List.set_cons_succ])
          refine wpAnyH_take (i := 1) (oi := { dst := some 61, op := Op.load 30 (Operand.tmp 60), type := 30, pos := "ref.go:211", after := #[{ on := 0, ground := Ground.data }], guard := none }) (v := .slice F.m.1 F.m.2.2.length F.m.2.1) rfl (by kernel_rfl) (by kernel_rfl) (by kernel_rfl) (fun _ _ _ h => h) (Or.inl ⟨by kernel_rfl, fun w hSw => ?_⟩) (by assumption) ?_
          · have h0 := hSw.1; clear hSw; go_simp
          (try simp only [Act.put, List.setIfInBounds_toArray, List.set_cons_zero, List.set_cons_succ])
          refine wpAnyH_take (i := 2) (oi := { dst := some 62, op := Op.fieldAddr 34 (Operand.tmp 1) 6, type := 0, pos := "ref.go:211", after := #[], guard := none }) (v := .pointer (some ⟨q1, 6, none⟩)) rfl (by kernel_rfl) (by kernel_rfl) (by kernel_rfl) (fun _ _ _ h => h) (Or.inl ⟨by kernel_rfl, fun w hSw => ?_⟩) (by assumption) ?_
          · clear hSw; go_simp
          (try simp only [Act.put, List.setIfInBounds_toArray, List.set_cons_zero, List.set_cons_succ])
          refine wpAnyH_take (i := 3) (oi := { dst := some 63, op := Op.load 30 (Operand.tmp 62), type := 30, pos := "ref.go:211", after := #[{ on := 2, ground := Ground.data }], guard := none }) (v := .slice F.i.1 F.i.2.2.length F.i.2.1) rfl (by kernel_rfl) (by kernel_rfl) (by kernel_rfl) (fun _ _ _ h => h) (Or.inl ⟨by kernel_rfl, fun w hSw => ?_⟩) (by assumption) ?_
          · have h0 := hSw.2.1; clear hSw; go_simp
          (try simp only [Act.put, List.setIfInBounds_toArray, List.set_cons_zero, List.set_cons_succ])
          refine wpAnyH_take (i := 4) (oi := { dst := some 64, op := Op.move (Operand.tmp 3), type := 25, pos := "ref.go:211", after := #[], guard := none }) (v := .slice (some ⟨sb, soff, none⟩) sl.length sc) rfl (by kernel_rfl) (by kernel_rfl) (by kernel_rfl) (fun _ _ _ h => h) (Or.inl ⟨by kernel_rfl, fun w hSw => ?_⟩) (by assumption) ?_
          · clear hSw; go_simp
          (try simp only [Act.put, List.setIfInBounds_toArray, List.set_cons_zero, List.set_cons_succ])
          refine wpAnyH_take (i := 5) (oi := { dst := some 65, op := Op.move (Operand.tmp 9), type := 3, pos := "ref.go:211", after := #[], guard := none }) (v := .int .i64 (i : Int)) rfl (by kernel_rfl) (by kernel_rfl) (by kernel_rfl) (fun _ _ _ h => h) (Or.inl ⟨by kernel_rfl, fun w hSw => ?_⟩) (by assumption) ?_
          · clear hSw; go_simp
          (try simp only [Act.put, List.setIfInBounds_toArray, List.set_cons_zero, List.set_cons_succ])
          refine wpAnyH_take (i := 6) (oi := { dst := some 66, op := Op.indexAddr 25 (Operand.tmp 64) (Operand.tmp 65), type := 0, pos := "ref.go:211", after := #[{ on := 4, ground := Ground.data }, { on := 5, ground := Ground.data }], guard := none }) (v := .pointer (some ⟨sb, soff + i, none⟩)) rfl (by kernel_rfl) (by kernel_rfl) (by kernel_rfl) (fun _ _ _ h => h) (Or.inl ⟨by kernel_rfl, fun w hSw => ?_⟩) (by assumption) ?_
          · clear hSw; go_simp
          (try simp only [Act.put, List.setIfInBounds_toArray, List.set_cons_zero, List.set_cons_succ])
          refine wpAnyH_take (i := 7) (oi := { dst := some 67, op := Op.load 9 (Operand.tmp 66), type := 9, pos := "ref.go:211", after := #[{ on := 6, ground := Ground.data }], guard := none }) (v := .string z1) rfl (by kernel_rfl) (by kernel_rfl) (by kernel_rfl) (fun _ _ _ h => h) (Or.inl ⟨by kernel_rfl, fun w hSw => ?_⟩) (by assumption) ?_
          · have h0 := hSw.2.2; clear hSw; go_simp
          (try simp only [Act.put, List.setIfInBounds_toArray, List.set_cons_zero, List.set_cons_succ])
          refine wpAnyH_ready (rs := [8]) (by kernel_rfl) (by simp) ?_
          refine AllReadyH.cons (o := { dst := some 68, op := Op.call { callee := Callee.value (Operand.func 52), args := #[Operand.tmp 61, Operand.tmp 63, Operand.tmp 67], argTypes := #[30, 30, 9] }, type := 25, pos := "ref.go:211", after := #[{ on := 1, ground := Ground.data }, { on := 3, ground := Ground.data }, { on := 7, ground := Ground.data }], guard := none }) rfl (fun K' hK => ?_) AllReadyH.nil
          go_simp
          refine (C52m.out _ z1 (BT.out _ hd2)).mono ?_
          rintro e x2 ⟨l, lo, lc, rfl, hl1, hmem, hll, t2⟩
          have d2 : Below wr.heap.size wr x2 := hd2.trans (t2.mono hd2.size)
          clear t2
          (try dsimp only)
          refine hK.out _ _ (KT2.out _ d2) (fun hHeld => ?_)
          clear hK K'
          (try simp only [Act.put, List.setIfInBounds_toArray, List.set_cons_zero, List.set_cons_succ])
          refine wpAnyH_take (i := 9) (oi := { dst := some 12, op := Op.assign (Operand.tmp 68), type := 25, pos := "ref.go:211", after := #[{ on := 8, ground := Ground.data }, { on := 8, ground := Ground.chain }, { on := 0, ground := Ground.phase }, { on := 1, ground := Ground.phase }, { on := 2, ground := Ground.phase }, { on := 3, ground := Ground.phase }, { on := 4, ground := Ground.phase }, { on := 5, ground := Ground.phase }, { on := 6, ground := Ground.phase }, { on := 7, ground := Ground.phase }, { on := 8, ground := Ground.phase }], guard := none }) (v := .slice lo l.length lc) rfl (by kernel_rfl) (by kernel_rfl) (by kernel_rfl) (fun _ _ _ h => h) (Or.inl ⟨by kernel_rfl, fun w hSw => ?_⟩) (by assumption) ?_
          · clear hSw; go_simp
          (try simp only [Act.put, List.setIfInBounds_toArray, List.set_cons_zero, List.set_cons_succ])
          refine wpAnyH_done (by kernel_rfl) ?_ _
          clear hHeld
          have hK2 := hide' (SK.out.below HM.out.2.1 d2)
          obtain ⟨K1, SK1, HK1, HE1⟩ : ∃ K1 : World → Prop, Hid (St36 K1) ∧ Hid (K1 x2) ∧ Hid (∀ W, K1 W → K W ∧ S.RowI x1.drew.heap.size lo lc l W) := by
            refine ⟨_, ?_, ?_, fun W q => q⟩
            · exact (SK.out : St36 K).and st_srow
            · exact ⟨hK2.out, hl1⟩
          have M5 : Hid (Below w.heap.size w x2 ∧ X.RowI w.heap.size to tc (relA F al ol (sl.take i)) x2) := ⟨BT.out _ d2, HM.out.2.2.below d2⟩
          have hlc : l.length ≤ lc := hl1.cap
          have hmi : (F.m.2.2 ++ F.i.2.2).length ≤ 1048576 := by rw [List.length_append]; exact Hp.out.mi
          have hl6 : Hid (l.length < 4398046511104) := by show _ < _; omega
          clear hmi
          have Hmem := hide' hmem
          clear hK2 HM KT KT2 BT C49 C52m hd hd2 d1 d2 hl1 hmem hll
          generalize x1.drew.heap.size = Bl at *
          go_wp2_with fail
          go_loopw [8, 13] (fun tv jv wx => ∃ (j : Nat) (to : Option Addr) (tc : Nat), jv = .int .i64 (j : Int) ∧ tv = .slice to (relA F al ol (sl.take i) ++ relS F al (ol.take j) (z1, r1)).length tc ∧ j ≤ ol.length ∧ Hid (Below w.heap.size w wx ∧ K1 wx ∧ X.RowI w.heap.size to tc (relA F al ol (sl.take i) ++ relS F al (ol.take j) (z1, r1)) wx)) (fun _ jv _ => ol.length - (intOf jv).toNat)
          case atStart => exact ⟨0, to, tc, rfl, by simp [relS], Nat.zero_le _, M5.out.1, HK1.out, by have q := M5.out.2; simpa [relS] using q⟩
          case round =>
            obtain ⟨j, to, tc, rfl, rfl, hj', HM⟩ := hrel
            clear M5 HK1
            by_cases hjt : j < ol.length
            · have hjt' : (j : Int) < (ol.length : Int) := by omega
              have hjt2 : (j : Int) < (ls.length : Int) := by omega
              obtain ⟨x, hxj⟩ : ∃ x, ls[j]? = some x := ⟨_, List.getElem?_eq_getElem (by omega)⟩
              have hoz : Hid (ol[j]? = some x.z) := by show _ = _; rw [← Hlz.out, List.getElem?_map, hxj]; rfl
              have hWl := hide' (HE.out wr (HE1.out wr HM.out.2.1).1).2
              have hca : ∀ k ∈ ls.map Wl.cells, k.length = 1 := fun k hk => by rw [List.mem_map] at hk; obtain ⟨y, _, rfl⟩ := hk; rfl
              obtain ⟨wb, hwo, x0, _, hwb⟩ := hWl.out.1.at hca (show (ls.map Wl.cells)[j]? = some x.cells by rw [List.getElem?_map, hxj]; rfl) (r := 0) (u := .slice x.go x.ms.length x.gc) rfl
              rw [Nat.mul_one, Nat.add_zero] at x0
              have hxx := hide' (hWl.out.2 x (List.mem_of_getElem? hxj))
              have BT : Hid (∀ W', Below wr.heap.size wr W' → Below w.heap.size w W') := fun W' b => HM.out.1.trans (b.mono HM.out.1.size)
              have KT : Hid (∀ W', Below wr.heap.size wr W' → W'.heap[q1]? = some (.cells #[.slice F.a.1 F.a.2.2.length F.a.2.1, .slice F.s.1 F.s.2.2.length F.s.2.1, .slice F.r.1 F.r.2.2.length F.r.2.1, .slice F.o.1 F.o.2.2.length F.o.2.1, .slice F.g.1 F.g.2.2.length F.g.2.1, .slice F.m.1 F.m.2.2.length F.m.2.1, .slice F.i.1 F.i.2.2.length F.i.2.1, .slice F.p.1 F.p.2.2.length F.p.2.1, .slice F.w.1 F.w.2.2.length F.w.2.1, .slice F.u.1 F.u.2.2.length F.u.2.1, .slice F.x.1 F.x.2.2.length F.x.2.1] 34 (0, 0)) ∧ W'.cell? ⟨wb, j, none⟩ = some (.slice x.go x.ms.length x.gc)) := fun W' b => ⟨(b.block _ (lt_of_heap (HE.out wr (HE1.out wr HM.out.2.1).1).1.1.1.1)).trans (HE.out wr (HE1.out wr HM.out.2.1).1).1.1.1.1, (b.cell (p := ⟨wb, j, none⟩) hwb).trans x0⟩
              have C60 : Hid (∀ W', Below wr.heap.size wr W' → Calls Try.prog 60 #[.agg #[.slice F.a.1 F.a.2.2.length F.a.2.1, .slice F.s.1 F.s.2.2.length F.s.2.1, .slice F.r.1 F.r.2.2.length F.r.2.1, .slice F.o.1 F.o.2.2.length F.o.2.1, .slice F.g.1 F.g.2.2.length F.g.2.1, .slice F.m.1 F.m.2.2.length F.m.2.1, .slice F.i.1 F.i.2.2.length F.i.2.1, .slice F.p.1 F.p.2.2.length F.p.2.1, .slice F.w.1 F.w.2.2.length F.w.2.1, .slice F.u.1 F.u.2.2.length F.u.2.1, .slice F.x.1 F.x.2.2.length F.x.2.1], .slice lo l.length lc, .float .f64 r1, .slice x.go x.ms.length x.gc] W' fun e w' => OneIs l x.ms r1 F.u.2.2 W' e w') := fun W' b => one_any F lo lc l r1 x.go x.gc x.ms W' (H.out.below (BT.out W' b)) Hs.out ((HE1.out wr HM.out.2.1).2.below b).ints hlc (hxx.out.1.below b).ints hxx.out.1.cap ⟨hl6.out, by have := hxx.out.2.2; omega⟩
              have honb : Hid (∀ R, onb l x.ms r1 R = (sbj F.po z1 R && obj F.po x.z R.what)) := fun R => by
                have hoin := hfacts.out.2.2 x.z (List.mem_of_getElem? hoz.out)
                unfold onb sbj obj
                rw [htr.out, hoin, isIn_iff Hmem.out, isIn_iff hxx.out.2.1]
                show (isIn (N.clo (F.m.2.2 ++ F.i.2.2) z1) R.who && isIn (N.clo (F.p.2.2 ++ F.w.2.2) x.z) R.what && M.pass R.cd R.lv r1) = ((isIn (N.clo (F.m.2.2 ++ F.i.2.2) z1) R.who && M.pass R.cd R.lv r1) && (true && isIn (N.clo (F.p.2.2 ++ F.w.2.2) x.z) R.what))
                cases isIn (N.clo (F.m.2.2 ++ F.i.2.2) z1) R.who <;> cases isIn (N.clo (F.p.2.2 ++ F.w.2.2) x.z) R.what <;> cases M.pass R.cd R.lv r1 <;> rfl
              have hd : Below wr.heap.size wr wr.drew := ⟨rfl, rfl, rfl, Nat.le_refl _, fun _ _ => rfl⟩
              have Hwo := hide' hwo
              rw [hwo]
              clear hwo hxj hca x0 hwb hWl
              go_wp2_with fail
              refine wp_region_held_drew (S := fun W' => W'.heap[q1]? = some (.cells #[.slice F.a.1 F.a.2.2.length F.a.2.1, .slice F.s.1 F.s.2.2.length F.s.2.1, .slice F.r.1 F.r.2.2.length F.r.2.1, .slice F.o.1 F.o.2.2.length F.o.2.1, .slice F.g.1 F.g.2.2.length F.g.2.1, .slice F.m.1 F.m.2.2.length F.m.2.1, .slice F.i.1 F.i.2.2.length F.i.2.1, .slice F.p.1 F.p.2.2.length F.p.2.1, .slice F.w.1 F.w.2.2.length F.w.2.1, .slice F.u.1 F.u.2.2.length F.u.2.1, .slice F.x.1 F.x.2.2.length F.x.2.1] 34 (0, 0)) ∧ W'.cell? ⟨wb, j, none⟩ = some (.slice x.go x.ms.length x.gc)) (by kernel_rfl) (KT.out _ hd) (fun hHeld => ?_)
              refine wpAnyH_take (i := 0) (oi := { dst := some 75, op := Op.load 34 (Operand.tmp 1), type := 34, pos := "ref.go:213", after := #[], guard := none }) (v := .agg #[.slice F.a.1 F.a.2.2.length F.a.2.1, .slice F.s.1 F.s.2.2.length F.s.2.1, .slice F.r.1 F.r.2.2.length F.r.2.1, .slice F.o.1 F.o.2.2.length F.o.2.1, .slice F.g.1 F.g.2.2.length F.g.2.1, .slice F.m.1 F.m.2.2.length F.m.2.1, .slice F.i.1 F.i.2.2.length F.i.2.1, .slice F.p.1 F.p.2.2.length F.p.2.1, .slice F.w.1 F.w.2.2.length F.w.2.1, .slice F.u.1 F.u.2.2.length F.u.2.1, .slice F.x.1 F.x.2.2.length F.x.2.1]) rfl (by kernel_rfl) (by kernel_rfl) (by kernel_rfl) (fun _ _ _ h => h) (Or.inl ⟨by kernel_rfl, fun w hSw => ?_⟩) (by assumption) ?_
              · exact ex_row 34 _ rfl q1 rfl 34 _ (0, 0) _ hSw.1 Try.underlying34 rfl (by kernel_rfl)
              (try simp only [Act.put, List.setIfInBounds_toArray, List.set_cons_zero, List.set_cons_succ])
              refine wpAnyH_take (i := 1) (oi := { dst := some 76, op := Op.move (Operand.tmp 12), type := 25, pos := "ref.go:213", after := #[], guard := none }) (v := .slice lo l.length lc) rfl (by kernel_rfl) (by kernel_rfl) (by kernel_rfl) (fun _ _ _ h => h) (Or.inl ⟨by kernel_rfl, fun w hSw => ?_⟩) (by assumption) ?_
              · clear hSw; go_simp
              (try simp only [Act.put, List.setIfInBounds_toArray, List.set_cons_zero, List.set_cons_succ])
              refine wpAnyH_take (i := 2) (oi := { dst := some 77, op := Op.move (Operand.tmp 10), type := 24, pos := "ref.go:213", after := #[], guard := none }) (v := .float .f64 r1) rfl (by kernel_rfl) (by kernel_rfl) (by kernel_rfl) (fun _ _ _ h => h) (Or.inl ⟨by kernel_rfl, fun w hSw => ?_⟩) (by assumption) ?_
              · clear hSw; go_simp
              (try simp only [Act.put, List.setIfInBounds_toArray, List.set_cons_zero, List.set_cons_succ])
              refine wpAnyH_take (i := 3) (oi := { dst := some 78, op := Op.move (Operand.tmp 6), type := 37, pos := "ref.go:213", after := #[], guard := none }) (v := .slice (some ⟨wb, 0, none⟩) ls.length wc) rfl (by kernel_rfl) (by kernel_rfl) (by kernel_rfl) (fun _ _ _ h => h) (Or.inl ⟨by kernel_rfl, fun w hSw => ?_⟩) (by assumption) ?_
              · clear hSw; go_simp
              (try simp only [Act.put, List.setIfInBounds_toArray, List.set_cons_zero, List.set_cons_succ])
              refine wpAnyH_take (i := 4) (oi := { dst := some 79, op := Op.move (Operand.tmp 13), type := 3, pos := "ref.go:213", after := #[], guard := none }) (v := .int .i64 (j : Int)) rfl (by kernel_rfl) (by kernel_rfl) (by kernel_rfl) (fun _ _ _ h => h) (Or.inl ⟨by kernel_rfl, fun w hSw => ?_⟩) (by assumption) ?_
              · clear hSw; go_simp
              (try simp only [Act.put, List.setIfInBounds_toArray, List.set_cons_zero, List.set_cons_succ])
              refine wpAnyH_take (i := 5) (oi := { dst := some 80, op := Op.indexAddr 37 (Operand.tmp 78) (Operand.tmp 79), type := 0, pos := "ref.go:213", after := #[{ on := 3, ground := Ground.data }, { on := 4, ground := Ground.data }], guard := none }) (v := .pointer (some ⟨wb, j, none⟩)) rfl (by kernel_rfl) (by kernel_rfl) (by kernel_rfl) (fun _ _ _ h => h) (Or.inl ⟨by kernel_rfl, fun w hSw => ?_⟩) (by assumption) ?_
              · clear hSw; go_simp
              (try simp only [Act.put, List.setIfInBounds_toArray, List.set_cons_zero, List.set_cons_succ])
              refine wpAnyH_take (i := 6) (oi := { dst := some 81, op := Op.load 25 (Operand.tmp 80), type := 25, pos := "ref.go:213", after := #[{ on := 5, ground := Ground.data }], guard := none }) (v := .slice x.go x.ms.length x.gc) rfl (by kernel_rfl) (by kernel_rfl) (by kernel_rfl) (fun _ _ _ h => h) (Or.inl ⟨by kernel_rfl, fun w hSw => ?_⟩) (by assumption) ?_
              · have h0 := hSw.2; clear hSw; go_simp
              (try simp only [Act.put, List.setIfInBounds_toArray, List.set_cons_zero, List.set_cons_succ])
              refine wpAnyH_ready (rs := [7]) (by kernel_rfl) (by simp) ?_
              refine AllReadyH.cons (o := { dst := some 82, op := Op.call { callee := Callee.value (Operand.func 60), args := #[Operand.tmp 75, Operand.tmp 76, Operand.tmp 77, Operand.tmp 81], argTypes := #[34, 25, 24, 25] }, type := 31, pos := "ref.go:213", after := #[{ on := 0, ground := Ground.data }, { on := 1, ground := Ground.data }, { on := 2, ground := Ground.data }, { on := 6, ground := Ground.data }], guard := none }) rfl (fun K' hK => ?_) AllReadyH.nil
              go_simp
              refine (C60.out _ hd).mono ?_
              rintro e x3 ⟨ro, rc, rfl, hr3, t3⟩
              have d3 : Below wr.heap.size wr x3 := hd.trans (t3.mono hd.size)
              clear t3
              (try dsimp only)
              refine hK.out _ _ (KT.out _ d3) (fun hHeld => ?_)
              clear hK K'
              (try simp only [Act.put, List.setIfInBounds_toArray, List.set_cons_zero, List.set_cons_succ])
              refine wpAnyH_take (i := 8) (oi := { dst := some 14, op := Op.assign (Operand.tmp 82), type := 31, pos := "ref.go:213", after := #[{ on := 7, ground := Ground.data }, { on := 7, ground := Ground.chain }, { on := 0, ground := Ground.phase }, { on := 1, ground := Ground.phase }, { on := 2, ground := Ground.phase }, { on := 3, ground := Ground.phase }, { on := 4, ground := Ground.phase }, { on := 5, ground := Ground.phase }, { on := 6, ground := Ground.phase }, { on := 7, ground := Ground.phase }], guard := none }) (v := .slice ro (F.u.2.2.filter (onb l x.ms r1)).length rc) rfl (by kernel_rfl) (by kernel_rfl) (by kernel_rfl) (fun _ _ _ h => h) (Or.inl ⟨by kernel_rfl, fun w hSw => ?_⟩) (by assumption) ?_
              · clear hSw; go_simp
              (try simp only [Act.put, List.setIfInBounds_toArray, List.set_cons_zero, List.set_cons_succ])
              refine wpAnyH_done (by kernel_rfl) ?_ _
              clear hHeld
              have hRus : Hid (∀ W, Below w.heap.size w W → G.RowI 27 6 wr.drew.heap.size ro rc ((F.u.2.2.filter (onb l x.ms r1)).map Ru.cells) W → Rus ro (F.u.2.2.filter (onb l x.ms r1)) W) := fun W b q => ⟨lies_row q (fun k hk => by rw [List.mem_map] at hk; obtain ⟨R, _, rfl⟩ := hk; rfl), fun R hR => (H.out.below b).u.1.2 R (List.mem_filter.1 hR).1⟩
              have hmay : Hid (∀ a ∈ al, mayb F (F.u.2.2.filter (onb l x.ms r1)) z1 x.z a = alw F z1 x.z a) := fun a ha => mayb_alw honb.out (hfacts.out.1 a ha)
              have hnone : Hid (F.u.2.2.filter (onb l x.ms r1) = [] → al.filter (alw F z1 x.z) = []) := fun q => none_alw honb.out hfacts.out.1 q
              have hrl : Hid ((F.u.2.2.filter (onb l x.ms r1)).length ≤ 1048576) := Nat.le_trans (List.length_filter_le _ _) Hs.out.u
              have hrcp : (F.u.2.2.filter (onb l x.ms r1)).length ≤ rc := by have := hr3.cap; rw [List.length_map] at this; exact this
              generalize F.u.2.2.filter (onb l x.ms r1) = rs at *
              have hrl64 : (rs.length : Int) ≤ 1048576 := by have := hrl.out; omega
              obtain ⟨K2, SK2, HK2, HE2⟩ : ∃ K2 : World → Prop, Hid (St36 K2) ∧ Hid (K2 x3) ∧ Hid (∀ W, K2 W → K1 W ∧ G.RowI 27 6 wr.drew.heap.size ro rc (rs.map Ru.cells) W) := by
                refine ⟨_, ?_, ?_, fun W q => q⟩
                · exact (SK1.out : St36 K1).and (st_grow (by decide))
                · exact ⟨SK1.out.below HM.out.2.1 d3, hr3⟩
              have M7 : Hid (Below w.heap.size w x3 ∧ X.RowI w.heap.size to tc (relA F al ol (sl.take i) ++ relS F al (ol.take j) (z1, r1)) x3) := ⟨BT.out _ d3, HM.out.2.2.below d3⟩
              have hrO := hide' (relO_eq F al z1 x.z)
              have hst := hide' (relS_take (F := F) (al := al) (s := (z1, r1)) hoz.out)
              clear HM KT BT C60 hd d3 hr3 honb
              generalize wr.drew.heap.size = Br at *
              go_wp2_with fail
              go_loopw [8, 15] (fun tv kv wx => ∃ (k : Nat) (to : Option Addr) (tc : Nat), kv = .int .i64 (k : Int) ∧ tv = .slice to (relA F al ol (sl.take i) ++ (relS F al (ol.take j) (z1, r1) ++ ((al.take k).filter (alw F z1 x.z)).map (fun a => (z1, x.z, a)))).length tc ∧ k ≤ al.length ∧ Hid (Below w.heap.size w wx ∧ K2 wx ∧ X.RowI w.heap.size to tc (relA F al ol (sl.take i) ++ (relS F al (ol.take j) (z1, r1) ++ ((al.take k).filter (alw F z1 x.z)).map (fun a => (z1, x.z, a)))) wx)) (fun _ kv _ => al.length - (intOf kv).toNat)
              case atStart => exact ⟨0, to, tc, rfl, by simp, Nat.zero_le _, M7.out.1, HK2.out, by have q := M7.out.2; simpa using q⟩
              case round =>
                obtain ⟨k, to, tc, rfl, rfl, hk, HM⟩ := hrel
                clear M7 HK2
                by_cases hgo : k < al.length ∧ rs ≠ []
                · as_aux_lemma =>
                    have hkt' : (k : Int) < (al.length : Int) := by have := hgo.1; omega
                    have hrp : (0 : Int) < (rs.length : Int) := by have : rs.length ≠ 0 := fun e => hgo.2 (List.eq_nil_of_length_eq_zero e); omega
                    obtain ⟨a, ha⟩ : ∃ a, al[k]? = some a := ⟨_, List.getElem?_eq_getElem hgo.1⟩
                    have EE := hide' (HE.out wr (HE1.out wr (HE2.out wr HM.out.2.1).1).1)
                    obtain ⟨sb', soff', hs1, _, x1c⟩ := EE.out.1.1.1.2.ints.at Hsi.out
                    rw [Hso.out] at hs1
                    cases hs1
                    obtain ⟨ob, ooff, hoo, _, x2c⟩ := EE.out.1.1.2.ints.at hoz.out
                    obtain ⟨ab, aoff, hao, _, x3c⟩ := EE.out.1.2.ints.at ha
                    have Hoo := hide' hoo
                    have Hao := hide' hao
                    have hrp2 : 0 < rs.length := by omega
                    have bV : Hid (Below wr.heap.size wr (wr.alloc (.cells #[.string z1, .string x.z, .string a] 36))) := (Below.refl _ _).alloc (Nat.le_refl _) _
                    have E9 : Hid ((Below w.heap.size w (wr.alloc (.cells #[.string z1, .string x.z, .string a] 36)) ∧ K2 (wr.alloc (.cells #[.string z1, .string x.z, .string a] 36)) ∧ X.RowI w.heap.size to tc (relA F al ol (sl.take i) ++ (relS F al (ol.take j) (z1, r1) ++ ((al.take k).filter (alw F z1 x.z)).map (fun a => (z1, x.z, a)))) (wr.alloc (.cells #[.string z1, .string x.z, .string a] 36))) ∧ (wr.alloc (.cells #[.string z1, .string x.z, .string a] 36)).heap[q1]? = some (.cells #[.slice F.a.1 F.a.2.2.length F.a.2.1, .slice F.s.1 F.s.2.2.length F.s.2.1, .slice F.r.1 F.r.2.2.length F.r.2.1, .slice F.o.1 F.o.2.2.length F.o.2.1, .slice F.g.1 F.g.2.2.length F.g.2.1, .slice F.m.1 F.m.2.2.length F.m.2.1, .slice F.i.1 F.i.2.2.length F.i.2.1, .slice F.p.1 F.p.2.2.length F.p.2.1, .slice F.w.1 F.w.2.2.length F.w.2.1, .slice F.u.1 F.u.2.2.length F.u.2.1, .slice F.x.1 F.x.2.2.length F.x.2.1] 34 (0, 0)) ∧ (wr.alloc (.cells #[.string z1, .string x.z, .string a] 36)).heap[wr.heap.size]? = some (.cells #[.string z1, .string x.z, .string a] 36 (0, 0))) := ⟨⟨HM.out.1.trans (bV.out.mono HM.out.1.size), SK2.out.below HM.out.2.1 bV.out, HM.out.2.2.below bV.out⟩, (bV.out.block _ (lt_of_heap EE.out.1.1.1.1)).trans EE.out.1.1.1.1, heap_alloc_new wr _⟩
                    have m0 : (wr.alloc (.cells #[.string z1, .string x.z, .string a] 36)).cell? ⟨q1, 0, none⟩ = some (.slice F.a.1 F.a.2.2.length F.a.2.1) := by rw [Lib.cell_of_heap E9.out.2.1]; rfl
                    have m1 : (wr.alloc (.cells #[.string z1, .string x.z, .string a] 36)).cell? ⟨q1, 1, none⟩ = some (.slice F.s.1 F.s.2.2.length F.s.2.1) := by rw [Lib.cell_of_heap E9.out.2.1]; rfl
                    have m2 : (wr.alloc (.cells #[.string z1, .string x.z, .string a] 36)).cell? ⟨q1, 2, none⟩ = some (.slice F.r.1 F.r.2.2.length F.r.2.1) := by rw [Lib.cell_of_heap E9.out.2.1]; rfl
                    have m3 : (wr.alloc (.cells #[.string z1, .string x.z, .string a] 36)).cell? ⟨q1, 3, none⟩ = some (.slice F.o.1 F.o.2.2.length F.o.2.1) := by rw [Lib.cell_of_heap E9.out.2.1]; rfl
                    have m4 : (wr.alloc (.cells #[.string z1, .string x.z, .string a] 36)).cell? ⟨q1, 4, none⟩ = some (.slice F.g.1 F.g.2.2.length F.g.2.1) := by rw [Lib.cell_of_heap E9.out.2.1]; rfl
                    have m5 : (wr.alloc (.cells #[.string z1, .string x.z, .string a] 36)).cell? ⟨q1, 5, none⟩ = some (.slice F.m.1 F.m.2.2.length F.m.2.1) := by rw [Lib.cell_of_heap E9.out.2.1]; rfl
                    have m6 : (wr.alloc (.cells #[.string z1, .string x.z, .string a] 36)).cell? ⟨q1, 6, none⟩ = some (.slice F.i.1 F.i.2.2.length F.i.2.1) := by rw [Lib.cell_of_heap E9.out.2.1]; rfl
                    have m7 : (wr.alloc (.cells #[.string z1, .string x.z, .string a] 36)).cell? ⟨q1, 7, none⟩ = some (.slice F.p.1 F.p.2.2.length F.p.2.1) := by rw [Lib.cell_of_heap E9.out.2.1]; rfl
                    have m8 : (wr.alloc (.cells #[.string z1, .string x.z, .string a] 36)).cell? ⟨q1, 8, none⟩ = some (.slice F.w.1 F.w.2.2.length F.w.2.1) := by rw [Lib.cell_of_heap E9.out.2.1]; rfl
                    have m9 : (wr.alloc (.cells #[.string z1, .string x.z, .string a] 36)).cell? ⟨q1, 9, none⟩ = some (.slice F.u.1 F.u.2.2.length F.u.2.1) := by rw [Lib.cell_of_heap E9.out.2.1]; rfl
                    have m10 : (wr.alloc (.cells #[.string z1, .string x.z, .string a] 36)).cell? ⟨q1, 10, none⟩ = some (.slice F.x.1 F.x.2.2.length F.x.2.1) := by rw [Lib.cell_of_heap E9.out.2.1]; rfl
                    have c0 : (wr.alloc (.cells #[.string z1, .string x.z, .string a] 36)).cell? ⟨wr.heap.size, 0, none⟩ = some (.string z1) := by rw [Lib.cell_of_heap E9.out.2.2]; rfl
                    have c1 : (wr.alloc (.cells #[.string z1, .string x.z, .string a] 36)).cell? ⟨wr.heap.size, 1, none⟩ = some (.string x.z) := by rw [Lib.cell_of_heap E9.out.2.2]; rfl
                    have c2 : (wr.alloc (.cells #[.string z1, .string x.z, .string a] 36)).cell? ⟨wr.heap.size, 2, none⟩ = some (.string a) := by rw [Lib.cell_of_heap E9.out.2.2]; rfl
                    have hdr : Hid (Below (wr.alloc (.cells #[.string z1, .string x.z, .string a] 36)).heap.size (wr.alloc (.cells #[.string z1, .string x.z, .string a] 36)) (wr.alloc (.cells #[.string z1, .string x.z, .string a] 36)).drew) := ⟨rfl, rfl, rfl, Nat.le_refl _, fun _ _ => rfl⟩
                    have C61 : Hid (Calls Try.prog 61 #[.agg #[.slice F.a.1 F.a.2.2.length F.a.2.1, .slice F.s.1 F.s.2.2.length F.s.2.1, .slice F.r.1 F.r.2.2.length F.r.2.1, .slice F.o.1 F.o.2.2.length F.o.2.1, .slice F.g.1 F.g.2.2.length F.g.2.1, .slice F.m.1 F.m.2.2.length F.m.2.1, .slice F.i.1 F.i.2.2.length F.i.2.1, .slice F.p.1 F.p.2.2.length F.p.2.1, .slice F.w.1 F.w.2.2.length F.w.2.1, .slice F.u.1 F.u.2.2.length F.u.2.1, .slice F.x.1 F.x.2.2.length F.x.2.1], .slice ro rs.length rc, .agg #[.string z1, .string x.z, .string a]] (wr.alloc (.cells #[.string z1, .string x.z, .string a] 36)).drew fun e w' => e = .returned (.bool (alw F z1 x.z a)) ∧ Below (wr.alloc (.cells #[.string z1, .string x.z, .string a] 36)).heap.size (wr.alloc (.cells #[.string z1, .string x.z, .string a] 36)) w') := by
                      have bb := E9.out.1.1.trans (hdr.out.mono E9.out.1.1.size)
                      rw [← hmay.out a (List.mem_of_getElem? ha)]
                      refine (may_any F ro rc rs z1 x.z a _ (H.out.below bb) Hs.out (hRus.out _ bb ((HE2.out _ E9.out.1.2.1).2.below hdr.out)) hrcp hrl.out).mono ?_
                      rintro e w' ⟨rfl, b⟩
                      exact ⟨rfl, hdr.out.trans b⟩
                    have htk : Hid ((al.take (k + 1)).filter (alw F z1 x.z) = (al.take k).filter (alw F z1 x.z) ++ (if alw F z1 x.z a = true then [a] else [])) := by
                      show _ = _
                      rw [List.take_add_one, ha, List.filter_append]
                      by_cases q : alw F z1 x.z a = true
                      · rw [if_pos q]; simp [q]
                      · rw [if_neg q]; simp [q]
                    have hbd := hide' (rel_bnd2 (F := F) (al := al) (ol := ol) (sl := sl) (s := (z1, r1)) (p := alw F z1 x.z) (mk := fun a => (z1, x.z, a)) hlt hjt hgo.1 HV.out)
                    have hkl := hgo.1
                    rw [hoo, hao]
                    clear hoo hao HM bV EE ha hgo
                    go_wp2_with fail
                    go_region
                    go_wp2_with fail
                    refine C61.out.mono ?_
                    rintro e x9 ⟨rfl, b9⟩
                    have M9 : Hid ((Below w.heap.size w x9 ∧ K2 x9 ∧ X.RowI w.heap.size to tc (relA F al ol (sl.take i) ++ (relS F al (ol.take j) (z1, r1) ++ ((al.take k).filter (alw F z1 x.z)).map (fun a => (z1, x.z, a)))) x9) ∧ x9.heap[wr.heap.size]? = some (.cells #[.string z1, .string x.z, .string a] 36 (0, 0))) := ⟨⟨E9.out.1.1.trans (b9.mono E9.out.1.1.size), SK2.out.below E9.out.1.2.1 b9, E9.out.1.2.2.below b9⟩, (b9.block _ (lt_of_heap E9.out.2.2)).trans E9.out.2.2⟩
                    clear E9 C61 hdr b9 c0 c1 c2 m0 m1 m2 m3 m4 m5 m6 m7 m8 m9 m10 x1c x2c x3c
                    generalize wr.heap.size = q16 at *
                    obtain ⟨av, hav⟩ : ∃ av, alw F z1 x.z a = av := ⟨_, rfl⟩
                    rw [hav] at htk ⊢
                    clear hav
                    cases av with
                    | false =>
                      have hf2 : Hid ((al.take (k + 1)).filter (alw F z1 x.z) = (al.take k).filter (alw F z1 x.z)) := by have q := htk.out; show _ = _; simpa using q
                      clear htk
                      go_wp2_with fail
                      exact ⟨⟨k + 1, to, tc, by go_num, by rw [hf2.out]; simp, by omega, by rw [hf2.out]; exact M9.out.1⟩, by simp [intOf]; omega⟩
                    | true =>
                      have hf2 : Hid (relA F al ol (sl.take i) ++ (relS F al (ol.take j) (z1, r1) ++ ((al.take (k + 1)).filter (alw F z1 x.z)).map (fun a => (z1, x.z, a))) = (relA F al ol (sl.take i) ++ (relS F al (ol.take j) (z1, r1) ++ ((al.take k).filter (alw F z1 x.z)).map (fun a => (z1, x.z, a)))) ++ [(z1, x.z, a)]) := by
                        have q : (al.take (k + 1)).filter (alw F z1 x.z) = (al.take k).filter (alw F z1 x.z) ++ [a] := by simpa using htk.out
                        show _ = _
                        rw [q, List.map_append, List.append_assoc, List.append_assoc]; rfl
                      have c0 : x9.cell? ⟨q16, 0, none⟩ = some (.string z1) := by rw [Lib.cell_of_heap M9.out.2]; rfl
                      have c1 : x9.cell? ⟨q16, 1, none⟩ = some (.string x.z) := by rw [Lib.cell_of_heap M9.out.2]; rfl
                      have c2 : x9.cell? ⟨q16, 2, none⟩ = some (.string a) := by rw [Lib.cell_of_heap M9.out.2]; rfl
                      clear htk
                      generalize relA F al ol (sl.take i) ++ (relS F al (ol.take j) (z1, r1) ++ ((al.take k).filter (alw F z1 x.z)).map (fun a => (z1, x.z, a))) = zs at *
                      go_wp2_with (at_builtin; refine X.wpList_app1 x9 rfl _ _ rfl w.heap.size to tc zs (z1, x.z, a) _ 1 rfl M9.out.1.2.2 rfl hbd M9.out.1.1.size ?_; intro g9 cg y9 hr9 ht9 ho9 hl9; have G9 := hide' (And.intro hr9 ht9); clear hr9 ht9 ho9 hl9)
                      exact ⟨⟨k + 1, some ⟨g9, 0, none⟩, cg, by go_num, by rw [hf2.out, List.length_append]; rfl, by omega, by rw [hf2.out]; exact ⟨M9.out.1.1.trans (below_own G9.out.2 (fun j q => (M9.out.1.2.2.lt j q).1) M9.out.1.1.size), SK2.out _ _ _ M9.out.1.2.1 G9.out.2 (kindX M9.out.1.2.2), G9.out.1⟩⟩, by simp [intOf]; omega⟩
                · as_aux_lemma =>
                    have hfin : Hid (((al.take k).filter (alw F z1 x.z)).map (fun a => (z1, x.z, a)) = relO F al z1 x.z) := by
                      show _ = _
                      rw [hrO.out]
                      by_cases hrs : rs = []
                      · have e := hnone.out hrs
                        have e2 : (al.take k).filter (alw F z1 x.z) = [] := by
                          rw [List.filter_eq_nil_iff] at e ⊢
                          exact fun a ha => e a (List.mem_of_mem_take ha)
                        rw [e, e2]
                      · have hkk : k = al.length := by have : ¬ k < al.length := fun q => hgo ⟨q, hrs⟩; omega
                        rw [hkk, List.take_length]
                    have q3 : relS F al (ol.take (j + 1)) (z1, r1) = relS F al (ol.take j) (z1, r1) ++ relO F al z1 x.z := hst.out
                    have M9 : Hid (Below w.heap.size w wr ∧ K1 wr ∧ X.RowI w.heap.size to tc (relA F al ol (sl.take i) ++ relS F al (ol.take (j + 1)) (z1, r1)) wr) := by
                      have q := HM.out
                      rw [hfin.out, ← q3] at q
                      exact ⟨q.1, (HE2.out wr q.2.1).1, q.2.2⟩
                    rw [hfin.out, ← q3]
                    clear HM q3
                    by_cases hkt : k < al.length
                    · have hrs : rs.length = 0 := by
                        have : rs = [] := by
                          by_cases q : rs = []
                          · exact q
                          · exact absurd ⟨hkt, q⟩ hgo
                        rw [this]; rfl
                      have hkt' : (k : Int) < (al.length : Int) := by omega
                      have hng : ¬ (0 : Int) < (rs.length : Int) := by omega
                      clear hrs hgo
                      go_wp2_with fail
                      exact ⟨⟨j + 1, to, tc, by go_num, rfl, by omega, M9⟩, by simp [intOf]; omega⟩
                    · have hkt' : ¬ (k : Int) < (al.length : Int) := by omega
                      clear hgo
                      go_wp2_with fail
                      exact ⟨⟨j + 1, to, tc, by go_num, rfl, by omega, M9⟩, by simp [intOf]; omega⟩
            · have hjl : j = ol.length := by omega
              have hjt' : ¬ (j : Int) < (ol.length : Int) := by omega
              have hfull : Hid (ol.take j = ol) := by show _ = _; rw [hjl, List.take_length]
              have M9 : Hid (Below w.heap.size w wr ∧ K wr ∧ X.RowI w.heap.size to tc (relA F al ol (sl.take (i + 1))) wr) := by
                have q := HM.out
                rw [hfull.out] at q
                rw [hstep.out]
                exact ⟨q.1, (HE1.out wr q.2.1).1, q.2.2⟩
              rw [hfull.out, ← hstep.out]
              clear HM hjl
              go_wp2_with fail
              exact ⟨⟨i + 1, to, tc, by go_num, rfl, by omega, M9⟩, by simp [intOf]; omega⟩
        · have hil : i = sl.length := by omega
          have hlt' : ¬ (i : Int) < (sl.length : Int) := by omega
          have KK : Hid (RelIs F w (.returned (.slice to (rel F).length tc)) wr) := by
            have q := HM.out
            rw [hil, List.take_length, ← hrel.out] at q
            exact ⟨to, tc, rfl, q.2.2, q.1⟩
          have hfull : Hid (relA F al ol (sl.take i) = rel F) := by show _ = _; rw [hil, List.take_length, hrel.out]
          rw [hfull.out]
          clear HM hil
          go_wp2_with fail
          go_ret
          exact KK.out
end U
end Go.Proofs.Ytgbhcfephhbalaa
