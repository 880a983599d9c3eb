import Derived.Test.YtjhnlmedmpcgoaaAc2
set_option linter.unusedVariables false
set_option linter.unusedSimpArgs false
namespace Go.Proofs.Ytjhnlmedmpcgoaa
open Go.RowKit
namespace Q
open C (Tk)
variable {D U : Nat → Prop} {B K : Nat} {m : Mr} {w w' w1 : World} {s : Sq} {Db : Nat → Prop} {P E : Nat → Nat → Prop}
/-- a machine made, and its pointer in the row -/
theorem end_m {s3 : Sq} {U : Nat → Prop} {w1 V3 w5 : World} {gg cap' : Nat} {o2 : Obj} (o : Bool) (n' : Int) (hn : o = true ∨ 1 ≤ n') (h3 : To B s3 U w1 V3) (hB : B ≤ w1.heap.size) (hown1 : w5.ownsRow B 26 1 (.slice (some ⟨gg, 0, none⟩) (s3.vm.length + 1) cap') (s3.vm.length + 1) (s3.vm ++ [ptr V3.heap.size]))
    (hgrow : ((V3.alloc (.cells #[.int .i64 n', .bool o, .slice none 0 0] 33)).alloc o2).drew.grownBy w5 (Value.slice s3.rm.a s3.vm.length s3.rm.c).ownBlock) (hat : (Value.slice s3.rm.a s3.vm.length s3.rm.c).ownBlock = some gg ∨ gg = V3.heap.size + 2) :
    To B { s3 with MD := s3.MD ++ [⟨o, n', V3.heap.size, []⟩], vm := s3.vm ++ [ptr V3.heap.size], rm := ⟨some ⟨gg, 0, none⟩, cap'⟩ } U w1 (w5.setCell ⟨s3.t, 1, none⟩ (.slice (some ⟨gg, 0, none⟩) (s3.vm.length + 1) cap')) := by
  have hB3 : B ≤ V3.heap.size := Nat.le_trans hB (size_to h3)
  have b1 : Below V3.heap.size V3 (V3.alloc (.cells #[.int .i64 n', .bool o, .slice none 0 0] 33)) := (Below.refl _ _).alloc (Nat.le_refl _) _
  have e1 : To B { s3 with MD := s3.MD ++ [⟨o, n', V3.heap.size, []⟩] } U w1 (V3.alloc (.cells #[.int .i64 n', .bool o, .slice none 0 0] 33)) := h3.trans (fun Db P E z => z.addD b1 (D := fun j => j = V3.heap.size) (by
    have hh : (V3.alloc (.cells #[.int .i64 n', .bool o, .slice none 0 0] 33)).heap[V3.heap.size]? = some (.cells #[.int .i64 n', .bool o, .slice none 0 0] 33 (0, 0)) := heap_alloc_new _ _
    have hd : ∀ j, (j = V3.heap.size) ↔ R.Own V3.heap.size none j := fun j => ⟨.inl, fun q => q.elim id (fun ⟨_, e, _⟩ => by cases e)⟩
    cases o with
    | true => exact .inl ⟨rfl, none, 0, ⟨hh, World.ownsRow_nil _ _ _ _, hB3⟩, hd⟩
    | false => exact .inr ⟨rfl, ⟨none, 0, ⟨hh, World.ownsRow_nil _ _ _ _, hB3⟩, hd⟩, by simpa using hn, by have : 1 ≤ n' := (by simpa using hn); show ((0 : Nat) : Int) ≤ n'; omega⟩) (fun j q => Nat.le_of_eq q.symm))
  refine e1.trans (fun Db P E z => ?_)
  refine z.growM (w0 := ((V3.alloc (.cells #[.int .i64 n', .bool o, .slice none 0 0] 33)).alloc o2).drew) ((Below.refl _ _).alloc (Nat.le_refl _) _).drew hown1 ((Turn.refl _ _).grown hgrow (fun j hj _ => own_at hj)) ?_
  rcases hat with q | q
  · exact .inl (own_at q)
  · refine .inr ?_
    show ((V3.alloc (.cells #[.int .i64 n', .bool o, .slice none 0 0] 33)).alloc o2).heap.size ≤ gg
    rw [q]
    simp
/-- a machine made, and its pointer in the row -/
theorem end_o {s3 : Sq} {U : Nat → Prop} {w1 V3 w5 : World} {gg cap' : Nat} {o2 : Obj} (o : Bool) (n' : Int) (hn : o = true ∨ 1 ≤ n') (ho : o = true) (h3 : To B s3 U w1 V3) (hB : B ≤ w1.heap.size) (hown1 : w5.ownsRow B 76 1 (.slice (some ⟨gg, 0, none⟩) (s3.vo.length + 1) cap') (s3.vo.length + 1) (s3.vo ++ [ptr V3.heap.size]))
    (hgrow : ((V3.alloc (.cells #[.int .i64 n', .slice none 0 0] 78)).alloc o2).drew.grownBy w5 (Value.slice s3.ro.a s3.vo.length s3.ro.c).ownBlock) (hat : (Value.slice s3.ro.a s3.vo.length s3.ro.c).ownBlock = some gg ∨ gg = V3.heap.size + 2) :
    To B { s3 with MP := s3.MP ++ [⟨o, n', V3.heap.size, []⟩], vo := s3.vo ++ [ptr V3.heap.size], ro := ⟨some ⟨gg, 0, none⟩, cap'⟩ } U w1 (w5.setCell ⟨s3.t, 5, none⟩ (.slice (some ⟨gg, 0, none⟩) (s3.vo.length + 1) cap')) := by
  have hB3 : B ≤ V3.heap.size := Nat.le_trans hB (size_to h3)
  have b1 : Below V3.heap.size V3 (V3.alloc (.cells #[.int .i64 n', .slice none 0 0] 78)) := (Below.refl _ _).alloc (Nat.le_refl _) _
  have e1 : To B { s3 with MP := s3.MP ++ [⟨o, n', V3.heap.size, []⟩] } U w1 (V3.alloc (.cells #[.int .i64 n', .slice none 0 0] 78)) := h3.trans (fun Db P E z => z.addP b1 (D := fun j => j = V3.heap.size) (by
    have hh : (V3.alloc (.cells #[.int .i64 n', .slice none 0 0] 78)).heap[V3.heap.size]? = some (.cells #[.int .i64 n', .slice none 0 0] 78 (0, 0)) := heap_alloc_new _ _
    exact .inl ⟨ho, none, 0, ⟨hh, World.ownsRow_nil _ _ _ _, hB3⟩, fun j => ⟨.inl, fun q => q.elim id (fun ⟨_, e, _⟩ => by cases e)⟩⟩) (fun j q => Nat.le_of_eq q.symm))
  refine e1.trans (fun Db P E z => ?_)
  refine z.growO (w0 := ((V3.alloc (.cells #[.int .i64 n', .slice none 0 0] 78)).alloc o2).drew) ((Below.refl _ _).alloc (Nat.le_refl _) _).drew hown1 ((Turn.refl _ _).grown hgrow (fun j hj _ => own_at hj)) ?_
  rcases hat with q | q
  · exact .inl (own_at q)
  · refine .inr ?_
    show ((V3.alloc (.cells #[.int .i64 n', .slice none 0 0] 78)).alloc o2).heap.size ≤ gg
    rw [q]
    simp
theorem to_then {s1 s2 : Sq} {U : Nat → Prop} {w2 w3 : World} {Db1 : Nat → Prop} {P1 E1 : Nat → Nat → Prop} (t5 : Turn U w1 w2) (m5 : ∀ j, Sb s1 Db1 P1 E1 j → U j ∨ w1.heap.size ≤ j) (h : To B s2 (Sb s1 Db1 P1 E1) w2 w3) : To B s2 U w1 w3 := by
  obtain ⟨Db', P', E', a, b, c⟩ := h
  refine ⟨Db', P', E', a, t5.then b (fun j hj q => (m5 j q).elim id (fun z => by omega)), fun j q => ?_⟩
  rcases c j q with q | q
  · exact m5 j q
  · exact .inr (Nat.le_trans t5.size q)
theorem To.tb {s' : Sq} {U : Nat → Prop} (h : To B s' U w w') : ∃ Db P E, Tb B s' Db P E w' := by obtain ⟨Db, P, E, z, _⟩ := h; exact ⟨Db, P, E, z⟩
/-- what the next append wants, at any field -/
structure Fld (w : World) (B t off e : Nat) (r : Sl) (xs : List Value) : Prop where
  c : w.cell? ⟨t, off, none⟩ = some (.slice r.a xs.length r.c)
  f : w.frozen? ⟨t, off, none⟩ = false
  row : w.ownsRow B e 1 (.slice r.a xs.length r.c) xs.length xs
  na : ¬ At r.a t
  lt : t < w.heap.size
theorem Tb.fm (h : Tb B s Db P E w) : Fld w B s.t 1 26 s.rm s.vm := ⟨h.c 1, h.fx 1, h.hm, fun q => by have := (row_kd h.hm q).1.det h.kt; omega, h.lt⟩
theorem Tb.fc (h : Tb B s Db P E w) : Fld w B s.t 4 24 s.rc s.vc := ⟨h.c 4, h.fx 4, h.hc, fun q => by have := (row_kd h.hc q).1.det h.kt; omega, h.lt⟩
theorem Tb.fo (h : Tb B s Db P E w) : Fld w B s.t 5 76 s.ro s.vo := ⟨h.c 5, h.fx 5, h.ho, fun q => by have := (row_kd h.ho q).1.det h.kt; omega, h.lt⟩

set_option maxRecDepth 100000 in
set_option maxHeartbeats 8000000 in
theorem act1 (n : Int) (h : Tb B s Db P E w) (r : Rest K s) (hB : B ≤ w.heap.size) (hK : K < 8796093022209) :
    Calls Try.prog 22 #[.pointer (some ⟨s.t, 0, none⟩), .agg #[.int .i64 1, .int .i64 n]] w fun e w' => e = .returned (.bool true) ∧ AQ K B s (Sb s Db P E) w w' := by
  obtain ⟨i0, hi1, hz0, hz1, hz2⟩ := info_parts info26
  obtain ⟨w1, x, Hw1, Hx, b1, x1, t1, c0, c1, c3, o0, o1, nx⟩ := at_box 1 n h
  have hB1 : B ≤ w1.heap.size := Nat.le_trans hB b1.size
  have hvl := r.vl
  have hkN := r.kN
  have lc : s.vc.length = s.MP.length := by rw [r.vc, List.length_map]
  have lo : s.vo.length = s.MP.length := by rw [r.vo, List.length_map]
  obtain ⟨N, hN⟩ : ∃ N, N = s.vm.length := ⟨_, rfl⟩
  have HC := hide' (C.new_ct n w1 hB1)
  have K0 : Hid (To B s (Sb s Db P E) w1 w1) := hide' (t1.same (Below.refl _ _))
  have HS := hide' (And.intro r (And.intro b1 (And.intro x1 (And.intro nx (And.intro hB1 hK)))))
  have HLn : Hid (s.vc.length < 17592186044000 ∧ s.vo.length < 17592186044000 ∧ s.vm.length < 17592186044000) := hide' ⟨by omega, by omega, by omega⟩
  have HNm : Hid (N = s.MP.length ∧ N = s.vm.length) := hide' ⟨by omega, hN⟩
  rw [← hN] at c1
  have H1 := hide' t1
  clear h r b1 x1 t1 c3 nx hB hK hvl hkN lc lo hN c0
  go_enter Try.func22, Try.ntmps22
  go_upto_region 1 with fail
  rw [← Hw1.out, ← Hx.out]
  clear Hw1
  go_wp2_with fail
  refine HC.out.mono ?_
  rintro e w2 ⟨rfl, hct, hb2, hsz⟩
  obtain ⟨cb, hcb⟩ : ∃ cb, cb = w1.heap.size := ⟨_, rfl⟩
  rw [← hcb] at hct
  have K1 : Hid (To B { s with MP := s.MP ++ [⟨false, max n 1, cb, []⟩] } (Sb s Db P E) w1 w2) := hide' (by
    refine H1.out.addP hb2 (D := fun j => j = cb) (.inr ⟨rfl, hct, by show 1 ≤ max n 1; omega, by show ((0 : Nat) : Int) ≤ max n 1; omega⟩) (fun j q => by rw [q, hcb]; exact Nat.le_refl _))
  rw [← hcb]
  have Hcb := hide' hcb
  clear hct hb2 hsz HC H1 hcb
  -- the counters' row
  obtain ⟨_, _, _, z2⟩ := K1.out.tb
  have F2 := hide' z2.fc
  have d4 : w2.cell? ⟨s.t, 4, none⟩ = some (.slice s.rc.a s.vc.length s.rc.c) := F2.out.c
  clear z2
  go_wp2_with (at_builtin; first | (have G := d5; refine wpList_more (e := 76) (m := 1) Try.underlying45 info76 rfl (by omega) _ rfl _ _ rfl F3.out.row (hide' HLn.out.2.1) (.inl (by omega)) (Nat.le_trans HS.out.2.2.2.2.1 (size_to K2.out)) [.pointer none] rfl (by simp [Value.oneCell']) 1 rfl (by rw [World.size_setCell]; rfl) ?_; intro gh cap2 w4 r4 t4 hg4; have a0 := (t4.cell (p := ⟨s.t, 5, none⟩) F3.out.lt F3.out.na).trans F3.out.c; have a1 : w4.frozen? ⟨s.t, 5, none⟩ = false := (World.frozen?_of_block (t4.block s.t F3.out.lt F3.out.na)).trans F3.out.f; clear d5) | (refine wpList_more (e := 24) (m := 1) Try.underlying44 info24 rfl (by omega) w2 rfl _ _ rfl F2.out.row (hide' HLn.out.1) (.inl (by omega)) (Nat.le_trans HS.out.2.2.2.2.1 (size_to K1.out)) [.pointer (some ⟨cb, 0, none⟩)] rfl (by simp [Value.oneCell']) _ rfl rfl ?_; intro gg cap' w3 r3 t3 hg3; have a0 := (t3.cell (p := ⟨s.t, 4, none⟩) F2.out.lt F2.out.na).trans F2.out.c; have a1 : w3.frozen? ⟨s.t, 4, none⟩ = false := (World.frozen?_of_block (w := w2) (t3.block s.t F2.out.lt F2.out.na)).trans F2.out.f; have K2 : Hid (To B { s with MP := s.MP ++ [⟨false, max n 1, cb, []⟩], vc := s.vc ++ [.pointer (some ⟨cb, 0, none⟩)], rc := ⟨some ⟨gg, 0, none⟩, cap'⟩ } (Sb s Db P E) w1 (w3.setCell ⟨s.t, 4, none⟩ (.slice (some ⟨gg, 0, none⟩) (s.vc.length + 1) cap'))) := hide' (K1.out.trans (fun _ _ _ z => z.growC (Below.refl _ _) r3 t3 hg3)); have F3 : Hid (Fld (w3.setCell ⟨s.t, 4, none⟩ (.slice (some ⟨gg, 0, none⟩) (s.vc.length + 1) cap')) B s.t 5 76 s.ro s.vo) := (by obtain ⟨_, _, _, z3⟩ := K2.out.tb; exact hide' z3.fo); have d5 := F3.out.c; clear r3 t3 hg3 d4))
  have K3 : Hid (To B { s with MP := s.MP ++ [⟨false, max n 1, cb, []⟩], vc := s.vc ++ [.pointer (some ⟨cb, 0, none⟩)], rc := ⟨some ⟨gg, 0, none⟩, cap'⟩, vo := s.vo ++ [.pointer none], ro := ⟨some ⟨gh, 0, none⟩, cap2⟩ } (Sb s Db P E) w1 (w4.setCell ⟨s.t, 5, none⟩ (.slice (some ⟨gh, 0, none⟩) (s.vo.length + 1) cap2))) := hide' (K2.out.trans (fun _ _ _ z => z.growO (Below.refl _ _) r4 t4 hg4))
  clear r4 t4 hg4 a0 a1 F3 K2 F2 K1
  generalize w4.setCell ⟨s.t, 5, none⟩ (.slice (some ⟨gh, 0, none⟩) (s.vo.length + 1) cap2) = V3 at *
  -- the document's machine
  obtain ⟨_, _, _, z4⟩ := K3.out.tb
  have F4 := hide' z4.fm
  have row := F4.out.row
  have s1 : V3.cell? ⟨s.t, 1, none⟩ = some (.slice s.rm.a s.vm.length s.rm.c) := F4.out.c
  have f1 : V3.frozen? ⟨s.t, 1, none⟩ = false := F4.out.f
  have lts : s.t < V3.heap.size := F4.out.lt
  have xb := K3.out.box (x := x) HS.out.2.2.1 HS.out.2.2.2.1
  have p1 : V3.cell? ⟨x, 1, none⟩ = some (.int .i64 n) := (Lib.cell_of_heap xb 1).trans rfl
  have n1 : Hid (s.vm.length + 1 ≤ maxLen) := hide' (by have := HLn.out.2.2; unfold maxLen; omega)
  have n2 : Hid ((s.vm.length + 1) * 8 ≤ 140737488355328) := hide' (by have := HLn.out.2.2; omega)
  have ne : some s.t ≠ (Value.slice s.rm.a s.vm.length s.rm.c).ownBlock := fun q => F4.out.na (own_at q.symm)
  replace row : V3.ownsRow B 26 1 (.slice s.rm.a s.vm.length s.rm.c) s.vm.length s.vm := row
  have HwB : Hid (B ≤ V3.heap.size) := hide' (Nat.le_trans HS.out.2.2.2.2.1 (size_to K3.out))
  clear z4 xb
  have new1 := World.new_ne V3 ⟨s.t, 1, none⟩ s1
  have newx := World.new_ne V3 ⟨x, 1, none⟩ p1
  have new2 : ∀ o o', ((V3.alloc o).alloc o').drew.heap[V3.heap.size + 1]? = some o' := fun o o' => by show ((V3.alloc o).alloc o').heap[V3.heap.size + 1]? = some o'; have := heap_alloc_new (V3.alloc o) o'; rw [show (V3.alloc o).heap.size = V3.heap.size + 1 by simp] at this; exact this
  have fal : ∀ o o', ((V3.alloc o).alloc o').drew.frozen? ⟨s.t, 1, none⟩ = false := fun o o' => (World.frozen?_of_block (w := V3) ((Below.heap_alloc _ _ _ (by simp; omega)).trans (Below.heap_alloc _ _ _ lts))).trans f1
  have cal : ∀ o o', ((V3.alloc o).alloc o').drew.cell? ⟨s.t, 1, none⟩ = some (.slice s.rm.a s.vm.length s.rm.c) := fun o o' => (World.cell?_of_block (w := V3) ((Below.heap_alloc _ _ _ (by simp; omega)).trans (Below.heap_alloc _ _ _ lts))).trans s1
  have HQ := hide' (R.new_any n V3.drew)
  have hBV := HwB.out
  go_region_law ((first | (refine step_append_lies _ (by rfl) _ _ _ (by rfl) B 26 i0 _ 1 8 Try.underlying40 hi1 hz0 hz1 hz2 rfl (by omega) (.slice s.rm.a s.vm.length s.rm.c) s.vm.length s.vm (by rfl) (((row.alloc _).alloc _).drew) ⟨V3.heap.size + 1, 0, none⟩ 1 1 [.pointer (some ⟨V3.heap.size, 0, none⟩)] (by rfl) (by rfl) (World.news_of_block (cs := #[.pointer (some ⟨V3.heap.size, 0, none⟩)]) (t := 26) (fr := (0, 0)) (new2 _ _)) (by simp [Value.oneCell']) (by omega) n1.out n2.out (by simp; omega) (V3.heap.size + 2) (by simp) ?_; intro gi cap3 w5 hown1 hgrow hat hlt; have a0 := (hgrow.cell_far ⟨s.t, 1, none⟩ (by simp; omega) ne).trans (cal _ _); have a0f := (hgrow.frozen_far ⟨s.t, 1, none⟩ (by simp; omega) ne).trans (fal _ _)) | (go_simp; refine HQ.out.mono ?_; rintro e2 w6 ⟨rfl, rfl⟩)))
  all_goals
    have K4 := hide' (end_m false (max n 1) (.inr (by omega)) K3.out HS.out.2.2.2.2.1 hown1 hgrow hat)
    clear hown1 hgrow hat hlt a0 a0f s1 f1 row lts n1 n2 ne new1 newx new2 fal cal HQ p1 hBV
    have Hdb : Hid (∃ db, db = V3.heap.size) := hide' ⟨_, rfl⟩
    generalize w5.setCell ⟨s.t, 1, none⟩ (.slice (some ⟨gi, 0, none⟩) (s.vm.length + 1) cap3) = W4 at *
    have R4 := HS.out.1.add (p := ⟨false, max n 1, cb, []⟩) (d := ⟨false, max n 1, V3.heap.size, []⟩) (rm := ⟨some ⟨gi, 0, none⟩, cap3⟩) (rc := ⟨some ⟨gg, 0, none⟩, cap'⟩) (ro := ⟨some ⟨gh, 0, none⟩, cap2⟩) rfl rfl rfl rfl
    obtain ⟨Db4, P4, E4, z5, t5, m5⟩ := K4.out
    have HJ := hide' (joined_any N z5 R4 (Nat.le_trans HS.out.2.2.2.2.1 (size_to K4.out)) (by show N < (s.MP ++ [_]).length; rw [List.length_append, HNm.out.1]; simp))
    have H5 := hide' (And.intro t5 m5)
    clear z5 t5 m5 R4
    go_wp2_with fail
    refine HJ.out.mono ?_
    rintro e w7 ⟨rfl, s', e1, e2, e3⟩
    have KQ : Hid (AQ K B s (Sb s Db P E) w w7) := hide' ⟨s', e1, e2, To.from (to_then H5.out.1 H5.out.2 e3) HS.out.2.1⟩
    clear e1 e2 e3 HJ K4
    go_wp2
    go_ret
    exact ⟨rfl, KQ.out⟩
end Q
end Go.Proofs.Ytjhnlmedmpcgoaa
