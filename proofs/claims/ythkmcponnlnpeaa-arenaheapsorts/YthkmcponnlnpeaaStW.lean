import Derived.Test.YthkmcponnlnpeaaStP
import Derived.Test.YthkmcponnlnpeaaSumP
import Derived.Test.YthkmcponnlnpeaaMore
set_option linter.unusedVariables false
set_option linter.unusedSimpArgs false
namespace Go.Proofs.Ythkmcponnlnpeaa
open Go.RowKit Go.Sort Hp
namespace St
/-- the heap's things: each number of the list with its place, told once -/
structure Good (ns : List Int) (zs : List ((Int × Int) × Nat)) : Prop where
  one : ∀ z ∈ zs, z.2 < ns.length ∧ z.1.1 = ns.getD z.2 0 ∧ z.1.2 = (z.2 : Int)
  nd : (zs.map (·.2)).Nodup
structure Sq (w0 : World) (Bq h : Nat) (m : Int) (ns : List Int) (zs : List ((Int × Int) × Nat)) (cnt : Nat) (D : Nat → Prop) (wx : World) : Prop where
  hp : HQ.Ho D Bq h (.func (.func 49) #[] #[.pointer (some ⟨w0.heap.size, 0, none⟩)]) zs cnt wx
  km : KM w0.heap.size m wx
  bel : Below w0.heap.size w0 wx
  lq : w0.heap.size < Bq
  good : Good ns zs
  heap : Heap (ahd (klt m)) zs
variable {w0 : World} {Bq h : Nat} {m : Int} {ns : List Int} {zs : List ((Int × Int) × Nat)} {cnt : Nat} {D : Nat → Prop} {wx : World}
theorem Sq.apart (S : Sq w0 Bq h m ns zs cnt D wx) : ∀ j, j = w0.heap.size → ¬ D j := fun j a q => by
  have := (S.hp.lo q).1
  have := S.lq
  omega
theorem Sq.next {zs' : List ((Int × Int) × Nat)} {cnt' : Nat} {w1 : World} (S : Sq w0 Bq h m ns zs cnt D wx) (T : HQ.To D Bq h (.func (.func 49) #[] #[.pointer (some ⟨w0.heap.size, 0, none⟩)]) zs' cnt' wx w1) (hg : Good ns zs') (hh : Heap (ahd (klt m)) zs') : ∃ D', Sq w0 Bq h m ns zs' cnt' D' w1 := by
  have ap := S.apart
  obtain ⟨D', h', t, s⟩ := T
  exact ⟨D', h', less49.stay D wx w1 S.km t ap, S.bel.trans (t.below (fun i q => by have := (S.hp.lo q).1; have := S.lq; omega) S.bel.size), S.lq, hg, hh⟩
theorem Sq.below {w1 : World} (S : Sq w0 Bq h m ns zs cnt D wx) (b : Below wx.heap.size wx w1) : Sq w0 Bq h m ns zs cnt D w1 :=
  ⟨S.hp.below b, less49.stay _ _ _ S.km (turn_below (S := fun _ => False) b) (fun _ _ q => q), S.bel.trans (b.mono S.bel.size), S.lq, S.good, S.heap⟩
theorem Sq.turn {T : Nat → Prop} {w1 : World} (S : Sq w0 Bq h m ns zs cnt D wx) (t : Turn T wx w1) (hD : ∀ j, D j → ¬ T j) (hT : ∀ j, T j → w0.heap.size < j) : Sq w0 Bq h m ns zs cnt D w1 :=
  ⟨S.hp.kept t hD, less49.stay _ _ _ S.km t (fun j e q => by have := hT j q; omega), S.bel.trans (t.below (fun i q => Nat.le_of_lt (hT i q)) S.bel.size), S.lq, S.good, S.heap⟩
/-- a row of bools of one's own -/
def Bw (B : Nat) (ro : Option Addr) (rc : Nat) (sb : List Bool) (w : World) : Prop := w.ownsRow B 4 1 (.slice ro sb.length rc) sb.length (sb.map Value.bool)
theorem Bw.lt {B rc : Nat} {ro : Option Addr} {sb : List Bool} {w : World} (h : Bw B ro rc sb w) {j : Nat} (hj : M.At ro j) : B ≤ j ∧ j < w.heap.size ∧ ∃ c, w.heap[j]? = some (.cells c 4 (0, 0)) := by
  obtain ⟨a, rfl, rfl⟩ := hj
  rcases h.2 with ⟨hv, _⟩ | ⟨g', cap', cur, hv, hb, hg', _⟩
  · cases hv
  · simp only [Value.slice.injEq, Option.some.injEq] at hv
    obtain ⟨rfl, _, _⟩ := hv
    exact ⟨hb, lt_of_heap hg', _, hg'⟩
theorem Bw.kept {B rc : Nat} {ro : Option Addr} {sb : List Bool} {w w' : World} {T : Nat → Prop} (h : Bw B ro rc sb w) (t : Turn T w w') (hn : ∀ j, M.At ro j → ¬ T j) : Bw B ro rc sb w' := t.row h (fun j hj => hn j (M.own_at hj))
theorem Sq.apart_row {B rc : Nat} {ro : Option Addr} {sb : List Bool} (S : Sq w0 Bq h m ns zs cnt D wx) (r : Bw B ro rc sb wx) : ∀ j, D j → ¬ M.At ro j := fun j q a => by
  obtain ⟨_, _, c, hc⟩ := r.lt a
  exact S.hp.not hc (by decide) (by decide) q
theorem info4 : (Try.prog.info? 4).map (fun i => (i.zero, i.size, i.bytes)) = some (some (.bool false), 1, 1) := by kernel_rfl
theorem swo (m : Int) : SWO (klt m) := by
  unfold klt
  constructor
  all_goals (intros; simp_all; try omega)
theorem good_push {i : Nat} {zs' : List ((Int × Int) × Nat)} (G : Good ns zs) (hlt : ∀ z ∈ zs, z.2 < i) (hi : i < ns.length) (p : zs'.Perm (zs ++ [((ns.getD i 0, (i : Int)), i)])) : Good ns zs' ∧ ∀ z ∈ zs', z.2 < i + 1 := by
  refine ⟨⟨fun z hz => ?_, ?_⟩, fun z hz => ?_⟩
  · rcases List.mem_append.1 (p.mem_iff.1 hz) with q | q
    · exact G.one z q
    · rw [List.mem_singleton] at q; subst q; exact ⟨hi, rfl, rfl⟩
  · rw [(p.map (·.2)).nodup_iff, List.map_append, List.nodup_append]
    refine ⟨G.nd, by simp, fun a ha b hb => ?_⟩
    obtain ⟨z, hz, rfl⟩ := List.mem_map.1 ha
    have := hlt z hz
    simp at hb
    omega
  · rcases List.mem_append.1 (p.mem_iff.1 hz) with q | q
    · have := hlt z q; omega
    · rw [List.mem_singleton] at q; subst q; exact Nat.lt_succ_self _
theorem Bw.put {B g rc k : Nat} {sb : List Bool} {w : World} (h : Bw B (some ⟨g, 0, none⟩) rc sb w) (hk : k < sb.length) (v : Bool) : Bw B (some ⟨g, 0, none⟩) rc (sb.set k v) (w.setCell ⟨g, k, none⟩ (.bool v)) := by
  unfold Bw
  rw [List.length_set]
  refine ⟨by simp, ?_⟩
  rcases h.2 with ⟨hv, _⟩ | ⟨g', cap', cur, hv, hb, hg', h1, h2, h3, h4⟩
  · cases hv
  · simp only [Value.slice.injEq, Option.some.injEq] at hv
    obtain ⟨hv1, _, rfl⟩ := hv
    cases hv1
    refine .inr ⟨g, rc, cur.setIfInBounds k (.bool v), rfl, hb, M.set_block hg', h1, h2, by simpa using h3, ?_⟩
    rw [Array.toList_setIfInBounds, List.take_set, h4, List.map_set]
theorem Bw.at_ {B rc k : Nat} {ro : Option Addr} {sb : List Bool} {v : Bool} {w : World} (h : Bw B ro rc sb w) (hk : sb[k]? = some v) : ∃ g, ro = some ⟨g, 0, none⟩ ∧ w.cell? ⟨g, k, none⟩ = some (.bool v) ∧ w.frozen? ⟨g, k, none⟩ = false := by
  have hl : k < sb.length := (List.getElem?_eq_some_iff.1 hk).1
  obtain ⟨g, cap', hv, h2, h3⟩ := World.ownsRow.form h (by omega)
  simp only [Value.slice.injEq] at hv
  obtain ⟨rfl, _, rfl⟩ := hv
  obtain ⟨_, _, c, hc⟩ := h.lt (j := g) ⟨_, rfl, rfl⟩
  refine ⟨g, rfl, ?_, Lib.frozen_of_heap hc k⟩
  rw [World.ownsRow.cellAt h k (by omega), List.getElem?_map, hk]
  rfl
/-- the state of the last loop -/
structure S9 (w0 : World) (hb : Nat) (m : Int) (ns : List Int) (zs : List ((Int × Int) × Nat)) (D : Nat → Prop) (ro : Option Addr) (rc : Nat) (sb : List Bool) (g12 : Nat) (l0 l1 : Int) (k : Nat) (wx : World) : Prop where
  sq : Sq w0 hb hb m ns zs ns.length D wx
  row : Bw hb ro rc sb wx
  box : wx.heap[g12]? = some (.cells #[.int .i64 l0, .int .i64 l1] 47 (0, 0))
  hg : w0.heap.size < g12
  cntk : k + zs.length = ns.length
  slen : sb.length = ns.length
  seen : ∀ z ∈ zs, sb[z.2]? = some false
  last : k = 0 ∨ ∀ z ∈ zs, key l0 m < key z.1.1 m ∨ (key l0 m = key z.1.1 m ∧ l1 < z.1.2)
structure R9 (w0 : World) (hb : Nat) (m : Int) (ns : List Int) (zs : List ((Int × Int) × Nat)) (D : Nat → Prop) (ro : Option Addr) (rc : Nat) (sb : List Bool) (g12 : Nat) (l0 l1 : Int) (wx : World) : Prop where
  sq : Sq w0 hb hb m ns zs ns.length D wx
  row : Bw hb ro rc sb wx
  box : wx.heap[g12]? = some (.cells #[.int .i64 l0, .int .i64 l1] 47 (0, 0))
  hg : w0.heap.size < g12
section
variable {hb rc g12 : Nat} {ro : Option Addr} {sb : List Bool} {l0 l1 : Int}
theorem R9.below {w1 : World} (S : R9 w0 hb m ns zs D ro rc sb g12 l0 l1 wx) (b : Below wx.heap.size wx w1) : R9 w0 hb m ns zs D ro rc sb g12 l0 l1 w1 :=
  ⟨S.sq.below b, S.row.kept (turn_below (S := fun _ => False) b) (fun _ _ q => q), (b.block g12 (lt_of_heap S.box)).trans S.box, S.hg⟩
theorem R9.pop {k : Nat} {zs' : List ((Int × Int) × Nat)} {w1 : World} (S : S9 w0 hb m ns zs D ro rc sb g12 l0 l1 k wx) (T : HQ.To D hb hb (.func (.func 49) #[] #[.pointer (some ⟨w0.heap.size, 0, none⟩)]) zs' ns.length wx w1) (hg : Good ns zs') (hh : Heap (ahd (klt m)) zs') : ∃ D', R9 w0 hb m ns zs' D' ro rc sb g12 l0 l1 w1 := by
  obtain ⟨D', S'⟩ := S.sq.next T hg hh
  obtain ⟨_, _, t, _⟩ := T
  exact ⟨D', S', S.row.kept t (fun j a q => S.sq.apart_row S.row j q a), (t.block g12 (lt_of_heap S.box) (S.sq.hp.not S.box (by decide) (by decide))).trans S.box, S.hg⟩
theorem R9.apart_box {g : Nat} (S : R9 w0 hb m ns zs D (some ⟨g, 0, none⟩) rc sb g12 l0 l1 wx) : g12 ≠ g := fun e => by
  obtain ⟨_, _, c, hc⟩ := S.row.lt (j := g) ⟨_, rfl, rfl⟩
  have := S.box
  rw [e, hc] at this
  cases this
theorem R9.put {g j : Nat} (S : R9 w0 hb m ns zs D (some ⟨g, 0, none⟩) rc sb g12 l0 l1 wx) (hj : j < sb.length) : R9 w0 hb m ns zs D (some ⟨g, 0, none⟩) rc (sb.set j true) g12 l0 l1 (wx.setCell ⟨g, j, none⟩ (.bool true)) := by
  have t : Turn (M.At (some ⟨g, 0, none⟩)) wx (wx.setCell ⟨g, j, none⟩ (.bool true)) := (Turn.refl _ wx).setCell (p := ⟨g, j, none⟩) (fun _ => ⟨_, rfl, rfl⟩) _
  refine ⟨S.sq.turn t (S.sq.apart_row S.row) (fun j q => Nat.lt_of_lt_of_le S.sq.lq (S.row.lt q).1), S.row.put hj _, ?_, S.hg⟩
  refine (t.block g12 (lt_of_heap S.box) ?_).trans S.box
  rintro ⟨a, ha, q⟩
  cases ha
  exact S.apart_box q
theorem R9.fin (S : R9 w0 hb m ns zs D ro rc sb g12 l0 l1 wx) (a b : Int) : R9 w0 hb m ns zs D ro rc sb g12 a b ((wx.setCell ⟨g12, 0, none⟩ (.int .i64 a)).setCell ⟨g12, 1, none⟩ (.int .i64 b)) := by
  have t : Turn (fun i => i = g12) wx ((wx.setCell ⟨g12, 0, none⟩ (.int .i64 a)).setCell ⟨g12, 1, none⟩ (.int .i64 b)) := ((Turn.refl (fun i => i = g12) wx).setCell (p := ⟨g12, 0, none⟩) (fun _ => rfl) _).setCell (p := ⟨g12, 1, none⟩) (fun _ => rfl) _
  refine ⟨S.sq.turn t (fun j q e => ?_) (fun j e => e ▸ S.hg), S.row.kept t (fun j q e => ?_), (M.set_block (M.set_block S.box)).trans (by simp), S.hg⟩
  · subst e; exact S.sq.hp.not S.box (by decide) (by decide) q
  · subst e
    obtain ⟨_, _, c, hc⟩ := S.row.lt q
    have := S.box
    rw [hc] at this
    cases this
end
theorem last_next {z : (Int × Int) × Nat} {zs' : List ((Int × Int) × Nat)} (G : Good ns zs) (hh : Heap (ahd (klt m)) zs) (hz : zs[0]? = some z) (p : (z :: zs').Perm zs) : Good ns zs' ∧ ∀ y ∈ zs', y.2 ≠ z.2 ∧ (key z.1.1 m < key y.1.1 m ∨ (key z.1.1 m = key y.1.1 m ∧ z.1.2 < y.1.2)) := by
  have nd : ((z :: zs').map (·.2)).Nodup := (p.map (·.2)).nodup_iff.2 G.nd
  rw [List.map_cons, List.nodup_cons] at nd
  refine ⟨⟨fun y hy => G.one y (p.mem_iff.1 (List.mem_cons_of_mem _ hy)), nd.2⟩, fun y hy => ?_⟩
  have hy' := p.mem_iff.1 (List.mem_cons_of_mem z hy)
  have ne : y.2 ≠ z.2 := fun e => nd.1 (e ▸ List.mem_map_of_mem hy)
  refine ⟨ne, ?_⟩
  obtain ⟨_, hmin⟩ := HQ.least (swo m) (List.Perm.refl zs) hh hz
  have h0 := hmin y hy'
  have h1 := (Bool.eq_false_iff.1 h0) ∘ (ahd_iff (swo m) _ _).2
  obtain ⟨_, _, z3⟩ := G.one z (List.mem_of_getElem? hz)
  obtain ⟨_, _, y3⟩ := G.one y hy'
  simp [klt] at h1
  rw [z3, y3]
  by_cases hlt : key z.1.1 m < key y.1.1 m
  · exact .inl hlt
  · refine .inr ⟨by omega, ?_⟩
    have := h1.2 (by omega)
    omega
set_option maxRecDepth 100000 in
set_option maxHeartbeats 4000000 in
theorem sorts_walk (sa : Option Addr) (scap : Nat) (ns : List Int) (m : Int) (w : World) (hI : M.Ints w sa ns) (hl : ns.length ≤ 1048576) :
    Calls Try.prog 7 #[.slice sa ns.length scap, .int .i64 m] w fun e w' => e = .returned (.bool true) ∧ Below w.heap.size w w' := by
  have hba := (Below.refl w.heap.size w).alloc (Nat.le_refl _) (.cells #[.int .i64 m] 3)
  have HLy := hide' (Lv.lively_any (w.alloc (.cells #[.int .i64 m] 3)))
  have Hba := hide' hba
  have HIn := hide' hI
  have Hl := hide' hl
  have HN := hide' (less49 (tb := w.heap.size) (m := m))
  clear hI hl hba
  go_enter Try.func7, Try.ntmps7
  go_wp2_with fail
  refine HLy.out.mono ?_
  rintro e w1 ⟨rfl, b1⟩
  have Hb1 := hide' b1
  have HNw := hide' (HQ.new_any 49 #[.pointer (some ⟨w.heap.size, 0, none⟩)] w1)
  clear HLy b1
  go_wp2_with fail
  refine HNw.out.mono ?_
  rintro e w2 ⟨rfl, D, hh, b2⟩
  have Hq : Hid (w.heap.size < w1.heap.size) := (show w.heap.size < w1.heap.size by have := Hb1.out.size; simp at this; omega)
  have b12 : Below w.heap.size w w1 := Hba.out.trans (Hb1.out.mono (by simp))
  have b02 : Below w.heap.size w w2 := b12.trans (b2.mono b12.size)
  have hS : Hid (Sq w w1.heap.size w1.heap.size m ns [] 0 D w2) := by
    have hc1 : (w.alloc (.cells #[.int .i64 m] 3)).cell? ⟨w.heap.size, 0, none⟩ = some (.int .i64 m) := by rw [Lib.cell_of_heap (heap_alloc_new w _)]; rfl
    have hc2 : w1.cell? ⟨w.heap.size, 0, none⟩ = some (.int .i64 m) := (Hb1.out.cell (p := ⟨w.heap.size, 0, none⟩) (by simp)).trans hc1
    exact ⟨hh, (b2.cell (p := ⟨w.heap.size, 0, none⟩) Hq.out).trans hc2, b02, Hq.out, ⟨(fun z hz => by cases hz), List.nodup_nil⟩, fun i _ hi => absurd hi (Nat.not_lt_zero _)⟩
  generalize w1.heap.size = hb at *
  clear HNw hh b2 b12 b02
  go_wp2_with fail
  go_loopw [5, 7] (fun t5 t7 wx => ∃ (k : Nat) (zs : List ((Int × Int) × Nat)) (D : Nat → Prop), t7 = .int .i64 (k : Int) ∧ t5 = .bool true ∧ k ≤ ns.length ∧ zs.length = k ∧ (∀ z ∈ zs, z.2 < k) ∧ Sq w hb hb m ns zs k D wx) (fun _ t7 _ => ns.length - (intOf t7).toNat)
  case atStart => exact ⟨0, [], D, rfl, rfl, Nat.zero_le _, rfl, (fun z hz => by cases hz), hS.out⟩
  case round =>
    obtain ⟨k, zs, D', rfl, rfl, hk, hzk, hzl, S⟩ := hrel
    by_cases hlt : k < ns.length
    · rcases HIn.out with q | ⟨gs, off, hsa, hgs, hcl⟩
      · rw [q] at hlt; simp at hlt
      have i0 := (S.bel.cell (p := ⟨gs, off + k, none⟩) hgs).trans (hcl k hlt)
      obtain rfl := hsa
      have hlt' : (k : Int) < (ns.length : Int) := by omega
      have ek : wrap64 ((k : Int) + 1) = (k : Int) + 1 := M.wrap_k k (by have := Hl.out; omega)
      have HS := hide' S
      have hend : Hid (ns.length - ((k : Int) + 1).toNat < ns.length - (k : Int).toNat) := (show ns.length - ((k : Int) + 1).toNat < ns.length - (k : Int).toNat by omega)
      have hkl := Hl.out
      have HPs := hide' (HQ.push_any HN.out (ns.getD k 0, (k : Int)) S.hp S.km S.apart (by omega) (by omega))
      have Hgd := hide' (fun zs' p => good_push (zs' := zs') S.good hzl hlt p)
      have Hzk := hide' hzk
      have Hkn : Hid (k + 1 ≤ ns.length) := hlt
      generalize ns.getD k 0 = v at *
      clear S hcl hkl hk hzk hzl hlt
      go_wp2_with fail
      refine HPs.out.mono ?_
      rintro e w3 ⟨rfl, zs', hp, hhp, T⟩
      obtain ⟨g', hl'⟩ := Hgd.out zs' hp
      obtain ⟨D3, S3⟩ := HS.out.next T g' (hhp (swo m) HS.out.heap)
      have hle : zs'.length = k + 1 := by rw [hp.length_eq, List.length_append, Hzk.out]; rfl
      obtain ⟨z, hz⟩ : ∃ z, zs'[0]? = some z := ⟨_, List.getElem?_eq_getElem (by omega)⟩
      obtain ⟨_, hmin⟩ := HQ.least (swo m) hp S3.heap hz
      have hm2 := hmin ((v, (k : Int)), k) (by simp)
      obtain ⟨z1, z2, z3⟩ := S3.good.one z (List.mem_of_getElem? hz)
      have hz2 := hl' z (List.mem_of_getElem? hz)
      have hkey : key z.1.1 m ≤ key v m := by
        have := (Bool.eq_false_iff.1 hm2) ∘ (ahd_iff (swo m) _ _).2 ∘ .inl
        simp [klt] at this
        exact this
      have HPk := hide' (HQ.peek_some S3.hp hz)
      obtain ⟨⟨za, zb⟩, zc⟩ := z
      simp only at z1 z2 z3 hz2 hkey HPk
      subst z3
      have HS3 := hide' S3
      have Hle := hide' hle
      have Hkey := hide' hkey
      have Hz2 := hide' hz2
      have Hi0 := hide' ((HS.out.bel.cell (p := ⟨gs, off + k, none⟩) hgs).symm.trans i0)
      have b3 := S3.bel
      have Hl3 := hide' hl'
      clear HPs Hgd hp hhp T g' hl' S3 hle hz hmin hm2 z1 z2 hz2 hkey HS i0
      go_wp2_with fail
      refine HPk.out.mono ?_
      rintro e w4 ⟨rfl, b4⟩
      have S4 := HS3.out.below b4
      have HS4 := hide' S4
      have S5 := S4.below ((Below.refl w4.heap.size w4).alloc (Nat.le_refl _) (.cells #[.int .i64 za, .int .i64 (zc : Int)] 47))
      have HS5 := hide' S5
      clear HPk HS3 b3 b4 S4 S5
      go_wp2_with fail
      have c0 : (w4.alloc (.cells #[.int .i64 za, .int .i64 (zc : Int)] 47)).cell? ⟨w4.heap.size, 0, none⟩ = some (.int .i64 za) := by rw [Lib.cell_of_heap (heap_alloc_new w4 _)]; rfl
      have c1 : (w4.alloc (.cells #[.int .i64 za, .int .i64 (zc : Int)] 47)).cell? ⟨w4.heap.size, 1, none⟩ = some (.int .i64 (zc : Int)) := by rw [Lib.cell_of_heap (heap_alloc_new w4 _)]; rfl
      generalize w4.alloc (.cells #[.int .i64 za, .int .i64 (zc : Int)] 47) = W5 at *
      generalize w4.heap.size = g8 at *
      have c2 : W5.cell? ⟨w.heap.size, 0, none⟩ = some (.int .i64 m) := HS5.out.km
      have i5 : W5.cell? ⟨gs, off + k, none⟩ = some (.int .i64 v) := (HS5.out.bel.cell (p := ⟨gs, off + k, none⟩) hgs).trans Hi0.out
      have HLn : Hid (∀ n, Calls Try.prog 29 #[.pointer (some ⟨hb, 0, none⟩)] (W5.drewN n) fun e w' => e = .returned (.int .i64 ((k : Int) + 1)) ∧ w' = W5.drewN n) := hide' (fun n => by
        refine (HQ.len_any (HS5.out.hp.below (Ar.bel_drewN (Below.refl _ _) n))).mono ?_
        rintro e w' ⟨rfl, rfl⟩
        rw [Hle.out]
        exact ⟨rfl, rfl⟩)
      have q1 : (zc : Int) ≤ (k : Int) := by have := Hz2.out; omega
      have q2 := Hkey.out
      clear HS4 hgs
      go_quiet ((first | (go_at_call 29; exact Calls.quiet_of_same (HLn.out _)) | (go_at_call 50; exact Calls.quiet_of_same (key_any _ _ _))))
      go_wp2
      refine ⟨⟨k + 1, zs', D3, by go_num, rfl, Hkn.out, Hle.out, Hl3.out, HS5.out.below (Ar.bel_drewN (Below.refl _ _) nq)⟩, ?_⟩
      first | exact hend.out | (rw [ek]; exact hend.out)
    · obtain rfl : k = ns.length := by omega
      have HS := hide' S
      have Hzk := hide' hzk
      have HnN := Hl.out
      clear S hzk hzl hk hlt
      go_wp2_with fail
      go_loopw [10, 11] (fun t10 t11 wx => ∃ (k : Nat) (ro : Option Addr) (rc : Nat), t11 = .int .i64 (k : Int) ∧ t10 = .slice ro k rc ∧ k ≤ ns.length ∧ Bw hb ro rc (List.replicate k false) wx ∧ Sq w hb hb m ns zs ns.length D' wx) (fun _ t11 _ => ns.length - (intOf t11).toNat)
      case atStart => exact ⟨0, none, 0, rfl, rfl, Nat.zero_le _, World.ownsRow_nil _ _ _ _, HS.out⟩
      case round =>
        obtain ⟨k, ro, rc, rfl, rfl, hk, hrow, S⟩ := hrel
        by_cases hlt : k < ns.length
        · have HR := hide' hrow
          have HS2 := hide' S
          have hlt' : (k : Int) < (ns.length : Int) := by omega
          have ek : wrap64 ((k : Int) + 1) = (k : Int) + 1 := M.wrap_k k (by omega)
          have hend : Hid (ns.length - ((k : Int) + 1).toNat < ns.length - (k : Int).toNat) := (show ns.length - ((k : Int) + 1).toNat < ns.length - (k : Int).toNat by omega)
          have hrow2 : Hid (wr.ownsRow hb 4 1 (.slice ro k rc) k ((List.replicate k false).map Value.bool)) := by have := hrow; unfold Bw at this; rw [List.length_replicate] at this; exact this
          have hkb : Hid (k < 3000000000000) := (show k < 3000000000000 by omega)
          have hBw : Hid (hb ≤ wr.heap.size) := S.hp.base
          have Hkn : Hid (k + 1 ≤ ns.length) := hlt
          clear hrow S hk hlt HnN
          go_wp2_with (at_builtin; refine M.wpList_more (e := 4) (m := 1) Try.underlying100 info4 rfl (by omega) (by omega) wr rfl _ _ rfl hrow2.out hkb.out hBw.out [.bool false] rfl (by simp [Value.oneCell']) _ rfl rfl ?_; intro gg cap' w1 hr1 t1 hg1)
          refine ⟨⟨k + 1, some ⟨gg, 0, none⟩, cap', by go_num, by first | rfl | go_num, Hkn.out, ?_, HS2.out.turn t1 (HS2.out.apart_row HR.out) (fun j q => Nat.lt_of_lt_of_le HS2.out.lq (HR.out.lt q).1)⟩, ?_⟩
          · unfold Bw
            rw [List.length_replicate, List.replicate_succ', List.map_append]
            exact hr1
          · first | exact hend.out | (rw [ek]; exact hend.out)
        · obtain rfl : k = ns.length := by omega
          have HR := hide' hrow
          have HS2 := hide' S
          clear hrow S hk hlt HS
          have hS9 : Hid (S9 w hb m ns zs D' ro rc (List.replicate ns.length false) wr.heap.size 0 0 0 (wr.alloc (.cells #[.int .i64 0, .int .i64 0] 47))) := by
            have bb := (Below.refl wr.heap.size wr).alloc (Nat.le_refl _) (.cells #[.int .i64 0, .int .i64 0] 47)
            refine ⟨HS2.out.below bb, HR.out.kept (turn_below (S := fun _ => False) bb) (fun _ _ q => q), heap_alloc_new _ _, Nat.lt_of_lt_of_le HS2.out.lq HS2.out.hp.base, by rw [Hzk.out]; omega, List.length_replicate, fun z hz => ?_, .inl rfl⟩
            rw [List.getElem?_replicate, if_pos (HS2.out.good.one z hz).1]
          clear HR HS2 HnN Hzk
          go_wp2_with fail
          generalize wr.alloc (.cells #[.int .i64 0, .int .i64 0] 47) = W0 at *
          generalize wr.heap.size = g12 at *
          go_loopw [5, 13] (fun t5 t13 wx => ∃ (k : Nat) (zs : List ((Int × Int) × Nat)) (D : Nat → Prop) (sb : List Bool) (l0 l1 : Int), t13 = .int .i64 (k : Int) ∧ t5 = .bool true ∧ S9 w hb m ns zs D ro rc sb g12 l0 l1 k wx) (fun _ t13 _ => ns.length - (intOf t13).toNat)
          case atStart => exact ⟨0, zs, D', _, 0, 0, rfl, rfl, hS9.out⟩
          case round =>
            obtain ⟨k, zs, D', sb, l0, l1, rfl, rfl, S⟩ := hrel
            by_cases hlt : k < ns.length
            · have hck := S.cntk
              obtain ⟨n, hn⟩ : ∃ n, zs.length = n + 1 := ⟨zs.length - 1, by omega⟩
              obtain ⟨z, hz⟩ : ∃ z, zs[0]? = some z := ⟨_, List.getElem?_eq_getElem (by omega)⟩
              have hzm := List.mem_of_getElem? hz
              obtain ⟨z1, z2, z3⟩ := S.sq.good.one z hzm
              have hsn := S.seen z hzm
              rcases HIn.out with q | ⟨gs, off, hsa, hgs, hcl⟩
              · rw [q] at hlt; simp at hlt
              have i0 := hcl z.2 z1
              have hla := S.last
              have Hnx := hide' (fun zs' p => last_next (zs' := zs') S.sq.good S.sq.heap hz p)
              have HPp := hide' (HQ.pop_some less49 S.sq.hp S.sq.km S.sq.apart hn hz (by have := Hl.out; omega))
              obtain ⟨⟨za, zb⟩, zc⟩ := z
              simp only at z1 z2 z3 hsn i0 HPp Hnx
              subst z3
              rw [← z2] at i0
              obtain rfl := hsa
              have hlt' : (k : Int) < (ns.length : Int) := by omega
              have ek : wrap64 ((k : Int) + 1) = (k : Int) + 1 := M.wrap_k k (by have := Hl.out; omega)
              have hend : Hid (ns.length - ((k : Int) + 1).toNat < ns.length - (k : Int).toNat) := (show ns.length - ((k : Int) + 1).toNat < ns.length - (k : Int).toNat by omega)
              have Hla : Hid (k = 0 ∨ (key l0 m < key za m ∨ (key l0 m = key za m ∧ l1 < (zc : Int)))) := hla.imp id (fun f => f _ hzm)
              have HS := hide' S
              have Hck : Hid (k + (n + 1) = ns.length) := hn ▸ hck
              have Hn := hide' hn
              have Hi0 := hide' i0
              have Hsn := hide' hsn
              have z1' : (zc : Int) < (ns.length : Int) := by omega
              clear S hck hla hcl i0 z2 hzm hn hlt hsn z1
              go_wp2_with fail
              refine HPp.out.mono ?_
              rintro e w3 ⟨rfl, zs', hp, hhp, T⟩
              obtain ⟨g', hy'⟩ := Hnx.out zs' hp
              obtain ⟨D3, R3⟩ := R9.pop HS.out T g' (hhp (swo m) HS.out.sq.heap)
              have hle : zs'.length = n := by have := hp.length_eq; rw [Hn.out] at this; simpa using this
              have ba := (Below.refl w3.heap.size w3).alloc (Nat.le_refl _) (.cells #[.int .i64 za, .int .i64 (zc : Int)] 47)
              have R4 := R3.below ba
              have c0 : (w3.alloc (.cells #[.int .i64 za, .int .i64 (zc : Int)] 47)).heap[w3.heap.size]? = some (.cells #[.int .i64 za, .int .i64 (zc : Int)] 47 (0, 0)) := heap_alloc_new _ _
              have HR4 := hide' R4
              have Hc0 := hide' c0
              have Hle := hide' hle
              have Hy := hide' hy'
              have Hsl := hide' HS.out.slen
              have Hse := hide' (fun y hy => HS.out.seen y (hp.mem_iff.1 (List.mem_cons_of_mem _ hy)))
              clear HPp Hnx hp hhp T g' hy' R3 hle ba R4 c0 HS hz
              go_wp2_with fail
              generalize w3.alloc (.cells #[.int .i64 za, .int .i64 (zc : Int)] 47) = W4 at *
              generalize w3.heap.size = g14 at *
              obtain ⟨gr, hro, x0, xf⟩ := HR4.out.row.at_ Hsn.out
              subst hro
              have d0 : W4.cell? ⟨g14, 0, none⟩ = some (.int .i64 za) := (Lib.cell_of_heap Hc0.out 0).trans rfl
              have d1 : W4.cell? ⟨g14, 1, none⟩ = some (.int .i64 (zc : Int)) := (Lib.cell_of_heap Hc0.out 1).trans rfl
              have i4 : W4.cell? ⟨gs, off + zc, none⟩ = some (.int .i64 za) := (HR4.out.sq.bel.cell (p := ⟨gs, off + zc, none⟩) hgs).trans Hi0.out
              clear hgs
              have qn : zc < ns.length := by omega
              have qd : decide ((ns.length : Int) ≤ (zc : Int)) = false := by simp; omega
              have qe : ¬ (ns.length ≤ zc) := by omega
              go_quiet ((fail))
              clear qd qe
              have R5 := HR4.out.below (Ar.bel_drewN (Below.refl _ _) nq)
              have c5 : (W4.drewN nq).heap[g14]? = some (.cells #[.int .i64 za, .int .i64 (zc : Int)] 47 (0, 0)) := Hc0.out
              clear d0 d1 x0 xf i4 Hc0 HR4
              generalize W4.drewN nq = W5 at *
              have HR5 := hide' R5
              have Hc5 := hide' c5
              obtain ⟨gr', hro, x0, xf⟩ := R5.row.at_ Hsn.out
              simp only [Option.some.injEq, Addr.mk.injEq, and_true] at hro
              subst hro
              have n1 : g14 ≠ gr := fun e => by
                obtain ⟨_, _, c, hc⟩ := R5.row.lt (j := gr) ⟨_, rfl, rfl⟩
                rw [e, hc] at c5
                cases c5
              have R6 := R5.put (j := zc) (by rw [Hsl.out]; omega)
              have c6 : (W5.setCell ⟨gr, zc, none⟩ (.bool true)).heap[g14]? = some (.cells #[.int .i64 za, .int .i64 (zc : Int)] 47 (0, 0)) := by
                have t : Turn (M.At (some ⟨gr, 0, none⟩)) W5 (W5.setCell ⟨gr, zc, none⟩ (.bool true)) := (Turn.refl _ W5).setCell (p := ⟨gr, zc, none⟩) (fun _ => ⟨_, rfl, rfl⟩) _
                refine (t.block g14 (lt_of_heap c5) ?_).trans c5
                rintro ⟨a, ha, q⟩
                cases ha
                exact n1 q
              have HR6 := hide' R6
              have Hc6 := hide' c6
              have d1 : W5.cell? ⟨g14, 1, none⟩ = some (.int .i64 (zc : Int)) := (Lib.cell_of_heap Hc5.out 1).trans rfl
              have N14 := hide' n1
              clear R5 c5 R6 c6 n1
              clear qn
              have n12 := HR6.out.apart_box
              have n14 : g14 ≠ gr := N14.out
              have R7 := HR6.out.fin za (zc : Int)
              have Hfin := hide' (show S9 w hb m ns zs' D3 (some ⟨gr, 0, none⟩) rc (sb.set zc true) g12 za (zc : Int) (k + 1) _ from ⟨R7.sq, R7.row, R7.box, R7.hg, by have := Hck.out; rw [Hle.out]; omega, by rw [List.length_set]; exact Hsl.out, fun y hy => by rw [List.getElem?_set_ne (Ne.symm (Hy.out y hy).1)]; exact Hse.out y hy, .inr (fun y hy => (Hy.out y hy).2)⟩)
              clear R7
              have ntb : w.heap.size ≠ gr := fun e => by
                have := HR6.out.sq.lq
                have := (HR6.out.row.lt (j := gr) ⟨_, rfl, rfl⟩).1
                omega
              have d0 : W5.cell? ⟨g14, 0, none⟩ = some (.int .i64 za) := (Lib.cell_of_heap Hc5.out 0).trans rfl
              have e0 : W5.cell? ⟨g12, 0, none⟩ = some (.int .i64 l0) := (Lib.cell_of_heap HR5.out.box 0).trans rfl
              have e1 : W5.cell? ⟨g12, 1, none⟩ = some (.int .i64 l1) := (Lib.cell_of_heap HR5.out.box 1).trans rfl
              have ef : ∀ j, W5.frozen? ⟨g12, j, none⟩ = false := fun j => Lib.frozen_of_heap HR5.out.box j
              have em : W5.cell? ⟨w.heap.size, 0, none⟩ = some (.int .i64 m) := HR5.out.sq.km
              go_wp2_with fail
              refine (key_any _ _ _).mono ?_
              rintro e w6 ⟨rfl, rfl⟩
              go_wp2_with fail
              refine (key_any _ _ _).mono ?_
              rintro e w7 ⟨rfl, rfl⟩
              by_cases hk0 : k = 0
              · have hk0' : (k : Int) = 0 := by omega
                go_wp2
                refine ⟨⟨k + 1, zs', D3, sb.set zc true, za, (zc : Int), by first | go_num | (rw [hk0]; rfl), rfl, Hfin.out⟩, ?_⟩
                first | exact hend.out | (rw [ek]; exact hend.out) | (show ns.length - (1 : Int).toNat < ns.length - (k : Int).toNat; omega)
              · have hk1 : ¬ ((k : Int) = 0) := by omega
                have hla := Hla.out.resolve_left hk0
                rcases hla with hla | ⟨hla, hlc⟩
                · go_wp2
                  refine ⟨⟨k + 1, zs', D3, sb.set zc true, za, (zc : Int), by first | go_num | (rw [hk0]; rfl), rfl, Hfin.out⟩, ?_⟩
                  first | exact hend.out | (rw [ek]; exact hend.out) | (show ns.length - (1 : Int).toNat < ns.length - (k : Int).toNat; omega)
                · go_wp2
                  refine ⟨⟨k + 1, zs', D3, sb.set zc true, za, (zc : Int), by first | go_num | (rw [hk0]; rfl), rfl, Hfin.out⟩, ?_⟩
                  first | exact hend.out | (rw [ek]; exact hend.out) | (show ns.length - (1 : Int).toNat < ns.length - (k : Int).toNat; omega)
            · have hck := S.cntk
              obtain rfl : zs = [] := List.eq_nil_of_length_eq_zero (by omega)
              obtain rfl : k = ns.length := by simp at hck; omega
              have HS := hide' S
              have HPn := hide' (HQ.pop_none S.sq.hp)
              clear S hck hlt
              go_wp2_with fail
              refine HPn.out.mono ?_
              rintro e w3 ⟨rfl, b3⟩
              have S3 := HS.out.sq.below b3
              have S4 := S3.below ((Below.refl w3.heap.size w3).alloc (Nat.le_refl _) (.cells #[.int .i64 0, .int .i64 0] 47))
              have HS4 := hide' S4
              clear S3 S4 b3 HPn HS
              go_wp2_with fail
              refine (HQ.len_any HS4.out.hp).mono ?_
              rintro e w5 ⟨rfl, rfl⟩
              rw [List.length_nil]
              go_wp2
              go_ret
              exact ⟨rfl, HS4.out.bel⟩
end St
end Go.Proofs.Ythkmcponnlnpeaa
