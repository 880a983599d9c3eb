import Derived.Test.YtddkdakelcohgaaHpP
import Derived.Test.YtddkdakelcohgaaHpM
import Derived.BigQuiet
import Derived.BigRegion
import Derived.LoopTactic
import Derived.Deep.QuietTactic
import Derived.Deep.RegionHeld3
import Derived.Test.YtddkdakelcohgaaHpR
import Derived.Test.YtddkdakelcohgaaNote
import Derived.Test.YtddkdakelcohgaaMore
import Derived.Deep.AppendLies
import Derived.Deep.RegionLaw
import Derived.Deep.CutBlock
import Derived.Deep.DeepCutAuto
import Derived.Test.YtddkdakelcohgaaHSAll
import Derived.Test.YtddkdakelcohgaaHQAll
import Derived.Test.YtddkdakelcohgaaLvy
import Derived.Test.YtddkdakelcohgaaFrame
import Derived.Deep.CondSized
import Derived.ChangeSlices
import Derived.Deep.Slices
import Derived.Deep.Strs
set_option linter.unusedVariables false
set_option linter.unusedSimpArgs false
namespace Go.Proofs.Ytddkdakelcohgaa
open Go.Sort
namespace Th
open Hp
variable {β : Type}
/-- by rank -/
def rlt (rk : β → Int) (x y : β) : Bool := decide (rk x < rk y)
theorem swo (rk : β → Int) : SWO (rlt rk) where
  irrefl x := by simp [rlt]
  trans x y z h1 h2 := by simp only [rlt, decide_eq_true_eq] at *; omega
  ntrans x y z h1 h2 := by simp only [rlt, decide_eq_false_iff_not] at *; omega
def pr (q : β × Nat × Int) : β × Nat := (q.1, q.2.1)
def dr (rk : β → Int) (q : β × Nat × Int) : Int × Int := (rk q.1, q.2.2)
/-- the heap's things and the document's, side by side: L has them in the order in which they came, with their turns -/
structure Cp (rk : β → Int) (zs : List (β × Nat)) (cnt : Nat) (ds : List (Int × Int)) (L : List (β × Nat × Int)) : Prop where
  perm : zs.Perm (L.map pr)
  doc : ds = L.map (dr rk)
  up : L.Pairwise (fun a b => a.2.1 < b.2.1)
  lt : ∀ q ∈ L, q.2.1 < cnt
  hp : Heap (ahd (rlt rk)) zs
/-- the place of the first of the least -/
def Fl (ds : List (Int × Int)) (k : Nat) : Prop := ∃ x : Int × Int, ds[k]? = some x ∧ (∀ (i : Nat) (y : Int × Int), ds[i]? = some y → x.1 ≤ y.1) ∧ ∀ (i : Nat) (y : Int × Int), i < k → ds[i]? = some y → x.1 < y.1
variable {rk : β → Int} {zs zs' : List (β × Nat)} {cnt : Nat} {ds : List (Int × Int)} {L : List (β × Nat × Int)}
theorem Cp.nil (rk : β → Int) : Cp rk [] 0 [] [] := ⟨.nil, rfl, .nil, (fun q h => by cases h), (fun i _ h => by simp at h)⟩
theorem Cp.len (h : Cp rk zs cnt ds L) : zs.length = L.length ∧ ds.length = L.length := by
  refine ⟨by have := h.perm.length_eq; simpa using this, by rw [h.doc]; simp⟩
theorem Cp.push (h : Cp rk zs cnt ds L) {x : β} (hp : zs'.Perm (zs ++ [(x, cnt)])) (hh : SWO (rlt rk) → Heap (ahd (rlt rk)) zs → Heap (ahd (rlt rk)) zs') (id : Int) : Cp rk zs' (cnt + 1) (ds ++ [(rk x, id)]) (L ++ [(x, cnt, id)]) := by
  refine ⟨?_, ?_, ?_, ?_, hh (swo rk) h.hp⟩
  · rw [List.map_append]
    exact hp.trans (h.perm.append_right _)
  · rw [List.map_append, h.doc]; rfl
  · rw [List.pairwise_append]
    refine ⟨h.up, by simp, fun a ha b hb => ?_⟩
    simp at hb
    subst hb
    exact h.lt a ha
  · intro q hq
    rw [List.mem_append] at hq
    rcases hq with hq | hq
    · have := h.lt q hq; omega
    · simp at hq; subst hq; simp
theorem Cp.pop (h : Cp rk zs cnt ds L) {z : β × Nat} {k : Nat} (hz : zs[0]? = some z) (hk : Fl ds k) : ∃ q, L[k]? = some q ∧ pr q = z ∧ ds[k]? = some (dr rk q) := by
  obtain ⟨x, hx, hmin, hfst⟩ := hk
  have hkl : k < L.length := by
    have := (List.getElem?_eq_some_iff.1 hx).1
    rw [h.len.2] at this
    exact this
  have hdk : ∀ i q, L[i]? = some q → ds[i]? = some (dr rk q) := fun i q hq => by rw [h.doc, List.getElem?_map, hq]; rfl
  obtain ⟨qk, hqk⟩ : ∃ q, L[k]? = some q := ⟨_, List.getElem?_eq_getElem hkl⟩
  have hxq : x = dr rk qk := by have := hdk k qk hqk; rw [hx] at this; exact Option.some.inj this
  have hzm : z ∈ L.map pr := h.perm.mem_iff.1 (List.mem_of_getElem? hz)
  obtain ⟨q', hq', hprq⟩ := List.mem_map.1 hzm
  obtain ⟨j, hj⟩ := List.getElem?_of_mem hq'
  have hroot := h.hp.root (swo_ahd (swo rk))
  have hqz : pr qk ∈ zs := h.perm.mem_iff.2 (List.mem_map.2 ⟨qk, List.mem_of_getElem? hqk, rfl⟩)
  obtain ⟨i, hi⟩ := List.getElem?_of_mem hqz
  have hn := hroot i _ _ hi hz
  have hle := hmin j _ (hdk j q' hj)
  have hn1 : ¬ rk qk.1 < rk q'.1 := fun g => by
    have := (ahd_iff (swo rk) (pr qk) z).2 (.inl (by rw [← hprq]; exact decide_eq_true g))
    rw [hn] at this
    cases this
  have hn2 : ¬ rk q'.1 < rk qk.1 → ¬ qk.2.1 < q'.2.1 := fun g1 g2 => by
    have := (ahd_iff (swo rk) (pr qk) z).2 (.inr (by rw [← hprq]; exact ⟨decide_eq_false g1, g2⟩))
    rw [hn] at this
    cases this
  rw [hxq] at hle hfst
  simp only [dr] at hle
  have ht : q'.2.1 ≤ qk.2.1 := by
    have := hn2 (by omega)
    omega
  have hjl : j < L.length := (List.getElem?_eq_some_iff.1 hj).1
  have ej : L[j] = q' := Option.some.inj (by rw [← List.getElem?_eq_getElem hjl]; exact hj)
  have ek : L[k] = qk := Option.some.inj (by rw [← List.getElem?_eq_getElem hkl]; exact hqk)
  have hjk : j = k := by
    rcases Nat.lt_trichotomy j k with g | g | g
    · have := hfst j _ g (hdk j q' hj)
      simp only [dr] at this
      omega
    · exact g
    · have := List.pairwise_iff_getElem.1 h.up k j hkl hjl g
      rw [ej, ek] at this
      omega
  rw [hjk] at hj
  exact ⟨q', hj, hprq, hdk k q' hj⟩
theorem Cp.out (h : Cp rk zs cnt ds L) {z : β × Nat} {k : Nat} {q : β × Nat × Int} (hq : L[k]? = some q) (hz : pr q = z) (hp : (z :: zs').Perm zs) (hh : SWO (rlt rk) → Heap (ahd (rlt rk)) zs → Heap (ahd (rlt rk)) zs') : Cp rk zs' cnt (ds.eraseIdx k) (L.eraseIdx k) := by
  have hkl := (List.getElem?_eq_some_iff.1 hq).1
  have ek : L[k] = q := (List.getElem?_eq_some_iff.1 hq).2
  refine ⟨?_, ?_, h.up.sublist (List.eraseIdx_sublist ..), fun q hq => h.lt q ((List.eraseIdx_sublist ..).mem hq), hh (swo rk) h.hp⟩
  · have h1 : (L.map pr).Perm (z :: (L.eraseIdx k).map pr) := by
      have e1 : L = L.take k ++ q :: L.drop (k + 1) := by
        have := List.take_append_drop k L
        rw [List.drop_eq_getElem_cons hkl, ek] at this
        exact this.symm
      have e2 : L.eraseIdx k = L.take k ++ L.drop (k + 1) := List.eraseIdx_eq_take_drop_succ L k
      rw [e2]
      have : L.Perm (q :: (L.take k ++ L.drop (k + 1))) := by
        conv => lhs; rw [e1]
        exact List.perm_middle
      have := this.map pr
      rw [List.map_cons, hz] at this
      exact this
    exact (List.perm_cons z).1 (hp.trans (h.perm.trans h1))
  · rw [h.doc]
    apply List.ext_getElem?
    intro i
    simp only [List.getElem?_map, List.getElem?_eraseIdx]
    split <;> rfl
end Th
end Go.Proofs.Ytddkdakelcohgaa
set_option linter.unusedVariables false
set_option linter.unusedSimpArgs false
namespace Go.Proofs.Ytddkdakelcohgaa
open Go.RowKit Go.Sort
namespace Dh
open Th Hp
def tc (z : Int × Int) : List Value := [.int .i64 z.1, .int .i64 z.2]
theorem tc_len (z : Int × Int) : (tc z).length = 2 := rfl
theorem info52 : (Try.prog.info? 52).map (fun i => (i.zero, i.size, i.bytes)) = some (some (.agg #[.int .i64 0, .int .i64 0]), 2, 16) := by kernel_rfl
/-- the document's heap: a list, at an address -/
structure Dm (B b off : Nat) (ao : Option Addr) (cap : Nat) (ds : List (Int × Int)) (w : World) : Prop where
  c : w.cell? ⟨b, off, none⟩ = some (.slice ao ds.length cap)
  f : w.frozen? ⟨b, off, none⟩ = false
  row : w.ownsRow B 52 2 (.slice ao ds.length cap) ds.length (ds.flatMap tc)
  lt : b < w.heap.size
  ne : ∀ j, M.At ao j → j ≠ b
variable {B b off : Nat} {ao : Option Addr} {cap : Nat} {ds : List (Int × Int)} {w w' : World}
theorem Dm.at (H : Dm B b off ao cap ds w) {j : Nat} (hj : M.At ao j) : B ≤ j ∧ j < w.heap.size := by
  obtain ⟨a, rfl, rfl⟩ := hj
  rcases H.row.2 with ⟨hv, _⟩ | ⟨g', cap', cur, hv, hb, hg', _⟩
  · cases hv
  · simp only [Value.slice.injEq, Option.some.injEq] at hv
    obtain ⟨rfl, _, _⟩ := hv
    exact ⟨hb, lt_of_heap hg'⟩
def Own (b : Nat) (ao : Option Addr) (j : Nat) : Prop := j = b ∨ M.At ao j
theorem Dm.kept {S : Nat → Prop} (H : Dm B b off ao cap ds w) (t : Turn S w w') (hn : ∀ j, Own b ao j → ¬ S j) : Dm B b off ao cap ds w' :=
  ⟨(t.cell (p := ⟨b, off, none⟩) H.lt (hn b (.inl rfl))).trans H.c, (World.frozen?_of_block (t.block b H.lt (hn b (.inl rfl)))).trans H.f, t.row H.row (fun j hj => hn j (.inr (M.own_at hj))), Nat.lt_of_lt_of_le H.lt t.size, H.ne⟩
theorem Dm.below (H : Dm B b off ao cap ds w) (t : Below w.heap.size w w') : Dm B b off ao cap ds w' := H.kept (turn_below (S := fun _ => False) t) (fun _ _ q => q)
theorem Dm.some (H : Dm B b off ao cap ds w) (hl : 0 < ds.length) : ∃ g, ao = some ⟨g, 0, none⟩ ∧ g < w.heap.size ∧ g ≠ b := by
  obtain ⟨g, cap', hv, h2, h3⟩ := H.row.form hl
  simp only [Value.slice.injEq] at hv
  obtain ⟨rfl, _, rfl⟩ := hv
  exact ⟨g, rfl, (H.at ⟨_, rfl, rfl⟩).2, H.ne g ⟨_, rfl, rfl⟩⟩
theorem Dm.item {g : Nat} (H : Dm B b off (Option.some ⟨g, 0, none⟩) cap ds w) {i : Nat} {z : Int × Int} (hz : ds[i]? = Option.some z) : w.cell? ⟨g, i * 2, none⟩ = Option.some (.int .i64 z.1) ∧ w.cell? ⟨g, i * 2 + 1, none⟩ = Option.some (.int .i64 z.2) := by
  have hi : i < ds.length := (List.getElem?_eq_some_iff.1 hz).1
  have e : ∀ r, r < 2 → w.cell? ⟨g, i * 2 + r, none⟩ = (tc z)[r]? := fun r hr => by
    rw [H.row.cellAt (i * 2 + r) (by omega)]
    exact flat_at tc_len ds i z r hz hr
  exact ⟨e 0 (by omega), e 1 (by omega)⟩
/-- the first of the least -/
theorem Fl.uniq {j k : Nat} (h : Fl ds j) (h' : Fl ds k) : j = k := by
  obtain ⟨x, hx, h1, h2⟩ := h
  obtain ⟨y, hy, h3, h4⟩ := h'
  rcases Nat.lt_trichotomy j k with g | g | g
  · have := h4 j x g hx; have := h1 k y hy; omega
  · exact g
  · have := h2 k y g hy; have := h3 j x hx; omega
theorem Fl.step {i k : Nat} {x y : Int × Int} (h : Fl (ds.take i) k) (hk : ds[k]? = some x) (hi : ds[i]? = some y) : (y.1 < x.1 → Fl (ds.take (i + 1)) i) ∧ (¬ y.1 < x.1 → Fl (ds.take (i + 1)) k) := by
  obtain ⟨x', hx', h1, h2⟩ := h
  have hil := (List.getElem?_eq_some_iff.1 hi).1
  have hki : k < i := by have := (List.getElem?_eq_some_iff.1 hx').1; simp at this; omega
  have ex : x' = x := by rw [List.getElem?_take_of_lt hki, hk] at hx'; exact (Option.some.inj hx').symm
  subst ex
  have old : ∀ (j : Nat) (z : Int × Int), (ds.take (i + 1))[j]? = some z → (j < i ∧ (ds.take i)[j]? = some z) ∨ (j = i ∧ z = y) := fun j z hz => by
    have hj := (List.getElem?_eq_some_iff.1 hz).1
    simp at hj
    rw [List.getElem?_take_of_lt (by omega)] at hz
    by_cases e : j = i
    · subst e; rw [hi] at hz; exact .inr ⟨rfl, (Option.some.inj hz).symm⟩
    · exact .inl ⟨by omega, by rw [List.getElem?_take_of_lt (by omega)]; exact hz⟩
  refine ⟨fun hlt => ⟨y, by rw [List.getElem?_take_of_lt (by omega)]; exact hi, fun j z hz => ?_, fun j z hj hz => ?_⟩, fun hge => ⟨x', by rw [List.getElem?_take_of_lt (by omega)]; exact hk, fun j z hz => ?_, fun j z hj hz => ?_⟩⟩
  · rcases old j z hz with ⟨_, q⟩ | ⟨_, rfl⟩
    · have := h1 j z q; omega
    · omega
  · rcases old j z hz with ⟨_, q⟩ | ⟨_, rfl⟩
    · have := h1 j z q; omega
    · omega
  · rcases old j z hz with ⟨_, q⟩ | ⟨_, rfl⟩
    · exact h1 j z q
    · omega
  · rcases old j z hz with ⟨_, q⟩ | ⟨e, rfl⟩
    · exact h2 j z hj q
    · omega
theorem Fl.one {x : Int × Int} (h : ds[0]? = some x) : Fl (ds.take 1) 0 := by
  refine ⟨x, by rw [List.getElem?_take_of_lt (by omega)]; exact h, fun j z hz => ?_, fun j z hj => by omega⟩
  have hj := (List.getElem?_eq_some_iff.1 hz).1
  simp at hj
  obtain rfl : j = 0 := by omega
  rw [List.getElem?_take_of_lt (by omega), h] at hz
  cases hz
  exact Int.le_refl _
theorem Fl.lt {k : Nat} (h : Fl ds k) : k < ds.length := by
  obtain ⟨x, hx, _⟩ := h
  exact (List.getElem?_eq_some_iff.1 hx).1
set_option maxRecDepth 100000 in
set_option maxHeartbeats 4000000 in
theorem least_any (H : Dm B b off ao cap ds w) {k : Nat} (hk : Fl ds k) (hl : ds.length ≤ 1099511627776) : Calls Try.prog 68 #[.pointer (some ⟨b, off, none⟩)] w fun e w' => e = .returned (.int .i64 (k : Nat)) ∧ ∃ n, w' = w.drewN n := by
  obtain ⟨g, rfl, hg, hgb⟩ := H.some (by have := Dh.Fl.lt hk; omega)
  have HH := hide' H
  have c0 := H.c
  obtain ⟨T, hT⟩ : ∃ T, T = ds.length := ⟨_, rfl⟩
  have HK := hide' (And.intro hk (And.intro hl hT))
  rw [← hT] at c0
  have hTl : (T : Int) ≤ 1099511627776 := by rw [hT]; omega
  clear H hk hl hT
  go_enter Try.func68, Try.ntmps68
  go_wp2_with fail
  go_loopw [3, 4] (fun kv i wx => ∃ (j m : Nat), kv = .int .i64 (m : Int) ∧ i = .int .i64 (j : Int) ∧ j ≤ T ∧ m < T ∧ ((j = 0 ∧ m = 0) ∨ Fl (ds.take j) m) ∧ ∃ n, wx = w.drewN n) (fun _ i _ => T - (intOf i).toNat)
  case atStart => exact ⟨0, 0, rfl, rfl, Nat.zero_le _, by rw [HK.out.2.2]; have := Dh.Fl.lt HK.out.1; omega, .inl ⟨rfl, rfl⟩, 0, rfl⟩
  case round =>
    obtain ⟨j, m, rfl, rfl, hj, hm, hF, n, hW⟩ := hrel
    have HW : Hid (∃ n, wr = w.drewN n) := hide' ⟨n, hW⟩
    have DW : Hid (Dm B b off (some ⟨g, 0, none⟩) cap ds wr) := hide' (by rw [hW]; exact ⟨HH.out.c, HH.out.f, HH.out.row, HH.out.lt, HH.out.ne⟩)
    have c1 : wr.cell? ⟨b, off, none⟩ = some (.slice (some ⟨g, 0, none⟩) T cap) := by rw [hW]; exact c0
    clear hW
    have HF := hide' (And.intro hj (And.intro hm hF))
    clear hF
    by_cases hlt : j < T
    · have hlt' : (j : Int) < (T : Int) := by omega
      have hm' : (m : Int) < (T : Int) := by omega
      obtain ⟨x, hx⟩ : ∃ x, ds[m]? = some x := ⟨_, List.getElem?_eq_getElem (by rw [← HK.out.2.2]; exact hm)⟩
      obtain ⟨y, hy⟩ : ∃ y, ds[j]? = some y := ⟨_, List.getElem?_eq_getElem (by rw [← HK.out.2.2]; exact hlt)⟩
      have cx : wr.cell? ⟨g, m * 2, none⟩ = some (.int .i64 x.1) := (DW.out.item hx).1
      have cy : wr.cell? ⟨g, j * 2, none⟩ = some (.int .i64 y.1) := (DW.out.item hy).1
      have Hend : Hid (T - (j + 1) < T - j) := hide' (by omega)
      have Hlt := hide' hlt
      have HS : Hid ((y.1 < x.1 → Fl (ds.take (j + 1)) j) ∧ (¬ y.1 < x.1 → Fl (ds.take (j + 1)) m)) := hide' (by
        rcases HF.out.2.2 with ⟨rfl, rfl⟩ | q
        · rw [hx] at hy
          cases hy
          exact ⟨fun q => absurd q (by omega), fun _ => Fl.one hx⟩
        · exact Fl.step q hx hy)
      generalize x.1 = X at *
      generalize y.1 = Y at *
      clear hx hy hj hm c0
      by_cases hc : Y < X
      · go_wp2_with fail
        go_quiet (fail)
        go_wp2
        exact ⟨⟨j + 1, j, rfl, by go_num, Hlt.out, Hlt.out, .inr (HS.out.1 hc), HW.out.elim (fun n hn => ⟨n + nq, by rw [hn]; exact World.drewN_drewN ..⟩)⟩, by simp [intOf]; have := Hlt.out; omega⟩
      · go_wp2_with fail
        go_quiet (fail)
        go_wp2
        exact ⟨⟨j + 1, m, rfl, by go_num, Hlt.out, HF.out.2.1, .inr (HS.out.2 hc), HW.out.elim (fun n hn => ⟨n + nq, by rw [hn]; exact World.drewN_drewN ..⟩)⟩, by simp [intOf]; have := Hlt.out; omega⟩
    · have hlt' : ¬ (j : Int) < (T : Int) := by omega
      have e : m = k := by
        have hjT : j = ds.length := by rw [← HK.out.2.2]; omega
        rcases HF.out.2.2 with ⟨rfl, rfl⟩ | q
        · have := Dh.Fl.lt HK.out.1; omega
        · rw [hjT, List.take_length] at q
          exact Fl.uniq q HK.out.1
      clear hlt hj hm
      go_wp2
      go_ret
      exact ⟨rfl, HW.out⟩
end Dh
end Go.Proofs.Ytddkdakelcohgaa
set_option linter.unusedVariables false
set_option linter.unusedSimpArgs false
namespace Go.Proofs.Ytddkdakelcohgaa
open Go.RowKit Go.Sort
namespace Dh
open Th Hp
variable {B b off : Nat} {ao : Option Addr} {cap : Nat} {ds : List (Int × Int)} {w w' : World}
/-- what a call leaves -/
def DT (B b off : Nat) (ao : Option Addr) (ds : List (Int × Int)) (w w' : World) : Prop := ∃ ao' cap' w1, Dm B b off ao' cap' ds w' ∧ Turn (M.At ao) w w1 ∧ w' = w1.setCell ⟨b, off, none⟩ (.slice ao' ds.length cap') ∧ ∀ j, M.At ao' j → M.At ao j ∨ w.heap.size ≤ j
theorem DT.turn (h : DT B b off ao ds w w') : Turn (Own b ao) w w' := by
  obtain ⟨ao', cap', w1, _, t, rfl, _⟩ := h
  exact (t.mono (fun _ _ q => .inr q)).trans ((Turn.refl _ w1).setCell (p := ⟨b, off, none⟩) (fun _ => .inl rfl) _)
theorem put_core {ds' : List (Int × Int)} {ao' : Option Addr} {cap' : Nat} {w1 : World} (h : Dm B b off ao cap ds w) (t : Turn (M.At ao) w w1) (hr : w1.ownsRow B 52 2 (.slice ao' ds'.length cap') ds'.length (ds'.flatMap tc)) (ha : ∀ j, M.At ao' j → M.At ao j ∨ w.heap.size ≤ j) : DT B b off ao ds' w (w1.setCell ⟨b, off, none⟩ (.slice ao' ds'.length cap')) := by
  have hlt : b < w1.heap.size := Nat.lt_of_lt_of_le h.lt t.size
  have c1 : w1.cell? ⟨b, off, none⟩ = some (.slice ao ds.length cap) := (t.cell (p := ⟨b, off, none⟩) h.lt (fun q => h.ne b q rfl)).trans h.c
  have hne : ∀ j, M.At ao' j → j ≠ b := fun j hj => by
    rcases ha j hj with q | q
    · exact h.ne j q
    · have := h.lt; omega
  refine ⟨ao', cap', w1, ⟨World.cell?_setCell_same _ _ _ c1, ?_, ?_, by rw [World.size_setCell]; exact hlt, hne⟩, t, rfl, ha⟩
  · rw [World.frozen?_setCell]
    exact (World.frozen?_of_block (t.block b h.lt (fun q => h.ne b q rfl))).trans h.f
  · exact ((Turn.refl (fun j => j = b) w1).setCell (p := ⟨b, off, none⟩) (fun _ => rfl) _).row hr (fun j hj e => hne j (M.own_at hj) e)
set_option maxRecDepth 100000 in
set_option maxHeartbeats 4000000 in
/-- a thing more -/
theorem push_any (z : Int × Int) (h : Dm B b off ao cap ds w) (hl : ds.length < 1099511627776) (hB : B ≤ w.heap.size) :
    Calls Try.prog 23 #[.pointer (some ⟨b, off, none⟩), .agg #[.int .i64 z.1, .int .i64 z.2]] w fun e w' => e = .returned (.tuple #[]) ∧ DT B b off ao (ds ++ [z]) w w' := by
  obtain ⟨i0, hi0, hz0, hz1, hz2⟩ := info_parts info52
  have c1 := h.c
  have f1 := h.f
  have lt := h.lt
  have row := h.row
  have n1 : Hid (ds.length + 1 ≤ maxLen) := (show ds.length + 1 ≤ maxLen by unfold maxLen; omega)
  have n2 : Hid ((ds.length + 1) * 16 ≤ 140737488355328) := (show (ds.length + 1) * 16 ≤ 140737488355328 by omega)
  have ne : some b ≠ (Value.slice ao ds.length cap).ownBlock := fun q => h.ne b (M.own_at q.symm) rfl
  have new2 : ∀ o o', ((w.alloc o).alloc o').drew.heap[w.heap.size + 1]? = some o' := fun o o' => by show ((w.alloc o).alloc o').heap[w.heap.size + 1]? = some o'; have := heap_alloc_new (w.alloc o) o'; rw [show (w.alloc o).heap.size = w.heap.size + 1 by simp] at this; exact this
  have new1 := World.new_ne w ⟨b, off, none⟩ c1
  have H := hide' h
  have fal : ∀ o o', ((w.alloc o).alloc o').drew.frozen? ⟨b, off, none⟩ = false := fun o o' => (World.frozen?_of_block (w := w) ((Below.heap_alloc _ _ _ (by simp; omega)).trans (Below.heap_alloc _ _ _ lt))).trans f1
  have cal : ∀ o o', ((w.alloc o).alloc o').drew.cell? ⟨b, off, none⟩ = some (.slice ao ds.length cap) := fun o o' => (World.cell?_of_block (w := w) ((Below.heap_alloc _ _ _ (by simp; omega)).trans (Below.heap_alloc _ _ _ lt))).trans c1
  clear hl h
  obtain ⟨zr, zi⟩ := z
  simp only
  go_enter Try.func23, Try.ntmps23
  go_wp2_with fail
  go_region_law ((refine step_append_lies _ (by rfl) _ _ _ (by rfl) B 52 i0 _ 2 16 Try.underlying31 hi0 hz0 hz1 hz2 rfl (by omega) (.slice ao ds.length cap) ds.length (ds.flatMap tc) (by rfl) (((row.alloc _).alloc _).drew) ⟨w.heap.size + 1, 0, none⟩ 1 1 (tc (zr, zi)) (by rfl) (by rfl) (World.news_of_block (cs := #[.int .i64 zr, .int .i64 zi]) (t := 52) (fr := (0, 0)) (new2 _ _)) (by simp [tc, Value.oneCell']) (by omega) n1.out n2.out (by simp; omega) (w.heap.size + 2) (by simp) ?_; intro gg cap' w1 hown1 hgrow hat hlt; have a0 := (hgrow.cell_far ⟨b, off, none⟩ (by simp; omega) ne).trans (cal _ _); have a0f := (hgrow.frozen_far ⟨b, off, none⟩ (by simp; omega) ne).trans (fal _ _)))
  all_goals
    have hb0 : Below w.heap.size w ((w.alloc (.cells #[.int .i64 zr, .int .i64 zi] 52)).alloc (.cells #[.int .i64 zr, .int .i64 zi] 52)).drew := (((Below.refl _ _).alloc (Nat.le_refl _) _).alloc (by simp) _).drew
    have K : Hid (DT B b off ao (ds ++ [(zr, zi)]) w (w1.setCell ⟨b, off, none⟩ (.slice (some ⟨gg, 0, none⟩) (ds.length + 1) cap'))) := hide' (by
      have q := put_core (ds' := ds ++ [(zr, zi)]) (ao' := some ⟨gg, 0, none⟩) (cap' := cap') H.out ((turn_below hb0).grown hgrow (fun k hk _ => M.own_at hk)) (by rw [List.length_append, List.flatMap_append]; simpa using hown1) (fun j hj => by
        obtain ⟨a, ha, rfl⟩ := hj
        cases ha
        rcases hat with q | q
        · exact .inl (M.own_at q)
        · exact .inr (by have := hb0.size; simp at q ⊢; omega))
      rw [List.length_append] at q
      exact q)
    generalize (w1.setCell ⟨b, off, none⟩ (.slice (some ⟨gg, 0, none⟩) (ds.length + 1) cap')) = W at *
    clear a0 a0f hown1 hgrow hat hlt c1 f1 fal cal new1 row ne new2 hb0
    go_wp2
    go_end0
    exact ⟨rfl, K.out⟩
set_option maxRecDepth 100000 in
set_option maxHeartbeats 4000000 in
theorem peek_none (h : Dm B b off ao cap [] w) : Calls Try.prog 62 #[.pointer (some ⟨b, off, none⟩)] w fun e w' => e = .returned (.tuple #[.agg #[.int .i64 0, .int .i64 0], .bool false]) ∧ Below w.heap.size w w' := by
  have c1 := h.c
  have lt := h.lt
  have c2 : (w.alloc (.cells #[.int .i64 0, .int .i64 0] 52)).cell? ⟨b, off, none⟩ = some (.slice ao 0 cap) := (World.cell?_of_block (w := w) (Below.heap_alloc _ _ _ lt)).trans c1
  simp only [List.length_nil] at c1
  have hnew := heap_alloc_new w (.cells #[.int .i64 0, .int .i64 0] 52)
  have hb := (Below.refl w.heap.size w).alloc (Nat.le_refl _) (.cells #[.int .i64 0, .int .i64 0] 52)
  have KK := hide' (And.intro hnew hb)
  clear h hnew hb
  go_enter Try.func62, Try.ntmps62
  go_wp2
  (try simp only [Exit.inBlock, Exit.then])
  refine bodyPost_ret (Hp.results_row_tmp rfl _ _ w.heap.size 52 #[.int .i64 0, .int .i64 0] (0, 0) _ rfl KK.out.1 Try.underlying52 rfl (by kernel_rfl)) rfl ?_
  exact ⟨rfl, KK.out.2⟩
theorem bel_drewN {B : Nat} {w w' : World} (b : RowKit.Below B w w') (n : Nat) : RowKit.Below B w (w'.drewN n) := ⟨b.os, b.tape, b.output, b.size, b.block⟩
theorem row2 {t : Nat} {w : World} {q : Nat} {a c : Value} (h : w.heap[q]? = some (.cells #[a, c] t (0, 0))) (x y : Value) : ((w.setCell ⟨q, 0, none⟩ x).setCell ⟨q, 1, none⟩ y).heap[q]? = some (.cells #[x, y] t (0, 0)) := by
  have h1 := M.set_block (off := 0) (v := x) h
  have h2 := M.set_block (off := 1) (v := y) h1
  simpa using h2
set_option maxRecDepth 100000 in
set_option maxHeartbeats 4000000 in
theorem peek_some {k : Nat} {z : Int × Int} (h : Dm B b off ao cap ds w) (hk : Fl ds k) (hz : ds[k]? = some z) (hl : ds.length ≤ 1099511627776) : Calls Try.prog 62 #[.pointer (some ⟨b, off, none⟩)] w fun e w' => e = .returned (.tuple #[.agg #[.int .i64 z.1, .int .i64 z.2], .bool true]) ∧ Below w.heap.size w w' := by
  obtain ⟨g, rfl, hg, hgb⟩ := h.some (by have := Dh.Fl.lt hk; omega)
  obtain ⟨T, hT⟩ : ∃ T, T = ds.length := ⟨_, rfl⟩
  obtain ⟨w1, hw1⟩ : ∃ w1, w1 = w.alloc (.cells #[.int .i64 0, .int .i64 0] 52) := ⟨_, rfl⟩
  obtain ⟨q, hq⟩ : ∃ q, q = w.heap.size := ⟨_, rfl⟩
  have hb1 : Below w.heap.size w w1 := by rw [hw1]; exact (Below.refl w.heap.size w).alloc (Nat.le_refl _) _
  have h1 := h.below hb1
  have hq1 : w1.heap[q]? = some (.cells #[.int .i64 0, .int .i64 0] 52 (0, 0)) := by rw [hw1, hq]; exact heap_alloc_new w _
  have LS : Hid (∀ W, (∃ m, W = w1.drewN m) → Calls Try.prog 68 #[.pointer (some ⟨b, off, none⟩)] W fun e w' => e = .returned (.int .i64 (k : Nat)) ∧ ∃ m, w' = w1.drewN m) := hide' (fun W ⟨m, hW⟩ => (least_any (w := W) (B := B) (b := b) (off := off) (ao := some ⟨g, 0, none⟩) (cap := cap) (ds := ds) (by rw [hW]; exact ⟨h1.c, h1.f, h1.row, h1.lt, h1.ne⟩) hk hl).mono (fun e w' ⟨h1, n, h2⟩ => ⟨h1, m + n, by rw [h2, hW]; exact World.drewN_drewN ..⟩))
  have c1 := h1.c
  rw [← hT] at c1
  obtain ⟨x0, x1⟩ := h1.item hz
  have c0 : w.cell? ⟨b, off, none⟩ = some (.slice (some ⟨g, 0, none⟩) T cap) := by rw [hT]; exact h.c
  have hT0 : ¬ T = 0 := by have := Dh.Fl.lt hk; omega
  have hT0' : ((T : Int) == 0) = false := by simpa using (by omega : ¬ (T : Int) = 0)
  have hkT : (k : Int) < (T : Int) := by have := Dh.Fl.lt hk; omega
  have hkT' : k < T := by have := Dh.Fl.lt hk; omega
  have nq : q ≠ b ∧ q ≠ g := by have := h.lt; omega
  have r0 : w1.cell? ⟨q, 0, none⟩ = some (.int .i64 0) := by rw [Lib.cell_of_heap hq1]; rfl
  have r1 : w1.cell? ⟨q, 1, none⟩ = some (.int .i64 0) := by rw [Lib.cell_of_heap hq1]; rfl
  have rf0 : w1.frozen? ⟨q, 0, none⟩ = false := Lib.frozen_of_heap hq1 0
  have rf1 : w1.frozen? ⟨q, 1, none⟩ = false := Lib.frozen_of_heap hq1 1
  have HQ := hide' (And.intro hq1 (And.intro hb1 hq))
  have Hw := hide' (And.intro hw1 hq)
  clear h h1 hq1 hb1 hw1 hq hz hk hl hT hg
  obtain ⟨zr, zi⟩ := z
  simp only at *
  go_enter Try.func62, Try.ntmps62
  go_upto_region 1 with fail
  rw [← Hw.out.1, ← Hw.out.2]
  clear Hw c0
  go_wp2_with fail
  have y0 : ∀ m, (w1.drewN m).cell? ⟨g, k * 2, none⟩ = some (.int .i64 zr) := fun m => x0
  have y1 : ∀ m, (w1.drewN m).cell? ⟨g, k * 2 + 1, none⟩ = some (.int .i64 zi) := fun m => x1
  have d1 : ∀ m, (w1.drewN m).cell? ⟨b, off, none⟩ = some (.slice (some ⟨g, 0, none⟩) T cap) := fun m => c1
  have s0 : ∀ m, (w1.drewN m).cell? ⟨q, 0, none⟩ = some (.int .i64 0) := fun m => r0
  have s1 : ∀ m, (w1.drewN m).cell? ⟨q, 1, none⟩ = some (.int .i64 0) := fun m => r1
  have sf0 : ∀ m, (w1.drewN m).frozen? ⟨q, 0, none⟩ = false := fun m => rf0
  have sf1 : ∀ m, (w1.drewN m).frozen? ⟨q, 1, none⟩ = false := fun m => rf1
  go_region_law ((go_simp; refine (LS.out _ ⟨1, rfl⟩).mono ?_; rintro e w7 ⟨rfl, m7, rfl⟩))
  all_goals
    have K : Hid (_ ∧ Below w.heap.size w (((w1.drewN m7).setCell ⟨q, 0, none⟩ (.int .i64 zr)).setCell ⟨q, 1, none⟩ (.int .i64 zi))) := hide' ⟨row2 (w := w1.drewN m7) HQ.out.1 (.int .i64 zr) (.int .i64 zi), ((bel_drewN HQ.out.2.1 m7).setCell (p := ⟨q, 0, none⟩) (Nat.le_of_eq HQ.out.2.2.symm) _).setCell (p := ⟨q, 1, none⟩) (Nat.le_of_eq HQ.out.2.2.symm) _⟩
    clear y0 y1 d1 s0 s1 sf0 sf1 r0 r1 rf0 rf1 x0 x1 c1
    go_wp2
    (try simp only [Exit.inBlock, Exit.then])
    refine bodyPost_ret (Hp.results_row_tmp rfl _ _ q 52 #[.int .i64 zr, .int .i64 zi] (0, 0) _ rfl K.out.1 Try.underlying52 rfl (by kernel_rfl)) rfl ?_
    exact ⟨rfl, K.out.2⟩
end Dh
end Go.Proofs.Ytddkdakelcohgaa
set_option linter.unusedVariables false
set_option linter.unusedSimpArgs false
namespace Go.Proofs.Ytddkdakelcohgaa
open Go.RowKit Go.Sort
namespace Dh
open Th Hp
variable {B b off : Nat} {ao : Option Addr} {cap : Nat} {ds : List (Int × Int)} {w w' : World}
/-- what a call leaves of the document's heap -/
def DL (B b off : Nat) (ao : Option Addr) (ds : List (Int × Int)) (w w' : World) : Prop := ∃ ao' cap', Dm B b off ao' cap' ds w' ∧ Turn (Own b ao) w w' ∧ (∀ j, M.At ao' j → M.At ao j ∨ w.heap.size ≤ j) ∧ ∀ k, k ≠ off → w'.cell? ⟨b, k, none⟩ = w.cell? ⟨b, k, none⟩
theorem DT.dl (h : Dm B b off ao cap ds w) {ds' : List (Int × Int)} (t : DT B b off ao ds' w w') : DL B b off ao ds' w w' := by
  have tt := t.turn
  obtain ⟨ao', cap', w1, hd, t1, rfl, ha⟩ := t
  refine ⟨ao', cap', hd, tt, ha, fun k hk => ?_⟩
  rw [World.cell?_setCell_other _ _ _ _ (fun q => hk (by simpa using (congrArg Addr.off q).symm))]
  exact t1.cell (p := ⟨b, k, none⟩) h.lt (fun q => h.ne b q rfl)
theorem put_dm {ds' : List (Int × Int)} {ao' : Option Addr} {cap' : Nat} {w1 : World} (h : Dm B b off ao cap ds w) (t : Turn (M.At ao) w w1) (hr : w1.ownsRow B 52 2 (.slice ao' ds'.length cap') ds'.length (ds'.flatMap tc)) (hne : ∀ j, M.At ao' j → j ≠ b) : Dm B b off ao' cap' ds' (w1.setCell ⟨b, off, none⟩ (.slice ao' ds'.length cap')) := by
  have hlt : b < w1.heap.size := Nat.lt_of_lt_of_le h.lt t.size
  have c1 : w1.cell? ⟨b, off, none⟩ = some (.slice ao ds.length cap) := (t.cell (p := ⟨b, off, none⟩) h.lt (fun q => h.ne b q rfl)).trans h.c
  refine ⟨World.cell?_setCell_same _ _ _ c1, ?_, ?_, by rw [World.size_setCell]; exact hlt, hne⟩
  · rw [World.frozen?_setCell]
    exact (World.frozen?_of_block (t.block b h.lt (fun q => h.ne b q rfl))).trans h.f
  · exact ((Turn.refl (fun j => j = b) w1).setCell (p := ⟨b, off, none⟩) (fun _ => rfl) _).row hr (fun j hj e => hne j (M.own_at hj) e)
theorem row_lower {w : World} {B B' : Nat} {e size n : Nat} {v : Value} {xs : List Value} (h : w.ownsRow B e size v n xs) (hb : B' ≤ B) : w.ownsRow B' e size v n xs := by
  obtain ⟨h1, h2⟩ := h
  refine ⟨h1, ?_⟩
  rcases h2 with h2 | ⟨g, cap, cur, hv, hg, rest⟩
  · exact .inl h2
  · exact .inr ⟨g, cap, cur, hv, Nat.le_trans hb hg, rest⟩
theorem row_base {w : World} {B e size n rc : Nat} {ro : Option Addr} {xs : List Value} (h : w.ownsRow B e size (.slice ro n rc) n xs) {j : Nat} (hj : M.At ro j) : B ≤ j := by
  obtain ⟨a, rfl, rfl⟩ := hj
  rcases h.2 with ⟨hv, _⟩ | ⟨g', cap', cur, hv, hb', hg', _⟩
  · cases hv
  · simp only [Value.slice.injEq, Option.some.injEq] at hv
    obtain ⟨rfl, _, _⟩ := hv
    exact hb'
/-- the end of a pop -/
theorem pop_end {es : List (Int × Int)} {ro : Option Addr} {rc q N : Nat} {wr : World} (h : Dm B b off ao cap ds w) (hB : B ≤ w.heap.size) (hb : Below w.heap.size w wr) (hr : wr.ownsRow N 52 2 (.slice ro es.length rc) es.length (es.flatMap tc)) (hq : q = w.heap.size) (hqN : q < N) (x y : Value) :
    DL B b off ao es w (((wr.setCell ⟨b, off, none⟩ (.slice ro es.length rc)).setCell ⟨q, 0, none⟩ x).setCell ⟨q, 1, none⟩ y) := by
  have hbl := h.lt
  have hN : ∀ j, M.At ro j → N ≤ j := fun j hj => row_base hr hj
  have hd := put_dm h (turn_below hb) (row_lower hr (by omega)) (fun j hj => by have := hN j hj; omega)
  have t1 : Turn (Own b ao) w (wr.setCell ⟨b, off, none⟩ (.slice ro es.length rc)) := (turn_below hb).trans ((Turn.refl _ wr).setCell (p := ⟨b, off, none⟩) (fun _ => .inl rfl) _)
  have tq : Turn (fun j => j = q) (wr.setCell ⟨b, off, none⟩ (.slice ro es.length rc)) (((wr.setCell ⟨b, off, none⟩ (.slice ro es.length rc)).setCell ⟨q, 0, none⟩ x).setCell ⟨q, 1, none⟩ y) := (((Turn.refl (fun j => j = q) _).setCell (p := ⟨q, 0, none⟩) (fun _ => rfl) _).setCell (p := ⟨q, 1, none⟩) (fun _ => rfl) _)
  refine ⟨ro, rc, hd.kept tq (fun j hj e => ?_), t1.then tq (fun i hi e => by omega), fun j hj => .inr (by have := hN j hj; omega), fun k hk => ?_⟩
  · rcases hj with rfl | hj
    · omega
    · have := hN j hj; omega
  · rw [tq.cell (p := ⟨b, k, none⟩) hd.lt (show ¬ b = q by omega), World.cell?_setCell_other _ _ _ _ (fun q => hk (by simpa using (congrArg Addr.off q).symm))]
    exact hb.cell (p := ⟨b, k, none⟩) hbl
/-- what is left of a list without one -/
theorem rs_same {k : Nat} (h : k < ds.length) : (ds.take (k + 1)).eraseIdx k = (ds.take k).eraseIdx k := by
  have e : ds.take (k + 1) = ds.take k ++ [ds[k]] := by rw [List.take_add_one, List.getElem?_eq_getElem h]; rfl
  have l : (ds.take k).length = k := by simp; omega
  have e2 : (ds.take k ++ [ds[k]]).eraseIdx k = ds.take k := by
    rw [List.eraseIdx_append_of_length_le (by omega), l, Nat.sub_self]
    simp
  rw [e, e2, List.eraseIdx_of_length_le (by omega)]
theorem rs_more {k i : Nat} {y : Int × Int} (hy : ds[i]? = some y) (hn : i ≠ k) : (ds.take (i + 1)).eraseIdx k = (ds.take i).eraseIdx k ++ [y] := by
  have h := (List.getElem?_eq_some_iff.1 hy).1
  have e : ds.take (i + 1) = ds.take i ++ [y] := by rw [List.take_add_one, hy]; rfl
  have l : (ds.take i).length = i := by simp; omega
  rw [e]
  by_cases g : k < i
  · rw [List.eraseIdx_append_of_lt_length (by omega)]
  · rw [List.eraseIdx_of_length_le (by simp; omega), List.eraseIdx_of_length_le (by omega)]
theorem msr2 {k n : Nat} (h : k < n) (i : Int) (e : i = (k : Int) + 1) : n - (intOf (.int .i64 i)).toNat < n - (intOf (.int .i64 (k : Int))).toNat := by
  rw [e]
  show n - ((k : Int) + 1).toNat < n - (k : Int).toNat
  omega
theorem wsc {i T : Nat} (h : i < T) (hT : (T : Int) ≤ 1099511627776) : wrap64 ((i : Int) + 1) = (((i + 1 : Nat)) : Int) := by unfold wrap64; omega
theorem rs_len {k i : Nat} : ((ds.take i).eraseIdx k).length ≤ ds.length := by
  have := (List.eraseIdx_sublist (ds.take i) k).length_le
  simp at this
  omega
set_option maxRecDepth 100000 in
set_option maxHeartbeats 4000000 in
theorem pop_none (h : Dm B b off ao cap [] w) : Calls Try.prog 26 #[.pointer (some ⟨b, off, none⟩)] w fun e w' => e = .returned (.tuple #[.agg #[.int .i64 0, .int .i64 0], .bool false]) ∧ Below w.heap.size w w' := by
  obtain ⟨q, hq⟩ : ∃ q, q = w.heap.size := ⟨_, rfl⟩
  obtain ⟨w1, hw1⟩ : ∃ w1, w1 = w.alloc (.cells #[.int .i64 0, .int .i64 0] 52) := ⟨_, rfl⟩
  have hb1 : Below w.heap.size w w1 := by rw [hw1]; exact (Below.refl w.heap.size w).alloc (Nat.le_refl _) _
  have hq1 : w1.heap[q]? = some (.cells #[.int .i64 0, .int .i64 0] 52 (0, 0)) := by rw [hw1, hq]; exact heap_alloc_new w _
  have HP := hide' (peek_none (h.below hb1))
  have HQ := hide' (And.intro hb1 (And.intro hq1 hq))
  have Hw := hide' (And.intro hw1 hq)
  clear h hb1 hq1 hw1 hq
  go_enter Try.func26, Try.ntmps26
  go_upto_region 1 with fail
  rw [← Hw.out.1, ← Hw.out.2]
  clear Hw
  go_wp2_with fail
  refine HP.out.mono ?_
  rintro e w2 ⟨rfl, b2⟩
  have hq2 := (b2.block q (lt_of_heap HQ.out.2.1)).trans HQ.out.2.1
  have hlq := lt_of_heap hq2
  have r0 : w2.cell? ⟨q, 0, none⟩ = some (.int .i64 0) := by rw [Lib.cell_of_heap hq2]; rfl
  have r1 : w2.cell? ⟨q, 1, none⟩ = some (.int .i64 0) := by rw [Lib.cell_of_heap hq2]; rfl
  have rf0 : w2.frozen? ⟨q, 0, none⟩ = false := Lib.frozen_of_heap hq2 0
  have rf1 : w2.frozen? ⟨q, 1, none⟩ = false := Lib.frozen_of_heap hq2 1
  have hb2 := HQ.out.1.trans (b2.mono HQ.out.1.size)
  have HB2 := hide' (And.intro hq2 hb2)
  clear b2 hq2 hb2 HP
  go_wp2
  (try simp only [Exit.inBlock, Exit.then])
  have k1 := row2 HB2.out.1 (.int .i64 0) (.int .i64 0)
  have k2 := (Below.heap_alloc _ (.cells #[.int .i64 0, .int .i64 0] 52) _ (lt_of_heap k1)).trans k1
  refine bodyPost_ret (Hp.results_row_tmp rfl _ _ q 52 #[.int .i64 0, .int .i64 0] (0, 0) _ rfl k2 Try.underlying52 rfl (by kernel_rfl)) rfl ?_
  have hle := Nat.le_of_eq HQ.out.2.2.symm
  have b3 := (HB2.out.2.setCell (p := ⟨q, 0, none⟩) hle (.int .i64 0)).setCell (p := ⟨q, 1, none⟩) hle (.int .i64 0)
  exact ⟨rfl, b3.alloc b3.size _⟩
set_option maxRecDepth 100000 in
set_option maxHeartbeats 4000000 in
theorem pop_some {k : Nat} {z : Int × Int} (h : Dm B b off ao cap ds w) (hk : Fl ds k) (hz : ds[k]? = some z) (hl : ds.length ≤ 1099511627776) (hB : B ≤ w.heap.size) : Calls Try.prog 26 #[.pointer (some ⟨b, off, none⟩)] w fun e w' => e = .returned (.tuple #[.agg #[.int .i64 z.1, .int .i64 z.2], .bool true]) ∧ DL B b off ao (ds.eraseIdx k) w w' := by
  obtain ⟨q, hq⟩ : ∃ q, q = w.heap.size := ⟨_, rfl⟩
  obtain ⟨w1, hw1⟩ : ∃ w1, w1 = w.alloc (.cells #[.int .i64 0, .int .i64 0] 52) := ⟨_, rfl⟩
  have hb1 : Below w.heap.size w w1 := by rw [hw1]; exact (Below.refl w.heap.size w).alloc (Nat.le_refl _) _
  have hq1 : w1.heap[q]? = some (.cells #[.int .i64 0, .int .i64 0] 52 (0, 0)) := by rw [hw1, hq]; exact heap_alloc_new w _
  have HP := hide' (peek_some (h.below hb1) hk hz hl)
  have HQ := hide' (And.intro hb1 (And.intro hq1 hq))
  have Hw := hide' (And.intro hw1 hq)
  have HH := hide' (And.intro h (And.intro hk (And.intro hl hB)))
  obtain ⟨g, rfl, hg, hgb⟩ := h.some (by have := Dh.Fl.lt hk; omega)
  obtain ⟨T, hT⟩ : ∃ T, T = ds.length := ⟨_, rfl⟩
  have HT := hide' hT
  have Hkz := hide' (And.intro hz (And.intro hg hgb))
  clear h hb1 hq1 hw1 hq hk hl hB hz hT hg hgb
  obtain ⟨zr, zi⟩ := z
  simp only at *
  go_enter Try.func26, Try.ntmps26
  go_upto_region 1 with fail
  rw [← Hw.out.1, ← Hw.out.2]
  clear Hw
  go_wp2_with fail
  refine HP.out.mono ?_
  rintro e w2 ⟨rfl, b2⟩
  have hb2 := HQ.out.1.trans (b2.mono HQ.out.1.size)
  have hq2 := (b2.block q (lt_of_heap HQ.out.2.1)).trans HQ.out.2.1
  obtain ⟨p, hp⟩ : ∃ p, p = w2.heap.size := ⟨_, rfl⟩
  obtain ⟨w3, hw3⟩ : ∃ w3, w3 = w2.alloc (.cells #[.int .i64 zr, .int .i64 zi] 52) := ⟨_, rfl⟩
  have hb3 : Below w.heap.size w w3 := by rw [hw3]; exact hb2.alloc hb2.size _
  have hq3 : w3.heap[q]? = some (.cells #[.int .i64 0, .int .i64 0] 52 (0, 0)) := by rw [hw3]; exact (Below.heap_alloc _ _ _ (lt_of_heap hq2)).trans hq2
  have hp3 : w3.heap[p]? = some (.cells #[.int .i64 zr, .int .i64 zi] 52 (0, 0)) := by rw [hw3, hp]; exact heap_alloc_new w2 _
  have D3 := HH.out.1.below hb3
  have HL := hide' (least_any D3 HH.out.2.1 HH.out.2.2.1)
  have H3 := hide' (And.intro hb3 (And.intro hq3 (And.intro hp3 (And.intro D3 (And.intro (show q ≠ p by rw [hp]; have := lt_of_heap hq2; omega) (show w.heap.size ≤ p by rw [hp]; exact hb2.size))))))
  have Hw3 := hide' (And.intro hw3 hp)
  clear b2 hb2 hq2 hp hw3 hb3 hq3 hp3 D3 HP
  go_upto_region 4 with fail
  rw [← Hw3.out.1, ← Hw3.out.2]
  clear Hw3
  go_wp2_with fail
  refine HL.out.mono ?_
  rintro e w4 ⟨rfl, n4, hw4⟩
  have H4 : Hid (Below w.heap.size w w4 ∧ w4.heap[q]? = some (.cells #[.int .i64 0, .int .i64 0] 52 (0, 0)) ∧ w4.heap[p]? = some (.cells #[.int .i64 zr, .int .i64 zi] 52 (0, 0)) ∧ Dm B b off (some ⟨g, 0, none⟩) cap ds w4 ∧ q ≠ p ∧ w.heap.size ≤ p) := hide' (by
    obtain ⟨a1, a2, a3, a4, a5⟩ := H3.out
    rw [hw4]
    exact ⟨bel_drewN a1 n4, a2, a3, ⟨a4.c, a4.f, a4.row, a4.lt, a4.ne⟩, a5⟩)
  have hlp : p < w4.heap.size := lt_of_heap H4.out.2.2.1
  have hTl : (T : Int) ≤ 1099511627776 := by rw [HT.out]; have := HH.out.2.2.1; omega
  clear hw4 HL H3
  go_wp2_with fail
  go_loopw [7, 8] (fun rv iv wx => ∃ (i : Nat) (ro : Option Addr) (rc : Nat), rv = .slice ro ((ds.take i).eraseIdx k).length rc ∧ iv = .int .i64 (i : Int) ∧ i ≤ T ∧ wx.ownsRow w4.heap.size 52 2 (.slice ro ((ds.take i).eraseIdx k).length rc) ((ds.take i).eraseIdx k).length (((ds.take i).eraseIdx k).flatMap tc) ∧ Below w4.heap.size w4 wx) (fun _ i _ => T - (intOf i).toNat)
  case atStart => exact ⟨0, none, 0, by simp, rfl, Nat.zero_le _, by simpa using World.ownsRow_nil w4 _ 52 2, Below.refl _ _⟩
  case round =>
    obtain ⟨i, ro, rc, rfl, rfl, hi, hr, hb⟩ := hrel
    have HI := hide' (And.intro hi (And.intro hr hb))
    have hD := H4.out.2.2.2.1.below hb
    have c0 : wr.cell? ⟨b, off, none⟩ = some (.slice (some ⟨g, 0, none⟩) T cap) := by rw [HT.out]; exact hD.c
    have HD := hide' hD
    clear hr hb hlp
    by_cases hlt : i < T
    · have hlt' : (i : Int) < (T : Int) := by omega
      have Hlt := hide' hlt
      have ew := hide' (wsc hlt hTl)
      have Hms := hide' (msr2 hlt _ rfl)
      obtain ⟨y, hy⟩ : ∃ y, ds[i]? = some y := ⟨_, List.getElem?_eq_getElem (by rw [← HT.out]; exact hlt)⟩
      by_cases e : i = k
      · subst e
        have Hr : Hid ((ds.take (i + 1)).eraseIdx i = (ds.take i).eraseIdx i) := hide' (rs_same (by rw [← HT.out]; exact hlt))
        generalize hrs : (ds.take i).eraseIdx i = rs at *
        clear hy hi hlt hD
        go_wp2
        exact ⟨⟨i + 1, ro, rc, by rw [Hr.out], by first | rfl | rw [ew.out], Hlt.out, by rw [Hr.out]; exact HI.out.2.1, HI.out.2.2⟩, by first | exact Hms.out | (rw [ew.out]; exact Hms.out)⟩
      · have e1 : ¬ ((i : Int) = (k : Int)) := by omega
        have e2 : ((i : Int) == (k : Int)) = false := by simpa using e1
        have Hr : Hid ((ds.take (i + 1)).eraseIdx k = (ds.take i).eraseIdx k ++ [y]) := hide' (rs_more hy e)
        obtain ⟨x0, x1⟩ := hD.item hy
        have Hln : Hid (((ds.take i).eraseIdx k).length < 3000000000000) := hide' (by have := rs_len (ds := ds) (k := k) (i := i); have := HH.out.2.2.1; omega)
        generalize hrs : (ds.take i).eraseIdx k = rs at *
        have Hrs := hide' hrs
        obtain ⟨y0, y1⟩ := y
        simp only at x0 x1
        clear hy hi hlt hD hrs e
        go_wp2_with (at_builtin; refine M.wpList_more (e := 52) (m := 2) Try.underlying31 info52 rfl (by omega) (by omega) wr rfl _ _ rfl HI.out.2.1 Hln.out HI.out.2.2.size (tc (y0, y1)) rfl (by simp [tc, Value.oneCell']) _ rfl rfl ?_; intro gg cap' w5 r5 t5 a5; have K5 := hide' (And.intro r5 t5); clear r5 t5 a5)
        refine ⟨⟨i + 1, some ⟨gg, 0, none⟩, cap', by rw [Hr.out]; simp, by first | rfl | rw [ew.out], Hlt.out, by rw [Hr.out, List.length_append, List.flatMap_append]; simpa using K5.out.1, ?_⟩, by first | exact Hms.out | (rw [ew.out]; exact Hms.out)⟩
        exact HI.out.2.2.trans (K5.out.2.below (fun j hj => by
          obtain ⟨a, rfl, rfl⟩ := hj
          rcases HI.out.2.1.2 with ⟨hv, _⟩ | ⟨g', cap', cur, hv, hb', hg', _⟩
          · cases hv
          · simp only [Value.slice.injEq, Option.some.injEq] at hv
            obtain ⟨rfl, _, _⟩ := hv
            exact hb') HI.out.2.2.size)
    · have hlt' : ¬ (i : Int) < (T : Int) := by omega
      obtain ⟨a1, a2, a3, a4, a5, a6⟩ := H4.out
      have ei : (ds.take i).eraseIdx k = ds.eraseIdx k := by rw [show i = ds.length by rw [← HT.out]; omega, List.take_length]
      rw [ei] at HI ⊢
      have hqw := (HI.out.2.2.block q (lt_of_heap a2)).trans a2
      have hpw := (HI.out.2.2.block p (lt_of_heap a3)).trans a3
      have q0 : wr.cell? ⟨q, 0, none⟩ = some (.int .i64 0) := by rw [Lib.cell_of_heap hqw]; rfl
      have q1 : wr.cell? ⟨q, 1, none⟩ = some (.int .i64 0) := by rw [Lib.cell_of_heap hqw]; rfl
      have qf0 : wr.frozen? ⟨q, 0, none⟩ = false := Lib.frozen_of_heap hqw 0
      have qf1 : wr.frozen? ⟨q, 1, none⟩ = false := Lib.frozen_of_heap hqw 1
      have p0 : wr.cell? ⟨p, 0, none⟩ = some (.int .i64 zr) := by rw [Lib.cell_of_heap hpw]; rfl
      have p1 : wr.cell? ⟨p, 1, none⟩ = some (.int .i64 zi) := by rw [Lib.cell_of_heap hpw]; rfl
      have bf := hD.f
      have hbw : b < w.heap.size := HH.out.1.lt
      have hqe := HQ.out.2.2
      have nbq : q ≠ b := by omega
      have nbp : p ≠ b := by omega
      have bw : Below w.heap.size w wr := a1.trans (HI.out.2.2.mono a1.size)
      have K9 := hide' (And.intro (pop_end HH.out.1 HH.out.2.2.2 bw HI.out.2.1 HQ.out.2.2 (lt_of_heap a2) (.int .i64 zr) (.int .i64 zi)) (show (((wr.setCell ⟨b, off, none⟩ (.slice ro (ds.eraseIdx k).length rc)).setCell ⟨q, 0, none⟩ (.int .i64 zr)).setCell ⟨q, 1, none⟩ (.int .i64 zi)).heap[q]? = some (.cells #[.int .i64 zr, .int .i64 zi] 52 (0, 0)) from row2 (((Turn.refl (fun j => j = b) wr).setCell (p := ⟨b, off, none⟩) (fun _ => rfl) _ |>.block q (lt_of_heap hqw) nbq).trans hqw) _ _))
      generalize hes : ds.eraseIdx k = es at *
      have HE := hide' hes
      clear hi hlt hes hD a1 a2 a3 a4 hqw hpw ei hbw hqe bw
      go_wp2
      (try simp only [Exit.inBlock, Exit.then])
      refine bodyPost_ret (Hp.results_row_tmp rfl _ _ q 52 #[.int .i64 zr, .int .i64 zi] (0, 0) _ rfl K9.out.2 Try.underlying52 rfl (by kernel_rfl)) rfl ?_
      rw [HE.out]
      exact ⟨rfl, K9.out.1⟩
end Dh
end Go.Proofs.Ytddkdakelcohgaa
set_option linter.unusedVariables false
set_option linter.unusedSimpArgs false
namespace Go.Proofs.Ytddkdakelcohgaa
open Go.RowKit Go.Sort
namespace Tx
open Th Hp Dh
def rs (t : ByteArray) : Int := (t.size : Int)
def rq (p : Int × Int) : Int := p.1
set_option maxRecDepth 100000 in
theorem lt19 (x y : ByteArray) (w : World) : Calls Try.prog 19 #[.string x, .string y] w fun e w' => e = .returned (.bool (rlt rs x y)) ∧ Below w.heap.size w w' := by
  unfold rlt rs
  go_enter Try.func19, Try.ntmps19
  go_wp2
  go_ret
  exact ⟨by simp, Below.refl _ _⟩
theorem less19 : HS.Less 19 #[] (rlt rs) (fun _ => False) (fun _ => True) where
  enters := Try.call19
  call x y w _ := lt19 x y w
  stay _ _ _ _ _ _ := trivial
  old _ _ _ h := h.elim
set_option maxRecDepth 100000 in
set_option maxHeartbeats 1000000 in
theorem lt21 (x y : Int × Int) (w : World) : Calls Try.prog 21 #[.agg #[.int .i64 x.1, .int .i64 x.2], .agg #[.int .i64 y.1, .int .i64 y.2]] w fun e w' => e = .returned (.bool (rlt rq x y)) ∧ Below w.heap.size w w' := by
  obtain ⟨x0, x1⟩ := x
  obtain ⟨y0, y1⟩ := y
  have b1 : Below w.heap.size w ((w.alloc (.cells #[.int .i64 x0, .int .i64 x1] 47)).alloc (.cells #[.int .i64 y0, .int .i64 y1] 47)) := ((Below.refl _ w).alloc (Nat.le_refl _) _).alloc (by simp) _
  have Hb := hide' b1
  have c1 : ((w.alloc (.cells #[.int .i64 x0, .int .i64 x1] 47)).alloc (.cells #[.int .i64 y0, .int .i64 y1] 47)).cell? ⟨w.heap.size, 0, none⟩ = some (.int .i64 x0) := by
    rw [World.cell?_of_block (Below.heap_alloc (w.alloc (.cells #[.int .i64 x0, .int .i64 x1] 47)) _ _ (by simp)), Lib.cell_of_heap (heap_alloc_new w _)]; rfl
  have c2 : ((w.alloc (.cells #[.int .i64 x0, .int .i64 x1] 47)).alloc (.cells #[.int .i64 y0, .int .i64 y1] 47)).cell? ⟨w.heap.size + 1, 0, none⟩ = some (.int .i64 y0) := by
    simp
  unfold rlt rq
  clear b1
  go_enter Try.func21, Try.ntmps21
  go_wp2
  go_ret
  exact ⟨rfl, Hb.out⟩
theorem less21 : HQ.Less 21 #[] (rlt rq) (fun _ => False) (fun _ => True) where
  enters := Try.call21
  call x y w _ := lt21 x y w
  stay _ _ _ _ _ _ := trivial
  old _ _ _ h := h.elim
set_option maxRecDepth 100000 in
theorem new_nil (w : World) : Calls Try.prog 18 #[.nilFunc] w fun e w' => e = .returned (.pointer none) ∧ w' = w := by
  have h : (binOp .eql 44 .nilFunc .nilFunc).run Try.prog w = .ok (.bool true) w := by kernel_rfl
  go_enter Try.func18, Try.ntmps18
  go_wp2
  go_ret
  exact ⟨rfl, rfl⟩
set_option maxRecDepth 100000 in
theorem at4 (v : Int) (w : World) : Calls Try.prog 15 #[.int .i64 v, .int .i64 4] w fun e w' => ∃ j : Nat, e = .returned (.int .i64 (j : Int)) ∧ j < 4 ∧ w' = w := by
  by_cases h : v.tmod 4 < 0
  · have e : wrap64 (v.tmod 4 + 4) = v.tmod 4 + 4 := by have := Int.tmod_lt_of_pos v (show (0 : Int) < 4 by omega); have := Int.lt_tmod_of_pos v (show (0 : Int) < 4 by omega); unfold wrap64; omega
    have b : 0 ≤ v.tmod 4 + 4 ∧ v.tmod 4 + 4 < 4 := by have := Int.lt_tmod_of_pos v (show (0 : Int) < 4 by omega); omega
    obtain ⟨j, hj⟩ := Int.eq_ofNat_of_zero_le b.1
    have H := hide' (And.intro e (And.intro b hj))
    clear e b hj
    go_enter Try.func15, Try.ntmps15
    go_wp2
    go_ret
    refine ⟨j, ?_, by have := H.out; omega, rfl⟩
    rw [H.out.1, H.out.2.2]
    rfl
  · have b : 0 ≤ v.tmod 4 ∧ v.tmod 4 < 4 := by have := Int.tmod_lt_of_pos v (show (0 : Int) < 4 by omega); omega
    obtain ⟨j, hj⟩ := Int.eq_ofNat_of_zero_le b.1
    have H := hide' (And.intro b hj)
    clear b hj
    go_enter Try.func15, Try.ntmps15
    go_wp2
    go_ret
    refine ⟨j, ?_, by have := H.out; omega, rfl⟩
    rw [H.out.2]
    rfl
/-- what is new stays apart from what was there -/
theorem dis {P Q P' : Nat → Prop} {N : Nat} (d : ∀ j, P j → ¬ Q j) (h : ∀ j, P' j → P j ∨ N ≤ j) (l : ∀ j, Q j → j < N) : ∀ j, P' j → ¬ Q j := fun j hj q => by
  rcases h j hj with a | a
  · exact d j a q
  · have := l j q; omega
theorem dis' {P Q P' : Nat → Prop} {N : Nat} (d : ∀ j, Q j → ¬ P j) (h : ∀ j, P' j → P j ∨ N ≤ j) (l : ∀ j, Q j → j < N) : ∀ j, Q j → ¬ P' j := fun j hq hj => dis (fun j a b => d j b a) h l j hj hq
/-- a slice of texts, wherever it lies -/
def Ts (w : World) (a : Option Addr) (ts : List ByteArray) : Prop := ts = [] ∨ ∃ b off, a = some ⟨b, off, none⟩ ∧ b < w.heap.size ∧ ∀ j, j < ts.length → w.cell? ⟨b, off + j, none⟩ = some (.string (ts.getD j ⟨#[]⟩))
theorem Ts.below {w w' : World} {a : Option Addr} {ts : List ByteArray} (h : Ts w a ts) (b : Below w.heap.size w w') : Ts w' a ts :=
  h.imp id (fun ⟨b0, off, h1, h2, h3⟩ => ⟨b0, off, h1, Nat.lt_of_lt_of_le h2 b.size, fun j hj => (b.cell (p := ⟨b0, off + j, none⟩) h2).trans (h3 j hj)⟩)
/-- a slice of numbers, wherever it lies -/
def Ns (w : World) (a : Option Addr) (zs : List Int) : Prop := zs = [] ∨ ∃ b off, a = some ⟨b, off, none⟩ ∧ b < w.heap.size ∧ ∀ j, j < zs.length → w.cell? ⟨b, off + j, none⟩ = some (.int .i64 (zs.getD j 0))
theorem Ns.below {w w' : World} {a : Option Addr} {zs : List Int} (h : Ns w a zs) (b : Below w.heap.size w w') : Ns w' a zs :=
  h.imp id (fun ⟨b0, off, h1, h2, h3⟩ => ⟨b0, off, h1, Nat.lt_of_lt_of_le h2 b.size, fun j hj => (b.cell (p := ⟨b0, off + j, none⟩) h2).trans (h3 j hj)⟩)
/-- the two heaps and the document's two, apart -/
structure K4 (G : Nat → Prop) (B hb gb rb sb : Nat) (zs : List (ByteArray × Nat)) (na : Nat) (ys : List ((Int × Int) × Nat)) (nc : Nat) (ds es : List (Int × Int)) (DA DC : Nat → Prop) (ao bo : Option Addr) (ca cb : Nat) (w : World) : Prop where
  A : HS.Ho DA B hb (.func (.func 19) #[] #[]) zs na w
  C : HQ.Ho DC B gb (.func (.func 21) #[] #[]) ys nc w
  E : Dm B rb 0 ao ca ds w
  F : Dm B sb 0 bo cb es w
  ac : ∀ j, DA j → ¬ DC j
  ae : ∀ j, DA j → ¬ Own rb ao j
  af : ∀ j, DA j → ¬ Own sb bo j
  ce : ∀ j, DC j → ¬ Own rb ao j
  cf : ∀ j, DC j → ¬ Own sb bo j
  ef : ∀ j, Own rb ao j → ¬ Own sb bo j
  lo : B ≤ w.heap.size ∧ B ≤ rb ∧ B ≤ sb
  gs : ∀ j, G j → j < w.heap.size ∧ ¬ DA j ∧ ¬ DC j ∧ ¬ Own rb ao j ∧ ¬ Own sb bo j
/-- what stays -/
def Fr (G : Nat → Prop) (B : Nat) (w w' : World) : Prop := Below B w w' ∧ ∀ j, G j → w'.heap[j]? = w.heap[j]?
def H4 (G : Nat → Prop) (B hb gb rb sb : Nat) (zs : List (ByteArray × Nat)) (na : Nat) (ys : List ((Int × Int) × Nat)) (nc : Nat) (ds es : List (Int × Int)) (w : World) : Prop := ∃ DA DC ao bo ca cb, K4 G B hb gb rb sb zs na ys nc ds es DA DC ao bo ca cb w
variable {G G' : Nat → Prop} {B hb gb rb sb : Nat} {zs zs' : List (ByteArray × Nat)} {na na' : Nat} {ys ys' : List ((Int × Int) × Nat)} {nc nc' : Nat} {ds es ds' es' : List (Int × Int)} {DA DC : Nat → Prop} {ao bo : Option Addr} {ca cb : Nat} {w w' : World}
theorem own_lt {b : Nat} {off : Nat} {ao : Option Addr} {cap : Nat} {ds : List (Int × Int)} (h : Dm B b off ao cap ds w) (j : Nat) (hj : Own b ao j) : j < w.heap.size := by
  rcases hj with rfl | hj
  · exact h.lt
  · exact (h.at hj).2
theorem own_lo {b : Nat} {off : Nat} {ao : Option Addr} {cap : Nat} {ds : List (Int × Int)} (h : Dm B b off ao cap ds w) (hb : B ≤ b) (j : Nat) (hj : Own b ao j) : B ≤ j := by
  rcases hj with rfl | hj
  · exact hb
  · exact (h.at hj).1
theorem own_new {b : Nat} {ao ao' : Option Addr} {N : Nat} (ha : ∀ j, M.At ao' j → M.At ao j ∨ N ≤ j) (j : Nat) (hj : Own b ao' j) : Own b ao j ∨ N ≤ j := by
  rcases hj with rfl | hj
  · exact .inl (.inl rfl)
  · exact (ha j hj).imp .inr id
theorem K4.below (h : K4 G B hb gb rb sb zs na ys nc ds es DA DC ao bo ca cb w) (b : Below w.heap.size w w') : K4 G B hb gb rb sb zs na ys nc ds es DA DC ao bo ca cb w' :=
  ⟨h.A.below b, h.C.below b, h.E.below b, h.F.below b, h.ac, h.ae, h.af, h.ce, h.cf, h.ef, ⟨Nat.le_trans h.lo.1 b.size, h.lo.2⟩, fun j q => ⟨Nat.lt_of_lt_of_le (h.gs j q).1 b.size, (h.gs j q).2⟩⟩
theorem H4.below (h : H4 G B hb gb rb sb zs na ys nc ds es w) (b : Below w.heap.size w w') : H4 G B hb gb rb sb zs na ys nc ds es w' := by
  obtain ⟨DA, DC, ao, bo, ca, cb, k⟩ := h
  exact ⟨DA, DC, ao, bo, ca, cb, k.below b⟩
theorem H4.weak (h : H4 G B hb gb rb sb zs na ys nc ds es w) (g : ∀ j, G' j → G j) : H4 G' B hb gb rb sb zs na ys nc ds es w := by
  obtain ⟨DA, DC, ao, bo, ca, cb, k⟩ := h
  exact ⟨DA, DC, ao, bo, ca, cb, ⟨k.A, k.C, k.E, k.F, k.ac, k.ae, k.af, k.ce, k.cf, k.ef, k.lo, fun j q => k.gs j (g j q)⟩⟩
/-- a guest more -/
theorem H4.guest (h : H4 G B hb gb rb sb zs na ys nc ds es w) (o : Obj) : H4 (fun j => G j ∨ j = w.heap.size) B hb gb rb sb zs na ys nc ds es (w.alloc o) := by
  obtain ⟨DA, DC, ao, bo, ca, cb, k⟩ := h
  have kb := k.below (w' := w.alloc o) ((Below.refl _ _).alloc (Nat.le_refl _) _)
  refine ⟨DA, DC, ao, bo, ca, cb, ⟨kb.A, kb.C, kb.E, kb.F, kb.ac, kb.ae, kb.af, kb.ce, kb.cf, kb.ef, kb.lo, fun j q => ?_⟩⟩
  rcases q with q | rfl
  · exact kb.gs j q
  · exact ⟨by simp, fun d => by have := (k.A.lo d).2; omega, fun d => by have := (k.C.lo d).2; omega, fun d => by have := own_lt k.E _ d; omega, fun d => by have := own_lt k.F _ d; omega⟩
theorem K4.toA (h : K4 G B hb gb rb sb zs na ys nc ds es DA DC ao bo ca cb w) (t : HS.To DA B hb (.func (.func 19) #[] #[]) zs' na' w w') : H4 G B hb gb rb sb zs' na' ys nc ds es w' ∧ Fr G B w w' := by
  obtain ⟨D', hA, tn, hn⟩ := t
  exact ⟨⟨D', DC, ao, bo, ca, cb, ⟨hA, h.C.kept tn (fun j hj q => h.ac j q hj), h.E.kept tn (fun j hj q => h.ae j q hj), h.F.kept tn (fun j hj q => h.af j q hj), dis h.ac hn (fun j q => (h.C.lo q).2), dis h.ae hn (own_lt h.E), dis h.af hn (own_lt h.F), h.ce, h.cf, h.ef, ⟨Nat.le_trans h.lo.1 tn.size, h.lo.2⟩, fun j q => ⟨Nat.lt_of_lt_of_le (h.gs j q).1 tn.size, (fun d => (hn j d).elim (h.gs j q).2.1 (fun e => by have := (h.gs j q).1; omega)), (h.gs j q).2.2⟩⟩⟩, tn.below (fun k q => (h.A.lo q).1) h.lo.1, fun j q => tn.block j (h.gs j q).1 (h.gs j q).2.1⟩
theorem K4.toC (h : K4 G B hb gb rb sb zs na ys nc ds es DA DC ao bo ca cb w) (t : HQ.To DC B gb (.func (.func 21) #[] #[]) ys' nc' w w') : H4 G B hb gb rb sb zs na ys' nc' ds es w' ∧ Fr G B w w' := by
  obtain ⟨D', hC, tn, hn⟩ := t
  exact ⟨⟨DA, D', ao, bo, ca, cb, ⟨h.A.kept tn (fun j hj q => h.ac j hj q), hC, h.E.kept tn (fun j hj q => h.ce j q hj), h.F.kept tn (fun j hj q => h.cf j q hj), dis' h.ac hn (fun j q => (h.A.lo q).2), h.ae, h.af, dis h.ce hn (own_lt h.E), dis h.cf hn (own_lt h.F), h.ef, ⟨Nat.le_trans h.lo.1 tn.size, h.lo.2⟩, fun j q => ⟨Nat.lt_of_lt_of_le (h.gs j q).1 tn.size, (h.gs j q).2.1, (fun d => (hn j d).elim (h.gs j q).2.2.1 (fun e => by have := (h.gs j q).1; omega)), (h.gs j q).2.2.2⟩⟩⟩, tn.below (fun k q => (h.C.lo q).1) h.lo.1, fun j q => tn.block j (h.gs j q).1 (h.gs j q).2.2.1⟩
theorem K4.toE (h : K4 G B hb gb rb sb zs na ys nc ds es DA DC ao bo ca cb w) (t : DL B rb 0 ao ds' w w') : H4 G B hb gb rb sb zs na ys nc ds' es w' ∧ Fr G B w w' := by
  obtain ⟨ao', ca', hE, tn, ha, _⟩ := t
  have hn := own_new (b := rb) ha
  exact ⟨⟨DA, DC, ao', bo, ca', cb, ⟨h.A.kept tn (fun j hj q => h.ae j hj q), h.C.kept tn (fun j hj q => h.ce j hj q), hE, h.F.kept tn (fun j hj q => h.ef j q hj), h.ac, dis' h.ae hn (fun j q => (h.A.lo q).2), h.af, dis' h.ce hn (fun j q => (h.C.lo q).2), h.cf, dis h.ef hn (own_lt h.F), ⟨Nat.le_trans h.lo.1 tn.size, h.lo.2⟩, fun j q => ⟨Nat.lt_of_lt_of_le (h.gs j q).1 tn.size, (h.gs j q).2.1, (h.gs j q).2.2.1, (fun d => (hn j d).elim (h.gs j q).2.2.2.1 (fun e => by have := (h.gs j q).1; omega)), (h.gs j q).2.2.2.2⟩⟩⟩, tn.below (fun k q => own_lo h.E h.lo.2.1 k q) h.lo.1, fun j q => tn.block j (h.gs j q).1 (h.gs j q).2.2.2.1⟩
theorem K4.toF (h : K4 G B hb gb rb sb zs na ys nc ds es DA DC ao bo ca cb w) (t : DL B sb 0 bo es' w w') : H4 G B hb gb rb sb zs na ys nc ds es' w' ∧ Fr G B w w' := by
  obtain ⟨bo', cb', hF, tn, ha, _⟩ := t
  have hn := own_new (b := sb) ha
  exact ⟨⟨DA, DC, ao, bo', ca, cb', ⟨h.A.kept tn (fun j hj q => h.af j hj q), h.C.kept tn (fun j hj q => h.cf j hj q), h.E.kept tn (fun j hj q => h.ef j hj q), hF, h.ac, h.ae, dis' h.af hn (fun j q => (h.A.lo q).2), h.ce, dis' h.cf hn (fun j q => (h.C.lo q).2), dis' h.ef hn (own_lt h.E), ⟨Nat.le_trans h.lo.1 tn.size, h.lo.2⟩, fun j q => ⟨Nat.lt_of_lt_of_le (h.gs j q).1 tn.size, (h.gs j q).2.1, (h.gs j q).2.2.1, (h.gs j q).2.2.2.1, (fun d => (hn j d).elim (h.gs j q).2.2.2.2 (fun e => by have := (h.gs j q).1; omega))⟩⟩⟩, tn.below (fun k q => own_lo h.F h.lo.2.2 k q) h.lo.1, fun j q => tn.block j (h.gs j q).1 (h.gs j q).2.2.2.2⟩
theorem pushA (h : H4 G B hb gb rb sb zs na ys nc ds es w) (x : ByteArray) (hl : zs.length < 1099511627776) (hc : na < 4611686018427387904) : Calls Try.prog 22 #[.pointer (some ⟨hb, 0, none⟩), .string x] w fun e w' => e = .returned (.tuple #[]) ∧ ∃ zs', zs'.Perm (zs ++ [(x, na)]) ∧ (SWO (rlt rs) → Heap (ahd (rlt rs)) zs → Heap (ahd (rlt rs)) zs') ∧ H4 G B hb gb rb sb zs' (na + 1) ys nc ds es w' ∧ Fr G B w w' := by
  obtain ⟨DA, DC, ao, bo, ca, cb, k⟩ := h
  exact (HS.push_any less19 x k.A trivial (fun _ q => q.elim) hl hc).mono (fun e w' ⟨h1, zs', h2, h3, h4⟩ => ⟨h1, zs', h2, h3, k.toA h4⟩)
theorem pushC (h : H4 G B hb gb rb sb zs na ys nc ds es w) (x : Int × Int) (hl : ys.length < 1099511627776) (hc : nc < 4611686018427387904) : Calls Try.prog 24 #[.pointer (some ⟨gb, 0, none⟩), .agg #[.int .i64 x.1, .int .i64 x.2]] w fun e w' => e = .returned (.tuple #[]) ∧ ∃ ys', ys'.Perm (ys ++ [(x, nc)]) ∧ (SWO (rlt rq) → Heap (ahd (rlt rq)) ys → Heap (ahd (rlt rq)) ys') ∧ H4 G B hb gb rb sb zs na ys' (nc + 1) ds es w' ∧ Fr G B w w' := by
  obtain ⟨DA, DC, ao, bo, ca, cb, k⟩ := h
  exact (HQ.push_any less21 x k.C trivial (fun _ q => q.elim) hl hc).mono (fun e w' ⟨h1, zs', h2, h3, h4⟩ => ⟨h1, zs', h2, h3, k.toC h4⟩)
theorem pushE (h : H4 G B hb gb rb sb zs na ys nc ds es w) (z : Int × Int) (hl : ds.length < 1099511627776) : Calls Try.prog 23 #[.pointer (some ⟨rb, 0, none⟩), .agg #[.int .i64 z.1, .int .i64 z.2]] w fun e w' => e = .returned (.tuple #[]) ∧ H4 G B hb gb rb sb zs na ys nc (ds ++ [z]) es w' ∧ Fr G B w w' := by
  obtain ⟨DA, DC, ao, bo, ca, cb, k⟩ := h
  exact (Dh.push_any z k.E hl k.lo.1).mono (fun e w' ⟨h1, h2⟩ => ⟨h1, k.toE (DT.dl k.E h2)⟩)
theorem pushF (h : H4 G B hb gb rb sb zs na ys nc ds es w) (z : Int × Int) (hl : es.length < 1099511627776) : Calls Try.prog 23 #[.pointer (some ⟨sb, 0, none⟩), .agg #[.int .i64 z.1, .int .i64 z.2]] w fun e w' => e = .returned (.tuple #[]) ∧ H4 G B hb gb rb sb zs na ys nc ds (es ++ [z]) w' ∧ Fr G B w w' := by
  obtain ⟨DA, DC, ao, bo, ca, cb, k⟩ := h
  exact (Dh.push_any z k.F hl k.lo.1).mono (fun e w' ⟨h1, h2⟩ => ⟨h1, k.toF (DT.dl k.F h2)⟩)
theorem popA (h : H4 G B hb gb rb sb zs na ys nc ds es w) {z : ByteArray × Nat} (hz : zs[0]? = some z) (hl : zs.length ≤ 1099511627776) : Calls Try.prog 25 #[.pointer (some ⟨hb, 0, none⟩)] w fun e w' => e = .returned (.tuple #[.string z.1, .bool true]) ∧ ∃ zs', (z :: zs').Perm zs ∧ (SWO (rlt rs) → Heap (ahd (rlt rs)) zs → Heap (ahd (rlt rs)) zs') ∧ H4 G B hb gb rb sb zs' na ys nc ds es w' ∧ Fr G B w w' := by
  obtain ⟨DA, DC, ao, bo, ca, cb, k⟩ := h
  obtain ⟨n, hn⟩ : ∃ n, zs.length = n + 1 := ⟨zs.length - 1, by have := (List.getElem?_eq_some_iff.1 hz).1; omega⟩
  exact (HS.pop_some less19 k.A trivial (fun _ q => q.elim) hn hz hl).mono (fun e w' ⟨h1, zs', h2, h3, h4⟩ => ⟨h1, zs', h2, h3, k.toA h4⟩)
theorem popC (h : H4 G B hb gb rb sb zs na ys nc ds es w) {z : (Int × Int) × Nat} (hz : ys[0]? = some z) (hl : ys.length ≤ 1099511627776) : Calls Try.prog 27 #[.pointer (some ⟨gb, 0, none⟩)] w fun e w' => e = .returned (.tuple #[.agg #[.int .i64 z.1.1, .int .i64 z.1.2], .bool true]) ∧ ∃ ys', (z :: ys').Perm ys ∧ (SWO (rlt rq) → Heap (ahd (rlt rq)) ys → Heap (ahd (rlt rq)) ys') ∧ H4 G B hb gb rb sb zs na ys' nc ds es w' ∧ Fr G B w w' := by
  obtain ⟨DA, DC, ao, bo, ca, cb, k⟩ := h
  obtain ⟨n, hn⟩ : ∃ n, ys.length = n + 1 := ⟨ys.length - 1, by have := (List.getElem?_eq_some_iff.1 hz).1; omega⟩
  exact (HQ.pop_some less21 k.C trivial (fun _ q => q.elim) hn hz hl).mono (fun e w' ⟨h1, zs', h2, h3, h4⟩ => ⟨h1, zs', h2, h3, k.toC h4⟩)
theorem popE (h : H4 G B hb gb rb sb zs na ys nc ds es w) {k : Nat} {z : Int × Int} (hk : Fl ds k) (hz : ds[k]? = some z) (hl : ds.length ≤ 1099511627776) : Calls Try.prog 26 #[.pointer (some ⟨rb, 0, none⟩)] w fun e w' => e = .returned (.tuple #[.agg #[.int .i64 z.1, .int .i64 z.2], .bool true]) ∧ H4 G B hb gb rb sb zs na ys nc (ds.eraseIdx k) es w' ∧ Fr G B w w' := by
  obtain ⟨DA, DC, ao, bo, ca, cb, kk⟩ := h
  exact (Dh.pop_some kk.E hk hz hl kk.lo.1).mono (fun e w' ⟨h1, h2⟩ => ⟨h1, kk.toE h2⟩)
theorem popF (h : H4 G B hb gb rb sb zs na ys nc ds es w) {k : Nat} {z : Int × Int} (hk : Fl es k) (hz : es[k]? = some z) (hl : es.length ≤ 1099511627776) : Calls Try.prog 26 #[.pointer (some ⟨sb, 0, none⟩)] w fun e w' => e = .returned (.tuple #[.agg #[.int .i64 z.1, .int .i64 z.2], .bool true]) ∧ H4 G B hb gb rb sb zs na ys nc ds (es.eraseIdx k) w' ∧ Fr G B w w' := by
  obtain ⟨DA, DC, ao, bo, ca, cb, kk⟩ := h
  exact (Dh.pop_some kk.F hk hz hl kk.lo.1).mono (fun e w' ⟨h1, h2⟩ => ⟨h1, kk.toF h2⟩)
theorem none4 (h : H4 G B hb gb rb sb [] na [] nc [] [] w) : (Calls Try.prog 25 #[.pointer (some ⟨hb, 0, none⟩)] w fun e w' => e = .returned (.tuple #[.string ⟨#[]⟩, .bool false]) ∧ Below w.heap.size w w') ∧ (Calls Try.prog 27 #[.pointer (some ⟨gb, 0, none⟩)] w fun e w' => e = .returned (.tuple #[.agg #[.int .i64 0, .int .i64 0], .bool false]) ∧ Below w.heap.size w w') ∧ (Calls Try.prog 26 #[.pointer (some ⟨rb, 0, none⟩)] w fun e w' => e = .returned (.tuple #[.agg #[.int .i64 0, .int .i64 0], .bool false]) ∧ Below w.heap.size w w') ∧ (Calls Try.prog 26 #[.pointer (some ⟨sb, 0, none⟩)] w fun e w' => e = .returned (.tuple #[.agg #[.int .i64 0, .int .i64 0], .bool false]) ∧ Below w.heap.size w w') := by
  obtain ⟨DA, DC, ao, bo, ca, cb, k⟩ := h
  exact ⟨HS.pop_none k.A, HQ.pop_none k.C, Dh.pop_none k.E, Dh.pop_none k.F⟩
/-- the lists side by side, behind i texts -/
structure P4 (ts : List ByteArray) (i : Nat) (zs : List (ByteArray × Nat)) (ys : List ((Int × Int) × Nat)) (ds es : List (Int × Int)) (L : List (ByteArray × Nat × Int)) (N : List ((Int × Int) × Nat × Int)) : Prop where
  c1 : Cp rs zs i ds L
  c2 : Cp rq ys i es N
  ln : L.length = N.length ∧ L.length ≤ i
  q1 : ∀ q ∈ L, ∃ n : Nat, q.2.2 = (n : Int) ∧ n < ts.length ∧ ts.getD n ⟨#[]⟩ = q.1
  q2 : ∀ q ∈ N, q.1.2 = q.2.2
end Tx
end Go.Proofs.Ytddkdakelcohgaa
set_option linter.unusedVariables false
set_option linter.unusedSimpArgs false
namespace Go.Proofs.Ytddkdakelcohgaa
open Go.RowKit Go.Sort
namespace Tx
open Th Hp Dh
variable {ts : List ByteArray} {i : Nat} {zs zs' : List (ByteArray × Nat)} {ys ys' : List ((Int × Int) × Nat)} {ds es : List (Int × Int)} {L : List (ByteArray × Nat × Int)} {N : List ((Int × Int) × Nat × Int)}
theorem fl_ex : ∀ (m : Nat), 0 < m → m ≤ ds.length → ∃ k, Fl (ds.take m) k := by
  intro m
  induction m with
  | zero => intro h; omega
  | succ m ih =>
    intro _ hm
    by_cases h0 : m = 0
    · subst h0
      exact ⟨0, Dh.Fl.one (List.getElem?_eq_getElem (by omega))⟩
    · obtain ⟨k, hk⟩ := ih (by omega) (by omega)
      have hkm : k < m := by have := Dh.Fl.lt hk; simp at this; omega
      have st := Dh.Fl.step hk (List.getElem?_eq_getElem (by omega)) (List.getElem?_eq_getElem (show m < ds.length by omega))
      by_cases c : (ds[m]'(by omega)).1 < (ds[k]'(by omega)).1
      · exact ⟨m, st.1 c⟩
      · exact ⟨k, st.2 c⟩
theorem fl_some (h : 0 < ds.length) : ∃ k, Fl ds k := by
  obtain ⟨k, hk⟩ := fl_ex (ds := ds) ds.length h (Nat.le_refl _)
  rw [List.take_length] at hk
  exact ⟨k, hk⟩
theorem P4.nil (ts : List ByteArray) : P4 ts 0 [] [] [] [] [] [] := ⟨Cp.nil _, Cp.nil _, ⟨rfl, Nat.le_refl _⟩, (fun q h => by cases h), (fun q h => by cases h)⟩
theorem P4.lens (h : P4 ts i zs ys ds es L N) : zs.length = L.length ∧ ys.length = L.length ∧ ds.length = L.length ∧ es.length = L.length := by
  have := h.c1.len
  have := h.c2.len
  have := h.ln
  omega
theorem P4.push (h : P4 ts i zs ys ds es L N) (hi : i < ts.length) {x : ByteArray} (hx : ts.getD i ⟨#[]⟩ = x) (p1 : zs'.Perm (zs ++ [(x, i)])) (g1 : SWO (rlt rs) → Heap (ahd (rlt rs)) zs → Heap (ahd (rlt rs)) zs') (p2 : ys'.Perm (ys ++ [((-(x.size : Int), (i : Int)), i)])) (g2 : SWO (rlt rq) → Heap (ahd (rlt rq)) ys → Heap (ahd (rlt rq)) ys') :
    P4 ts (i + 1) zs' ys' (ds ++ [((x.size : Int), (i : Int))]) (es ++ [(-(x.size : Int), (i : Int))]) (L ++ [(x, i, (i : Int))]) (N ++ [((-(x.size : Int), (i : Int)), i, (i : Int))]) := by
  refine ⟨h.c1.push p1 g1 (i : Int), h.c2.push p2 g2 (i : Int), by simp; have := h.ln; omega, fun q hq => ?_, fun q hq => ?_⟩
  · rcases List.mem_append.1 hq with a | a
    · exact h.q1 q a
    · simp at a; subst a; exact ⟨i, rfl, hi, hx⟩
  · rcases List.mem_append.1 hq with a | a
    · exact h.q2 q a
    · simp at a; subst a; rfl
theorem P4.pop (h : P4 ts i zs ys ds es L N) (hl : 0 < L.length) : ∃ (z : ByteArray × Nat) (y : (Int × Int) × Nat) (k k2 n : Nat), zs[0]? = some z ∧ ys[0]? = some y ∧ Fl ds k ∧ Fl es k2 ∧ ds[k]? = some ((z.1.size : Int), (n : Int)) ∧ n < ts.length ∧ ts.getD n ⟨#[]⟩ = z.1 ∧ es[k2]? = some y.1 ∧
    ∀ zs' ys', (z :: zs').Perm zs → (SWO (rlt rs) → Heap (ahd (rlt rs)) zs → Heap (ahd (rlt rs)) zs') → (y :: ys').Perm ys → (SWO (rlt rq) → Heap (ahd (rlt rq)) ys → Heap (ahd (rlt rq)) ys') → ∃ L' N', P4 ts i zs' ys' (ds.eraseIdx k) (es.eraseIdx k2) L' N' := by
  obtain ⟨l1, l2, l3, l4⟩ := h.lens
  obtain ⟨z, hz⟩ : ∃ z, zs[0]? = some z := ⟨_, List.getElem?_eq_getElem (by omega)⟩
  obtain ⟨y, hy⟩ : ∃ y, ys[0]? = some y := ⟨_, List.getElem?_eq_getElem (by omega)⟩
  obtain ⟨k, hk⟩ := fl_some (ds := ds) (by omega)
  obtain ⟨k2, hk2⟩ := fl_some (ds := es) (by omega)
  obtain ⟨q, hq, hqz, hqd⟩ := h.c1.pop hz hk
  obtain ⟨p, hp, hpy, hpd⟩ := h.c2.pop hy hk2
  have hqm := List.mem_of_getElem? hq
  have hpm := List.mem_of_getElem? hp
  obtain ⟨n, e1, e2, e3⟩ := h.q1 q hqm
  have e4 := h.q2 p hpm
  have ez : z.1 = q.1 := by rw [← hqz]; rfl
  have ey : y.1 = p.1 := by rw [← hpy]; rfl
  refine ⟨z, y, k, k2, n, hz, hy, hk, hk2, by rw [hqd, ez, ← e1]; rfl, e2, by rw [ez]; exact e3, by rw [hpd, ey]; show some (p.1.1, p.2.2) = some p.1; rw [← e4], fun zs' ys' p1 g1 p2 g2 => ⟨L.eraseIdx k, N.eraseIdx k2, ⟨h.c1.out hq hqz p1 g1, h.c2.out hp hpy p2 g2, ?_, fun q hq => h.q1 q ((List.eraseIdx_sublist ..).mem hq), fun q hq => h.q2 q ((List.eraseIdx_sublist ..).mem hq)⟩⟩⟩
  have a1 := List.length_eraseIdx_of_lt (List.getElem?_eq_some_iff.1 hq).1
  have a2 := List.length_eraseIdx_of_lt (List.getElem?_eq_some_iff.1 hp).1
  have := h.ln
  omega
end Tx
end Go.Proofs.Ytddkdakelcohgaa
set_option linter.unusedVariables false
set_option linter.unusedSimpArgs false
namespace Go.Proofs.Ytddkdakelcohgaa
open Go.RowKit Go.Sort
namespace Tx
open Th Hp Dh
theorem ws {i T : Nat} (h : i < T) (hT : T ≤ 1048576) : wrap64 ((i : Int) + 1) = (((i + 1 : Nat)) : Int) := by unfold wrap64; omega
theorem wn {n : Nat} (h : n ≤ 9223372036854775807) : wrap64 (-(n : Int)) = -(n : Int) := by unfold wrap64; omega
theorem cells3 : Try.prog.cellsOf 3 = 1 := by kernel_rfl
theorem info3i : (Try.prog.info? 3).map (fun i => (i.zero, i.size, i.bytes)) = some (some (.int .i64 0), 1, 8) := by kernel_rfl
theorem part2 (xs : Array Value) (j : Nat) (v : Value) (w : World) (h : xs[j]? = some v) : (part 3 xs j).run Try.prog w = .ok v w := run_part_plain (P := Try.prog) (e := 3) w (show Try.prog.plainKey 3 = true by kernel_rfl) h
theorem eq_i64' (n : Nat) (a : Int) (w : World) : (Op.equalIn (n + 1) 3 (.int .i64 a) (.int .i64 a)).run Try.prog w = .ok true w := by
  simp only [Op.equalIn, Sem.run_bind, run_underlying Try.underlying3, Result.andThen_ok]
  simp
theorem eq_i64 (a : Int) (w : World) : (Op.equalIn 9999 3 (.int .i64 a) (.int .i64 a)).run Try.prog w = .ok true w := eq_i64' 9998 a w
set_option maxRecDepth 100000 in
theorem eq47 (a b : Int) (w : World) : (Op.equalIn 10000 47 (.agg #[.int .i64 a, .int .i64 b]) (.agg #[.int .i64 a, .int .i64 b])).run Try.prog w = .ok true w := by
  obtain ⟨i0, hi, _⟩ := info_parts info3i
  show (Op.equalIn (9999 + 1) 47 _ _).run Try.prog w = .ok true w
  rw [run_equalIn_array (P := Try.prog) w 9999 (t := 47) (e := 3) (n := 2) (i := i0) _ _ Try.underlying47 hi, cells3, show List.range 2 = [0, 1] from rfl]
  have h0 := fun w => part2 #[.int .i64 a, .int .i64 b] 0 (.int .i64 a) w rfl
  have h1 := fun w => part2 #[.int .i64 a, .int .i64 b] 1 (.int .i64 b) w rfl
  simp only [Op.eqItems, Sem.run_bind, Nat.mul_one, h0, h1, Result.andThen_ok, eq_i64]
  simp [h0, h1, eq_i64]
theorem lowS {D : Nat → Prop} {B B' h n : Nat} {fv : Value} {zs : List (ByteArray × Nat)} {w : World} (H : HS.Ho D B h fv zs n w) (hb : B' ≤ B) : HS.Ho D B' h fv zs n w := by
  obtain ⟨ao, cap, hm, hd⟩ := H
  exact ⟨ao, cap, ⟨hm.hh, row_lower hm.row hb, Nat.le_trans hb hm.lo⟩, hd⟩
theorem lowQ {D : Nat → Prop} {B B' h n : Nat} {fv : Value} {zs : List ((Int × Int) × Nat)} {w : World} (H : HQ.Ho D B h fv zs n w) (hb : B' ≤ B) : HQ.Ho D B' h fv zs n w := by
  obtain ⟨ao, cap, hm, hd⟩ := H
  exact ⟨ao, cap, ⟨hm.hh, row_lower hm.row hb, Nat.le_trans hb hm.lo⟩, hd⟩
theorem new_dm {B b : Nat} {w : World} (h : w.heap[b]? = some (.cells #[.slice none 0 0] 33 (0, 0))) : Dm B b 0 none 0 [] w :=
  ⟨by rw [Lib.cell_of_heap h]; rfl, Lib.frozen_of_heap h 0, World.ownsRow_nil w B 52 2, lt_of_heap h, fun j ⟨a, ha, _⟩ => by cases ha⟩
theorem own_nil {b j : Nat} (h : Own b none j) : j = b := h.elim id (fun ⟨a, ha, _⟩ => by cases ha)
/-- at the loops -/
def Lp (ts : List ByteArray) (B hb gb rb sb : Nat) (w : World) (i : Nat) (wx : World) : Prop := ∃ zs ys ds es L N, H4 (fun _ => False) B hb gb rb sb zs i ys i ds es wx ∧ P4 ts i zs ys ds es L N ∧ Below w.heap.size w wx
theorem three {n : Nat} (h : n < 4) : ∀ k : Nat, k < n → wrap64 ((k : Int) + 1) = (((k + 1 : Nat)) : Int) := fun k hk => by unfold wrap64; omega
set_option maxRecDepth 100000 in
set_option maxHeartbeats 8000000 in
theorem texts_walk (sa : Option Addr) (sc : Nat) (ts : List ByteArray) (pa : Option Addr) (pc : Nat) (ps : List Int) (w : World) (hs : Ts w sa ts) (hp : Ns w pa ps) (hsl : ts.length ≤ 1048576) (hsz : ∀ j, (ts.getD j ⟨#[]⟩).size ≤ 9223372036854775807) :
    Calls Try.prog 4 #[.slice sa ts.length sc, .slice pa ps.length pc] w fun e w' => e = .returned (.bool true) ∧ Below w.heap.size w w' := by
  have HI := hide' (fun w' (b : Below w.heap.size w w') => Ts.below hs b)
  have HP := hide' (fun w' (b : Below w.heap.size w w') => Ns.below hp b)
  obtain ⟨T, hT⟩ : ∃ T, T = ts.length := ⟨_, rfl⟩
  obtain ⟨P, hP⟩ : ∃ P, P = ps.length := ⟨_, rfl⟩
  have HL := hide' (And.intro hsl (And.intro hsz (And.intro hT hP)))
  rw [← hT, ← hP]
  have HA := hide' (Lv.lively_any w)
  clear hs hp hsl hsz hT hP
  go_enter Try.func4, Try.ntmps4
  go_wp2_with fail
  refine HA.out.mono ?_
  rintro e w1 ⟨rfl, b1⟩
  go_wp2_with fail
  refine (HS.new_any 19 #[] w1).mono ?_
  rintro e w2 ⟨rfl, D1, h2, b2⟩
  obtain ⟨hb, hhb⟩ : ∃ x, x = w1.heap.size := ⟨_, rfl⟩
  have b1s := b1.size
  have b2s := b2.size
  have bw2 := b1.trans (b2.mono b1.size)
  rw [← hhb] at h2 b1s b2s ⊢
  clear hhb
  go_wp2_with fail
  refine (HQ.new_any 21 #[] w2).mono ?_
  rintro e w3 ⟨rfl, D2, h3, b3⟩
  have h2' := h2.below b3
  have d1 : ∀ j, D1 j → j < w2.heap.size := fun j hj => (h2.lo hj).2
  obtain ⟨gb, hgb⟩ : ∃ x, x = w2.heap.size := ⟨_, rfl⟩
  have bw3 := bw2.trans (b3.mono bw2.size)
  have b3s := b3.size
  rw [← hgb] at h3 d1 b2s b3s ⊢
  obtain ⟨rb, hrb⟩ : ∃ x, x = w3.heap.size := ⟨_, rfl⟩
  obtain ⟨sb, hsb⟩ : ∃ x, x = w3.heap.size + 1 := ⟨_, rfl⟩
  obtain ⟨w5, hw5⟩ : ∃ w5, w5 = (w3.alloc (.cells #[.slice none 0 0] 33)).alloc (.cells #[.slice none 0 0] 33) := ⟨_, rfl⟩
  have b5 : Below w3.heap.size w3 w5 := by rw [hw5]; exact ((Below.refl _ _).alloc (Nat.le_refl _) _).alloc (by simp) _
  have r5 : w5.heap[rb]? = some (.cells #[.slice none 0 0] 33 (0, 0)) := by rw [hw5, hrb]; exact (Below.heap_alloc _ _ _ (by simp)).trans (heap_alloc_new _ _)
  have s5 : w5.heap[sb]? = some (.cells #[.slice none 0 0] 33 (0, 0)) := by
    have hz : (w3.alloc (.cells #[.slice none 0 0] 33)).heap.size = w3.heap.size + 1 := by simp
    rw [hw5, hsb, ← hz]; exact heap_alloc_new _ _
  have S5 : Hid (Lp ts w.heap.size hb gb rb sb w 0 w5) := hide' ⟨[], [], [], [], [], [], ⟨D1, D2, none, none, 0, 0, ⟨lowS (h2'.below b5) b1s, lowQ (h3.below b5) (by omega), new_dm r5, new_dm s5, fun j p q => by have := d1 j p; have := (h3.lo q).1; omega, fun j p q => by have := d1 j p; have := own_nil q; omega, fun j p q => by have := d1 j p; have := own_nil q; omega, fun j p q => by have := (h3.lo p).2; have := own_nil q; omega, fun j p q => by have := (h3.lo p).2; have := own_nil q; omega, fun j p q => by have := own_nil p; have := own_nil q; omega, ⟨by have := b5.size; omega, by omega, by omega⟩, fun j q => q.elim⟩⟩, P4.nil ts, bw3.trans (b5.mono bw3.size)⟩
  have Hw5 := hide' (And.intro hw5 (And.intro hrb hsb))
  clear h2 h2' h3 b1 b2 b3 HA hgb b1s b2s b3s bw2 bw3 d1 hrb hsb hw5 b5 r5 s5
  go_wp2_with fail
  refine (new_nil _).mono ?_
  rintro e w3 ⟨rfl, rfl⟩
  go_upto_region 8 with fail
  rw [← Hw5.out.1, ← Hw5.out.2.2, ← Hw5.out.2.1]
  clear Hw5
  go_wp2_with fail
  go_loopw [5, 11] (fun o iv wx => ∃ i : Nat, o = .bool true ∧ iv = .int .i64 (i : Int) ∧ i ≤ T ∧ Lp ts w.heap.size hb gb rb sb w i wx) (fun _ iv _ => T - (intOf iv).toNat)
  case atStart => exact ⟨0, rfl, rfl, Nat.zero_le _, S5.out⟩
  case round =>
    obtain ⟨i, rfl, rfl, hi, zs, ys, ds, es, L, N, h4, p4, bw⟩ := hrel
    clear S5
    by_cases hlt : i < T
    · have hlt' : (i : Int) < (T : Int) := by omega
      have Hlt := hide' hlt
      have hiT : i < ts.length := by rw [← HL.out.2.2.1]; exact hlt
      have ew := hide' (ws hlt (by rw [HL.out.2.2.1]; exact HL.out.1))
      have Hms := hide' (msr2 hlt _ rfl)
      rcases HI.out _ bw with q | ⟨xb, xo, hsa, hxb, hxc⟩
      · rw [q] at hiT; simp at hiT
      have ic := hxc i hiT
      obtain ⟨x, hx⟩ : ∃ x, x = ts.getD i ⟨#[]⟩ := ⟨_, rfl⟩
      rw [← hx] at ic
      have HX := hide' (And.intro hiT (And.intro hx.symm (wn (n := x.size) (by rw [hx]; exact HL.out.2.1 i))))
      obtain rfl := hsa
      have lens := p4.lens
      have Ll : L.length ≤ 1048576 := by have := p4.ln; have := HL.out.1; omega
      have CA := hide' (pushA h4 x (by omega) (by have := HL.out.1; omega))
      have HP4 := hide' p4
      have HBw := hide' bw
      have HLs := hide' (And.intro lens (And.intro Ll (show i ≤ 1048576 by have := HL.out.1; omega)))
      have hnx := HX.out.2.2
      clear h4 p4 bw hx hi hlt hiT hxc hxb lens Ll
      go_wp2_with fail
      refine CA.out.mono ?_
      rintro e w6 ⟨rfl, zs', pz, gz, h6, b6⟩
      have B6 := hide' (HBw.out.trans b6.1)
      have CE := hide' (pushE h6 ((x.size : Int), (i : Int)) (by have := HLs.out; omega))
      have Z6 := hide' (And.intro pz gz)
      clear CA HBw h6 b6 pz gz
      go_wp2_with fail
      refine CE.out.mono ?_
      rintro e w7 ⟨rfl, h7, b7⟩
      have B7 := hide' (B6.out.trans b7.1)
      have CC := hide' (pushC h7 (-(x.size : Int), (i : Int)) (by have := HLs.out; omega) (by have := HLs.out; omega))
      clear CE B6 h7 b7
      go_wp2_with fail
      refine CC.out.mono ?_
      rintro e w8 ⟨rfl, ys', py, gy, h8, b8⟩
      have B8 := hide' (B7.out.trans b8.1)
      have CF := hide' (pushF h8 (-(x.size : Int), (i : Int)) (by have := HLs.out; omega))
      have Z8 := hide' (And.intro py gy)
      clear CC B7 h8 b8 py gy
      go_wp2_with fail
      refine CF.out.mono ?_
      rintro e w9 ⟨rfl, h9, b9⟩
      have L9 : Hid (Lp ts w.heap.size hb gb rb sb w (i + 1) w9) := hide' ⟨_, _, _, _, _, _, h9, HP4.out.push HX.out.1 HX.out.2.1 Z6.out.1 Z6.out.2 Z8.out.1 Z8.out.2, B8.out.trans b9.1⟩
      clear CF B8 h9 b9 Z6 Z8 HP4
      by_cases hip : i < P
      · have hip' : (i : Int) < (P : Int) := by omega
        rcases HP.out _ (show Below w.heap.size w w9 from L9.out.elim (fun _ ⟨_, _, _, _, _, _, _, b⟩ => b)) with q | ⟨yb, yo, hpa, hyb, hyc⟩
        · have := HL.out.2.2.2; rw [q] at this; simp at this; omega
        have pcell := hyc i (by rw [← HL.out.2.2.2]; exact hip)
        obtain ⟨pv, hpv⟩ : ∃ v, v = ps.getD i 0 := ⟨_, rfl⟩
        rw [← hpv] at pcell
        obtain rfl := hpa
        clear hyc hyb hpv hip
        go_wp2_with fail
        refine (at4 pv _).mono ?_
        rintro e w10 ⟨nn, rfl, HN, rfl⟩
        clear pcell
        have E3 := hide' (three HN)
        clear HN
        go_wp2_with fail
        go_loopw [14] (fun kv wx => ∃ k : Nat, kv = .int .i64 (k : Int) ∧ k ≤ nn ∧ Lp ts w.heap.size hb gb rb sb w (i + 1) wx) (fun kv _ => nn - (intOf kv).toNat)
        case atStart => exact ⟨0, rfl, Nat.zero_le _, L9.out⟩
        case round =>
          obtain ⟨k, rfl, hk, zs1, ys1, ds1, es1, L1, N1, h1, p1, bw1⟩ := hrel
          clear L9
          by_cases hkl : k < nn
          · have hkl' : (k : Int) < (nn : Int) := by omega
            have Hkl := hide' hkl
            have Hmk := hide' (msr2 hkl _ rfl)
            have ls1 := p1.lens
            have Ll1 : L1.length ≤ 1048577 := by have := p1.ln; have := HLs.out; omega
            have HLt := hide' (And.intro ls1 Ll1)
            by_cases hL : 0 < L1.length
            · obtain ⟨z, y, k1, k2, n, hz, hy, hk1, hk2, hd, hn, htn, he, hout⟩ := p1.pop hL
              have CA := hide' (popA h1 hz (by omega))
              have HO := hide' (And.intro hd (And.intro hn (And.intro htn (And.intro he (And.intro hk1 (And.intro hk2 (And.intro hy hout)))))))
              have HBw := hide' bw1
              clear h1 p1 bw1 hz hy hk1 hk2 hd hn htn he hout ls1 Ll1 hL hk hkl
              obtain ⟨zt, zn⟩ := z
              obtain ⟨⟨y0, y1⟩, yn⟩ := y
              simp only at HO CA
              go_wp2_with fail
              refine CA.out.mono ?_
              rintro e v1 ⟨rfl, zs2, pz, gz, h2, b2⟩
              have BV1 := hide' (HBw.out.trans b2.1)
              have CE := hide' (popE h2 HO.out.2.2.2.2.1 HO.out.1 (by have := HLt.out; omega))
              have Z2 := hide' (And.intro pz gz)
              clear CA HBw h2 b2 pz gz
              go_wp2_with fail
              refine CE.out.mono ?_
              rintro e v2 ⟨rfl, h3, b3⟩
              have BV2 := hide' (BV1.out.trans b3.1)
              obtain ⟨x17, hx17⟩ : ∃ q, q = v2.heap.size := ⟨_, rfl⟩
              obtain ⟨u2, hu2⟩ : ∃ u, u = v2.alloc (.cells #[.int .i64 (zt.size : Int), .int .i64 (n : Int)] 52) := ⟨_, rfl⟩
              have g2 := h3.guest (.cells #[.int .i64 (zt.size : Int), .int .i64 (n : Int)] 52)
              rw [← hx17, ← hu2] at g2
              have BU2 : Hid (Below w.heap.size w u2) := hide' (by rw [hu2]; exact BV2.out.alloc BV2.out.size _)
              have K17 : Hid (u2.heap[x17]? = some (.cells #[.int .i64 (zt.size : Int), .int .i64 (n : Int)] 52 (0, 0))) := hide' (by rw [hu2, hx17]; exact heap_alloc_new v2 _)
              have CC := hide' (popC g2 HO.out.2.2.2.2.2.2.1 (by have := HLt.out; omega))
              have Hu2 := hide' (And.intro hu2 hx17)
              clear CE BV1 h3 b3 g2 BV2 hu2 hx17
              go_upto_region 24 with fail
              rw [← Hu2.out.1, ← Hu2.out.2]
              clear Hu2
              go_wp2_with fail
              refine CC.out.mono ?_
              rintro e v3 ⟨rfl, ys2, py, gy, h4, b4⟩
              have BV3 := hide' (BU2.out.trans b4.1)
              have K17b : Hid (v3.heap[x17]? = some (.cells #[.int .i64 (zt.size : Int), .int .i64 (n : Int)] 52 (0, 0))) := hide' ((b4.2 x17 (.inr rfl)).trans K17.out)
              obtain ⟨x19, hx19⟩ : ∃ q, q = v3.heap.size := ⟨_, rfl⟩
              obtain ⟨u3, hu3⟩ : ∃ u, u = v3.alloc (.cells #[.int .i64 y0, .int .i64 y1] 47) := ⟨_, rfl⟩
              have g3 := h4.guest (.cells #[.int .i64 y0, .int .i64 y1] 47)
              rw [← hx19, ← hu3] at g3
              have BU3 : Hid (Below w.heap.size w u3) := hide' (by rw [hu3]; exact BV3.out.alloc BV3.out.size _)
              have K19 : Hid (u3.heap[x19]? = some (.cells #[.int .i64 y0, .int .i64 y1] 47 (0, 0)) ∧ u3.heap[x17]? = some (.cells #[.int .i64 (zt.size : Int), .int .i64 (n : Int)] 52 (0, 0))) := hide' ⟨by rw [hu3, hx19]; exact heap_alloc_new v3 _, by rw [hu3]; exact (Below.heap_alloc _ _ _ (lt_of_heap K17b.out)).trans K17b.out⟩
              have CF := hide' (popF g3 HO.out.2.2.2.2.2.1 HO.out.2.2.2.1 (by have := HLt.out; omega))
              have Z4 := hide' (And.intro py gy)
              have Hu3 := hide' (And.intro hu3 hx19)
              clear CC BU2 h4 b4 g3 BV3 hu3 hx19 K17 K17b py gy
              go_upto_region 25 with fail
              rw [← Hu3.out.1, ← Hu3.out.2]
              clear Hu3
              go_wp2_with fail
              refine CF.out.mono ?_
              rintro e v4 ⟨rfl, h5, b5⟩
              have BV4 := hide' (BU3.out.trans b5.1)
              obtain ⟨x21, hx21⟩ : ∃ q, q = v4.heap.size := ⟨_, rfl⟩
              obtain ⟨u4, hu4⟩ : ∃ u, u = v4.alloc (.cells #[.int .i64 y0, .int .i64 y1] 52) := ⟨_, rfl⟩
              have a17 := (b5.2 x17 (.inl (.inr rfl))).trans K19.out.2
              have a19 := (b5.2 x19 (.inr rfl)).trans K19.out.1
              have k17 : u4.heap[x17]? = some (.cells #[.int .i64 (zt.size : Int), .int .i64 (n : Int)] 52 (0, 0)) := by rw [hu4]; exact (Below.heap_alloc _ _ _ (lt_of_heap a17)).trans a17
              have k19 : u4.heap[x19]? = some (.cells #[.int .i64 y0, .int .i64 y1] 47 (0, 0)) := by rw [hu4]; exact (Below.heap_alloc _ _ _ (lt_of_heap a19)).trans a19
              have k21 : u4.heap[x21]? = some (.cells #[.int .i64 y0, .int .i64 y1] 52 (0, 0)) := by rw [hu4, hx21]; exact heap_alloc_new v4 _
              have bu4 : Below w.heap.size w u4 := by rw [hu4]; exact BV4.out.alloc BV4.out.size _
              have L4 : Hid (Lp ts w.heap.size hb gb rb sb w (i + 1) u4) := hide' (by
                obtain ⟨L', N', q⟩ := HO.out.2.2.2.2.2.2.2 zs2 ys2 Z2.out.1 Z2.out.2 Z4.out.1 Z4.out.2
                exact ⟨_, _, _, _, _, _, (h5.weak (fun j q => q.elim)).below (by rw [hu4]; exact (Below.refl _ _).alloc (Nat.le_refl _) _), q, bu4⟩)
              have m171 : u4.cell? ⟨x17, 1, none⟩ = some (.int .i64 (n : Int)) := by rw [Lib.cell_of_heap k17]; rfl
              have m190 : u4.cell? ⟨x19, 0, none⟩ = some (.int .i64 y0) := by rw [Lib.cell_of_heap k19]; rfl
              have m191 : u4.cell? ⟨x19, 1, none⟩ = some (.int .i64 y1) := by rw [Lib.cell_of_heap k19]; rfl
              have m210 : u4.cell? ⟨x21, 0, none⟩ = some (.int .i64 y0) := by rw [Lib.cell_of_heap k21]; rfl
              have m211 : u4.cell? ⟨x21, 1, none⟩ = some (.int .i64 y1) := by rw [Lib.cell_of_heap k21]; rfl
              have mts : u4.cell? ⟨xb, xo + n, none⟩ = some (.string zt) := by
                rcases HI.out _ bu4 with q | ⟨xb', xo', hsa', _, hc'⟩
                · have := HO.out.2.1; rw [q] at this; simp at this
                · cases hsa'
                  rw [hc' n HO.out.2.1, HO.out.2.2.1]
              have hnT : (n : Int) < (T : Int) := by rw [HL.out.2.2.1]; have := HO.out.2.1; omega
              have hnT' : n < T := by rw [HL.out.2.2.1]; exact HO.out.2.1
              have q47 := eq47 y0 y1 u4
              have Hu4 := hide' (And.intro hu4 hx21)
              clear CF BU3 h5 b5 BV4 hu4 hx21 K19 Z2 Z4 HO k17 k19 k21 a17 a19 bu4
              go_upto_region 26 with fail
              rw [← Hu4.out.1, ← Hu4.out.2]
              clear Hu4
              go_wp2
              exact ⟨⟨k + 1, by first | rfl | rw [E3.out k Hkl.out], Hkl.out, L4.out⟩, by first | exact Hmk.out | (rw [E3.out k Hkl.out]; exact Hmk.out)⟩
            · have e0 : L1.length = 0 := by omega
              obtain rfl : zs1 = [] := List.length_eq_zero_iff.1 (by omega)
              obtain rfl : ys1 = [] := List.length_eq_zero_iff.1 (by omega)
              obtain rfl : ds1 = [] := List.length_eq_zero_iff.1 (by omega)
              obtain rfl : es1 = [] := List.length_eq_zero_iff.1 (by omega)
              have HN1 := hide' (And.intro h1 (And.intro p1 bw1))
              have CA := hide' (none4 h1).1
              clear h1 p1 bw1 ls1 Ll1 HLt hL hk hkl e0
              go_wp2_with fail
              refine CA.out.mono ?_
              rintro e v1 ⟨rfl, b2⟩
              have BV1 := hide' b2
              have CE := hide' (none4 (HN1.out.1.below b2)).2.2.1
              clear CA b2
              go_wp2_with fail
              refine CE.out.mono ?_
              rintro e v2 ⟨rfl, b3⟩
              have BV2 := hide' (BV1.out.trans (b3.mono BV1.out.size))
              obtain ⟨x17, hx17⟩ : ∃ q, q = v2.heap.size := ⟨_, rfl⟩
              obtain ⟨u2, hu2⟩ : ∃ u, u = v2.alloc (.cells #[.int .i64 0, .int .i64 0] 52) := ⟨_, rfl⟩
              have BU2 : Hid (Below wr.heap.size wr u2) := hide' (by rw [hu2]; exact BV2.out.alloc BV2.out.size _)
              have CC := hide' (none4 (HN1.out.1.below BU2.out)).2.1
              have Hu2 := hide' (And.intro hu2 hx17)
              clear CE BV1 b3 BV2 hu2 hx17
              go_upto_region 24 with fail
              rw [← Hu2.out.1, ← Hu2.out.2]
              clear Hu2
              go_wp2_with fail
              refine CC.out.mono ?_
              rintro e v3 ⟨rfl, b4⟩
              have BV3 := hide' (BU2.out.trans (b4.mono BU2.out.size))
              obtain ⟨x19, hx19⟩ : ∃ q, q = v3.heap.size := ⟨_, rfl⟩
              obtain ⟨u3, hu3⟩ : ∃ u, u = v3.alloc (.cells #[.int .i64 0, .int .i64 0] 47) := ⟨_, rfl⟩
              have BU3 : Hid (Below wr.heap.size wr u3) := hide' (by rw [hu3]; exact BV3.out.alloc BV3.out.size _)
              have K19 : Hid (u3.heap[x19]? = some (.cells #[.int .i64 0, .int .i64 0] 47 (0, 0))) := hide' (by rw [hu3, hx19]; exact heap_alloc_new v3 _)
              have CF := hide' (none4 (HN1.out.1.below BU3.out)).2.2.2
              have Hu3 := hide' (And.intro hu3 hx19)
              clear CC BU2 b4 BV3 hu3 hx19
              go_upto_region 25 with fail
              rw [← Hu3.out.1, ← Hu3.out.2]
              clear Hu3
              go_wp2_with fail
              refine CF.out.mono ?_
              rintro e v4 ⟨rfl, b5⟩
              have BV4 := hide' (BU3.out.trans (b5.mono BU3.out.size))
              obtain ⟨x21, hx21⟩ : ∃ q, q = v4.heap.size := ⟨_, rfl⟩
              obtain ⟨u4, hu4⟩ : ∃ u, u = v4.alloc (.cells #[.int .i64 0, .int .i64 0] 52) := ⟨_, rfl⟩
              have a19 := (b5.block x19 (lt_of_heap K19.out)).trans K19.out
              have k19 : u4.heap[x19]? = some (.cells #[.int .i64 0, .int .i64 0] 47 (0, 0)) := by rw [hu4]; exact (Below.heap_alloc _ _ _ (lt_of_heap a19)).trans a19
              have k21 : u4.heap[x21]? = some (.cells #[.int .i64 0, .int .i64 0] 52 (0, 0)) := by rw [hu4, hx21]; exact heap_alloc_new v4 _
              have bu4 : Below wr.heap.size wr u4 := by rw [hu4]; exact BV4.out.alloc BV4.out.size _
              have L4 : Hid (Lp ts w.heap.size hb gb rb sb w (i + 1) u4) := hide' ⟨_, _, _, _, _, _, HN1.out.1.below bu4, HN1.out.2.1, HN1.out.2.2.trans (bu4.mono HN1.out.2.2.size)⟩
              have m190 : u4.cell? ⟨x19, 0, none⟩ = some (.int .i64 0) := by rw [Lib.cell_of_heap k19]; rfl
              have m191 : u4.cell? ⟨x19, 1, none⟩ = some (.int .i64 0) := by rw [Lib.cell_of_heap k19]; rfl
              have m210 : u4.cell? ⟨x21, 0, none⟩ = some (.int .i64 0) := by rw [Lib.cell_of_heap k21]; rfl
              have m211 : u4.cell? ⟨x21, 1, none⟩ = some (.int .i64 0) := by rw [Lib.cell_of_heap k21]; rfl
              have q47 := eq47 0 0 u4
              have Hu4 := hide' (And.intro hu4 hx21)
              clear CF BU3 b5 BV4 hu4 hx21 K19 HN1 k19 k21 a19 bu4
              go_upto_region 26 with fail
              rw [← Hu4.out.1, ← Hu4.out.2]
              clear Hu4
              go_wp2
              exact ⟨⟨k + 1, by first | rfl | rw [E3.out k Hkl.out], Hkl.out, L4.out⟩, by first | exact Hmk.out | (rw [E3.out k Hkl.out]; exact Hmk.out)⟩
          · have hkl' : ¬ (k : Int) < (nn : Int) := by omega
            have LE : Hid (Lp ts w.heap.size hb gb rb sb w (i + 1) wr) := hide' ⟨_, _, _, _, _, _, h1, p1, bw1⟩
            clear h1 p1 bw1 hk hkl E3
            obtain ⟨zs3, ys3, ds3, es3, L3, N3, h3, p3, bw3⟩ := LE.out
            obtain ⟨ls1, ls2, ls3, ls4⟩ := p3.lens
            obtain ⟨DA, DC, ao3, bo3, ca3, cb3, kk⟩ := h3
            have cE := kk.E.c
            have cF := kk.F.c
            obtain ⟨M3, hM3⟩ : ∃ m, m = L3.length := ⟨_, rfl⟩
            rw [ls3, ← hM3] at cE
            rw [ls4, ← hM3] at cF
            have CS : Hid (∀ W, Below wr.heap.size wr W → Calls Try.prog 28 #[.pointer (some ⟨hb, 0, none⟩)] W fun e w' => e = .returned (.int .i64 (M3 : Nat)) ∧ w' = W) := hide' (fun W b => by
              have := HS.len_any (kk.A.below b)
              rw [ls1, ← hM3] at this
              exact this)
            have CQ : Hid (∀ W, Below wr.heap.size wr W → Calls Try.prog 29 #[.pointer (some ⟨gb, 0, none⟩)] W fun e w' => e = .returned (.int .i64 (M3 : Nat)) ∧ w' = W) := hide' (fun W b => by
              have := HQ.len_any (kk.C.below b)
              rw [ls2, ← hM3] at this
              exact this)
            clear kk p3 bw3 hM3 ls1 ls2 ls3 ls4
            go_wp2_with fail
            go_quiet ((first | (go_at_call 28; exact Calls.quiet_of_same (CS.out _ (by first | exact (Below.refl _ _) | exact (Below.refl _ _).drew | exact bel_drewN (Below.refl _ _) _))) | (go_at_call 29; exact Calls.quiet_of_same (CQ.out _ (by first | exact (Below.refl _ _) | exact (Below.refl _ _).drew | exact bel_drewN (Below.refl _ _) _)))))
            go_wp2
            exact ⟨⟨i + 1, rfl, by first | rfl | rw [ew.out], Hlt.out, by
              obtain ⟨a1, a2, a3, a4, a5, a6, a7, a8, a9⟩ := LE.out
              exact ⟨a1, a2, a3, a4, a5, a6, a7.below (bel_drewN (Below.refl _ _) _), a8, bel_drewN a9 _⟩⟩, by first | exact Hms.out | (rw [ew.out]; exact Hms.out)⟩
      · have hip' : ¬ (i : Int) < (P : Int) := by omega
        clear hip
        go_wp2_with fail
        go_loopw [14] (fun kv wx => kv = .int .i64 0 ∧ Lp ts w.heap.size hb gb rb sb w (i + 1) wx) (fun kv _ => 0)
        case atStart => exact ⟨rfl, L9.out⟩
        case round =>
          obtain ⟨rfl, hLE⟩ := hrel
          have LE := hide' hLE
          clear hLE L9
          obtain ⟨zs3, ys3, ds3, es3, L3, N3, h3, p3, bw3⟩ := LE.out
          obtain ⟨ls1, ls2, ls3, ls4⟩ := p3.lens
          obtain ⟨DA, DC, ao3, bo3, ca3, cb3, kk⟩ := h3
          have cE := kk.E.c
          have cF := kk.F.c
          obtain ⟨M3, hM3⟩ : ∃ m, m = L3.length := ⟨_, rfl⟩
          rw [ls3, ← hM3] at cE
          rw [ls4, ← hM3] at cF
          have CS : Hid (∀ W, Below wr.heap.size wr W → Calls Try.prog 28 #[.pointer (some ⟨hb, 0, none⟩)] W fun e w' => e = .returned (.int .i64 (M3 : Nat)) ∧ w' = W) := hide' (fun W b => by
            have := HS.len_any (kk.A.below b)
            rw [ls1, ← hM3] at this
            exact this)
          have CQ : Hid (∀ W, Below wr.heap.size wr W → Calls Try.prog 29 #[.pointer (some ⟨gb, 0, none⟩)] W fun e w' => e = .returned (.int .i64 (M3 : Nat)) ∧ w' = W) := hide' (fun W b => by
            have := HQ.len_any (kk.C.below b)
            rw [ls2, ← hM3] at this
            exact this)
          clear kk p3 bw3 hM3 ls1 ls2 ls3 ls4
          go_wp2_with fail
          go_quiet ((first | (go_at_call 28; exact Calls.quiet_of_same (CS.out _ (by first | exact (Below.refl _ _) | exact (Below.refl _ _).drew | exact bel_drewN (Below.refl _ _) _))) | (go_at_call 29; exact Calls.quiet_of_same (CQ.out _ (by first | exact (Below.refl _ _) | exact (Below.refl _ _).drew | exact bel_drewN (Below.refl _ _) _)))))
          go_wp2
          exact ⟨⟨i + 1, rfl, by first | rfl | rw [ew.out], Hlt.out, by
            obtain ⟨a1, a2, a3, a4, a5, a6, a7, a8, a9⟩ := LE.out
            exact ⟨a1, a2, a3, a4, a5, a6, a7.below (bel_drewN (Below.refl _ _) _), a8, bel_drewN a9 _⟩⟩, by first | exact Hms.out | (rw [ew.out]; exact Hms.out)⟩
    · have hlt' : ¬ (i : Int) < (T : Int) := by omega
      have HBw := hide' bw
      clear h4 p4 bw hi hlt
      go_wp2
      go_ret
      exact ⟨rfl, HBw.out⟩
end Tx
end Go.Proofs.Ytddkdakelcohgaa
set_option linter.unusedVariables false
set_option linter.unusedSimpArgs false
namespace Go.Proofs.Ytddkdakelcohgaa
namespace arenaHeapTexts
open Go.ChangeShapes Go.WideShapes Go.ChangeAt Go.RowKit Go.Deep
/-- a slice of numbers that came in -/
theorem ints_in {H : Type} {enc : TypeId × Value → H} {W : World} {a : Option Addr} {len cap : Nat} {d : DataW H} {ps : List MemPlace} {base : Nat} {spare : Nat → Bool} {held : Bool}
    (h : DataW.Trod enc Try.prog W base spare held 22 (.slice a len cap) d ps) : ∃ ns, ns.length = len ∧ Tx.Ns W a ns := by
  obtain ⟨fuel, hf⟩ := h
  rcases open_ints Try.underlying22 Try.underlying3 (by kernel_rfl) hf with ⟨hcs, _⟩ | ⟨x, l, c, zs, hcs, _, hl, hm, hz, _, hcell, hwz⟩
  · simp [Value.cells] at hcs
    obtain ⟨rfl, rfl, rfl⟩ := hcs
    exact ⟨[], rfl, .inl rfl⟩
  · simp [Value.cells] at hcs
    obtain ⟨rfl, rfl, rfl⟩ := hcs
    have hlz : len ≤ zs.length := by rw [hz]; split <;> omega
    refine ⟨zs.take len, by rw [List.length_take]; omega, ?_⟩
    by_cases h0 : len = 0
    · exact .inl (by rw [h0]; rfl)
    · have hc0 := hcell 0 (by omega)
      obtain ⟨b, off, spot⟩ := x
      have hspot : spot = none := by simpa [Addr.add] using World.cell?_spot hc0
      subst hspot
      have hbl : b < W.heap.size := World.block_lt_of_cell? W _ (by simpa [Addr.add] using hc0)
      refine .inr ⟨b, off, rfl, hbl, fun j hj => ?_⟩
      rw [List.length_take] at hj
      have := hcell j (by omega)
      rw [show (⟨b, off, none⟩ : Addr).add j = ⟨b, off + j, none⟩ from by simp [Addr.add]] at this
      rw [this]
      simp [List.getD, List.getElem?_take_of_lt (show j < len by omega)]
theorem bulk_ge {H : Type} (f : Nat → DataW H) (hf : ∀ i, 1 ≤ Rows.uptoBulk (f i)) : ∀ l : List Nat, l.length ≤ Rows.uptoBulkAll (l.map f) := by
  intro l
  induction l with
  | nil => exact Nat.zero_le _
  | cons a r ih => have := hf a; simp only [List.map_cons, Rows.uptoBulkAll, List.length_cons]; omega
/-- a slice of texts that came in -/
theorem texts_in {H : Type} {enc : TypeId × Value → H} {W : World} {a : Option Addr} {len cap : Nat} {d : DataW H} {ps : List MemPlace} {base : Nat} {spare : Nat → Bool} {held : Bool}
    (h : DataW.Trod enc Try.prog W base spare held 41 (.slice a len cap) d ps) (hb : Rows.uptoBulk d ≤ 1048576) : ∃ ts, ts.length = len ∧ Tx.Ts W a ts ∧ len ≤ 1048576 ∧ ∀ j, (ts.getD j ⟨#[]⟩).size ≤ 9223372036854775807 := by
  obtain ⟨fuel, hf⟩ := h
  rcases open_strs Try.underlying41 Try.underlying9 (by kernel_rfl) hf with ⟨hcs, _⟩ | ⟨x, l, c, m, Sx, hcs, _, hl, hm, hmm, hx, hcell⟩
  · simp [Value.cells] at hcs
    obtain ⟨rfl, rfl, rfl⟩ := hcs
    exact ⟨[], rfl, .inl rfl, by omega, fun j => by simp; decide⟩
  · simp [Value.cells] at hcs
    obtain ⟨rfl, rfl, rfl⟩ := hcs
    simp only [Prod.mk.injEq] at hx
    have hlm : len ≤ m := by rw [hmm]; split <;> omega
    have hlb : len ≤ 1048576 := by
      rw [hx.1] at hb
      have := bulk_ge (H := H) (fun i => .lit (.string (Sx i).data.toList)) (fun i => by simp [Rows.uptoBulk]) (List.range len)
      simp only [Rows.uptoBulk, List.length_range] at hb this
      omega
    have hgd : ∀ j, j < len → ((List.range len).map Sx).getD j ⟨#[]⟩ = Sx j := fun j hj => by simp [List.getD, hj]
    refine ⟨(List.range len).map Sx, by simp, ?_, hlb, fun j => ?_⟩
    · by_cases h0 : len = 0
      · exact .inl (by rw [h0]; rfl)
      · have hc0 := (hcell 0 (by omega)).1
        obtain ⟨b, off, spot⟩ := x
        have hspot : spot = none := by simpa [Addr.add] using World.cell?_spot hc0
        subst hspot
        have hbl : b < W.heap.size := World.block_lt_of_cell? W _ (by simpa [Addr.add] using hc0)
        refine .inr ⟨b, off, rfl, hbl, fun j hj => ?_⟩
        have hj' : j < len := by simpa using hj
        have := (hcell j (by omega)).1
        rw [show (⟨b, off, none⟩ : Addr).add j = ⟨b, off + j, none⟩ from by simp [Addr.add]] at this
        rw [this, hgd j hj']
    · by_cases hj : j < len
      · rw [hgd j hj]
        have := (hcell j (by omega)).2
        unfold maxLen at this
        omega
      · rw [List.getD, List.getElem?_eq_none (by simpa using hj)]
        simp
        decide
set_option maxRecDepth 100000 in
theorem contract (H : Type) (enc : TypeId × Value → H) (W : World) (base : Nat) (args : Array Value) (ds gs : List (DataW H)) (before : List MemPlace)
    (hval : ∀ (j : Nat) t v, Try.f4.params[j]? = some t → args[j]? = some v → Value.okWide Try.prog W .any base t v)
    (hW : DataW.Whole enc Try.prog Try.f4.params.toList Rows.arenaHeapTextsSpec.vars false W args.toList ds gs before) (hk : Rows.uptoSmall H (ds ++ gs) = true) :
    Calls Try.prog 4 args W fun e W' => ∃ v, e = .returned v ∧ Rows.arenaHeapTextsSpec.post enc Try.prog Try.f4 false true false false W args v W' := by
  have hW' := hW
  obtain ⟨p, q, hA0, hV, rfl, hfz, hnd⟩ := hW
  have hA : DataW.TrodAll enc Try.prog W 0 (fun _ => true) true Try.f4.params.toList args.toList ds p := hA0
  rw [Try.params4] at hA hval
  obtain ⟨v0, vs0, d0, ds0, p0, q0, hargs, rfl, rfl, h0, r0⟩ := trodAll_cons hA
  obtain ⟨v1, vs1, d1, ds1, p1, q1, rfl, rfl, rfl, h1, r1⟩ := trodAll_cons r0
  obtain ⟨rfl, rfl, rfl⟩ := trodAll_nil r1
  obtain rfl : args = #[v0, v1] := by cases args; simp_all
  obtain ⟨rfl, rfl⟩ := trodVars_none hV
  simp only [List.append_nil] at hk
  have hb : Rows.uptoBulk d0 + Rows.uptoBulk d1 ≤ 1048576 := by
    have hb : Rows.uptoBulkAll [d0, d1] ≤ 1048576 := of_decide_eq_true hk
    simp only [Rows.uptoBulkAll] at hb
    omega
  have k0 := h0
  have lt0 : ∀ x ∈ p0, x.block < W.heap.size := by obtain ⟨m, hm⟩ := k0; exact DataW.trod_lt m _ _ _ hm
  have k1 := h1
  have lt1 : ∀ x ∈ p1, x.block < W.heap.size := by obtain ⟨m, hm⟩ := k1; exact DataW.trod_lt m _ _ _ hm
  obtain ⟨a0, len0, cap0, rfl⟩ := okWide_slice Try.underlying41 (hval 0 41 v0 rfl rfl)
  obtain ⟨a1, len1, cap1, rfl⟩ := okWide_slice Try.underlying22 (hval 1 22 v1 rfl rfl)
  obtain ⟨ts, rfl, hT, hl, hsz⟩ := texts_in h0 (by omega)
  obtain ⟨ns, rfl, hI⟩ := ints_in h1
  clear hA0
  refine (Tx.texts_walk a0 cap0 ts a1 cap1 ns W hT hI hl hsz).mono fun e W' ⟨he, bel⟩ => ?_
  subst he
  exact ⟨_, rfl, _, _, _, [], _, [], hW', trodAll_mk1 (shut_bool Try.underlying4 _), (trodAll_cons_mk (Below.trod laidOut (by kernel_rfl) (of_decide_eq_true (by kernel_rfl)) k0 bel lt0) (trodAll_cons_mk (Below.trod laidOut (by kernel_rfl) (of_decide_eq_true (by kernel_rfl)) k1 bel lt1) trodAll_mk0)), rfl, bel.frame _, fun h => by cases h⟩

set_option maxRecDepth 100000 in
theorem lifted (os : Os) (started : os.Started) (H : Type) (enc : TypeId × Value → H) (F : Stop.Interp) :
    ReturnsInHanded {} Try.checked os 4 .any ((Rows.OpenSpec.upto Rows.arenaHeapTextsSpec).pre6 enc Try.prog Try.f4 Rows.arenaHeapTextsUptoRow.domain false) (((Rows.OpenSpec.upto Rows.arenaHeapTextsSpec).at F).post enc Try.prog Try.f4 false true false false) := by
  refine returnsInHanded_of_cond (C := Try.checked) (s := Rows.OpenSpec.upto Rows.arenaHeapTextsSpec) (k := Rows.uptoSmall) rfl own started (by kernel_rfl) Try.func4
    (OpenSpec.witness (enc := enc) (C := Try.checked) (s := Rows.OpenSpec.upto Rows.arenaHeapTextsSpec) (k := Rows.uptoSmall) rfl false ⟨#[], #[.slice none 0 0, .slice none 0 0], []⟩ 8 (by kernel_rfl) (by kernel_rfl) (by kernel_rfl)
      (x := ([.nil, .nil], [], [])) (by kernel_rfl) rfl (by kernel_rfl)) ?_
  intro W base args ds gs before hval hW _ hk _
  exact contract H enc W base args ds gs before hval hW hk

theorem over : Rows.ArenaHeapTextsUptoSaid :=
  OpenClaim.holds_of_cond 4 Try.f4 rfl rfl rfl rfl rfl rfl rfl ⟨rfl, rfl, rfl, rfl, rfl⟩ rfl rfl rfl rfl rfl (by kernel_rfl) Try.func4 (by kernel_rfl)
    (of_decide_eq_true (by kernel_rfl)) (by unfold Func.isWrapper; first | (rw [if_pos (by decide +kernel)]; kernel_rfl) | (rw [if_neg (by decide +kernel)]; exact ⟨rfl, rfl⟩))
    (fun os started H enc _ F => lifted os started H enc F)
end arenaHeapTexts

theorem arenaHeapTexts_holds : Rows.ArenaHeapTextsUptoSaid := arenaHeapTexts.over
#print axioms arenaHeapTexts_holds
end Go.Proofs.Ytddkdakelcohgaa
