import Derived.Test.YtddkdakelcohgaaHpM
import Derived.Test.YtddkdakelcohgaaThP
import Derived.BigQuiet
import Derived.BigRegion
import Derived.LoopTactic
import Derived.Deep.QuietTactic
import Derived.Deep.RegionHeld3
set_option linter.unusedVariables false
set_option linter.unusedSimpArgs false
namespace Go.Proofs.Ytddkdakelcohgaa
open Go.RowKit Go.Sort
namespace Dh
open Th Hp
def tc (z : Int × Int) : List Value := [.int .i64 z.1, .int .i64 z.2]
theorem tc_len (z : Int × Int) : (tc z).length = 2 := rfl
theorem info52 : (Try.prog.info? 52).map (fun i => (i.zero, i.size, i.bytes)) = some (some (.agg #[.int .i64 0, .int .i64 0]), 2, 16) := by kernel_rfl
/-- the document's heap: a list, at an address -/
structure Dm (B b off : Nat) (ao : Option Addr) (cap : Nat) (ds : List (Int × Int)) (w : World) : Prop where
  c : w.cell? ⟨b, off, none⟩ = some (.slice ao ds.length cap)
  f : w.frozen? ⟨b, off, none⟩ = false
  row : w.ownsRow B 52 2 (.slice ao ds.length cap) ds.length (ds.flatMap tc)
  lt : b < w.heap.size
  ne : ∀ j, M.At ao j → j ≠ b
variable {B b off : Nat} {ao : Option Addr} {cap : Nat} {ds : List (Int × Int)} {w w' : World}
theorem Dm.at (H : Dm B b off ao cap ds w) {j : Nat} (hj : M.At ao j) : B ≤ j ∧ j < w.heap.size := by
  obtain ⟨a, rfl, rfl⟩ := hj
  rcases H.row.2 with ⟨hv, _⟩ | ⟨g', cap', cur, hv, hb, hg', _⟩
  · cases hv
  · simp only [Value.slice.injEq, Option.some.injEq] at hv
    obtain ⟨rfl, _, _⟩ := hv
    exact ⟨hb, lt_of_heap hg'⟩
def Own (b : Nat) (ao : Option Addr) (j : Nat) : Prop := j = b ∨ M.At ao j
theorem Dm.kept {S : Nat → Prop} (H : Dm B b off ao cap ds w) (t : Turn S w w') (hn : ∀ j, Own b ao j → ¬ S j) : Dm B b off ao cap ds w' :=
  ⟨(t.cell (p := ⟨b, off, none⟩) H.lt (hn b (.inl rfl))).trans H.c, (World.frozen?_of_block (t.block b H.lt (hn b (.inl rfl)))).trans H.f, t.row H.row (fun j hj => hn j (.inr (M.own_at hj))), Nat.lt_of_lt_of_le H.lt t.size, H.ne⟩
theorem Dm.below (H : Dm B b off ao cap ds w) (t : Below w.heap.size w w') : Dm B b off ao cap ds w' := H.kept (turn_below (S := fun _ => False) t) (fun _ _ q => q)
theorem Dm.some (H : Dm B b off ao cap ds w) (hl : 0 < ds.length) : ∃ g, ao = some ⟨g, 0, none⟩ ∧ g < w.heap.size ∧ g ≠ b := by
  obtain ⟨g, cap', hv, h2, h3⟩ := H.row.form hl
  simp only [Value.slice.injEq] at hv
  obtain ⟨rfl, _, rfl⟩ := hv
  exact ⟨g, rfl, (H.at ⟨_, rfl, rfl⟩).2, H.ne g ⟨_, rfl, rfl⟩⟩
theorem Dm.item {g : Nat} (H : Dm B b off (Option.some ⟨g, 0, none⟩) cap ds w) {i : Nat} {z : Int × Int} (hz : ds[i]? = Option.some z) : w.cell? ⟨g, i * 2, none⟩ = Option.some (.int .i64 z.1) ∧ w.cell? ⟨g, i * 2 + 1, none⟩ = Option.some (.int .i64 z.2) := by
  have hi : i < ds.length := (List.getElem?_eq_some_iff.1 hz).1
  have e : ∀ r, r < 2 → w.cell? ⟨g, i * 2 + r, none⟩ = (tc z)[r]? := fun r hr => by
    rw [H.row.cellAt (i * 2 + r) (by omega)]
    exact flat_at tc_len ds i z r hz hr
  exact ⟨e 0 (by omega), e 1 (by omega)⟩
/-- the first of the least -/
theorem Fl.uniq {j k : Nat} (h : Fl ds j) (h' : Fl ds k) : j = k := by
  obtain ⟨x, hx, h1, h2⟩ := h
  obtain ⟨y, hy, h3, h4⟩ := h'
  rcases Nat.lt_trichotomy j k with g | g | g
  · have := h4 j x g hx; have := h1 k y hy; omega
  · exact g
  · have := h2 k y g hy; have := h3 j x hx; omega
theorem Fl.step {i k : Nat} {x y : Int × Int} (h : Fl (ds.take i) k) (hk : ds[k]? = some x) (hi : ds[i]? = some y) : (y.1 < x.1 → Fl (ds.take (i + 1)) i) ∧ (¬ y.1 < x.1 → Fl (ds.take (i + 1)) k) := by
  obtain ⟨x', hx', h1, h2⟩ := h
  have hil := (List.getElem?_eq_some_iff.1 hi).1
  have hki : k < i := by have := (List.getElem?_eq_some_iff.1 hx').1; simp at this; omega
  have ex : x' = x := by rw [List.getElem?_take_of_lt hki, hk] at hx'; exact (Option.some.inj hx').symm
  subst ex
  have old : ∀ (j : Nat) (z : Int × Int), (ds.take (i + 1))[j]? = some z → (j < i ∧ (ds.take i)[j]? = some z) ∨ (j = i ∧ z = y) := fun j z hz => by
    have hj := (List.getElem?_eq_some_iff.1 hz).1
    simp at hj
    rw [List.getElem?_take_of_lt (by omega)] at hz
    by_cases e : j = i
    · subst e; rw [hi] at hz; exact .inr ⟨rfl, (Option.some.inj hz).symm⟩
    · exact .inl ⟨by omega, by rw [List.getElem?_take_of_lt (by omega)]; exact hz⟩
  refine ⟨fun hlt => ⟨y, by rw [List.getElem?_take_of_lt (by omega)]; exact hi, fun j z hz => ?_, fun j z hj hz => ?_⟩, fun hge => ⟨x', by rw [List.getElem?_take_of_lt (by omega)]; exact hk, fun j z hz => ?_, fun j z hj hz => ?_⟩⟩
  · rcases old j z hz with ⟨_, q⟩ | ⟨_, rfl⟩
    · have := h1 j z q; omega
    · omega
  · rcases old j z hz with ⟨_, q⟩ | ⟨_, rfl⟩
    · have := h1 j z q; omega
    · omega
  · rcases old j z hz with ⟨_, q⟩ | ⟨_, rfl⟩
    · exact h1 j z q
    · omega
  · rcases old j z hz with ⟨_, q⟩ | ⟨e, rfl⟩
    · exact h2 j z hj q
    · omega
theorem Fl.one {x : Int × Int} (h : ds[0]? = some x) : Fl (ds.take 1) 0 := by
  refine ⟨x, by rw [List.getElem?_take_of_lt (by omega)]; exact h, fun j z hz => ?_, fun j z hj => by omega⟩
  have hj := (List.getElem?_eq_some_iff.1 hz).1
  simp at hj
  obtain rfl : j = 0 := by omega
  rw [List.getElem?_take_of_lt (by omega), h] at hz
  cases hz
  exact Int.le_refl _
theorem Fl.lt {k : Nat} (h : Fl ds k) : k < ds.length := by
  obtain ⟨x, hx, _⟩ := h
  exact (List.getElem?_eq_some_iff.1 hx).1
set_option maxRecDepth 100000 in
set_option maxHeartbeats 4000000 in
theorem least_any (H : Dm B b off ao cap ds w) {k : Nat} (hk : Fl ds k) (hl : ds.length ≤ 1099511627776) : Calls Try.prog 68 #[.pointer (some ⟨b, off, none⟩)] w fun e w' => e = .returned (.int .i64 (k : Nat)) ∧ ∃ n, w' = w.drewN n := by
  obtain ⟨g, rfl, hg, hgb⟩ := H.some (by have := Dh.Fl.lt hk; omega)
  have HH := hide' H
  have c0 := H.c
  obtain ⟨T, hT⟩ : ∃ T, T = ds.length := ⟨_, rfl⟩
  have HK := hide' (And.intro hk (And.intro hl hT))
  rw [← hT] at c0
  have hTl : (T : Int) ≤ 1099511627776 := by rw [hT]; omega
  clear H hk hl hT
  go_enter Try.func68, Try.ntmps68
  go_wp2_with fail
  go_loopw [3, 4] (fun kv i wx => ∃ (j m : Nat), kv = .int .i64 (m : Int) ∧ i = .int .i64 (j : Int) ∧ j ≤ T ∧ m < T ∧ ((j = 0 ∧ m = 0) ∨ Fl (ds.take j) m) ∧ ∃ n, wx = w.drewN n) (fun _ i _ => T - (intOf i).toNat)
  case atStart => exact ⟨0, 0, rfl, rfl, Nat.zero_le _, by rw [HK.out.2.2]; have := Dh.Fl.lt HK.out.1; omega, .inl ⟨rfl, rfl⟩, 0, rfl⟩
  case round =>
    obtain ⟨j, m, rfl, rfl, hj, hm, hF, n, hW⟩ := hrel
    have HW : Hid (∃ n, wr = w.drewN n) := hide' ⟨n, hW⟩
    have DW : Hid (Dm B b off (some ⟨g, 0, none⟩) cap ds wr) := hide' (by rw [hW]; exact ⟨HH.out.c, HH.out.f, HH.out.row, HH.out.lt, HH.out.ne⟩)
    have c1 : wr.cell? ⟨b, off, none⟩ = some (.slice (some ⟨g, 0, none⟩) T cap) := by rw [hW]; exact c0
    clear hW
    have HF := hide' (And.intro hj (And.intro hm hF))
    clear hF
    by_cases hlt : j < T
    · have hlt' : (j : Int) < (T : Int) := by omega
      have hm' : (m : Int) < (T : Int) := by omega
      obtain ⟨x, hx⟩ : ∃ x, ds[m]? = some x := ⟨_, List.getElem?_eq_getElem (by rw [← HK.out.2.2]; exact hm)⟩
      obtain ⟨y, hy⟩ : ∃ y, ds[j]? = some y := ⟨_, List.getElem?_eq_getElem (by rw [← HK.out.2.2]; exact hlt)⟩
      have cx : wr.cell? ⟨g, m * 2, none⟩ = some (.int .i64 x.1) := (DW.out.item hx).1
      have cy : wr.cell? ⟨g, j * 2, none⟩ = some (.int .i64 y.1) := (DW.out.item hy).1
      have Hend : Hid (T - (j + 1) < T - j) := hide' (by omega)
      have Hlt := hide' hlt
      have HS : Hid ((y.1 < x.1 → Fl (ds.take (j + 1)) j) ∧ (¬ y.1 < x.1 → Fl (ds.take (j + 1)) m)) := hide' (by
        rcases HF.out.2.2 with ⟨rfl, rfl⟩ | q
        · rw [hx] at hy
          cases hy
          exact ⟨fun q => absurd q (by omega), fun _ => Fl.one hx⟩
        · exact Fl.step q hx hy)
      generalize x.1 = X at *
      generalize y.1 = Y at *
      clear hx hy hj hm c0
      by_cases hc : Y < X
      · go_wp2_with fail
        go_quiet (fail)
        go_wp2
        exact ⟨⟨j + 1, j, rfl, by go_num, Hlt.out, Hlt.out, .inr (HS.out.1 hc), HW.out.elim (fun n hn => ⟨n + nq, by rw [hn]; exact World.drewN_drewN ..⟩)⟩, by simp [intOf]; have := Hlt.out; omega⟩
      · go_wp2_with fail
        go_quiet (fail)
        go_wp2
        exact ⟨⟨j + 1, m, rfl, by go_num, Hlt.out, HF.out.2.1, .inr (HS.out.2 hc), HW.out.elim (fun n hn => ⟨n + nq, by rw [hn]; exact World.drewN_drewN ..⟩)⟩, by simp [intOf]; have := Hlt.out; omega⟩
    · have hlt' : ¬ (j : Int) < (T : Int) := by omega
      have e : m = k := by
        have hjT : j = ds.length := by rw [← HK.out.2.2]; omega
        rcases HF.out.2.2 with ⟨rfl, rfl⟩ | q
        · have := Dh.Fl.lt HK.out.1; omega
        · rw [hjT, List.take_length] at q
          exact Fl.uniq q HK.out.1
      clear hlt hj hm
      go_wp2
      go_ret
      exact ⟨rfl, HW.out⟩
end Dh
end Go.Proofs.Ytddkdakelcohgaa
