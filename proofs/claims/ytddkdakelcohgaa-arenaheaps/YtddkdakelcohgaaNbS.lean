import Derived.Test.YtddkdakelcohgaaNbR
set_option linter.unusedVariables false
set_option linter.unusedSimpArgs false
namespace Go.Proofs.Ytddkdakelcohgaa
open Go.RowKit Go.Sort
namespace Nb
open Th Hp Dh
variable {B nb h ob : Nat} {o : Int} {zs zs' : List (Int × Nat)} {n n' : Nat} {ds ds' : List (Int × Int)} {P : Nat → Prop} {L : List (Int × Nat × Int)} {w w' : World}
theorem fl_ex : ∀ (m : Nat), 0 < m → m ≤ ds.length → ∃ k, Fl (ds.take m) k := by
  intro m
  induction m with
  | zero => intro h; omega
  | succ m ih =>
    intro _ hm
    by_cases h0 : m = 0
    · subst h0
      exact ⟨0, Dh.Fl.one (List.getElem?_eq_getElem (by omega))⟩
    · obtain ⟨k, hk⟩ := ih (by omega) (by omega)
      have hkm : k < m := by have := Dh.Fl.lt hk; simp at this; omega
      have st := Dh.Fl.step hk (List.getElem?_eq_getElem (by omega)) (List.getElem?_eq_getElem (show m < ds.length by omega))
      by_cases c : (ds[m]'(by omega)).1 < (ds[k]'(by omega)).1
      · exact ⟨m, st.1 c⟩
      · exact ⟨k, st.2 c⟩
theorem fl_some (h : 0 < ds.length) : ∃ k, Fl ds k := by
  obtain ⟨k, hk⟩ := fl_ex (ds := ds) ds.length h (Nat.le_refl _)
  rw [List.take_length] at hk
  exact ⟨k, hk⟩
/-- a call that changes nothing -/
theorem CT.same (k : PN B nb h ob o zs n ds P w) (c : Cp (rk o) zs n ds L) (hq : ∀ q ∈ L, q.1 = q.2.2) (b : Below w.heap.size w w') : CT B nb h ob o n L.length P w w' :=
  ⟨zs, n, ds, L, ⟨P, k.below b, turn_below b, fun j q => .inl q⟩, c, hq, Nat.le_succ _, rfl⟩
set_option maxRecDepth 100000 in
set_option maxHeartbeats 4000000 in
/-- no call -/
theorem one_none (k : PN B nb h ob o zs n ds P w) (c : Cp (rk o) zs n ds L) (hq : ∀ q ∈ L, q.1 = q.2.2) (d hp x : Int) (h1 : ¬ d = 1) (h2 : ¬ d = 2) (h3 : ¬ d = 3) (h4 : ¬ d = 4) :
    Calls Try.prog 16 #[.pointer (some ⟨nb, 0, none⟩), .agg #[.int .i64 d, .int .i64 hp, .int .i64 x]] w fun e w' => e = .returned (.bool true) ∧ CT B nb h ob o n L.length P w w' := by
  have e1 : (d == 1) = false := by simpa using h1
  have e2 : (d == 2) = false := by simpa using h2
  have e3 : (d == 3) = false := by simpa using h3
  have e4 : (d == 4) = false := by simpa using h4
  have K := hide' (CT.same k c hq ((Below.refl w.heap.size w).alloc (Nat.le_refl _) (.cells #[.int .i64 d, .int .i64 hp, .int .i64 x] 37)))
  clear k c hq
  go_enter Try.func16, Try.ntmps16
  go_wp2
  go_ret
  exact ⟨rfl, K.out⟩
set_option maxRecDepth 100000 in
set_option maxHeartbeats 4000000 in
theorem one_pop (k : PN B nb h ob o zs n ds P w) (c : Cp (rk o) zs n ds L) (hq : ∀ q ∈ L, q.1 = q.2.2) (hp x : Int) (hl : L.length ≤ 1099511627776) (hpos : 0 < L.length) :
    Calls Try.prog 16 #[.pointer (some ⟨nb, 0, none⟩), .agg #[.int .i64 2, .int .i64 hp, .int .i64 x]] w fun e w' => e = .returned (.bool true) ∧ CT B nb h ob o n (L.length - 1) P w w' := by
  obtain ⟨q0, hq0⟩ : ∃ q, q = w.heap.size := ⟨_, rfl⟩
  obtain ⟨w1, hw1⟩ : ∃ w1, w1 = w.alloc (.cells #[.int .i64 2, .int .i64 hp, .int .i64 x] 37) := ⟨_, rfl⟩
  have hb1 : Below w.heap.size w w1 := by rw [hw1]; exact (Below.refl _ _).alloc (Nat.le_refl _) _
  have k1 := k.below hb1
  have hk1 : w1.heap[q0]? = some (.cells #[.int .i64 2, .int .i64 hp, .int .i64 x] 37 (0, 0)) := by rw [hw1, hq0]; exact heap_alloc_new w _
  have x0 : w1.cell? ⟨q0, 0, none⟩ = some (.int .i64 2) := by rw [Lib.cell_of_heap hk1]; rfl
  obtain ⟨c0, c1, hnb, hPn⟩ := k1.cells
  obtain ⟨l1, l2⟩ := c.len
  obtain ⟨z, hz⟩ : ∃ z, zs[0]? = some z := ⟨_, List.getElem?_eq_getElem (by omega)⟩
  obtain ⟨i, hi⟩ := fl_some (ds := ds) (by omega)
  obtain ⟨q, hqL, hqz, hqd⟩ := c.pop hz hi
  have hid : z.1 = q.2.2 := by rw [← hqz]; exact hq q (List.mem_of_getElem? hqL)
  have CP := hide' (popH k1 hz (by omega))
  have HK := hide' (And.intro c (And.intro hq (And.intro hb1 (And.intro hqL (And.intro hqz (And.intro hi (And.intro hqd l2)))))))
  have HS := hide' (And.intro hl (And.intro hpos hid))
  have Hw := hide' (And.intro hw1 hq0)
  clear k c hq hb1 k1 hk1 hw1 hq0 hl hpos hnb hPn hz hi hqL hqz hqd c0 l1 l2 hid
  obtain ⟨zv, zt⟩ := z
  obtain ⟨qv, qt, qi⟩ := q
  simp only at *
  go_enter Try.func16, Try.ntmps16
  go_upto_region 1 with fail
  rw [← Hw.out.1, ← Hw.out.2]
  clear Hw
  go_wp2_with fail
  refine CP.out.mono ?_
  rintro e w7 ⟨rfl, zs1, pz, gz, P7, k7, t7, n7⟩
  have CE := hide' (popE k7 HK.out.2.2.2.2.2.1 HK.out.2.2.2.2.2.2.1 (by have := HK.out.2.2.2.2.2.2.2; have := HS.out; omega))
  have H7 := hide' (And.intro pz (And.intro gz (And.intro t7 n7)))
  clear CP pz gz k7 t7 n7 x0 c1
  go_wp2_with fail
  refine CE.out.mono ?_
  rintro e w8 ⟨rfl, h8⟩
  have e8 : zv = qi := HS.out.2.2
  subst e8
  have K8 : Hid (CT B nb h ob o n (L.length - 1) P w (w8.alloc (.cells #[.int .i64 (rk o qv), .int .i64 zv] 52))) := hide' ⟨zs1, n, ds.eraseIdx i, L.eraseIdx i, PT.end (PT.start HK.out.2.2.1 (PT.trans H7.out.2.2.1 H7.out.2.2.2 h8)) ((Below.refl _ _).alloc (Nat.le_refl _) _), HK.out.1.out HK.out.2.2.2.1 HK.out.2.2.2.2.1 H7.out.1 H7.out.2.1, fun q hq => HK.out.2.1 q ((List.eraseIdx_sublist ..).mem hq), Nat.le_succ _, List.length_eraseIdx_of_lt (List.getElem?_eq_some_iff.1 HK.out.2.2.2.1).1⟩
  clear CE h8 H7
  unfold dr at *
  simp only at *
  go_wp2
  go_ret
  exact ⟨rfl, K8.out⟩
end Nb
end Go.Proofs.Ytddkdakelcohgaa
