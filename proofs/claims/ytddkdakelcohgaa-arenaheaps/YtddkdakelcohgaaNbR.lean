import Derived.Test.YtddkdakelcohgaaNbQ
import Derived.Deep.CutBlock
import Derived.Deep.DeepCutAuto
set_option linter.unusedVariables false
set_option linter.unusedSimpArgs false
namespace Go.Proofs.Ytddkdakelcohgaa
open Go.RowKit Go.Sort
namespace Nb
open Th Hp Dh
variable {B nb h ob : Nat} {o : Int} {zs zs' : List (Int × Nat)} {n n' : Nat} {ds ds' : List (Int × Int)} {P : Nat → Prop} {L : List (Int × Nat × Int)} {w w' : World}
theorem PN.drewN (k : PN B nb h ob o zs n ds P w) (m : Nat) : PN B nb h ob o zs n ds P (w.drewN m) := k.below (bel_drewN (Below.refl _ _) m)
theorem pushH (k : PN B nb h ob o zs n ds P w) (x : Int) (hl : zs.length < 1099511627776) (hc : n < 4611686018427387904) : Calls Try.prog 53 #[.pointer (some ⟨h, 0, none⟩), .int .i64 x] w fun e w' => e = .returned (.tuple #[]) ∧ ∃ zs', zs'.Perm (zs ++ [(x, n)]) ∧ (SWO (rlt (rk o)) → Heap (ahd (rlt (rk o))) zs → Heap (ahd (rlt (rk o))) zs') ∧ PT B nb h ob o zs' (n + 1) ds P w w' := by
  obtain ⟨D, ao, cap, k, hp⟩ := k
  exact (HI.push_any less13 x k.H k.K (fun j e => by rw [e]; exact k.od.1) hl hc).mono (fun e w' ⟨h1, zs', h2, h3, h4⟩ => ⟨h1, zs', h2, h3, k.toH hp h4⟩)
theorem popH (k : PN B nb h ob o zs n ds P w) {z : Int × Nat} (hz : zs[0]? = some z) (hl : zs.length ≤ 1099511627776) : Calls Try.prog 55 #[.pointer (some ⟨h, 0, none⟩)] w fun e w' => e = .returned (.tuple #[.int .i64 z.1, .bool true]) ∧ ∃ zs', (z :: zs').Perm zs ∧ (SWO (rlt (rk o)) → Heap (ahd (rlt (rk o))) zs → Heap (ahd (rlt (rk o))) zs') ∧ PT B nb h ob o zs' n ds P w w' := by
  obtain ⟨D, ao, cap, k, hp⟩ := k
  obtain ⟨m, hm⟩ : ∃ m, zs.length = m + 1 := ⟨zs.length - 1, by have := (List.getElem?_eq_some_iff.1 hz).1; omega⟩
  exact (HI.pop_some less13 k.H k.K (fun j e => by rw [e]; exact k.od.1) hm hz hl).mono (fun e w' ⟨h1, zs', h2, h3, h4⟩ => ⟨h1, zs', h2, h3, k.toH hp h4⟩)
theorem pushE (k : PN B nb h ob o zs n ds P w) (z : Int × Int) (hl : ds.length < 1099511627776) : Calls Try.prog 23 #[.pointer (some ⟨nb, 2, none⟩), .agg #[.int .i64 z.1, .int .i64 z.2]] w fun e w' => e = .returned (.tuple #[]) ∧ PT B nb h ob o zs n (ds ++ [z]) P w w' := by
  obtain ⟨D, ao, cap, k, hp⟩ := k
  exact (Dh.push_any z k.E hl k.lo.1).mono (fun e w' ⟨h1, h2⟩ => ⟨h1, k.toE hp (DT.dl k.E h2)⟩)
theorem popE (k : PN B nb h ob o zs n ds P w) {i : Nat} {z : Int × Int} (hk : Fl ds i) (hz : ds[i]? = some z) (hl : ds.length ≤ 1099511627776) : Calls Try.prog 26 #[.pointer (some ⟨nb, 2, none⟩)] w fun e w' => e = .returned (.tuple #[.agg #[.int .i64 z.1, .int .i64 z.2], .bool true]) ∧ PT B nb h ob o zs n (ds.eraseIdx i) P w w' := by
  obtain ⟨D, ao, cap, k, hp⟩ := k
  exact (Dh.pop_some k.E hk hz hl k.lo.1).mono (fun e w' ⟨h1, h2⟩ => ⟨h1, k.toE hp h2⟩)
theorem PN.cells (k : PN B nb h ob o zs n ds P w) : w.cell? ⟨nb, 0, none⟩ = some (.int .i64 o) ∧ w.cell? ⟨nb, 1, none⟩ = some (.pointer (some ⟨h, 0, none⟩)) ∧ nb < w.heap.size ∧ P nb := by
  obtain ⟨D, ao, cap, k, hp⟩ := k
  exact ⟨k.c0, k.c1, k.E.lt, (hp nb).2 (.inr (.inr (.inl rfl)))⟩
/-- what one call leaves -/
def CT (B nb h ob : Nat) (o : Int) (n : Nat) (m : Nat) (P : Nat → Prop) (w w' : World) : Prop := ∃ zs' n' ds' L', PT B nb h ob o zs' n' ds' P w w' ∧ Cp (rk o) zs' n' ds' L' ∧ (∀ q ∈ L', q.1 = q.2.2) ∧ n' ≤ n + 1 ∧ L'.length = m
set_option maxRecDepth 100000 in
set_option maxHeartbeats 4000000 in
theorem one_push (k : PN B nb h ob o zs n ds P w) (c : Cp (rk o) zs n ds L) (hq : ∀ q ∈ L, q.1 = q.2.2) (hp x : Int) (hl : L.length < 1099511627776) (hc : n < 4611686018427387904) :
    Calls Try.prog 16 #[.pointer (some ⟨nb, 0, none⟩), .agg #[.int .i64 1, .int .i64 hp, .int .i64 x]] w fun e w' => e = .returned (.bool true) ∧ CT B nb h ob o n (L.length + 1) P w w' := by
  obtain ⟨q0, hq0⟩ : ∃ q, q = w.heap.size := ⟨_, rfl⟩
  obtain ⟨w1, hw1⟩ : ∃ w1, w1 = w.alloc (.cells #[.int .i64 1, .int .i64 hp, .int .i64 x] 37) := ⟨_, rfl⟩
  have hb1 : Below w.heap.size w w1 := by rw [hw1]; exact (Below.refl _ _).alloc (Nat.le_refl _) _
  have k1 := k.below hb1
  have hk1 : w1.heap[q0]? = some (.cells #[.int .i64 1, .int .i64 hp, .int .i64 x] 37 (0, 0)) := by rw [hw1, hq0]; exact heap_alloc_new w _
  have x0 : w1.cell? ⟨q0, 0, none⟩ = some (.int .i64 1) := by rw [Lib.cell_of_heap hk1]; rfl
  have x2 : w1.cell? ⟨q0, 2, none⟩ = some (.int .i64 x) := by rw [Lib.cell_of_heap hk1]; rfl
  obtain ⟨c0, c1, hnb, hPn⟩ := k1.cells
  have hlen := c.len
  have CP := hide' (fun W (hW : ∃ m, W = w1.drewN m) => (show Calls Try.prog 53 #[.pointer (some ⟨h, 0, none⟩), .int .i64 x] W (fun e w' => e = .returned (.tuple #[]) ∧ ∃ zs', zs'.Perm (zs ++ [(x, n)]) ∧ (SWO (rlt (rk o)) → Heap (ahd (rlt (rk o))) zs → Heap (ahd (rlt (rk o))) zs') ∧ PT B nb h ob o zs' (n + 1) ds P w1 w') from by
    obtain ⟨m, rfl⟩ := hW
    exact (pushH (k1.drewN m) x (by omega) hc).mono (fun e w' ⟨a1, zs', a2, a3, a4⟩ => ⟨a1, zs', a2, a3, PT.start (bel_drewN (Below.refl _ _) m) a4⟩)))
  have HK := hide' (And.intro k (And.intro c (And.intro hq (And.intro hb1 (And.intro hk1 (And.intro hl hq0))))))
  have Hw := hide' (And.intro hw1 hq0)
  clear k c hq hb1 k1 hk1 hw1 hq0 hl hc hlen hnb hPn
  go_enter Try.func16, Try.ntmps16
  go_upto_region 1 with fail
  rw [← Hw.out.1, ← Hw.out.2]
  clear Hw
  go_wp2_with fail
  go_region_law ((go_simp; refine (CP.out _ ⟨1, rfl⟩).mono ?_; rintro e w7 ⟨rfl, zs1, pz, gz, h7⟩))
  all_goals
    obtain ⟨P7, k7, t7, n7⟩ := h7
    obtain ⟨d0, d1, hnb, hPn⟩ := k7.cells
    have hq0 : ¬ P q0 := fun q => by have := (HK.out.1.lt q).1; have := HK.out.2.2.2.2.2.2; omega
    have y2 : w7.cell? ⟨q0, 2, none⟩ = some (.int .i64 x) := (t7.cell (p := ⟨q0, 2, none⟩) (lt_of_heap HK.out.2.2.2.2.1) hq0).trans x2
    have CE : Hid (∀ W, (∃ m, W = w7.drewN m) → Calls Try.prog 23 #[.pointer (some ⟨nb, 2, none⟩), .agg #[.int .i64 (rk o x), .int .i64 x]] W fun e w' => e = .returned (.tuple #[]) ∧ PT B nb h ob o zs1 (n + 1) (ds ++ [(rk o x, x)]) P7 w7 w') := hide' (fun W ⟨m, hW⟩ => by
      rw [hW]
      exact (pushE (k7.drewN m) (rk o x, x) (by have := HK.out.2.1.len; have := HK.out.2.2.2.2.2.1; omega)).mono (fun e w' ⟨a1, a4⟩ => ⟨a1, PT.start (bel_drewN (Below.refl _ _) m) a4⟩))
    have H7 := hide' (And.intro pz (And.intro gz (And.intro t7 n7)))
    clear CP pz gz k7 t7 n7 x0 x2 c0 c1 d1 hnb hPn hq0
    go_wp2_with fail
    go_region_law ((first | (go_simp; refine (rank_any o x _).mono ?_; rintro e w8 ⟨rfl, rfl⟩) | (go_simp; refine (CE.out _ ⟨1, rfl⟩).mono ?_; rintro e w8 ⟨rfl, h8⟩)))
    all_goals
      have K8 : Hid (CT B nb h ob o n (L.length + 1) P w w8) := hide' ⟨zs1, n + 1, ds ++ [(rk o x, x)], L ++ [(x, n, x)], PT.start HK.out.2.2.2.1 (PT.trans H7.out.2.2.1 H7.out.2.2.2 h8), HK.out.2.1.push H7.out.1 H7.out.2.1 x, fun q hq => (List.mem_append.1 hq).elim (HK.out.2.2.1 q) (fun e => by simp at e; subst e; rfl), Nat.le_refl _, by simp⟩
      clear CE h8 d0 y2
      go_wp2
      go_ret
      exact ⟨rfl, K8.out⟩
end Nb
end Go.Proofs.Ytddkdakelcohgaa
