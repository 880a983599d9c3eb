import Derived.Test.YtihdagehenmolaaJop
import Derived.Test.YtihdagehenmolaaJrP
set_option linter.unusedVariables false
set_option linter.unusedSimpArgs false
namespace Go.Proofs.Ytihdagehenmolaa
open Go.RowKit
namespace J
open M K
/-- a journal, its disk and the document's, side by side -/
structure Lv (B t d jb : Nat) (room : Int) (es : List En) (s : Nat) (ao : Option Addr) (cap : Nat) (lo : Option Addr) (lc : Nat) (w : World) : Prop where
  hp : w.heap[t]? = some (.cells #[.pointer (some ⟨d, 0, none⟩), .pointer (some ⟨jb, 0, none⟩), .string (sb (recs es)), .int .i64 room, .int .i64 (s : Nat), .slice lo es.length lc] 54 (0, 0))
  dk : Dk B d room (recs es) s ao cap w
  jn : Jn jb d (lst es) w
  ls : Es B lo lc es w
  ok : ∀ e ∈ es, e.ok
  hb : B ≤ t
  hj : B ≤ jb
/-- its blocks -/
def LB (t d jb : Nat) (ao lo : Option Addr) (j : Nat) : Prop := j = t ∨ DB d ao j ∨ j = jb ∨ At lo j
variable {B t d jb : Nat} {room : Int} {es : List En} {s : Nat} {ao : Option Addr} {cap : Nat} {lo : Option Addr} {lc : Nat} {w w' : World}
theorem Lv.c (q : Lv B t d jb room es s ao cap lo lc w) : w.cell? ⟨t, 0, none⟩ = some (.pointer (some ⟨d, 0, none⟩)) ∧ w.cell? ⟨t, 1, none⟩ = some (.pointer (some ⟨jb, 0, none⟩)) ∧ w.cell? ⟨t, 2, none⟩ = some (.string (sb (recs es))) ∧ w.cell? ⟨t, 3, none⟩ = some (.int .i64 room) ∧ w.cell? ⟨t, 4, none⟩ = some (.int .i64 (s : Nat)) ∧ w.cell? ⟨t, 5, none⟩ = some (.slice lo es.length lc) :=
  ⟨Lib.cell_of_heap q.hp 0, Lib.cell_of_heap q.hp 1, Lib.cell_of_heap q.hp 2, Lib.cell_of_heap q.hp 3, Lib.cell_of_heap q.hp 4, Lib.cell_of_heap q.hp 5⟩
theorem Lv.f (q : Lv B t d jb room es s ao cap lo lc w) (j : Nat) : w.frozen? ⟨t, j, none⟩ = false := Lib.frozen_of_heap q.hp j
theorem Lv.lt (q : Lv B t d jb room es s ao cap lo lc w) : t < w.heap.size := lt_of_heap q.hp
theorem Lv.in (q : Lv B t d jb room es s ao cap lo lc w) {j : Nat} (h : LB t d jb ao lo j) : B ≤ j ∧ j < w.heap.size := by
  rcases h with rfl | h | rfl | h
  · exact ⟨q.hb, q.lt⟩
  · exact q.dk.in h
  · exact ⟨q.hj, q.jn.lt⟩
  · obtain ⟨h1, cs, h2⟩ := own_kind q.ls h
    exact ⟨h1, lt_of_heap h2⟩
theorem Lv.kept {S : Nat → Prop} (q : Lv B t d jb room es s ao cap lo lc w) (u : Turn S w w') (h : ∀ j, LB t d jb ao lo j → ¬ S j) : Lv B t d jb room es s ao cap lo lc w' :=
  ⟨(u.block t q.lt (h t (.inl rfl))).trans q.hp, q.dk.kept u (fun j hj => h j (.inr (.inl hj))), q.jn.kept u (h jb (.inr (.inr (.inl rfl)))), q.ls.kept u (fun g hg => h g (.inr (.inr (.inr (own_at hg))))), q.ok, q.hb, q.hj⟩
theorem Lv.below (q : Lv B t d jb room es s ao cap lo lc w) (b : Below w.heap.size w w') : Lv B t d jb room es s ao cap lo lc w' :=
  q.kept (turn_below (S := fun _ => False) b) (fun _ _ h => h)
theorem Lv.few (q : Lv B t d jb room es s ao cap lo lc w) : es.length ≤ 1048576 := by
  have h1 := recs_len_le es
  have h2 := dk_len q.dk
  omega
/-- a list of right entries: its last one tells whether there is one -/
theorem lst_pos {es : List En} (ok : ∀ e ∈ es, e.ok) : decide (0 < (lst es).v) = !es.isEmpty := by
  cases h : es with
  | nil => rfl
  | cons a b =>
    have hm : lst es ∈ es := List.mem_of_getElem? (lst_at (by rw [h]; simp))
    have := (ok _ hm).1
    rw [← h]
    simp [h]
    rw [h] at this
    omega
set_option maxRecDepth 100000 in
set_option maxHeartbeats 1000000 in
theorem rlast_nil (c5 : w.cell? ⟨t, 5, none⟩ = some (.slice lo 0 lc)) (tl : t < w.heap.size) : Calls Try.prog 41 #[.pointer (some ⟨t, 2, none⟩)] w fun r w' => r = .returned (.tuple #[.agg #[.int .i64 0, .string ⟨#[]⟩], .bool false]) ∧ Below w.heap.size w w' := by
  obtain ⟨W, hW⟩ : ∃ W, W = w.alloc (.cells #[.int .i64 0, .string ⟨#[]⟩] 24) := ⟨_, rfl⟩
  obtain ⟨r, hr⟩ : ∃ r, r = w.heap.size := ⟨_, rfl⟩
  have n0 : W.heap[r]? = some (.cells #[.int .i64 0, .string ⟨#[]⟩] 24 (0, 0)) := by rw [hW, hr]; exact heap_alloc_new w _
  have N0 := hide' n0
  obtain ⟨a0, a1, a2, a3, a4, a5⟩ := new_facts (w := w) n0
  have c5' : W.cell? ⟨t, 5, none⟩ = some (.slice lo 0 lc) := by rw [hW]; exact ((below_al w _).cell (p := ⟨t, 5, none⟩) tl).trans c5
  have HW : Hid (Below w.heap.size w W ∧ r = w.heap.size ∧ r ≤ W.heap.size) := hide' ⟨by rw [hW]; exact below_al w _, hr, by rw [hW, hr]; simp⟩
  have c5a : (w.alloc (.cells #[.int .i64 0, .string ⟨#[]⟩] 24)).cell? ⟨t, 5, none⟩ = some (.slice lo 0 lc) := by rw [← hW]; exact c5'
  rw [hW, hr] at a0 a1 a2 a3 a4 a5 N0 HW
  clear n0 hW hr c5 tl c5'
  go_enter Try.func41, Try.ntmps41
  go_wp2
  refine bodyPost_ret (results_row_tmp rfl _ _ w.heap.size 24 #[.int .i64 0, .string ⟨#[]⟩] (0, 0) _ rfl N0.out Try.underlying24 rfl (by kernel_rfl)) rfl ⟨rfl, HW.out.1⟩
set_option maxRecDepth 100000 in
set_option maxHeartbeats 1000000 in
theorem rlast_some {m n : Nat} (hn : n = m + 1) (c5 : w.cell? ⟨t, 5, none⟩ = some (.slice lo n lc)) (tl : t < w.heap.size) (ls : Rw 2 En.arr w lo es) {x : En} (hx : es[m]? = some x) (hm : m ≤ 1048576) : Calls Try.prog 41 #[.pointer (some ⟨t, 2, none⟩)] w fun r w' => r = .returned (.tuple #[.agg #[.int .i64 x.v, .string (sb x.t)], .bool true]) ∧ Below w.heap.size w w' := by
  rcases ls with h | ⟨b, off, rfl, hbl, hc⟩
  · rw [h] at hx; simp at hx
  obtain ⟨y0, y1⟩ := e_cells hc hx
  obtain ⟨W, hW⟩ : ∃ W, W = w.alloc (.cells #[.int .i64 0, .string ⟨#[]⟩] 24) := ⟨_, rfl⟩
  obtain ⟨r, hr⟩ : ∃ r, r = w.heap.size := ⟨_, rfl⟩
  have n0 : W.heap[r]? = some (.cells #[.int .i64 0, .string ⟨#[]⟩] 24 (0, 0)) := by rw [hW, hr]; exact heap_alloc_new w _
  have N0 := hide' n0
  obtain ⟨a0, a1, a2, a3, a4, a5⟩ := new_facts (w := w) n0
  have c5' : W.cell? ⟨t, 5, none⟩ = some (.slice (some ⟨b, off, none⟩) n lc) := by rw [hW]; exact ((below_al w _).cell (p := ⟨t, 5, none⟩) tl).trans c5
  obtain ⟨v, hv⟩ : ∃ v, v = x.v := ⟨_, rfl⟩
  obtain ⟨T, hT⟩ : ∃ T, T = sb x.t := ⟨_, rfl⟩
  rw [← hv] at y0 ⊢
  rw [← hT] at y1 ⊢
  have c1 : W.cell? ⟨b, off + m * 2, none⟩ = some (.int .i64 v) := by rw [hW]; exact ((below_al w _).cell (p := ⟨b, off + m * 2, none⟩) hbl).trans y0
  have c2 : W.cell? ⟨b, off + m * 2 + 1, none⟩ = some (.string T) := by rw [hW]; exact ((below_al w _).cell (p := ⟨b, off + m * 2 + 1, none⟩) hbl).trans y1
  have hne : ¬ (r = b) := by omega
  have hnt : ¬ (r = t) := by omega
  have k0 : ∀ x y, ((W.setCell ⟨r, 0, none⟩ x).setCell ⟨r, 1, none⟩ y).cell? ⟨t, 5, none⟩ = some (.slice (some ⟨b, off, none⟩) n lc) := fun x y => by
    rw [World.cell?_setCell_other _ _ _ _ (fun q => hnt (by injection q)), World.cell?_setCell_other _ _ _ _ (fun q => hnt (by injection q))]; exact c5'
  have k1 : ∀ x y, ((W.setCell ⟨r, 0, none⟩ x).setCell ⟨r, 1, none⟩ y).cell? ⟨b, off + m * 2, none⟩ = some (.int .i64 v) := fun x y => by
    rw [World.cell?_setCell_other _ _ _ _ (fun q => hne (by injection q)), World.cell?_setCell_other _ _ _ _ (fun q => hne (by injection q))]; exact c1
  have k2 : ∀ x y, ((W.setCell ⟨r, 0, none⟩ x).setCell ⟨r, 1, none⟩ y).cell? ⟨b, off + m * 2 + 1, none⟩ = some (.string T) := fun x y => by
    rw [World.cell?_setCell_other _ _ _ _ (fun q => hne (by injection q)), World.cell?_setCell_other _ _ _ _ (fun q => hne (by injection q))]; exact c2
  have e1 : wrap64 ((n : Int) - 1) = (m : Int) := by unfold wrap64; omega
  have e2 : (m : Int) < (n : Int) := by omega
  have e4 : m < n := by omega
  have e5 : (n : Int) - 1 = (m : Int) := by omega
  have e6 : (0 : Int) ≤ (m : Int) := by omega
  have e7 : wrap64 (m : Int) = (m : Int) := by unfold wrap64; omega
  have e8 : IntKind.wrap .i64 (m : Int) = (m : Int) := (IntWalk.i64_left _).trans e7
  have e3 : ((n : Int) == 0) = false := by simp; omega
  have HW : Hid (Below w.heap.size w W ∧ r = w.heap.size ∧ r ≤ W.heap.size) := hide' ⟨by rw [hW]; exact below_al w _, hr, by rw [hW, hr]; simp⟩
  have HB : Hid (W = w.alloc (.cells #[.int .i64 0, .string ⟨#[]⟩] 24)) := hide' hW
  have c5a : (w.alloc (.cells #[.int .i64 0, .string ⟨#[]⟩] 24)).cell? ⟨t, 5, none⟩ = some (.slice (some ⟨b, off, none⟩) n lc) := by rw [← hW]; exact c5'
  clear n0 hW hr c5 tl hc hx y0 y1 hbl hv hT hne hnt hn hm
  go_enter Try.func41, Try.ntmps41
  go_wp2_with fail
  rw [← HB.out, ← HW.out.2.1]
  clear HB c5a
  go_region_held3 (fun w' => w'.cell? ⟨t, 5, none⟩ = some (.slice (some ⟨b, off, none⟩) n lc) ∧ w'.cell? ⟨b, off + m * 2, none⟩ = some (.int .i64 v) ∧ w'.cell? ⟨b, off + m * 2 + 1, none⟩ = some (.string T)) (first | exact ⟨c5', c1, c2⟩ | exact ⟨k0 _ _, k1 _ _, k2 _ _⟩) (fail)
  rename_i hHeld
  clear hHeld k0 k1 k2 c1 c2 a0 a1 a2 a3 a4 a5
  go_wp2
  refine bodyPost_ret (results_row_tmp rfl _ _ r 24 #[.int .i64 v, .string T] (0, 0) _ rfl (put2 N0.out _ _) Try.underlying24 rfl (by kernel_rfl)) rfl ⟨rfl, ?_⟩
  have := below_put2 HW.out.1 HW.out.2.2 (by rw [HW.out.2.1]; exact Nat.le_refl _) (.int .i64 v) (.string T)
  exact this.trans ⟨rfl, rfl, rfl, Nat.le_refl _, fun _ _ => rfl⟩
theorem rlast_any (q : Lv B t d jb room es s ao cap lo lc w) : Calls Try.prog 41 #[.pointer (some ⟨t, 2, none⟩)] w fun r w' => r = .returned (.tuple #[.agg #[.int .i64 (lst es).v, .string (sb (lst es).t)], .bool (decide (0 < (lst es).v))]) ∧ Below w.heap.size w w' := by
  have c5 := q.c.2.2.2.2.2
  rw [lst_pos q.ok]
  by_cases h : es = []
  · subst h
    exact rlast_nil c5 q.lt
  · have hl : es.length = (es.length - 1) + 1 := by
      have := List.length_pos_iff.2 h
      omega
    have e : (!es.isEmpty) = true := by cases es with | nil => exact absurd rfl h | cons a b => rfl
    rw [e]
    exact rlast_some (m := es.length - 1) hl c5 q.lt (q.ls.rw' ha_e) (lst_at h) (by have := q.few; omega)
end J
end Go.Proofs.Ytihdagehenmolaa
