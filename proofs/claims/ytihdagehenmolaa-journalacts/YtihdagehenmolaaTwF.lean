import Derived.Test.YtihdagehenmolaaTwE
import Derived.Deep.CutBlock
import Derived.Deep.DeepCutAuto
set_option linter.unusedVariables false
set_option linter.unusedSimpArgs false
namespace Go.Proofs.Ytihdagehenmolaa
open Go.RowKit
namespace J
open M K
variable {B t d jb : Nat} {room : Int} {es : List En} {s : Nat} {ao : Option Addr} {cap : Nat} {lo : Option Addr} {lc : Nat} {w w' : World}
/-- a side: a pair, with its blocks -/
structure Sd (B t : Nat) (S : Nat → Prop) (w : World) : Prop where
  hb : B ≤ t
  st : S t
  lim : ∀ j, S j → B ≤ j ∧ j < w.heap.size
  now : De t w ∨ ∃ d jb room es s ao cap lo lc, Lv B t d jb room es s ao cap lo lc w ∧ ∀ j, LB t d jb ao lo j → S j
theorem Sd.kept {S T : Nat → Prop} (q : Sd B t S w) (u : Turn T w w') (h : ∀ j, S j → ¬ T j) : Sd B t S w' := by
  refine ⟨q.hb, q.st, fun j hj => ⟨(q.lim j hj).1, Nat.lt_of_lt_of_le (q.lim j hj).2 u.size⟩, ?_⟩
  rcases q.now with ⟨cs, h1, h2⟩ | ⟨d, jb, room, es, s, ao, cap, lo, lc, h1, h2⟩
  · exact .inl ⟨cs, (u.block t (q.lim t q.st).2 (h t q.st)).trans h1, h2⟩
  · exact .inr ⟨d, jb, room, es, s, ao, cap, lo, lc, h1.kept u (fun j hj => h j (h2 j hj)), h2⟩
/-- what a call on a side leaves -/
def AT (B t : Nat) (S : Nat → Prop) (w w' : World) : Prop := ∃ S', Sd B t S' w' ∧ Turn S w w' ∧ ∀ j, S' j → S j ∨ w.heap.size ≤ j
theorem AT.lv {d' jb' s' cap' lc' : Nat} {room' : Int} {es' : List En} {ao' lo' : Option Addr} (q : Lv B t d' jb' room' es' s' ao' cap' lo' lc' w') {S : Nat → Prop} (u : Turn S w w') (h : ∀ j, LB t d' jb' ao' lo' j → S j ∨ w.heap.size ≤ j) : AT B t S w w' :=
  ⟨LB t d' jb' ao' lo', ⟨q.hb, .inl rfl, fun j hj => q.in hj, .inr ⟨_, _, _, _, _, _, _, _, _, q, fun j hj => hj⟩⟩, u, h⟩
/-- an act in its box -/
def Bk (x : Nat) (k : Int) (e : En) (w : World) : Prop := w.heap[x]? = some (.cells #[.int .i64 k, .int .i64 e.v, .string (sb e.t)] 47 (0, 0))
theorem Bk.c {x : Nat} {k : Int} {e : En} (h : Bk x k e w) : w.cell? ⟨x, 0, none⟩ = some (.int .i64 k) ∧ w.cell? ⟨x, 1, none⟩ = some (.int .i64 e.v) ∧ w.cell? ⟨x, 2, none⟩ = some (.string (sb e.t)) := ⟨Lib.cell_of_heap h 0, Lib.cell_of_heap h 1, Lib.cell_of_heap h 2⟩
theorem Bk.below {x : Nat} {k : Int} {e : En} (h : Bk x k e w) (b : Below w.heap.size w w') : Bk x k e w' := (b.block x (lt_of_heap h)).trans h
/-- the box of an act -/
def BA (k : Int) (e : En) : Obj := .cells #[.int .i64 k, .int .i64 e.v, .string (sb e.t)] 47
set_option maxRecDepth 100000 in
set_option maxHeartbeats 4000000 in
theorem act1_gen (x : En) (c : Int) (P P2 P3 : World → Prop) (q : Lv B t d jb room es s ao cap lo lc w)
    (CA : ∀ V, Below (w.alloc (BA 1 x)).heap.size (w.alloc (BA 1 x)) V → Calls Try.prog 40 #[.pointer (some ⟨t, 2, none⟩), .agg #[.int .i64 x.v, .string (sb x.t)]] V fun r V' => r = .returned (.int .i64 c) ∧ P V')
    (hP : ∀ V, P V → V.cell? ⟨t, 1, none⟩ = some (.pointer (some ⟨jb, 0, none⟩)) ∧ Bk w.heap.size 1 x V)
    (hPd : ∀ V, P V → P V.drew) (hP2 : ∀ V, P2 V → V.cell? ⟨t, 1, none⟩ = some (.pointer (some ⟨jb, 0, none⟩)) ∧ Bk w.heap.size 1 x V)
    (CB : ∀ V, P V → Calls Try.prog 27 #[.pointer (some ⟨jb, 0, none⟩), .agg #[.int .i64 x.v, .string (sb x.t)]] V fun r V' => r = .returned (.int .i64 c) ∧ P2 V')
    (CL : ∀ V, P2 V → Calls Try.prog 21 #[.pointer (some ⟨t, 0, none⟩)] V fun r V' => r = .returned (.bool true) ∧ P3 V') :
    Calls Try.prog 20 #[.pointer (some ⟨t, 0, none⟩), .agg #[.int .i64 1, .int .i64 x.v, .string (sb x.t)]] w fun r w' => r = .returned (.bool true) ∧ P3 w' := by
  obtain ⟨v, hv⟩ : ∃ v, v = x.v := ⟨_, rfl⟩
  obtain ⟨T, hT⟩ : ∃ T, T = sb x.t := ⟨_, rfl⟩
  obtain ⟨w1, hw1⟩ : ∃ w1, w1 = w.alloc (BA 1 x) := ⟨_, rfl⟩
  obtain ⟨bx, hbx⟩ : ∃ x, x = w.heap.size := ⟨_, rfl⟩
  have b1 : Below w.heap.size w w1 := by rw [hw1]; exact below_al w _
  have x1 : Bk bx 1 x w1 := by rw [hw1, hbx]; exact heap_alloc_new w _
  rw [← hw1] at CA
  rw [← hbx] at hP hP2
  have c1 := (q.below b1).c.2.1
  obtain ⟨o0, o1, o2⟩ := x1.c
  rw [← hv] at o1 CA CB ⊢
  rw [← hT] at o2 CA CB ⊢
  have hPc : ∀ V, P V → V.cell? ⟨t, 1, none⟩ = some (.pointer (some ⟨jb, 0, none⟩)) ∧ V.cell? ⟨bx, 1, none⟩ = some (.int .i64 v) ∧ V.cell? ⟨bx, 2, none⟩ = some (.string T) := fun V h => by
    have := hP V h
    rw [hv, hT]
    exact ⟨this.1, this.2.c.2.1, this.2.c.2.2⟩
  have HQc : Hid (∀ V, P2 V → V.cell? ⟨t, 1, none⟩ = some (.pointer (some ⟨jb, 0, none⟩)) ∧ V.cell? ⟨bx, 1, none⟩ = some (.int .i64 v) ∧ V.cell? ⟨bx, 2, none⟩ = some (.string T)) := hide' (fun V h => by
    have := hP2 V h
    rw [hv, hT]
    exact ⟨this.1, this.2.c.2.1, this.2.c.2.2⟩)
  have HA := hide' CA
  have HPc := hide' hPc
  have HPd := hide' hPd
  have HB := hide' CB
  have HL := hide' CL
  have Hw1 : Hid (w1 = w.alloc (.cells #[.int .i64 1, .int .i64 v, .string T] 47)) := hide' (by rw [hw1, hv, hT]; rfl)
  have Hbx := hide' hbx
  clear CA hP hP2 hPd CB CL hPc q b1 x1 hv hT hw1 hbx
  go_enter Try.func20, Try.ntmps20
  go_upto_region 1 with fail
  rw [← Hw1.out, ← Hbx.out]
  clear Hw1 Hbx
  go_wp2_with fail
  go_region_held3 (fun w' => w'.cell? ⟨bx, 1, none⟩ = some (.int .i64 v) ∧ w'.cell? ⟨bx, 2, none⟩ = some (.string T)) (first | go_keep | exact ⟨k1, k2⟩) ((go_at_call 40; refine (HA.out _ ?_).mono ?_; exact (Below.refl _ _).drew; rintro e w2 ⟨rfl, p2⟩; obtain ⟨k0, k1, k2⟩ := HPc.out _ p2))
  rename_i hHeld
  clear hHeld c1 o0 o1 o2 HA
  have g0 := k0
  have HP2 := hide' p2
  clear p2
  go_wp2_with fail
  go_region_held3 (fun w' => w'.cell? ⟨t, 1, none⟩ = some (.pointer (some ⟨jb, 0, none⟩)) ∧ w'.cell? ⟨bx, 1, none⟩ = some (.int .i64 v) ∧ w'.cell? ⟨bx, 2, none⟩ = some (.string T)) (first | go_keep | exact ⟨k0, k1, k2⟩ | exact ⟨m0, m1, m2⟩) ((go_at_call 27; refine (HB.out _ (HPd.out _ HP2.out)).mono ?_; rintro e w3 ⟨rfl, p3⟩; obtain ⟨m0, m1, m2⟩ := HQc.out _ p3))
  rename_i hHeld
  have D1 := hide' (HL.out _ p3)
  clear hHeld HB HPc HPd HP2 HQc g0 k0 k1 k2 m0 m1 m2 p3
  go_wp2_with fail
  refine D1.out.mono ?_
  rintro e w4 ⟨rfl, p4⟩
  have K4 := hide' p4
  clear p4 D1 HL
  go_wp2
  go_ret
  exact ⟨rfl, K4.out⟩
end J
end Go.Proofs.Ytihdagehenmolaa
