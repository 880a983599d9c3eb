import Derived.Test.YtnlopepbcnegbaaGreatDoorLeaf
import Derived.Test.YtnlopepbcnegbaaGreatDoorTurn
import Derived.Test.YtnlopepbcnegbaaGreatDoorShelf
import Derived.BigQuiet
import Derived.Deep.RegionWith
import Derived.Lib.OthersKept
set_option linter.unusedVariables false
set_option linter.unusedSimpArgs false
namespace Go.Proofs.YtnlopepbcnegbaaGreatDoor
open Go.RowKit

/-- a text, its characters, and where their rows lie -/
structure Tx where
  s : ByteArray
  C : List L.Cx
  N : Nat
  ro : Option Addr
  rc : Nat
  sb : Nat
  sc : Nat
def Tx.g (T : Tx) (i : Nat) : L.Cx := L.g T.C i
def Tx.rv (T : Tx) : Value := .slice T.ro T.N T.rc
def Tx.sv (T : Tx) : Value := .slice (some ⟨T.sb, 0, none⟩) (T.N + 1) T.sc
/-- what the rows hold -/
structure Tx.Ok (T : Tx) : Prop where
  good : L.Good T.s T.C T.N 0 (1, 1)
  small : T.s.size ≤ 65536
  cap : T.N ≤ T.rc
/-- the rows lie there, in blocks of which a class holds none -/
structure Tx.In (T : Tx) (S : Nat → Prop) (w : World) : Prop where
  rune : ∀ j, j < T.N → ∃ rb, T.ro = some ⟨rb, 0, none⟩ ∧ ¬ S rb ∧ rb < w.heap.size ∧ w.cell? ⟨rb, j, none⟩ = some (.int .i32 (T.g j).r)
  start : ¬ S T.sb ∧ T.sb < w.heap.size ∧ ∀ j, j ≤ T.N → w.cell? ⟨T.sb, j, none⟩ = some (.int .i64 ((T.g j).a : Int))
theorem Tx.In.turn {T : Tx} {S : Nat → Prop} {w w' : World} (h : T.In S w) (t : Turn S w w') : T.In S w' := by
  refine ⟨fun j hj => ?_, h.start.1, Nat.lt_of_lt_of_le h.start.2.1 t.size, fun j hj => ?_⟩
  · obtain ⟨rb, e, hS, hl, hc⟩ := h.rune j hj
    exact ⟨rb, e, hS, Nat.lt_of_lt_of_le hl t.size, (t.cell (p := ⟨rb, j, none⟩) hl hS).trans hc⟩
  · exact (t.cell (p := ⟨T.sb, j, none⟩) h.start.2.1 h.start.1).trans (h.start.2.2 j hj)
theorem Tx.In.mono {T : Tx} {S S' : Nat → Prop} {w : World} (h : T.In S w) (hS : ∀ k, k < w.heap.size → S' k → S k) : T.In S' w :=
  ⟨fun j hj => by obtain ⟨rb, e, q, hl, hc⟩ := h.rune j hj; exact ⟨rb, e, fun k => q (hS _ hl k), hl, hc⟩, fun k => h.start.1 (hS _ h.start.2.1 k), h.start.2⟩
/-- THE SCANNER AT BLOCK b STANDS IN FRONT OF CHARACTER i -/
structure Scn (T : Tx) (b i : Nat) (w : World) : Prop where
  ok : T.Ok
  le : i ≤ T.N
  lt : b < w.heap.size
  c0 : w.cell? ⟨b, 0, none⟩ = some (.string T.s)
  c1 : w.cell? ⟨b, 1, none⟩ = some T.rv
  c2 : w.cell? ⟨b, 2, none⟩ = some T.sv
  c3 : w.cell? ⟨b, 3, none⟩ = some (.int .i64 (i : Int))
  c4 : w.cell? ⟨b, 4, none⟩ = some (.int .i64 (T.g i).l)
  c5 : w.cell? ⟨b, 5, none⟩ = some (.int .i64 (T.g i).c)
  f : ∀ k, k < 6 → w.frozen? ⟨b, k, none⟩ = false
  inn : T.In (fun k => k = b) w
theorem Scn.far {T : Tx} {b i : Nat} {w w' : World} (h : Scn T b i w) {S : Nat → Prop} (t : Turn S w w') (hS : ∀ k, k < w.heap.size → ¬ S k) : Scn T b i w' := by
  have t' : Turn (fun _ => False) w w' := t.mono fun k hk q => hS k hk q
  have hb : ¬ False := id
  refine ⟨h.ok, h.le, Nat.lt_of_lt_of_le h.lt t.size, (t'.cell h.lt hb).trans h.c0, (t'.cell h.lt hb).trans h.c1, (t'.cell h.lt hb).trans h.c2, (t'.cell h.lt hb).trans h.c3, (t'.cell h.lt hb).trans h.c4, (t'.cell h.lt hb).trans h.c5, fun k hk => ?_, h.inn.turn (t'.mono fun k hk q => q.elim)⟩
  exact (World.frozen?_of_block (w := w) (t'.block b h.lt hb)).trans (h.f k hk)
theorem Scn.below {T : Tx} {b i : Nat} {w w' : World} (h : Scn T b i w) (t : Below w.heap.size w w') : Scn T b i w' :=
  h.far (S := fun _ => False) ⟨t.os, t.tape, t.output, t.size, fun k hk _ => t.block k hk⟩ (fun _ _ q => q)
theorem turn_below {S : Nat → Prop} {w w' : World} (t : Below w.heap.size w w') : Turn S w w' := ⟨t.os, t.tape, t.output, t.size, fun k hk _ => t.block k hk⟩
theorem below_drewN (B : Nat) (w : World) (n : Nat) : Below B w (w.drewN n) := ⟨rfl, rfl, rfl, Nat.le_refl _, fun _ _ => rfl⟩

/-- the character's number that a scanner holds -/
def nextOf (b : Nat) (w : World) : Nat := match w.cell? ⟨b, 3, none⟩ with | some (.int _ n) => n.toNat | _ => 0
theorem nextOf_of {T : Tx} {b i : Nat} {w : World} (h : Scn T b i w) : nextOf b w = i := by simp [nextOf, h.c3]

theorem Tx.Ok.bd {T : Tx} (h : T.Ok) (i : Nat) (hi : i ≤ T.N) : (0 ≤ (T.g i).l ∧ (T.g i).l ≤ 4294967296) ∧ (0 ≤ (T.g i).c ∧ (T.g i).c ≤ 4294967296) := by
  have := h.good.bd i hi
  have f := h.good.few
  have s := h.small
  unfold Tx.g
  simp only at this
  omega
theorem Tx.Ok.few {T : Tx} (h : T.Ok) : T.N ≤ 65536 := by have f := h.good.few; have s := h.small; omega

set_option maxRecDepth 100000 in
set_option maxHeartbeats 1000000 in
theorem peek_any {T : Tx} {b i : Nat} {w : World} (h : Scn T b i w) :
    Calls Tryz.prog 49 #[.pointer (some ⟨b, 0, none⟩)] w fun e w' => e = .returned (.int .i32 (T.g i).r) ∧ Below w.heap.size w w' := by
  have hf := h.ok.few
  obtain ⟨ok, le, lt, c0, c1, c2, c3, c4, c5, f, inn⟩ := h
  unfold Tx.rv at c1
  by_cases hi : i = T.N
  · have e1 : ((i : Int) == (T.N : Int)) = true := by simp; omega
    have hr : Hid ((T.g i).r = -1) := (by rw [hi]; exact ok.good.last.1)
    clear ok inn f hi
    obtain ⟨r, hr'⟩ : ∃ r, (T.g i).r = r := ⟨_, rfl⟩
    rw [hr'] at hr ⊢
    have := hr.out; subst this
    clear hr'
    go_enter Tryz.func49, Tryz.ntmps49
    go_wp2
    go_quiet (fail)
    go_wp2
    go_ret
    exact ⟨rfl, below_drewN _ _ _⟩
  · have e1 : ((i : Int) == (T.N : Int)) = false := by simp; omega
    have hlt : i < T.N := by omega
    obtain ⟨rb, hro, hS, hl, hc⟩ := inn.rune i hlt
    rw [hro] at c1
    clear ok inn f hi hS hl
    go_enter Tryz.func49, Tryz.ntmps49
    go_wp2
    go_quiet (fail)
    go_wp2
    go_quiet (fail)
    go_wp2
    go_ret
    exact ⟨rfl, (below_drewN _ _ _).trans (below_drewN _ _ _)⟩
end Go.Proofs.YtnlopepbcnegbaaGreatDoor
