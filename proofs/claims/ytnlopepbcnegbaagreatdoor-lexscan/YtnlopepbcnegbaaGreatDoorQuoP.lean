import Derived.Test.YtnlopepbcnegbaaGreatDoorJN
import Derived.Test.YtnlopepbcnegbaaGreatDoorQName
set_option linter.unusedVariables false
set_option linter.unusedSimpArgs false
namespace Go.Proofs.YtnlopepbcnegbaaGreatDoor
open Go.RowKit
theorem wd_le4 (s : ByteArray) (i : Nat) : L.wd s i ≤ 4 := by
  rw [L.wd_eq]
  unfold Lib.decodeN
  repeat' split
  all_goals simp
theorem Tx.Ok.txt1 {T : Tx} (h : T.Ok) (i : Nat) (hi : i < T.N) : (T.txt i (i + 1)).size ≤ 4 := by
  unfold Tx.txt
  rw [ByteArray.size_extract]
  have st := h.good.step i hi
  have w := wd_le4 T.s (L.g T.C i).a
  show min (L.g T.C (i + 1)).a T.s.size - (L.g T.C i).a ≤ 4
  omega
theorem numd_size {T : Tx} {i : Nat} {t : ByteArray} {j : Nat} (h : T.numd i = some (t, j)) : t.size ≤ 4 ∧ i < j := by
  unfold Tx.numd at h
  split at h
  · cases h
  · split at h
    · cases h
    · rename_i hb
      split at h
      · simp only [Option.some.injEq, Prod.mk.injEq] at h
        obtain ⟨rfl, rfl⟩ := h
        exact ⟨encode_size_le _, by omega⟩
      · cases h
theorem esc_size {T : Tx} (ok : T.Ok) {i : Nat} (hi : i < T.N) {t : ByteArray} {j : Nat} (h : T.esc i = some (t, j)) : t.size ≤ 4 ∧ i < j := by
  unfold Tx.esc at h
  split at h
  · rename_i hr
    simp only [Option.some.injEq, Prod.mk.injEq] at h
    obtain ⟨rfl, rfl⟩ := h
    exact ⟨ok.txt1 (i + 1) (lt_of_r ok hi (by omega)), by omega⟩
  · split at h
    · have := numd_size h; exact ⟨this.1, by omega⟩
    · cases h
/-- the quoted name that begins at a place, from a character of it on -/
def Tx.qloop (T : Tx) (o : Nat) : Nat → Nat → ByteArray → Res
  | 0, _, _ => .flt 0 0 0 ByteArray.empty
  | f + 1, i, acc =>
    if (T.g i).r = 10 ∨ (T.g i).r = -1 then .flt 21 (T.g o).l (T.g o).c ⟨#[34]⟩
    else if (T.g i).r = 34 then (if N.valid acc then .tok 2 acc (T.g o).l (T.g o).c (i + 1) else .flt 10 (T.g o).l (T.g o).c acc)
    else if (T.g i).r = 92 then (T.esc i).elim (.flt 22 (T.g i).l (T.g i).c (T.txt i (T.escTo i))) (fun tj => T.qloop o f tj.2 (acc ++ tj.1))
    else T.qloop o f (i + 1) (acc ++ T.txt i (i + 1))
def Tx.quotedR (T : Tx) (o : Nat) : Res := T.qloop o (T.N + 1) (o + 1) ByteArray.empty

/-! the builder beside the scanner -/
theorem builderAt_turn {T' e : TypeId} {B nb : Nat} {p : Value} {bs : List Value} {S : Nat → Prop} {w w' : World} (h : Lib.BuilderAt T' e B nb p bs w) (t : Turn S w w') (hS : ∀ k, B ≤ k → ¬ S k) : Lib.BuilderAt T' e B nb p bs w' := by
  obtain ⟨hB, v, hv, hr, hne⟩ := h
  have hlt : nb < w.heap.size := (Array.getElem?_eq_some_iff.1 hv).1
  exact ⟨hB, v, (t.block nb hlt (hS nb hB)).trans hv, t.row hr (fun g hg => hS g (hr.lt g hg).1), hne⟩
theorem isBuilder_turn {T' e : TypeId} {B nb : Nat} {bs : List Value} {S : Nat → Prop} {w w' : World} (h : Lib.IsBuilder T' e B nb bs w) (t : Turn S w w') (hS : ∀ k, B ≤ k → ¬ S k) : Lib.IsBuilder T' e B nb bs w' := by
  rcases h with h | h
  · exact Or.inl (builderAt_turn h t hS)
  · exact Or.inr (builderAt_turn h t hS)
/-- the scanner and its rows lie below a block -/
structure Scn.Low (T : Tx) (b B : Nat) : Prop where
  b : b < B
  r : ∀ rb, T.ro = some ⟨rb, 0, none⟩ → 0 < T.N → rb < B
  s : T.sb < B
theorem Scn.low {T : Tx} {b i : Nat} {w : World} (h : Scn T b i w) {B : Nat} (hB : w.heap.size ≤ B) : Scn.Low T b B := by
  refine ⟨Nat.lt_of_lt_of_le h.lt hB, fun rb e hN => ?_, Nat.lt_of_lt_of_le h.inn.start.2.1 hB⟩
  obtain ⟨rb', e', _, hl, _⟩ := h.inn.rune 0 hN
  rw [e] at e'; cases e'
  omega
theorem Scn.belowB {T : Tx} {b i B : Nat} {w w' : World} (h : Scn T b i w) (lo : Scn.Low T b B) (t : Below B w w') : Scn T b i w' := by
  obtain ⟨ok, le, lt, c0, c1, c2, c3, c4, c5, f, inn⟩ := h
  have hc : ∀ k, w'.cell? ⟨b, k, none⟩ = w.cell? ⟨b, k, none⟩ := fun k => t.cell (p := ⟨b, k, none⟩) lo.b
  refine ⟨ok, le, Nat.lt_of_lt_of_le lt t.size, (hc 0).trans c0, (hc 1).trans c1, (hc 2).trans c2, (hc 3).trans c3, (hc 4).trans c4, (hc 5).trans c5, fun k hk => (t.frozen (p := ⟨b, k, none⟩) lo.b).trans (f k hk), ⟨fun j hj => ?_, inn.start.1, Nat.lt_of_lt_of_le inn.start.2.1 t.size, fun j hj => ?_⟩⟩
  · obtain ⟨rb, e, q, hl, hcc⟩ := inn.rune j hj
    exact ⟨rb, e, q, Nat.lt_of_lt_of_le hl t.size, (t.cell (p := ⟨rb, j, none⟩) (lo.r rb e (by omega))).trans hcc⟩
  · exact (t.cell (p := ⟨T.sb, j, none⟩) lo.s).trans (inn.start.2.2 j hj)
theorem turn_belowB {S : Nat → Prop} {w w1 w' : World} {B : Nat} (h : Turn S w w1) (hB : w.heap.size ≤ B) (t : Below B w1 w') : Turn S w w' :=
  ⟨t.os.trans h.os, t.tape.trans h.tape, t.output.trans h.output, Nat.le_trans h.size t.size, fun k hk hS => (t.block k (by omega)).trans (h.block k hk hS)⟩
theorem Tk.belowB {g : Nat} {a b c d : Value} {w w' : World} {B : Nat} (h : Tk g a b c d w) (hg : g < B) (t : Below B w w') : Tk g a b c d w' := h.of_block (t.block g hg)
theorem Tk.turn {g : Nat} {a b c d : Value} {S : Nat → Prop} {w w' : World} (h : Tk g a b c d w) (t : Turn S w w') (hg : ¬ S g) : Tk g a b c d w' := h.of_block (t.block g (lt_of_cell h.c0) hg)
end Go.Proofs.YtnlopepbcnegbaaGreatDoor
