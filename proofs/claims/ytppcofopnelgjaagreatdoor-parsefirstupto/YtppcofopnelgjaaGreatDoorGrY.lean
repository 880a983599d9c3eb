import Derived.Test.YtppcofopnelgjaaGreatDoorGrX
import Derived.Test.YtppcofopnelgjaaGreatDoorGrW
set_option linter.unusedVariables false
set_option linter.unusedSimpArgs false
namespace Go.Proofs.YtppcofopnelgjaaGreatDoor
open Go.RowKit
theorem wd_le4 (s : ByteArray) (i : Nat) : L.wd s i ≤ 4 := by
  rw [L.wd_eq]
  unfold Lib.decodeN
  repeat' split
  all_goals simp
theorem Tx.Ok.txt1 {T : Tx} (h : T.Ok) (i : Nat) (hi : i < T.N) : (T.txt i (i + 1)).size ≤ 4 := by
  unfold Tx.txt
  rw [ByteArray.size_extract]
  have st := h.good.step i hi
  have w := wd_le4 T.s (L.g T.C i).a
  show min (L.g T.C (i + 1)).a T.s.size - (L.g T.C i).a ≤ 4
  omega
theorem numd_size {T : Tx} {i : Nat} {t : ByteArray} {j : Nat} (h : T.numd i = some (t, j)) : t.size ≤ 4 ∧ i < j := by
  unfold Tx.numd at h
  split at h
  · cases h
  · split at h
    · cases h
    · rename_i hb
      split at h
      · simp only [Option.some.injEq, Prod.mk.injEq] at h
        obtain ⟨rfl, rfl⟩ := h
        exact ⟨encode_size_le _, by omega⟩
      · cases h
theorem esc_size {T : Tx} (ok : T.Ok) {i : Nat} (hi : i < T.N) {t : ByteArray} {j : Nat} (h : T.esc i = some (t, j)) : t.size ≤ 4 ∧ i < j := by
  unfold Tx.esc at h
  split at h
  · rename_i hr
    simp only [Option.some.injEq, Prod.mk.injEq] at h
    obtain ⟨rfl, rfl⟩ := h
    exact ⟨ok.txt1 (i + 1) (lt_of_r ok hi (by omega)), by omega⟩
  · split at h
    · have := numd_size h; exact ⟨this.1, by omega⟩
    · cases h
/-- the quoted name that begins at a place, from a character of it on -/
def Tx.qloop (T : Tx) (o : Nat) : Nat → Nat → ByteArray → Res
  | 0, _, _ => .flt 0 0 0 ByteArray.empty
  | f + 1, i, acc =>
    if (T.g i).r = 10 ∨ (T.g i).r = -1 then .flt 21 (T.g o).l (T.g o).c ⟨#[34]⟩
    else if (T.g i).r = 34 then (if N.valid acc then .tok 2 acc (T.g o).l (T.g o).c (i + 1) else .flt 10 (T.g o).l (T.g o).c acc)
    else if (T.g i).r = 92 then (T.esc i).elim (.flt 22 (T.g i).l (T.g i).c (T.txt i (T.escTo i))) (fun tj => T.qloop o f tj.2 (acc ++ tj.1))
    else T.qloop o f (i + 1) (acc ++ T.txt i (i + 1))
def Tx.quotedR (T : Tx) (o : Nat) : Res := T.qloop o (T.N + 1) (o + 1) ByteArray.empty

/-! the builder beside the scanner -/
theorem builderAt_turn {T' e : TypeId} {B nb : Nat} {p : Value} {bs : List Value} {S : Nat → Prop} {w w' : World} (h : Lib.BuilderAt T' e B nb p bs w) (t : Turn S w w') (hS : ∀ k, B ≤ k → ¬ S k) : Lib.BuilderAt T' e B nb p bs w' := by
  obtain ⟨hB, v, hv, hr, hne⟩ := h
  have hlt : nb < w.heap.size := (Array.getElem?_eq_some_iff.1 hv).1
  exact ⟨hB, v, (t.block nb hlt (hS nb hB)).trans hv, t.row hr (fun g hg => hS g (hr.lt g hg).1), hne⟩
theorem isBuilder_turn {T' e : TypeId} {B nb : Nat} {bs : List Value} {S : Nat → Prop} {w w' : World} (h : Lib.IsBuilder T' e B nb bs w) (t : Turn S w w') (hS : ∀ k, B ≤ k → ¬ S k) : Lib.IsBuilder T' e B nb bs w' := by
  rcases h with h | h
  · exact Or.inl (builderAt_turn h t hS)
  · exact Or.inr (builderAt_turn h t hS)
/-- the scanner and its rows lie below a block -/
structure Scn.Low (T : Tx) (b B : Nat) : Prop where
  b : b < B
  r : ∀ rb, T.ro = some ⟨rb, 0, none⟩ → 0 < T.N → rb < B
  s : T.sb < B
theorem Scn.low {T : Tx} {b i : Nat} {w : World} (h : Scn T b i w) {B : Nat} (hB : w.heap.size ≤ B) : Scn.Low T b B := by
  refine ⟨Nat.lt_of_lt_of_le h.lt hB, fun rb e hN => ?_, Nat.lt_of_lt_of_le h.inn.start.2.1 hB⟩
  obtain ⟨rb', e', _, hl, _⟩ := h.inn.rune 0 hN
  rw [e] at e'; cases e'
  omega
theorem Scn.belowB {T : Tx} {b i B : Nat} {w w' : World} (h : Scn T b i w) (lo : Scn.Low T b B) (t : Below B w w') : Scn T b i w' := by
  obtain ⟨ok, le, lt, c0, c1, c2, c3, c4, c5, f, inn⟩ := h
  have hc : ∀ k, w'.cell? ⟨b, k, none⟩ = w.cell? ⟨b, k, none⟩ := fun k => t.cell (p := ⟨b, k, none⟩) lo.b
  refine ⟨ok, le, Nat.lt_of_lt_of_le lt t.size, (hc 0).trans c0, (hc 1).trans c1, (hc 2).trans c2, (hc 3).trans c3, (hc 4).trans c4, (hc 5).trans c5, fun k hk => (t.frozen (p := ⟨b, k, none⟩) lo.b).trans (f k hk), ⟨fun j hj => ?_, inn.start.1, Nat.lt_of_lt_of_le inn.start.2.1 t.size, fun j hj => ?_⟩⟩
  · obtain ⟨rb, e, q, hl, hcc⟩ := inn.rune j hj
    exact ⟨rb, e, q, Nat.lt_of_lt_of_le hl t.size, (t.cell (p := ⟨rb, j, none⟩) (lo.r rb e (by omega))).trans hcc⟩
  · exact (t.cell (p := ⟨T.sb, j, none⟩) lo.s).trans (inn.start.2.2 j hj)
theorem turn_belowB {S : Nat → Prop} {w w1 w' : World} {B : Nat} (h : Turn S w w1) (hB : w.heap.size ≤ B) (t : Below B w1 w') : Turn S w w' :=
  ⟨t.os.trans h.os, t.tape.trans h.tape, t.output.trans h.output, Nat.le_trans h.size t.size, fun k hk hS => (t.block k (by omega)).trans (h.block k hk hS)⟩
theorem Tk.belowB {g : Nat} {a b c d : Value} {w w' : World} {B : Nat} (h : Tk g a b c d w) (hg : g < B) (t : Below B w w') : Tk g a b c d w' := h.of_block (t.block g hg)
theorem Tk.turn {g : Nat} {a b c d : Value} {S : Nat → Prop} {w w' : World} (h : Tk g a b c d w) (t : Turn S w w') (hg : ¬ S g) : Tk g a b c d w' := h.of_block (t.block g (lt_of_cell h.c0) hg)
end Go.Proofs.YtppcofopnelgjaaGreatDoor
set_option linter.unusedVariables false
set_option linter.unusedSimpArgs false
namespace Go.Proofs.YtppcofopnelgjaaGreatDoor
open Go.RowKit
/-- WHAT STANDS WHILE A QUOTED NAME IS READ -/
structure QI (T : Tx) (b : Nat) (w : World) (o nb i : Nat) (acc : ByteArray) (wx : World) : Prop where
  scn : Scn T b i wx
  tk : Tk w.heap.size (.int .i8 0) (.string ⟨#[]⟩) (.int .i64 0) (.int .i64 0) wx
  g0 : wx.cell? ⟨w.heap.size + 1, 0, none⟩ = some (.int .i64 (T.g o).l)
  g1 : wx.cell? ⟨w.heap.size + 1, 1, none⟩ = some (.int .i64 (T.g o).c)
  bld : Lib.IsBuilder 197 5 nb nb (Lib.strCells acc) wx
  turn : Turn (fun k => k = b) w wx
  low : Scn.Low T b w.heap.size
  nbw : w.heap.size + 2 ≤ nb
  le : nb ≤ wx.heap.size
theorem QI.op {T : Tx} {b : Nat} {w : World} {o nb i j : Nat} {acc : ByteArray} {wx wx' : World} (h : QI T b w o nb i acc wx) (s : Scn T b j wx') (t : Turn (fun k => k = b) wx wx') : QI T b w o nb j acc wx' := by
  have hb := h.low.b
  have hn := h.nbw
  exact ⟨s, h.tk.turn t (by omega), (t.cell (p := ⟨w.heap.size + 1, 0, none⟩) (lt_of_cell h.g0) (by simp; omega)).trans h.g0, (t.cell (p := ⟨w.heap.size + 1, 1, none⟩) (lt_of_cell h.g1) (by simp; omega)).trans h.g1, isBuilder_turn h.bld t (fun k hk => by omega), h.turn.trans t, h.low, h.nbw, Nat.le_trans h.le t.size⟩
theorem QI.below {T : Tx} {b : Nat} {w : World} {o nb i : Nat} {acc : ByteArray} {wx wx' : World} (h : QI T b w o nb i acc wx) (t : Below wx.heap.size wx wx') : QI T b w o nb i acc wx' := h.op (h.scn.below t) (turn_below t)
theorem QI.drew {T : Tx} {b : Nat} {w : World} {o nb i : Nat} {acc : ByteArray} {wx : World} (h : QI T b w o nb i acc wx) : QI T b w o nb i acc wx.drew := h.below (below_drew wx)
theorem Scn.Low.mono {T : Tx} {b B B' : Nat} (h : Scn.Low T b B) (hB : B ≤ B') : Scn.Low T b B' := ⟨by have := h.b; omega, fun rb e hN => by have := h.r rb e hN; omega, by have := h.s; omega⟩
theorem QI.wr {T : Tx} {b : Nat} {w : World} {o nb i : Nat} {acc t : ByteArray} {wx wx' : World} (h : QI T b w o nb i acc wx) (hb : Lib.BuilderAt 197 5 nb nb (.pointer (some ⟨nb, 0, none⟩)) (Lib.strCells acc ++ Lib.strCells t) wx') (bw : Below nb wx wx') : QI T b w o nb i (acc ++ t) wx' := by
  have hn := h.nbw
  refine ⟨h.scn.belowB (h.low.mono (by omega)) bw, h.tk.belowB (by omega) bw, (bw.cell (p := ⟨w.heap.size + 1, 0, none⟩) (by simp; omega)).trans h.g0, (bw.cell (p := ⟨w.heap.size + 1, 1, none⟩) (by simp; omega)).trans h.g1, Or.inr ?_, turn_belowB h.turn (by omega) bw, h.low, h.nbw, Nat.le_trans h.le bw.size⟩
  have e : Lib.strCells (acc ++ t) = Lib.strCells acc ++ Lib.strCells t := by simp [Lib.strCells, ByteArray.data_append]
  rw [e]; exact hb

set_option maxHeartbeats 2000000 in
set_option maxRecDepth 100000 in
theorem quoted_any {T : Tx} {b o : Nat} {w : World} (h : Scn T b o w) (ho : o < T.N) :
    Calls Tryz.prog 102 #[.pointer (some ⟨b, 0, none⟩)] w fun e w' => ∃ v, e = .returned v ∧ (T.quotedR o).Is T b w v w' ∧ Turn (fun k => k = b) w w' := by
  have c4 := h.c4
  have c5 := h.c5
  have lt := h.lt
  have low := h.low (Nat.le_refl w.heap.size)
  have hfew := h.ok.few
  have H := hide' (And.intro h low)
  clear h low
  go_enter Tryz.func102, Tryz.ntmps102
  go_wp2_with (go_at_call 125; refine (pass_any ((H.out.1.below ((Below.refl _ _).alloc (Nat.le_refl _) _)).below ((Below.refl _ _).alloc (Nat.le_refl _) _)) ho).mono ?_; rintro e w1 ⟨rfl, s1, t1⟩; obtain ⟨h0, h1, hz1, t1'⟩ := after2 lt t1; obtain ⟨p0, p1⟩ := two_cells h1; have K := hide' (And.intro (Tk.of_cells h0) (And.intro s1 (And.intro t1' (And.intro p0 p1)))); clear h0 h1 s1 t1 t1' p0 p1)
  obtain ⟨nb, hnb⟩ : ∃ nb, w1.heap.size = nb := ⟨_, rfl⟩
  have Q0 : Hid (QI T b w o nb (o + 1) ByteArray.empty (w1.alloc (.cells #[.pointer none, .slice none 0 0] 197))) := by
    obtain ⟨k1, k2, k3, k4, k5⟩ := K.out
    have ba : Below w1.heap.size w1 (w1.alloc (.cells #[.pointer none, .slice none 0 0] 197)) := (Below.refl _ _).alloc (Nat.le_refl _) _
    exact ⟨k2.below ba, k1.below ba, below_keeps ba k4, below_keeps ba k5, by rw [← hnb]; exact Lib.fresh_isBuilder 197 5 w1, k3.trans (turn_below ba), H.out.2, by omega, by simp; omega⟩
  obtain ⟨W, hW⟩ : ∃ W, w1.alloc (.cells #[.pointer none, .slice none 0 0] 197) = W := ⟨_, rfl⟩
  simp only [hnb]
  rw [hW] at Q0
  simp only [hW]
  clear hW hnb K hz1
  go_loopw [] (fun wx => ∃ (i f : Nat) (acc : ByteArray), QI T b w o nb i acc wx ∧ T.qloop o f i acc = T.quotedR o ∧ T.N < i + f ∧ acc.size ≤ 4 * i) (fun wx => T.N - nextOf b wx)
  case atStart => exact ⟨o + 1, T.N + 1, ByteArray.empty, Q0.out, rfl, by omega, by simp⟩
  case round =>
    obtain ⟨i, f, acc, q, hq, hf, hacc⟩ := hrel
    have hne := nextOf_of q.scn
    have hiN := q.scn.le
    have Q := hide' (And.intro q hq)
    clear q hq
    obtain ⟨f, rfl⟩ : ∃ f', f = f' + 1 := ⟨f - 1, by omega⟩
    obtain ⟨r, hr⟩ : ∃ r, (T.g i).r = r := ⟨_, rfl⟩
    have HPk := hide' (peek_any Q.out.1.scn)
    have hlt : r ≠ -1 → i < T.N := fun hn => lt_of_r H.out.1.ok hiN (by rw [hr]; exact hn)
    have hql : Hid (T.quotedR o = if r = 10 ∨ r = -1 then .flt 21 (T.g o).l (T.g o).c ⟨#[34]⟩ else if r = 34 then (if N.valid acc then .tok 2 acc (T.g o).l (T.g o).c (i + 1) else .flt 10 (T.g o).l (T.g o).c acc) else if r = 92 then (T.esc i).elim (.flt 22 (T.g i).l (T.g i).c (T.txt i (T.escTo i))) (fun tj => T.qloop o f tj.2 (acc ++ tj.1)) else T.qloop o f (i + 1) (acc ++ T.txt i (i + 1))) := by
      show _ = _
      rw [← Q.out.2, Tx.qloop, hr]
    rw [hr] at HPk
    clear hr
    have x0 := Q.out.1.g0
    have x1 := Q.out.1.g1
    by_cases h1 : r = 10 ∨ r = -1
    · rw [if_pos h1] at hql
      clear hlt
      have hend : ∀ w2 : World, Below wr.heap.size wr w2 → Tk w.heap.size (.int .i8 0) (.string ⟨#[]⟩) (.int .i64 0) (.int .i64 0) w2 := fun w2 b2 => Q.out.1.tk.below b2
      have Hend := hide' hend
      clear hend
      by_cases h1a : r = 10
      · have e1 : (r == 10) = true := by simpa using h1a
        clear h1 h1a
        go_wp2_with (first | (go_at_call 94; refine HPk.out.mono ?_; rintro e w2 ⟨rfl, b2⟩; have y0 := below_keeps b2 x0; have y1 := below_keeps b2 x1) | (go_at_call 103; refine (pfault_any _ _ _ _ _).mono ?_; rintro e w3 ⟨fb, rfl, hfb, hflt, b3⟩; have kk := (Hend.out _ b2).below b3; have kc0 := kk.c0; have kc1 := kk.c1; have kc2 := kk.c2; have kc3 := kk.c3; obtain ⟨z0, z1, z2, z3⟩ := kk.frz; have KK := hide' kk; clear kk))
        refine bodyPost_ret_by (results4 rfl _ _ w.heap.size _ _ _ _ rfl (KK.out.set _ _ _ _)) rfl ?_
        have hsz := Q.out.1.turn.size
        have hlk := lt_of_cell x0
        have hb2 := b2.size
        refine ⟨_, rfl, ?_, ((Q.out.1.turn.trans (turn_below b2)).trans (turn_below b3)).set4 (Nat.le_refl _) _ _ _ _⟩
        rw [hql.out]
        exact Res.fin_flt (Nat.le_refl _) (by omega) (by simp at hlk; omega) hflt _ _ _ _
      · have e1 : (r == 10) = false := by simpa using h1a
        have e2 : (r == -1) = true := by simp; omega
        clear h1 h1a
        go_wp2_with (first | (go_at_call 94; refine HPk.out.mono ?_; rintro e w2 ⟨rfl, b2⟩; have y0 := below_keeps b2 x0; have y1 := below_keeps b2 x1) | (go_at_call 103; refine (pfault_any _ _ _ _ _).mono ?_; rintro e w3 ⟨fb, rfl, hfb, hflt, b3⟩; have kk := (Hend.out _ b2).below b3; have kc0 := kk.c0; have kc1 := kk.c1; have kc2 := kk.c2; have kc3 := kk.c3; obtain ⟨z0, z1, z2, z3⟩ := kk.frz; have KK := hide' kk; clear kk))
        refine bodyPost_ret_by (results4 rfl _ _ w.heap.size _ _ _ _ rfl (KK.out.set _ _ _ _)) rfl ?_
        have hsz := Q.out.1.turn.size
        have hlk := lt_of_cell x0
        have hb2 := b2.size
        refine ⟨_, rfl, ?_, ((Q.out.1.turn.trans (turn_below b2)).trans (turn_below b3)).set4 (Nat.le_refl _) _ _ _ _⟩
        rw [hql.out]
        exact Res.fin_flt (Nat.le_refl _) (by omega) (by simp at hlk; omega) hflt _ _ _ _
    rw [if_neg h1] at hql
    have hiN' := hlt (by omega)
    have e1 : (r == 10) = false := by simp; omega
    have e2 : (r == -1) = false := by simp; omega
    clear hlt h1
    by_cases h2 : r = 34
    · have e3 : (r == 34) = true := by simpa using h2
      rw [if_pos h2] at hql
      clear h2
      go_wp2_with (first | (go_at_call 94; refine HPk.out.mono ?_; rintro e w2 ⟨rfl, b2⟩) | (go_at_call 125; refine (pass_any (Q.out.1.scn.below b2) hiN').mono ?_; rintro e w3 ⟨rfl, s3, t3⟩; have Q3 := hide' ((Q.out.1.below b2).op s3 t3); have y0 := Q3.out.g0; have y1 := Q3.out.g1; clear s3 t3))
      have hnb1 : w.heap.size < nb := by have := Q3.out.nbw; omega
      have hnb2 : w.heap.size + 1 < nb := by have := Q3.out.nbw; omega
      have hacc' : (⟨acc.data.toList.toArray⟩ : ByteArray) = acc := by simp
      have hml : (⟨acc.data.toList.toArray⟩ : ByteArray).size ≤ maxLen := by rw [hacc']; unfold maxLen; omega
      have HA := hide' hacc'
      clear hacc'
      cases hv : N.valid acc
      · have hv' : N.valid (⟨acc.data.toList.toArray⟩ : ByteArray) = false := by rw [HA.out]; exact hv
        rw [hv, if_neg (by simp)] at hql
        go_region_held3 (fun w' => w'.cell? ⟨w.heap.size + 1, 0, none⟩ = some (.int .i64 (T.g o).l) ∧ w'.cell? ⟨w.heap.size + 1, 1, none⟩ = some (.int .i64 (T.g o).c)) (first | go_keep | (constructor <;> assumption))
          (first | (go_at_call 128; refine (sh.Builder_String_any nb nb acc.data.toList _ Q3.out.drew.bld Q3.out.drew.le).mono ?_; rintro e w4 ⟨rfl, bw4⟩; have v0 := (bw4.cell (p := ⟨w.heap.size + 1, 0, none⟩) hnb2).trans Q3.out.drew.g0; have v1 := (bw4.cell (p := ⟨w.heap.size + 1, 1, none⟩) hnb2).trans Q3.out.drew.g1; have kk4 := Q3.out.drew.tk.belowB hnb1 bw4) | (go_at_call 127; refine (quotedName_any _ _ _ _ hml).mono ?_; rintro e w5 ⟨_, rfl, hqn, b5⟩; unfold QN at hqn; rw [hv'] at hqn; simp only [Bool.false_eq_true, if_false] at hqn; obtain ⟨fb, rfl, hfb, hflt⟩ := hqn; unfold tokV; have u0 := below_keeps b5 v0; have u1 := below_keeps b5 v1; have kk := kk4.below b5; have kc0 := kk.c0; have kc1 := kk.c1; have kc2 := kk.c2; have kc3 := kk.c3; obtain ⟨z0, z1, z2, z3⟩ := kk.frz; have KK := hide' kk; clear kk))
        go_wp2
        have hacc' : (⟨acc.data.toList.toArray⟩ : ByteArray) = acc := by simp
        have hnbw := Q3.out.nbw
        have htn := (turn_belowB Q3.out.turn.drew (show w.heap.size ≤ nb by omega) bw4).trans (turn_below b5)
        refine bodyPost_ret_by (results4 rfl _ _ w.heap.size _ _ _ _ rfl (KK.out.set _ _ _ _)) rfl ?_
        refine ⟨_, rfl, ?_, htn.set4 (Nat.le_refl _) _ _ _ _⟩
        rw [hql.out]
        rw [hacc'] at hflt
        have h45 := lt_of_cell v0
        exact Res.fin_flt (Nat.le_refl _) (by simp at h45; omega) (by simp at h45; omega) hflt _ _ _ _
      · have hv' : N.valid (⟨acc.data.toList.toArray⟩ : ByteArray) = true := by rw [HA.out]; exact hv
        rw [hv, if_pos rfl] at hql
        go_region_held3 (fun w' => w'.cell? ⟨w.heap.size + 1, 0, none⟩ = some (.int .i64 (T.g o).l) ∧ w'.cell? ⟨w.heap.size + 1, 1, none⟩ = some (.int .i64 (T.g o).c)) (first | go_keep | (constructor <;> assumption))
          (first | (go_at_call 128; refine (sh.Builder_String_any nb nb acc.data.toList _ Q3.out.drew.bld Q3.out.drew.le).mono ?_; rintro e w4 ⟨rfl, bw4⟩; have v0 := (bw4.cell (p := ⟨w.heap.size + 1, 0, none⟩) hnb2).trans Q3.out.drew.g0; have v1 := (bw4.cell (p := ⟨w.heap.size + 1, 1, none⟩) hnb2).trans Q3.out.drew.g1; have kk4 := Q3.out.drew.tk.belowB hnb1 bw4) | (go_at_call 127; refine (quotedName_any _ _ _ _ hml).mono ?_; rintro e w5 ⟨_, rfl, hqn, b5⟩; unfold QN at hqn; rw [hv'] at hqn; simp only [if_true] at hqn; subst hqn; unfold tokV; have u0 := below_keeps b5 v0; have u1 := below_keeps b5 v1; have kk := kk4.below b5; have kc0 := kk.c0; have kc1 := kk.c1; have kc2 := kk.c2; have kc3 := kk.c3; obtain ⟨z0, z1, z2, z3⟩ := kk.frz; have KK := hide' kk; clear kk))
        go_wp2
        have hacc' : (⟨acc.data.toList.toArray⟩ : ByteArray) = acc := by simp
        have hnbw := Q3.out.nbw
        have htn := (turn_belowB Q3.out.turn.drew (show w.heap.size ≤ nb by omega) bw4).trans (turn_below b5)
        refine bodyPost_ret_by (results4 rfl _ _ w.heap.size _ _ _ _ rfl (KK.out.set _ _ _ _)) rfl ?_
        refine ⟨_, rfl, ?_, htn.set4 (Nat.le_refl _) _ _ _ _⟩
        rw [hql.out]
        rw [hacc']
        refine ⟨rfl, ?_⟩
        have hs := ((Q3.out.drew.scn.belowB (Q3.out.low.mono (by omega)) bw4).below b5)
        exact hs.turn1 (turn4 _ _ _ _ _ _) (by omega) (fun rb e => by have := Q3.out.low.r rb e (by omega); omega) (by have := Q3.out.low.s; omega)
    have e3 : (r == 34) = false := by simpa using h2
    rw [if_neg h2] at hql
    by_cases h3 : r = 92
    · have e4 : (r == 92) = true := by simpa using h3
      rw [if_pos h3] at hql
      clear h2 h3
      have HE := hide' fun (w : World) (h : Scn T b i w) => escape_any h hiN'
      have hes := fun t j => esc_size H.out.1.ok hiN' (t := t) (j := j)
      unfold EscIs at HE
      cases hesc : T.esc i with
      | some tj =>
        obtain ⟨t, j⟩ := tj
        rw [hesc] at HE hql
        have ht4 := (hes t j hesc).1
        have hij := (hes t j hesc).2
        clear hes
        go_wp2_with (first | (go_at_call 94; refine HPk.out.mono ?_; rintro e w2 ⟨rfl, b2⟩) | (go_at_call 129; refine (HE.out _ (Q.out.1.scn.below b2)).mono ?_; rintro e w3 ⟨_, rfl, ⟨rfl, s3, _⟩, t3⟩; have Q3 := hide' ((Q.out.1.below b2).op s3 t3); clear s3 t3) | (go_at_call 130; refine (sh.Builder_WriteString _ _ _ _ _ Q3.out.bld (by rw [Lib.strCells_length]; omega) Q3.out.le).mono ?_; rintro e w4 ⟨rfl, hb4, bw4⟩))
        refine ⟨⟨j, f, acc ++ t, Q3.out.wr hb4 bw4, hql.out.symm, by omega, by rw [ByteArray.size_append]; omega⟩, ?_⟩
        have := Q3.out.scn.le
        rw [nextOf_of (Q3.out.wr hb4 bw4).scn, hne]; omega
      | none =>
        rw [hesc] at HE hql
        clear hes
        go_wp2_with (first | (go_at_call 94; refine HPk.out.mono ?_; rintro e w2 ⟨rfl, b2⟩) | (go_at_call 129; refine (HE.out _ (Q.out.1.scn.below b2)).mono ?_; rintro e w3 ⟨_, rfl, ⟨fb, rfl, hfb, hflt⟩, t3⟩; have kk := (Q.out.1.below b2).tk.turn t3 (by have := Q.out.1.low.b; omega); have kc0 := kk.c0; have kc1 := kk.c1; have kc2 := kk.c2; have kc3 := kk.c3; obtain ⟨z0, z1, z2, z3⟩ := kk.frz; have KK := hide' kk; clear kk))
        refine bodyPost_ret_by (results4 rfl _ _ w.heap.size _ _ _ _ rfl (KK.out.set _ _ _ _)) rfl ?_
        have hlk := lt_of_cell x0
        have hb2 := b2.size
        refine ⟨_, rfl, ?_, ((Q.out.1.turn.trans (turn_below b2)).trans t3).set4 (Nat.le_refl _) _ _ _ _⟩
        rw [hql.out]
        exact Res.fin_flt (Nat.le_refl _) (by simp at hlk; omega) (by simp at hlk; omega) hflt _ _ _ _
    · have e4 : (r == 92) = false := by simpa using h3
      rw [if_neg h3] at hql
      clear h2 h3
      have ht4 := H.out.1.ok.txt1 i hiN'
      go_wp2_with (first | (go_at_call 94; refine HPk.out.mono ?_; rintro e w2 ⟨rfl, b2⟩) | (go_at_call 101; refine (take_any (Q.out.1.scn.below b2) hiN').mono ?_; rintro e w3 ⟨rfl, s3, t3⟩; have Q3 := hide' ((Q.out.1.below b2).op s3 t3); clear s3 t3) | (go_at_call 130; refine (sh.Builder_WriteString _ _ _ _ _ Q3.out.bld (by rw [Lib.strCells_length]; omega) Q3.out.le).mono ?_; rintro e w4 ⟨rfl, hb4, bw4⟩))
      refine ⟨⟨i + 1, f, acc ++ T.txt i (i + 1), Q3.out.wr hb4 bw4, hql.out.symm, by omega, by rw [ByteArray.size_append]; omega⟩, ?_⟩
      rw [nextOf_of (Q3.out.wr hb4 bw4).scn, hne]; omega
end Go.Proofs.YtppcofopnelgjaaGreatDoor
