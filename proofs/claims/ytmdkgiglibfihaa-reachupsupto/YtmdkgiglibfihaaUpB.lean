import Derived.Test.YtmdkgiglibfihaaAAll
import Derived.Test.YtmdkgiglibfihaaTrn
set_option linter.unusedVariables false
set_option linter.unusedSimpArgs false
namespace Go.Proofs.Ytmdkgiglibfihaa
open Go.RowKit Go.Maps
namespace L
theorem flat_set2 (zs : List K2) (i : Nat) (k : K2) : (zs.set i k).flatMap Q.cells = ((zs.flatMap Q.cells).set (i * 2) (.string k.1)).set (i * 2 + 1) (.string k.2) := by
  induction zs generalizing i with
  | nil => simp
  | cons z r ih =>
    cases i with
    | zero => simp [Q.cells]
    | succ i =>
      have e : (i + 1) * 2 = i * 2 + 1 + 1 := by omega
      rw [List.set_cons_succ, List.flatMap_cons, List.flatMap_cons, ih, e]
      simp [Q.cells]
theorem put2 {B : Nat} {g cap : Nat} {zs : List K2} {w : World} (h : Q.RowI B (some ⟨g, 0, none⟩) cap zs w) (i : Nat) (k : K2) : Q.RowI B (some ⟨g, 0, none⟩) cap (zs.set i k) ((w.setCell ⟨g, i * 2, none⟩ (.string k.1)).setCell ⟨g, i * 2 + 1, none⟩ (.string k.2)) := by
  rcases h.2 with ⟨hv, h0⟩ | ⟨g', cap', cur, hv, hb, hg, h1, h2, h3, h4⟩
  · cases hv
  simp only [Value.slice.injEq, Option.some.injEq] at hv
  obtain ⟨he, _, rfl⟩ := hv
  cases he
  have hl := h.1
  refine ⟨by rw [flat_set2]; simpa using hl, .inr ⟨g, cap, (cur.setIfInBounds (i * 2) (.string k.1)).setIfInBounds (i * 2 + 1) (.string k.2), by simp, hb, ?_, by simpa using h1, by simpa using h2, by simpa using h3, ?_⟩⟩
  · simp [World.setCell, Array.getElem?_modify, hg]
  · rw [flat_set2, Array.toList_setIfInBounds, Array.toList_setIfInBounds]
    simp only [List.length_set]
    rw [List.take_set, List.take_set, h4]
theorem frozenQ {B : Nat} {g cap : Nat} {zs : List K2} {w : World} (h : Q.RowI B (some ⟨g, 0, none⟩) cap zs w) (i : Nat) : w.frozen? ⟨g, i, none⟩ = false := by
  rcases h.2 with ⟨hv, h0⟩ | ⟨g', cap', cur, hv, hb, hg, _⟩
  · cases hv
  · simp only [Value.slice.injEq, Option.some.injEq] at hv
    obtain ⟨he, _⟩ := hv
    cases he
    exact Lib.frozen_of_heap hg i
/-- a list of so many, in a row that is new -/
def UpN (A : List ByteArray) (n : Nat) (w : World) (e : Ending) (w' : World) : Prop := ∃ no cap, e = .returned (.slice no n cap) ∧ S.RowI w.heap.size no cap A w' ∧ Below w.heap.size w w'
theorem upN_of {ps : List K2} {x : ByteArray} {n : Nat} {w w' : World} {e : Ending} (hn : (Bf.st (N.nxt ps) [x] n).length = n) (h : N.UpIs ps x w e w') : UpN (Bf.st (N.nxt ps) [x] n) n w e w' := by
  obtain ⟨m, no, cap, hm, rfl, r, b⟩ := h
  have e := Bf.st_one (Nat.le_of_eq hn) (Nat.le_of_eq hm)
  have q : m = n := by rw [← hm, e, hn]
  subst q
  exact ⟨no, cap, rfl, r, b⟩
/-- rows, one made behind the other -/
structure Rs (s0 : Nat) (us : List A2) (C : Nat → List ByteArray) (w : World) : Prop where
  each : ∀ (i : Nat) (a : A2), us[i]? = some a → S.RowI s0 a.1 a.2 (C i) w
  rr : ∀ (i j : Nat) (a b : A2), us[i]? = some a → us[j]? = some b → i ≠ j → ∀ k, S.At a.1 k → ¬ S.At b.1 k
theorem Rs.nil (s0 : Nat) (C : Nat → List ByteArray) (w : World) : Rs s0 [] C w := ⟨fun i a q => by simp at q, fun i j a b q => by simp at q⟩
theorem Rs.below {s0 : Nat} {us : List A2} {C : Nat → List ByteArray} {w w' : World} (h : Rs s0 us C w) (b : Below w.heap.size w w') : Rs s0 us C w' := ⟨fun i a q => (h.each i a q).below b, h.rr⟩
theorem Rs.snoc {s0 n : Nat} {us : List A2} {C : Nat → List ByteArray} {w w' : World} {o : Option Addr} {c : Nat} (h : Rs s0 us C w) (hl : us.length = n) (b : Below w.heap.size w w') (r : S.RowI w.heap.size o c (C n) w') (hs : s0 ≤ w.heap.size) : Rs s0 (us ++ [(o, c)]) C w' := by
  subst hl
  have cut : ∀ (i : Nat) (a : A2), (us ++ [(o, c)])[i]? = some a → us[i]? = some a ∨ (i = us.length ∧ a = (o, c)) := fun i a q => by
    rcases Nat.lt_trichotomy i us.length with hi | hi | hi
    · rw [List.getElem?_append_left hi] at q; exact .inl q
    · subst hi; simp at q; exact .inr ⟨rfl, q.symm⟩
    · rw [List.getElem?_eq_none (by simp; omega)] at q; cases q
  refine ⟨fun i a q => ?_, fun i j a a' q q' hij k hk hk' => ?_⟩
  · rcases cut i a q with q | ⟨rfl, rfl⟩
    · exact (h.each i a q).below b
    · exact r.mono hs
  · rcases cut i a q with q | ⟨rfl, rfl⟩
    · rcases cut j a' q' with q' | ⟨rfl, rfl⟩
      · exact h.rr i j a a' q q' hij k hk hk'
      · have := ((h.each i a q).lt k hk).2; have := (r.lt k hk').1; omega
    · rcases cut j a' q' with q' | ⟨rfl, rfl⟩
      · have := ((h.each j a' q').lt k hk').2; have := (r.lt k hk).1; omega
      · exact hij rfl
/-- what stands while answers are asked for -/
structure Bs (w : World) (s0 : Nat) (po : Option Addr) (ps : List K2) (ao : Option Addr) (ac : Nat) (A : List ByteArray) (bo : Option Addr) (bc : Nat) (B : List ByteArray) (xo : Option Addr) (xc : Nat) (D : List ByteArray) (g mc : Nat) (M : List K2) (W : World) : Prop where
  bel : Below w.heap.size w W
  ws : w.heap.size ≤ s0
  sW : s0 ≤ W.heap.size
  pl : ps ≠ [] → ∀ b off, po = some ⟨b, off, none⟩ → b < w.heap.size
  pq : Q.Ints po ps W
  ra : S.RowI w.heap.size ao ac A W
  rb : S.RowI w.heap.size bo bc B W
  rd : S.RowI w.heap.size xo xc D W
  mn : Q.RowI w.heap.size (some ⟨g, 0, none⟩) mc M W
  la : ∀ b, S.At ao b → b < s0
  lb : ∀ b, S.At bo b → b < s0
  ld : ∀ b, S.At xo b → b < s0
  lg : g < s0
  gd : ¬ S.At xo g
theorem Bs.turn {w : World} {s0 : Nat} {po : Option Addr} {ps : List K2} {ao : Option Addr} {ac : Nat} {A : List ByteArray} {bo : Option Addr} {bc : Nat} {B : List ByteArray} {xo : Option Addr} {xc : Nat} {D : List ByteArray} {g mc : Nat} {M : List K2} {W W' : World} {T : Nat → Prop} (h : Bs w s0 po ps ao ac A bo bc B xo xc D g mc M W) (t : Turn T W W') (hT : ∀ j, T j → s0 ≤ j) : Bs w s0 po ps ao ac A bo bc B xo xc D g mc M W' :=
  ⟨h.bel.trans (_root_.Go.Proofs.Ytmdkgiglibfihaa.W.below3 t (fun j q => Nat.le_trans h.ws (hT j q)) h.bel.size), h.ws, Nat.le_trans h.sW t.size, h.pl, h.pq.turn t (fun hn b off e q => by have := h.pl hn b off e; have := hT b q; have := h.ws; omega), h.ra.turn t (fun j q r => by have := h.la j q; have := hT j r; omega), h.rb.turn t (fun j q r => by have := h.lb j q; have := hT j r; omega), h.rd.turn t (fun j q r => by have := h.ld j q; have := hT j r; omega), h.mn.turn t (fun j q r => by obtain ⟨a, e, rfl⟩ := q; cases e; have := h.lg; have := hT _ r; simp at this; omega), h.la, h.lb, h.ld, h.lg, h.gd⟩
theorem Bs.below {w : World} {s0 : Nat} {po : Option Addr} {ps : List K2} {ao : Option Addr} {ac : Nat} {A : List ByteArray} {bo : Option Addr} {bc : Nat} {B : List ByteArray} {xo : Option Addr} {xc : Nat} {D : List ByteArray} {g mc : Nat} {M : List K2} {W W' : World} (h : Bs w s0 po ps ao ac A bo bc B xo xc D g mc M W) (b : Below W.heap.size W W') : Bs w s0 po ps ao ac A bo bc B xo xc D g mc M W' := h.turn (turn_below (S := fun _ => False) b) (fun _ q => q.elim)
/-- six lists and what they must be, built -/
def C6 (A B : List ByteArray) (i : Nat) : List ByteArray := if i = 2 ∨ i = 3 then B else A
theorem cellA (v : World) (arr : Array Value) (t : TypeId) (i : Nat) (u : Value) (h : arr[i]? = some u) : (v.alloc (.cells arr t)).cell? ⟨v.heap.size, i, none⟩ = some u := by rw [Lib.cell_of_heap (heap_alloc_new v _)]; exact h
theorem ball2 (v : World) (X Y : Obj) : Below v.heap.size v ((v.alloc X).alloc Y) := ((Below.refl _ _).alloc (Nat.le_refl _) _).alloc (by simp) _
theorem Rs.ge {s0 : Nat} {us : List A2} {C : Nat → List ByteArray} {w : World} (h : Rs s0 us C w) : ∀ j, Ls us j → s0 ≤ j ∧ j < w.heap.size := fun j ⟨i, a, q, r⟩ => (h.each i a q).lt j r
theorem six_gt {s0 na nb : Nat} {A B : List ByteArray} {v : World} {o0 o1 o2 o3 o4 o5 : Option Addr} {c0 c1 c2 c3 c4 c5 : Nat} (h : Rs s0 [(o0, c0), (o1, c1), (o2, c2), (o3, c3), (o4, c4), (o5, c5)] (C6 A B) v) (hA : A.length = na) (hB : B.length = nb) (Y : Obj) :
    Gt v.heap.size [(o0, c0), (o1, c1), (o2, c2), (o3, c3), (o4, c4), (o5, c5)] (C6 A B) ((v.alloc (.cells #[.slice o0 na c0, .slice o1 na c1, .slice o2 nb c2, .slice o3 nb c3, .slice o4 na c4, .slice o5 na c5] 23)).alloc Y) := by
  subst hA hB
  have hb := ball2 v (.cells #[.slice o0 A.length c0, .slice o1 A.length c1, .slice o2 B.length c2, .slice o3 B.length c3, .slice o4 A.length c4, .slice o5 A.length c5] 23) Y
  refine ⟨by simp; omega, fun i a q => ?_, fun i a q => ((h.each i a q).below hb).mono (Nat.zero_le _), h.rr, fun i a q r => ?_⟩
  · refine (((Turn.refl (fun _ => False) _).alloc Y).cell (p := ⟨v.heap.size, i, none⟩) (by simp) (fun q => q)).trans (cellA v _ 23 i _ ?_)
    match i, q with
    | 0, q => cases q; rfl
    | 1, q => cases q; rfl
    | 2, q => cases q; rfl
    | 3, q => cases q; rfl
    | 4, q => cases q; rfl
    | 5, q => cases q; rfl
    | i + 6, q => simp at q
  · have := ((h.each i a q).lt _ r).2; omega
theorem six_wt {s0 na nb : Nat} {A B : List ByteArray} {v : World} {us : List A2} {ao bo : Option Addr} {ac bc W0 : Nat} (h : Rs s0 us (C6 A B) v) (hA : A.length = na) (hB : B.length = nb) (X : Obj) (ra : S.RowI W0 ao ac A v) (rb : S.RowI W0 bo bc B v) (la : ∀ b, S.At ao b → b < s0) (lb : ∀ b, S.At bo b → b < s0) :
    Wt (some ⟨v.heap.size + 1, 0, none⟩) ((List.range 6).map (C6 A B)) (Ls us) ((v.alloc X).alloc (.cells #[.slice ao na ac, .slice ao na ac, .slice bo nb bc, .slice bo nb bc, .slice ao na ac, .slice ao na ac] 23)) := by
  subst hA hB
  have hb := ball2 v X (.cells #[.slice ao A.length ac, .slice ao A.length ac, .slice bo B.length bc, .slice bo B.length bc, .slice ao A.length ac, .slice ao A.length ac] 23)
  have z : (v.alloc X).heap.size = v.heap.size + 1 := by simp
  have cel : ∀ i u, (#[Value.slice ao A.length ac, .slice ao A.length ac, .slice bo B.length bc, .slice bo B.length bc, .slice ao A.length ac, .slice ao A.length ac] : Array Value)[i]? = some u → ((v.alloc X).alloc (.cells #[.slice ao A.length ac, .slice ao A.length ac, .slice bo B.length bc, .slice bo B.length bc, .slice ao A.length ac, .slice ao A.length ac] 23)).cell? ⟨v.heap.size + 1, 0 + i, none⟩ = some u := fun i u q => by
    have := cellA (v.alloc X) _ 23 i u q
    rw [z] at this
    rw [Nat.zero_add]; exact this
  have fA := (ra.below hb)
  have fB := (rb.below hb)
  have pa : A ≠ [] → ∀ b off, ao = some ⟨b, off, none⟩ → ¬ Ls us b ∧ b < ((v.alloc X).alloc (.cells #[.slice ao A.length ac, .slice ao A.length ac, .slice bo B.length bc, .slice bo B.length bc, .slice ao A.length ac, .slice ao A.length ac] 23)).heap.size := fun _ b off e => ⟨fun q => by have := (h.ge b q).1; have := la b ⟨_, e, rfl⟩; omega, (fA.lt b ⟨_, e, rfl⟩).2⟩
  have pb : B ≠ [] → ∀ b off, bo = some ⟨b, off, none⟩ → ¬ Ls us b ∧ b < ((v.alloc X).alloc (.cells #[.slice ao A.length ac, .slice ao A.length ac, .slice bo B.length bc, .slice bo B.length bc, .slice ao A.length ac, .slice ao A.length ac] 23)).heap.size := fun _ b off e => ⟨fun q => by have := (h.ge b q).1; have := lb b ⟨_, e, rfl⟩; omega, (fB.lt b ⟨_, e, rfl⟩).2⟩
  refine .inr ⟨v.heap.size + 1, 0, rfl, by simp, fun q => by have := (h.ge _ q).2; omega, fun i l q => ?_⟩
  match i, q with
  | 0, q => cases q; exact ⟨ao, ac, cel 0 _ rfl, fA.cap, fA.ints, pa⟩
  | 1, q => cases q; exact ⟨ao, ac, cel 1 _ rfl, fA.cap, fA.ints, pa⟩
  | 2, q => cases q; exact ⟨bo, bc, cel 2 _ rfl, fB.cap, fB.ints, pb⟩
  | 3, q => cases q; exact ⟨bo, bc, cel 3 _ rfl, fB.cap, fB.ints, pb⟩
  | 4, q => cases q; exact ⟨ao, ac, cel 4 _ rfl, fA.cap, fA.ints, pa⟩
  | 5, q => cases q; exact ⟨ao, ac, cel 5 _ rfl, fA.cap, fA.ints, pa⟩
  | i + 6, q => simp [List.getElem?_range] at q
/-- the turned pairs written over the first k -/
def ov (ps : List K2) (k : Nat) : List K2 := (tn ps).take k ++ ps.drop k ++ List.replicate 24 sp
theorem ov_zero (ps : List K2) : ov ps 0 = ps ++ List.replicate 24 sp := by simp [ov]
theorem ov_step {ps : List K2} {k : Nat} {p : K2} (h : (tn ps)[k]? = some p) : (ov ps k).set k p = ov ps (k + 1) := by
  have hk : k < (tn ps).length := (List.getElem?_eq_some_iff.1 h).1
  have hk' : k < ps.length := by rw [tn_len] at hk; exact hk
  unfold ov
  have e1 : ((tn ps).take k).length = k := by simp; omega
  rw [List.append_assoc, List.set_append_right _ _ (by omega), e1, Nat.sub_self, List.drop_eq_getElem_cons hk', List.cons_append, List.set_cons_zero, List.take_add_one, h]
  simp
theorem ov_full (ps : List K2) : ov ps ps.length = tn ps ++ List.replicate 24 sp := by
  unfold ov
  rw [List.take_of_length_le (by rw [tn_len]; exact Nat.le_refl _), List.drop_length, List.append_nil]
theorem Qleft {g : Nat} {xs ys : List K2} {w : World} (h : Q.Ints (some ⟨g, 0, none⟩) (xs ++ ys) w) : Q.Ints (some ⟨g, 0, none⟩) xs w := by
  rcases h with h | ⟨b, off, e, h1, h2⟩
  · exact .inl (List.append_eq_nil_iff.1 h).1
  · exact .inr ⟨b, off, e, h1, fun i k q => h2 i k (by rw [List.getElem?_append_left (List.getElem?_eq_some_iff.1 q).1]; exact q)⟩
theorem cells2 {B : Nat} {g cap : Nat} {zs : List K2} {w : World} (h : Q.RowI B (some ⟨g, 0, none⟩) cap zs w) {i : Nat} {z : K2} (hz : zs[i]? = some z) (v : Value) : w.cell? ⟨g, i * 2, none⟩ = some (.string z.1) ∧ w.cell? ⟨g, i * 2 + 1, none⟩ = some (.string z.2) ∧ (w.setCell ⟨g, i * 2, none⟩ v).cell? ⟨g, i * 2 + 1, none⟩ = some (.string z.2) ∧ (w.setCell ⟨g, i * 2, none⟩ v).frozen? ⟨g, i * 2 + 1, none⟩ = false := by
  obtain ⟨g', e, ⟨d1, d2⟩, _⟩ := Q.row_at h hz
  cases e
  rcases h.2 with ⟨hv, h0⟩ | ⟨g', cap', cur, hv, hb, hg, _⟩
  · cases hv
  simp only [Value.slice.injEq, Option.some.injEq] at hv
  obtain ⟨he, _⟩ := hv
  cases he
  have hg2 : (w.setCell ⟨g, i * 2, none⟩ v).heap[g]? = some (.cells (cur.setIfInBounds (i * 2) v) 31) := by simp [World.setCell, Array.getElem?_modify, hg]
  refine ⟨d1, d2, ?_, Lib.frozen_of_heap hg2 _⟩
  rw [Lib.cell_of_heap hg2, Array.getElem?_setIfInBounds_ne (by omega), ← Lib.cell_of_heap hg]
  exact d2
end L
end Go.Proofs.Ytmdkgiglibfihaa
