import Derived.Test.YtjhnlmedmpcgoaaOwm
set_option linter.unusedVariables false
set_option linter.unusedSimpArgs false
namespace Go.Proofs.Ytjhnlmedmpcgoaa
open Go.RowKit
namespace Q
open C (Tk)
/-- where a row lies -/
structure Sl where
  a : Option Addr
  c : Nat
def Sl.v (r : Sl) (n : Nat) : Value := .slice r.a n r.c
/-- a machine: is it one of ours, its number, its block, its moments -/
structure Mr where
  o : Bool
  n : Int
  b : Nat
  ts : List Int
def ptr (b : Nat) : Value := .pointer (some ⟨b, 0, none⟩)
def Mr.pc (m : Mr) : Value := if m.o then .pointer none else ptr m.b
def Mr.po (m : Mr) : Value := if m.o then ptr m.b else .pointer none
def Mr.vi (m : Mr) : Nat × Value := if m.o then (76, ptr m.b) else (24, ptr m.b)
def Mr.nx (m : Mr) (v : Int) : List Int := if m.o then m.ts ++ [v] else C.stp m.n m.ts v
def Mr.up (m : Mr) (v : Int) : Mr := { m with ts := m.nx v }
def Mr.fin (m : Mr) (v : Int) : Bool := W.fn m.n (m.nx v).length
/-- a machine of the program's, and one of the document's -/
def Pm (D : Nat → Prop) (B : Nat) (m : Mr) (w : World) : Prop := (m.o = true ∧ W.Ct D B m.b m.n m.ts w) ∨ (m.o = false ∧ C.Ct D B m.b m.n m.ts w ∧ 1 ≤ m.n ∧ (m.ts.length : Int) ≤ m.n)
def Dm (D : Nat → Prop) (B : Nat) (m : Mr) (w : World) : Prop := (m.o = true ∧ N.Ct D B m.b m.n m.ts w) ∨ (m.o = false ∧ R.Ct D B m.b m.n m.ts w ∧ 1 ≤ m.n ∧ (m.ts.length : Int) ≤ m.n)
/-- of which kind a block is -/
def Kd (w : World) (j t : Nat) : Prop := ∃ cs r, w.heap[j]? = some (.cells cs t r)
theorem Kd.det {w : World} {j t t' : Nat} (h : Kd w j t) (h' : Kd w j t') : t = t' := by
  obtain ⟨_, _, h⟩ := h
  obtain ⟨_, _, h'⟩ := h'
  rw [h] at h'
  cases h'
  rfl
variable {D U : Nat → Prop} {B : Nat} {m : Mr} {w w' : World}
theorem Pm.lo (h : Pm D B m w) {j : Nat} (hj : D j) : B ≤ j ∧ j < w.heap.size := by
  rcases h with ⟨_, h⟩ | ⟨_, h, _⟩
  · exact h.lo hj
  · exact h.lo hj
theorem Dm.lo (h : Dm D B m w) {j : Nat} (hj : D j) : B ≤ j ∧ j < w.heap.size := by
  rcases h with ⟨_, h⟩ | ⟨_, h, _⟩
  · exact h.lo hj
  · exact h.lo hj
theorem Pm.kept (h : Pm D B m w) (t : Turn U w w') (hn : ∀ j, D j → ¬ U j) : Pm D B m w' := by
  rcases h with ⟨e, h⟩ | ⟨e, h, h1, h2⟩
  · exact .inl ⟨e, h.kept t hn⟩
  · exact .inr ⟨e, h.kept t hn, h1, h2⟩
theorem Dm.kept (h : Dm D B m w) (t : Turn U w w') (hn : ∀ j, D j → ¬ U j) : Dm D B m w' := by
  rcases h with ⟨e, h⟩ | ⟨e, h, h1, h2⟩
  · exact .inl ⟨e, h.kept t hn⟩
  · exact .inr ⟨e, h.kept t hn, h1, h2⟩
theorem Pm.kind (h : Pm D B m w) {j : Nat} (hj : D j) : ∃ t, Kd w j t ∧ (t = 72 ∨ t = 78 ∨ t = 3) := by
  rcases h with ⟨_, h⟩ | ⟨_, h, _⟩
  · obtain ⟨cs, t, r, h1, h2⟩ := h.kind hj
    exact ⟨t, ⟨cs, r, h1⟩, by rcases h2 with h2 | h2 <;> simp [h2]⟩
  · obtain ⟨cs, t, r, h1, h2⟩ := h.kind hj
    exact ⟨t, ⟨cs, r, h1⟩, by rcases h2 with h2 | h2 <;> simp [h2]⟩
theorem Dm.kind (h : Dm D B m w) {j : Nat} (hj : D j) : ∃ t, Kd w j t ∧ (t = 33 ∨ t = 3) := by
  rcases h with ⟨_, h⟩ | ⟨_, h, _⟩
  · obtain ⟨cs, t, r, h1, h2⟩ := h.kind hj
    exact ⟨t, ⟨cs, r, h1⟩, by rcases h2 with h2 | h2 <;> simp [h2]⟩
  · obtain ⟨cs, t, r, h1, h2⟩ := h.kind hj
    exact ⟨t, ⟨cs, r, h1⟩, by rcases h2 with h2 | h2 <;> simp [h2]⟩
theorem row_kd {e k n : Nat} {r : Sl} {xs : List Value} (h : w.ownsRow B e k (r.v n) n xs) {j : Nat} (hj : At r.a j) : Kd w j e ∧ B ≤ j ∧ j < w.heap.size := by
  obtain ⟨a, ha, rfl⟩ := hj
  rcases h.2 with ⟨hv, _⟩ | ⟨g', cap', cur, hv, hb, hg', _⟩
  · unfold Sl.v at hv
    rw [ha] at hv
    cases hv
  · unfold Sl.v at hv
    rw [ha] at hv
    simp only [Value.slice.injEq, Option.some.injEq] at hv
    obtain ⟨rfl, _, _⟩ := hv
    exact ⟨⟨_, _, hg'⟩, hb, lt_of_heap hg'⟩
def tkd (x : Nat × Int) : List Value := [.int .i64 (x.1 : Nat), .int .i64 x.2]
/-- a table's state -/
structure Sq where
  t : Nat
  b : Nat
  MP : List Mr
  MD : List Mr
  vm : List Value
  vc : List Value
  vo : List Value
  L : List Tk
  now : Nat
  T : List (Nat × Int)
  dn : Nat
  rm : Sl
  rt : Sl
  rc : Sl
  ro : Sl
def Sq.cs (s : Sq) : Array Value := #[ptr s.b, s.rm.v s.vm.length, s.rt.v s.T.length, .int .i64 (s.dn : Nat), s.rc.v s.vc.length, s.ro.v s.vo.length]
/-- A TABLE -/
structure Tb (B : Nat) (s : Sq) (Db : Nat → Prop) (P E : Nat → Nat → Prop) (w : World) : Prop where
  ht : w.heap[s.t]? = some (.cells s.cs 47 (0, 0))
  bo : C.Bo Db B s.b s.L s.now w
  pm : ∀ i m, s.MP[i]? = some m → Pm (P i) B m w
  dm : ∀ i m, s.MD[i]? = some m → Dm (E i) B m w
  hm : w.ownsRow B 26 1 (s.rm.v s.vm.length) s.vm.length s.vm
  hT : w.ownsRow B 95 2 (s.rt.v s.T.length) s.T.length (s.T.flatMap tkd)
  hc : w.ownsRow B 24 1 (s.rc.v s.vc.length) s.vc.length s.vc
  ho : w.ownsRow B 76 1 (s.ro.v s.vo.length) s.vo.length s.vo
  pp : ∀ i j, i < s.MP.length → j < s.MP.length → i ≠ j → ∀ k, P i k → ¬ P j k
  ee : ∀ i j, i < s.MD.length → j < s.MD.length → i ≠ j → ∀ k, E i k → ¬ E j k
  pe : ∀ i j, i < s.MP.length → j < s.MD.length → ∀ k, P i k → ¬ E j k
  lo : B ≤ s.t
/-- the blocks that are its own -/
def Sb (s : Sq) (Db : Nat → Prop) (P E : Nat → Nat → Prop) (j : Nat) : Prop := j = s.t ∨ Db j ∨ (∃ i, i < s.MP.length ∧ P i j) ∨ (∃ i, i < s.MD.length ∧ E i j) ∨ At s.rm.a j ∨ At s.rt.a j ∨ At s.rc.a j ∨ At s.ro.a j
variable {s : Sq} {Db : Nat → Prop} {P E : Nat → Nat → Prop}
theorem Tb.kt (h : Tb B s Db P E w) : Kd w s.t 47 := ⟨_, _, h.ht⟩
theorem Tb.kb (h : Tb B s Db P E w) {j : Nat} (hj : Db j) : ∃ t, Kd w j t ∧ (t = 75 ∨ t = 91) := by
  obtain ⟨cs, t, r, h1, h2⟩ := h.bo.kind hj
  exact ⟨t, ⟨cs, r, h1⟩, h2⟩
theorem Tb.kp (h : Tb B s Db P E w) {i j : Nat} (hi : i < s.MP.length) (hj : P i j) : ∃ t, Kd w j t ∧ (t = 72 ∨ t = 78 ∨ t = 3) := (h.pm i _ (List.getElem?_eq_getElem hi)).kind hj
theorem Tb.ke (h : Tb B s Db P E w) {i j : Nat} (hi : i < s.MD.length) (hj : E i j) : ∃ t, Kd w j t ∧ (t = 33 ∨ t = 3) := (h.dm i _ (List.getElem?_eq_getElem hi)).kind hj
theorem Tb.lt (h : Tb B s Db P E w) : s.t < w.heap.size := lt_of_heap h.ht
theorem Tb.bnd (h : Tb B s Db P E w) {j : Nat} (hj : Sb s Db P E j) : B ≤ j ∧ j < w.heap.size := by
  rcases hj with rfl | hj | ⟨i, hi, hj⟩ | ⟨i, hi, hj⟩ | hj | hj | hj | hj
  · exact ⟨h.lo, h.lt⟩
  · exact h.bo.lo hj
  · exact (h.pm i _ (List.getElem?_eq_getElem hi)).lo hj
  · exact (h.dm i _ (List.getElem?_eq_getElem hi)).lo hj
  · exact (row_kd h.hm hj).2
  · exact (row_kd h.hT hj).2
  · exact (row_kd h.hc hj).2
  · exact (row_kd h.ho hj).2
theorem idx {α : Type} {l : List α} {i : Nat} {m : α} (h : l[i]? = some m) : i < l.length := (List.getElem?_eq_some_iff.1 h).1
theorem Tb.kept (h : Tb B s Db P E w) (t : Turn U w w') (hn : ∀ j, Sb s Db P E j → ¬ U j) : Tb B s Db P E w' :=
  ⟨(t.block _ h.lt (hn _ (.inl rfl))).trans h.ht, h.bo.kept t (fun j q => hn j (.inr (.inl q))),
    fun i m e => (h.pm i m e).kept t (fun j q => hn j (.inr (.inr (.inl ⟨i, idx e, q⟩)))),
    fun i m e => (h.dm i m e).kept t (fun j q => hn j (.inr (.inr (.inr (.inl ⟨i, idx e, q⟩))))),
    t.row h.hm (fun j q => hn j (.inr (.inr (.inr (.inr (.inl (own_at q))))))),
    t.row h.hT (fun j q => hn j (.inr (.inr (.inr (.inr (.inr (.inl (own_at q)))))))),
    t.row h.hc (fun j q => hn j (.inr (.inr (.inr (.inr (.inr (.inr (.inl (own_at q))))))))),
    t.row h.ho (fun j q => hn j (.inr (.inr (.inr (.inr (.inr (.inr (.inr (own_at q))))))))), h.pp, h.ee, h.pe, h.lo⟩
theorem Tb.below (h : Tb B s Db P E w) (b : Below w.heap.size w w') : Tb B s Db P E w' := h.kept (turn_below (S := fun _ => False) b) (fun _ _ q => q)
/-- what a call leaves -/
def To (B : Nat) (s' : Sq) (U : Nat → Prop) (w w' : World) : Prop := ∃ Db P E, Tb B s' Db P E w' ∧ Turn U w w' ∧ ∀ j, Sb s' Db P E j → U j ∨ w.heap.size ≤ j
theorem Tb.same (h : Tb B s Db P E w) (b : Below w.heap.size w w') : To B s (Sb s Db P E) w w' := ⟨Db, P, E, h.below b, turn_below b, fun j q => .inl q⟩
theorem To.trans {s1 s2 : Sq} {w1 w2 : World} (h1 : To B s1 U w w1) (h2 : ∀ Db P E, Tb B s1 Db P E w1 → To B s2 (Sb s1 Db P E) w1 w2) : To B s2 U w w2 := by
  obtain ⟨Db, P, E, a, b, c⟩ := h1
  obtain ⟨Db', P', E', a', b', c'⟩ := h2 Db P E a
  refine ⟨Db', P', E', a', b.then b' (fun j hj q => (c j q).elim id (fun z => by omega)), fun j q => ?_⟩
  rcases c' j q with q | q
  · exact c j q
  · exact .inr (Nat.le_trans b.size q)
theorem Turn.then' {S S' : Nat → Prop} {a b c : World} (h : Turn S a b) (k : Turn S' b c) (hS : ∀ i, i < a.heap.size → S' i → S i) : Turn S a c := h.then k hS
theorem Tb.c (h : Tb B s Db P E w) (j : Nat) : w.cell? ⟨s.t, j, none⟩ = s.cs[j]? := by rw [Lib.cell_of_heap h.ht]
theorem Tb.fx (h : Tb B s Db P E w) (j : Nat) : w.frozen? ⟨s.t, j, none⟩ = false := Lib.frozen_of_heap h.ht j
/-- a row more in vm -/
theorem Tb.growM {x : Value} {gg cap' : Nat} {w0 w1 : World} (h : Tb B s Db P E w) (b0 : Below w.heap.size w w0) (r1 : w1.ownsRow B 26 1 (.slice (some ⟨gg, 0, none⟩) (s.vm.length + 1) cap') (s.vm.length + 1) (s.vm ++ [x])) (t1 : Turn (At s.rm.a) w0 w1) (hg : At s.rm.a gg ∨ w0.heap.size ≤ gg) :
    To B { s with vm := s.vm ++ [x], rm := ⟨some ⟨gg, 0, none⟩, cap'⟩ } (Sb s Db P E) w (w1.setCell ⟨s.t, 1, none⟩ (.slice (some ⟨gg, 0, none⟩) (s.vm.length + 1) cap')) := by
  have t0 : Turn (At s.rm.a) w w1 := (turn_below b0).trans t1
  have hg' : At s.rm.a gg ∨ w.heap.size ≤ gg := hg.imp id (Nat.le_trans b0.size)
  have kr : ∀ j, At s.rm.a j → Kd w j 26 := fun j q => (row_kd h.hm q).1
  have hne : gg ≠ s.t := by
    rcases hg' with q | q
    · intro z; have := (kr gg q).det (z ▸ h.kt); omega
    · have := h.lt; omega
  have nt : ∀ (j t : Nat), Kd w j t → t ≠ 26 → t ≠ 47 → ¬ (At s.rm.a j ∨ j = s.t) := by
    rintro j t k n1 n2 (q | rfl)
    · exact n1 (k.det (kr j q))
    · exact n2 (k.det h.kt)
  have t2 : Turn (fun k => k = s.t) w1 (w1.setCell ⟨s.t, 1, none⟩ (.slice (some ⟨gg, 0, none⟩) (s.vm.length + 1) cap')) := (Turn.refl (fun k => k = s.t) w1).setCell (p := ⟨s.t, 1, none⟩) (fun _ => rfl) _
  have T : Turn (fun j => At s.rm.a j ∨ j = s.t) w (w1.setCell ⟨s.t, 1, none⟩ (.slice (some ⟨gg, 0, none⟩) (s.vm.length + 1) cap')) := (t0.mono (fun j _ q => .inl q)).trans (t2.mono (fun j _ q => .inr q))
  have ht1 := (t0.block s.t h.lt (fun q => by have := (kr _ q).det h.kt; omega)).trans h.ht
  refine ⟨Db, P, E, ⟨?_, h.bo.kept T (fun j q => ?_), fun i m e => (h.pm i m e).kept T (fun j q => ?_), fun i m e => (h.dm i m e).kept T (fun j q => ?_), ?_, T.row h.hT (fun j q => nt j 95 (row_kd h.hT (own_at q)).1 (by omega) (by omega)), T.row h.hc (fun j q => nt j 24 (row_kd h.hc (own_at q)).1 (by omega) (by omega)), T.row h.ho (fun j q => nt j 76 (row_kd h.ho (own_at q)).1 (by omega) (by omega)), h.pp, h.ee, h.pe, h.lo⟩, T.mono (fun j _ q => ?_), fun j q => ?_⟩
  · rw [set_block ht1]
    simp [Sq.cs, Sl.v]
  · obtain ⟨t, k, z⟩ := h.kb q
    exact nt j t k (by omega) (by omega)
  · obtain ⟨t, k, z⟩ := (h.pm i m e).kind q
    exact nt j t k (by omega) (by omega)
  · obtain ⟨t, k, z⟩ := (h.dm i m e).kind q
    exact nt j t k (by omega) (by omega)
  · have := t2.row r1 (fun j hj z => by
      have : gg = j := by simpa [Value.ownBlock] using hj
      omega)
    simpa [Sl.v, List.flatMap_append] using this
  · rcases q with q | q
    · exact .inr (.inr (.inr (.inr (.inl q))))
    · exact .inl q
  · rcases q with q | q | q | q | q | q | q | q
    · exact .inl (.inl q)
    · exact .inl (.inr (.inl q))
    · exact .inl (.inr (.inr (.inl q)))
    · exact .inl (.inr (.inr (.inr (.inl q))))
    · obtain ⟨a, ha, rfl⟩ := q
      cases ha
      rcases hg' with q2 | q2
      · exact .inl (.inr (.inr (.inr (.inr (.inl q2)))))
      · exact .inr q2
    · exact .inl (.inr (.inr (.inr (.inr (.inr (.inl q))))))
    · exact .inl (.inr (.inr (.inr (.inr (.inr (.inr (.inl q)))))))
    · exact .inl (.inr (.inr (.inr (.inr (.inr (.inr (.inr (q))))))))
/-- a row more in T -/
theorem Tb.growT {x : Nat × Int} {gg cap' : Nat} {w0 w1 : World} (h : Tb B s Db P E w) (b0 : Below w.heap.size w w0) (r1 : w1.ownsRow B 95 2 (.slice (some ⟨gg, 0, none⟩) (s.T.length + 1) cap') (s.T.length + 1) (s.T.flatMap tkd ++ tkd x)) (t1 : Turn (At s.rt.a) w0 w1) (hg : At s.rt.a gg ∨ w0.heap.size ≤ gg) :
    To B { s with T := s.T ++ [x], rt := ⟨some ⟨gg, 0, none⟩, cap'⟩ } (Sb s Db P E) w (w1.setCell ⟨s.t, 2, none⟩ (.slice (some ⟨gg, 0, none⟩) (s.T.length + 1) cap')) := by
  have t0 : Turn (At s.rt.a) w w1 := (turn_below b0).trans t1
  have hg' : At s.rt.a gg ∨ w.heap.size ≤ gg := hg.imp id (Nat.le_trans b0.size)
  have kr : ∀ j, At s.rt.a j → Kd w j 95 := fun j q => (row_kd h.hT q).1
  have hne : gg ≠ s.t := by
    rcases hg' with q | q
    · intro z; have := (kr gg q).det (z ▸ h.kt); omega
    · have := h.lt; omega
  have nt : ∀ (j t : Nat), Kd w j t → t ≠ 95 → t ≠ 47 → ¬ (At s.rt.a j ∨ j = s.t) := by
    rintro j t k n1 n2 (q | rfl)
    · exact n1 (k.det (kr j q))
    · exact n2 (k.det h.kt)
  have t2 : Turn (fun k => k = s.t) w1 (w1.setCell ⟨s.t, 2, none⟩ (.slice (some ⟨gg, 0, none⟩) (s.T.length + 1) cap')) := (Turn.refl (fun k => k = s.t) w1).setCell (p := ⟨s.t, 2, none⟩) (fun _ => rfl) _
  have T : Turn (fun j => At s.rt.a j ∨ j = s.t) w (w1.setCell ⟨s.t, 2, none⟩ (.slice (some ⟨gg, 0, none⟩) (s.T.length + 1) cap')) := (t0.mono (fun j _ q => .inl q)).trans (t2.mono (fun j _ q => .inr q))
  have ht1 := (t0.block s.t h.lt (fun q => by have := (kr _ q).det h.kt; omega)).trans h.ht
  refine ⟨Db, P, E, ⟨?_, h.bo.kept T (fun j q => ?_), fun i m e => (h.pm i m e).kept T (fun j q => ?_), fun i m e => (h.dm i m e).kept T (fun j q => ?_), T.row h.hm (fun j q => nt j 26 (row_kd h.hm (own_at q)).1 (by omega) (by omega)), ?_, T.row h.hc (fun j q => nt j 24 (row_kd h.hc (own_at q)).1 (by omega) (by omega)), T.row h.ho (fun j q => nt j 76 (row_kd h.ho (own_at q)).1 (by omega) (by omega)), h.pp, h.ee, h.pe, h.lo⟩, T.mono (fun j _ q => ?_), fun j q => ?_⟩
  · rw [set_block ht1]
    simp [Sq.cs, Sl.v]
  · obtain ⟨t, k, z⟩ := h.kb q
    exact nt j t k (by omega) (by omega)
  · obtain ⟨t, k, z⟩ := (h.pm i m e).kind q
    exact nt j t k (by omega) (by omega)
  · obtain ⟨t, k, z⟩ := (h.dm i m e).kind q
    exact nt j t k (by omega) (by omega)
  · have := t2.row r1 (fun j hj z => by
      have : gg = j := by simpa [Value.ownBlock] using hj
      omega)
    simpa [Sl.v, List.flatMap_append] using this
  · rcases q with q | q
    · exact .inr (.inr (.inr (.inr (.inr (.inl q)))))
    · exact .inl q
  · rcases q with q | q | q | q | q | q | q | q
    · exact .inl (.inl q)
    · exact .inl (.inr (.inl q))
    · exact .inl (.inr (.inr (.inl q)))
    · exact .inl (.inr (.inr (.inr (.inl q))))
    · exact .inl (.inr (.inr (.inr (.inr (.inl q)))))
    · obtain ⟨a, ha, rfl⟩ := q
      cases ha
      rcases hg' with q2 | q2
      · exact .inl (.inr (.inr (.inr (.inr (.inr (.inl q2))))))
      · exact .inr q2
    · exact .inl (.inr (.inr (.inr (.inr (.inr (.inr (.inl q)))))))
    · exact .inl (.inr (.inr (.inr (.inr (.inr (.inr (.inr (q))))))))
/-- a row more in vc -/
theorem Tb.growC {x : Value} {gg cap' : Nat} {w0 w1 : World} (h : Tb B s Db P E w) (b0 : Below w.heap.size w w0) (r1 : w1.ownsRow B 24 1 (.slice (some ⟨gg, 0, none⟩) (s.vc.length + 1) cap') (s.vc.length + 1) (s.vc ++ [x])) (t1 : Turn (At s.rc.a) w0 w1) (hg : At s.rc.a gg ∨ w0.heap.size ≤ gg) :
    To B { s with vc := s.vc ++ [x], rc := ⟨some ⟨gg, 0, none⟩, cap'⟩ } (Sb s Db P E) w (w1.setCell ⟨s.t, 4, none⟩ (.slice (some ⟨gg, 0, none⟩) (s.vc.length + 1) cap')) := by
  have t0 : Turn (At s.rc.a) w w1 := (turn_below b0).trans t1
  have hg' : At s.rc.a gg ∨ w.heap.size ≤ gg := hg.imp id (Nat.le_trans b0.size)
  have kr : ∀ j, At s.rc.a j → Kd w j 24 := fun j q => (row_kd h.hc q).1
  have hne : gg ≠ s.t := by
    rcases hg' with q | q
    · intro z; have := (kr gg q).det (z ▸ h.kt); omega
    · have := h.lt; omega
  have nt : ∀ (j t : Nat), Kd w j t → t ≠ 24 → t ≠ 47 → ¬ (At s.rc.a j ∨ j = s.t) := by
    rintro j t k n1 n2 (q | rfl)
    · exact n1 (k.det (kr j q))
    · exact n2 (k.det h.kt)
  have t2 : Turn (fun k => k = s.t) w1 (w1.setCell ⟨s.t, 4, none⟩ (.slice (some ⟨gg, 0, none⟩) (s.vc.length + 1) cap')) := (Turn.refl (fun k => k = s.t) w1).setCell (p := ⟨s.t, 4, none⟩) (fun _ => rfl) _
  have T : Turn (fun j => At s.rc.a j ∨ j = s.t) w (w1.setCell ⟨s.t, 4, none⟩ (.slice (some ⟨gg, 0, none⟩) (s.vc.length + 1) cap')) := (t0.mono (fun j _ q => .inl q)).trans (t2.mono (fun j _ q => .inr q))
  have ht1 := (t0.block s.t h.lt (fun q => by have := (kr _ q).det h.kt; omega)).trans h.ht
  refine ⟨Db, P, E, ⟨?_, h.bo.kept T (fun j q => ?_), fun i m e => (h.pm i m e).kept T (fun j q => ?_), fun i m e => (h.dm i m e).kept T (fun j q => ?_), T.row h.hm (fun j q => nt j 26 (row_kd h.hm (own_at q)).1 (by omega) (by omega)), T.row h.hT (fun j q => nt j 95 (row_kd h.hT (own_at q)).1 (by omega) (by omega)), ?_, T.row h.ho (fun j q => nt j 76 (row_kd h.ho (own_at q)).1 (by omega) (by omega)), h.pp, h.ee, h.pe, h.lo⟩, T.mono (fun j _ q => ?_), fun j q => ?_⟩
  · rw [set_block ht1]
    simp [Sq.cs, Sl.v]
  · obtain ⟨t, k, z⟩ := h.kb q
    exact nt j t k (by omega) (by omega)
  · obtain ⟨t, k, z⟩ := (h.pm i m e).kind q
    exact nt j t k (by omega) (by omega)
  · obtain ⟨t, k, z⟩ := (h.dm i m e).kind q
    exact nt j t k (by omega) (by omega)
  · have := t2.row r1 (fun j hj z => by
      have : gg = j := by simpa [Value.ownBlock] using hj
      omega)
    simpa [Sl.v, List.flatMap_append] using this
  · rcases q with q | q
    · exact .inr (.inr (.inr (.inr (.inr (.inr (.inl q))))))
    · exact .inl q
  · rcases q with q | q | q | q | q | q | q | q
    · exact .inl (.inl q)
    · exact .inl (.inr (.inl q))
    · exact .inl (.inr (.inr (.inl q)))
    · exact .inl (.inr (.inr (.inr (.inl q))))
    · exact .inl (.inr (.inr (.inr (.inr (.inl q)))))
    · exact .inl (.inr (.inr (.inr (.inr (.inr (.inl q))))))
    · obtain ⟨a, ha, rfl⟩ := q
      cases ha
      rcases hg' with q2 | q2
      · exact .inl (.inr (.inr (.inr (.inr (.inr (.inr (.inl q2)))))))
      · exact .inr q2
    · exact .inl (.inr (.inr (.inr (.inr (.inr (.inr (.inr (q))))))))
/-- a row more in vo -/
theorem Tb.growO {x : Value} {gg cap' : Nat} {w0 w1 : World} (h : Tb B s Db P E w) (b0 : Below w.heap.size w w0) (r1 : w1.ownsRow B 76 1 (.slice (some ⟨gg, 0, none⟩) (s.vo.length + 1) cap') (s.vo.length + 1) (s.vo ++ [x])) (t1 : Turn (At s.ro.a) w0 w1) (hg : At s.ro.a gg ∨ w0.heap.size ≤ gg) :
    To B { s with vo := s.vo ++ [x], ro := ⟨some ⟨gg, 0, none⟩, cap'⟩ } (Sb s Db P E) w (w1.setCell ⟨s.t, 5, none⟩ (.slice (some ⟨gg, 0, none⟩) (s.vo.length + 1) cap')) := by
  have t0 : Turn (At s.ro.a) w w1 := (turn_below b0).trans t1
  have hg' : At s.ro.a gg ∨ w.heap.size ≤ gg := hg.imp id (Nat.le_trans b0.size)
  have kr : ∀ j, At s.ro.a j → Kd w j 76 := fun j q => (row_kd h.ho q).1
  have hne : gg ≠ s.t := by
    rcases hg' with q | q
    · intro z; have := (kr gg q).det (z ▸ h.kt); omega
    · have := h.lt; omega
  have nt : ∀ (j t : Nat), Kd w j t → t ≠ 76 → t ≠ 47 → ¬ (At s.ro.a j ∨ j = s.t) := by
    rintro j t k n1 n2 (q | rfl)
    · exact n1 (k.det (kr j q))
    · exact n2 (k.det h.kt)
  have t2 : Turn (fun k => k = s.t) w1 (w1.setCell ⟨s.t, 5, none⟩ (.slice (some ⟨gg, 0, none⟩) (s.vo.length + 1) cap')) := (Turn.refl (fun k => k = s.t) w1).setCell (p := ⟨s.t, 5, none⟩) (fun _ => rfl) _
  have T : Turn (fun j => At s.ro.a j ∨ j = s.t) w (w1.setCell ⟨s.t, 5, none⟩ (.slice (some ⟨gg, 0, none⟩) (s.vo.length + 1) cap')) := (t0.mono (fun j _ q => .inl q)).trans (t2.mono (fun j _ q => .inr q))
  have ht1 := (t0.block s.t h.lt (fun q => by have := (kr _ q).det h.kt; omega)).trans h.ht
  refine ⟨Db, P, E, ⟨?_, h.bo.kept T (fun j q => ?_), fun i m e => (h.pm i m e).kept T (fun j q => ?_), fun i m e => (h.dm i m e).kept T (fun j q => ?_), T.row h.hm (fun j q => nt j 26 (row_kd h.hm (own_at q)).1 (by omega) (by omega)), T.row h.hT (fun j q => nt j 95 (row_kd h.hT (own_at q)).1 (by omega) (by omega)), T.row h.hc (fun j q => nt j 24 (row_kd h.hc (own_at q)).1 (by omega) (by omega)), ?_, h.pp, h.ee, h.pe, h.lo⟩, T.mono (fun j _ q => ?_), fun j q => ?_⟩
  · rw [set_block ht1]
    simp [Sq.cs, Sl.v]
  · obtain ⟨t, k, z⟩ := h.kb q
    exact nt j t k (by omega) (by omega)
  · obtain ⟨t, k, z⟩ := (h.pm i m e).kind q
    exact nt j t k (by omega) (by omega)
  · obtain ⟨t, k, z⟩ := (h.dm i m e).kind q
    exact nt j t k (by omega) (by omega)
  · have := t2.row r1 (fun j hj z => by
      have : gg = j := by simpa [Value.ownBlock] using hj
      omega)
    simpa [Sl.v, List.flatMap_append] using this
  · rcases q with q | q
    · exact .inr (.inr (.inr (.inr (.inr (.inr (.inr (q)))))))
    · exact .inl q
  · rcases q with q | q | q | q | q | q | q | q
    · exact .inl (.inl q)
    · exact .inl (.inr (.inl q))
    · exact .inl (.inr (.inr (.inl q)))
    · exact .inl (.inr (.inr (.inr (.inl q))))
    · exact .inl (.inr (.inr (.inr (.inr (.inl q)))))
    · exact .inl (.inr (.inr (.inr (.inr (.inr (.inl q))))))
    · exact .inl (.inr (.inr (.inr (.inr (.inr (.inr (.inl q)))))))
    · obtain ⟨a, ha, rfl⟩ := q
      cases ha
      rcases hg' with q2 | q2
      · exact .inl (.inr (.inr (.inr (.inr (.inr (.inr (.inr (q2))))))))
      · exact .inr q2
end Q
end Go.Proofs.Ytjhnlmedmpcgoaa
