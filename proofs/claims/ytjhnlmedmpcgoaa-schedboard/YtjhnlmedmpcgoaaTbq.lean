import Derived.Test.YtjhnlmedmpcgoaaPkw
set_option linter.unusedVariables false
set_option linter.unusedSimpArgs false
namespace Go.Proofs.Ytjhnlmedmpcgoaa
open Go.RowKit
namespace Q
open C (Tk)
variable {D U : Nat → Prop} {B : Nat} {m : Mr} {w w' : World} {s : Sq} {Db : Nat → Prop} {P E : Nat → Nat → Prop}
def put (F : Nat → Nat → Prop) (n : Nat) (D : Nat → Prop) : Nat → Nat → Prop := fun i => if i = n then D else F i
theorem put_same (F : Nat → Nat → Prop) (n : Nat) (D : Nat → Prop) : put F n D n = D := if_pos rfl
theorem put_other (F : Nat → Nat → Prop) {n i : Nat} (D : Nat → Prop) (h : i ≠ n) : put F n D i = F i := if_neg h
theorem app_at {α : Type} {l : List α} {x m : α} {i : Nat} (h : (l ++ [x])[i]? = some m) : (i < l.length ∧ l[i]? = some m) ∨ (i = l.length ∧ m = x) := by
  rw [List.getElem?_append] at h
  by_cases q : i < l.length
  · rw [if_pos q] at h; exact .inl ⟨q, h⟩
  · rw [if_neg q] at h
    have := idx h
    simp at this
    have e : i = l.length := by omega
    subst e
    simp at h
    exact .inr ⟨rfl, h.symm⟩
/-- a machine more of the program's -/
theorem Tb.addP (h : Tb B s Db P E w) (b : Below w.heap.size w w') (k : Pm D B m w') (hD : ∀ j, D j → w.heap.size ≤ j) : To B { s with MP := s.MP ++ [m] } (Sb s Db P E) w w' := by
  have h' := h.below b
  refine ⟨Db, put P s.MP.length D, E, ⟨h'.ht, h'.bo, fun i x e => ?_, h'.dm, h'.hm, h'.hT, h'.hc, h'.ho, fun i j hi hj hne k2 => ?_, h'.ee, fun i j hi hj k2 => ?_, h'.lo⟩, turn_below b, fun j q => ?_⟩
  · rcases app_at e with ⟨q, e2⟩ | ⟨rfl, rfl⟩
    · rw [put_other P D (by omega)]; exact h'.pm i x e2
    · rw [put_same]; exact k
  · have hl : (s.MP ++ [m]).length = s.MP.length + 1 := by simp
    rw [hl] at hi hj
    by_cases q1 : i = s.MP.length
    · subst q1
      rw [put_same, put_other P D (by omega)]
      intro z1 z2
      have := ((h.pm j _ (List.getElem?_eq_getElem (by omega))).lo z2).2
      have := hD _ z1
      omega
    · rw [put_other P D q1]
      by_cases q2 : j = s.MP.length
      · subst q2
        rw [put_same]
        intro z1 z2
        have := ((h.pm i _ (List.getElem?_eq_getElem (by omega))).lo z1).2
        have := hD _ z2
        omega
      · rw [put_other P D q2]; exact h.pp i j (by omega) (by omega) hne k2
  · have hl : (s.MP ++ [m]).length = s.MP.length + 1 := by simp
    rw [hl] at hi
    by_cases q1 : i = s.MP.length
    · subst q1
      rw [put_same]
      intro z1 z2
      have := ((h.dm j _ (List.getElem?_eq_getElem hj)).lo z2).2
      have := hD _ z1
      omega
    · rw [put_other P D q1]; exact h.pe i j (by omega) hj k2
  · rcases q with q | q | ⟨i, hi, q⟩ | q
    · exact .inl (.inl q)
    · exact .inl (.inr (.inl q))
    · have hl : (s.MP ++ [m]).length = s.MP.length + 1 := by simp
      rw [hl] at hi
      by_cases q1 : i = s.MP.length
      · subst q1; rw [put_same] at q; exact .inr (hD _ q)
      · rw [put_other P D q1] at q; exact .inl (.inr (.inr (.inl ⟨i, by omega, q⟩)))
    · exact .inl (.inr (.inr (.inr q)))
/-- a machine more of the document's -/
theorem Tb.addD (h : Tb B s Db P E w) (b : Below w.heap.size w w') (k : Dm D B m w') (hD : ∀ j, D j → w.heap.size ≤ j) : To B { s with MD := s.MD ++ [m] } (Sb s Db P E) w w' := by
  have h' := h.below b
  refine ⟨Db, P, put E s.MD.length D, ⟨h'.ht, h'.bo, h'.pm, fun i x e => ?_, h'.hm, h'.hT, h'.hc, h'.ho, h'.pp, fun i j hi hj hne k2 => ?_, fun i j hi hj k2 => ?_, h'.lo⟩, turn_below b, fun j q => ?_⟩
  · rcases app_at e with ⟨q, e2⟩ | ⟨rfl, rfl⟩
    · rw [put_other E D (by omega)]; exact h'.dm i x e2
    · rw [put_same]; exact k
  · have hl : (s.MD ++ [m]).length = s.MD.length + 1 := by simp
    rw [hl] at hi hj
    by_cases q1 : i = s.MD.length
    · subst q1
      rw [put_same, put_other E D (by omega)]
      intro z1 z2
      have := ((h.dm j _ (List.getElem?_eq_getElem (by omega))).lo z2).2
      have := hD _ z1
      omega
    · rw [put_other E D q1]
      by_cases q2 : j = s.MD.length
      · subst q2
        rw [put_same]
        intro z1 z2
        have := ((h.dm i _ (List.getElem?_eq_getElem (by omega))).lo z1).2
        have := hD _ z2
        omega
      · rw [put_other E D q2]; exact h.ee i j (by omega) (by omega) hne k2
  · have hl : (s.MD ++ [m]).length = s.MD.length + 1 := by simp
    rw [hl] at hj
    by_cases q1 : j = s.MD.length
    · subst q1
      rw [put_same]
      intro z1 z2
      have := ((h.pm i _ (List.getElem?_eq_getElem hi)).lo z1).2
      have := hD _ z2
      omega
    · rw [put_other E D q1]; exact h.pe i j hi (by omega) k2
  · rcases q with q | q | q | ⟨i, hi, q⟩ | q
    · exact .inl (.inl q)
    · exact .inl (.inr (.inl q))
    · exact .inl (.inr (.inr (.inl q)))
    · have hl : (s.MD ++ [m]).length = s.MD.length + 1 := by simp
      rw [hl] at hi
      by_cases q1 : i = s.MD.length
      · subst q1; rw [put_same] at q; exact .inr (hD _ q)
      · rw [put_other E D q1] at q; exact .inl (.inr (.inr (.inr (.inl ⟨i, by omega, q⟩))))
    · exact .inl (.inr (.inr (.inr (.inr q))))
/-- the board and one machine turn -/
theorem Tb.turnP {i : Nat} {Db' D' : Nat → Prop} {L' : List Tk} {now' : Nat} (h : Tb B s Db P E w) (hi : i < s.MP.length) (t : Turn (fun j => Db j ∨ P i j) w w') (hb : C.Bo Db' B s.b L' now' w') (hbn : ∀ j, Db' j → Db j ∨ w.heap.size ≤ j) (k : Pm D' B m w') (hkn : ∀ j, D' j → P i j ∨ w.heap.size ≤ j) :
    To B { s with MP := s.MP.set i m, L := L', now := now' } (Sb s Db P E) w w' := by
  have nt : ∀ (j t : Nat), Kd w j t → t ≠ 75 → t ≠ 91 → t ≠ 72 → t ≠ 78 → t ≠ 3 → ¬ (Db j ∨ P i j) := by
    rintro j t k n1 n2 n3 n4 n5 (q | q)
    · obtain ⟨t', k', z⟩ := h.kb q
      have := k.det k'
      omega
    · obtain ⟨t', k', z⟩ := h.kp hi q
      have := k.det k'
      omega
  have hl : (s.MP.set i m).length = s.MP.length := by simp
  have other : ∀ x, x < s.MP.length → x ≠ i → ∀ j, P x j → ¬ (Db j ∨ P i j) := by
    rintro x hx hne j q (q' | q')
    · obtain ⟨t', k', z⟩ := h.kb q'
      obtain ⟨t2, k2, z2⟩ := h.kp hx q
      have := k2.det k'
      omega
    · exact h.pp x i hx hi hne j q q'
  have otherE : ∀ x, x < s.MD.length → ∀ j, E x j → ¬ (Db j ∨ P i j) := by
    rintro x hx j q (q' | q')
    · obtain ⟨t', k', z⟩ := h.kb q'
      obtain ⟨t2, k2, z2⟩ := h.ke hx q
      have := k2.det k'
      omega
    · exact h.pe i x hi hx j q' q
  refine ⟨Db', put P i D', E, ⟨(t.block _ h.lt (nt _ 47 h.kt (by omega) (by omega) (by omega) (by omega) (by omega))).trans h.ht, hb, fun x y e => ?_, fun x y e => (h.dm x y e).kept t (fun j q => otherE x (idx e) j q),
    t.row h.hm (fun j q => nt j 26 (row_kd h.hm (own_at q)).1 (by omega) (by omega) (by omega) (by omega) (by omega)),
    t.row h.hT (fun j q => nt j 95 (row_kd h.hT (own_at q)).1 (by omega) (by omega) (by omega) (by omega) (by omega)),
    t.row h.hc (fun j q => nt j 24 (row_kd h.hc (own_at q)).1 (by omega) (by omega) (by omega) (by omega) (by omega)),
    t.row h.ho (fun j q => nt j 76 (row_kd h.ho (own_at q)).1 (by omega) (by omega) (by omega) (by omega) (by omega)), fun x y hx hy hne k2 => ?_, h.ee, fun x y hx hy k2 => ?_, h.lo⟩, t.mono (fun j _ q => ?_), fun j q => ?_⟩
  · by_cases q : x = i
    · subst q
      rw [put_same]
      have e2 : y = m := by
        rw [show (s.MP.set x m)[x]? = some m by simp [hi]] at e
        exact (Option.some.inj e).symm
      rw [e2]
      exact k
    · rw [put_other P D' q]
      have e2 : s.MP[x]? = some y := by rw [← e]; simp [List.getElem?_set, Ne.symm q]
      exact (h.pm x y e2).kept t (fun j z => other x (idx e2) q j z)
  · replace hx : x < s.MP.length := by rw [← hl]; exact hx
    replace hy : y < s.MP.length := by rw [← hl]; exact hy
    by_cases q : x = i
    · subst q
      rw [put_same, put_other P D' (Ne.symm hne)]
      intro z1 z2
      rcases hkn _ z1 with z3 | z3
      · exact h.pp x y hx hy hne _ z3 z2
      · have := ((h.pm y _ (List.getElem?_eq_getElem hy)).lo z2).2; omega
    · rw [put_other P D' q]
      by_cases q2 : y = i
      · subst q2
        rw [put_same]
        intro z1 z2
        rcases hkn _ z2 with z3 | z3
        · exact h.pp x y hx hy hne _ z1 z3
        · have := ((h.pm x _ (List.getElem?_eq_getElem hx)).lo z1).2; omega
      · rw [put_other P D' q2]; exact h.pp x y hx hy hne k2
  · replace hx : x < s.MP.length := by rw [← hl]; exact hx
    by_cases q : x = i
    · subst q
      rw [put_same]
      intro z1 z2
      rcases hkn _ z1 with z3 | z3
      · exact h.pe x y hx hy _ z3 z2
      · have := ((h.dm y _ (List.getElem?_eq_getElem hy)).lo z2).2; omega
    · rw [put_other P D' q]; exact h.pe x y hx hy k2
  · rcases q with q | q
    · exact .inr (.inl q)
    · exact .inr (.inr (.inl ⟨i, hi, q⟩))
  · rcases q with q | q | ⟨x, hx, q⟩ | q
    · exact .inl (.inl q)
    · exact (hbn j q).imp (fun z => .inr (.inl z)) id
    · replace hx : x < s.MP.length := by rw [← hl]; exact hx
      by_cases q1 : x = i
      · subst q1; rw [put_same] at q; exact (hkn j q).imp (fun z => .inr (.inr (.inl ⟨x, hi, z⟩))) id
      · rw [put_other P D' q1] at q; exact .inl (.inr (.inr (.inl ⟨x, hx, q⟩)))
    · exact .inl (.inr (.inr (.inr q)))
/-- the board alone turns -/
theorem Tb.turnB {Db' : Nat → Prop} {L' : List Tk} {now' : Nat} (h : Tb B s Db P E w) (t : Turn Db w w') (hb : C.Bo Db' B s.b L' now' w') (hbn : ∀ j, Db' j → Db j ∨ w.heap.size ≤ j) :
    To B { s with L := L', now := now' } (Sb s Db P E) w w' := by
  have nt : ∀ (j t : Nat), Kd w j t → t ≠ 75 → t ≠ 91 → ¬ Db j := by
    intro j t k n1 n2 q
    obtain ⟨t', k', z⟩ := h.kb q
    have := k.det k'
    omega
  refine ⟨Db', P, E, ⟨(t.block _ h.lt (nt _ 47 h.kt (by omega) (by omega))).trans h.ht, hb, fun x y e => (h.pm x y e).kept t (fun j q => ?_), fun x y e => (h.dm x y e).kept t (fun j q => ?_),
    t.row h.hm (fun j q => nt j 26 (row_kd h.hm (own_at q)).1 (by omega) (by omega)),
    t.row h.hT (fun j q => nt j 95 (row_kd h.hT (own_at q)).1 (by omega) (by omega)),
    t.row h.hc (fun j q => nt j 24 (row_kd h.hc (own_at q)).1 (by omega) (by omega)),
    t.row h.ho (fun j q => nt j 76 (row_kd h.ho (own_at q)).1 (by omega) (by omega)), h.pp, h.ee, h.pe, h.lo⟩, t.mono (fun j _ q => .inr (.inl q)), fun j q => ?_⟩
  · obtain ⟨t2, k2, z2⟩ := (h.pm x y e).kind q
    exact nt j t2 k2 (by omega) (by omega)
  · obtain ⟨t2, k2, z2⟩ := (h.dm x y e).kind q
    exact nt j t2 k2 (by omega) (by omega)
  · rcases q with q | q | q
    · exact .inl (.inl q)
    · exact (hbn j q).imp (fun z => .inr (.inl z)) id
    · exact .inl (.inr (.inr q))
/-- a machine of the document's turns -/
theorem Tb.turnE {i : Nat} {D' : Nat → Prop} (h : Tb B s Db P E w) (hi : i < s.MD.length) (t : Turn (E i) w w') (k : Dm D' B m w') (hkn : ∀ j, D' j → E i j ∨ w.heap.size ≤ j) :
    To B { s with MD := s.MD.set i m } (Sb s Db P E) w w' := by
  have nt : ∀ (j t : Nat), Kd w j t → t ≠ 33 → t ≠ 3 → ¬ E i j := by
    intro j t k n1 n2 q
    obtain ⟨t', k', z⟩ := h.ke hi q
    have := k.det k'
    omega
  have hl : (s.MD.set i m).length = s.MD.length := by simp
  refine ⟨Db, P, put E i D', ⟨(t.block _ h.lt (nt _ 47 h.kt (by omega) (by omega))).trans h.ht, h.bo.kept t (fun j q => ?_), fun x y e => (h.pm x y e).kept t (fun j q z => h.pe x i (idx e) hi j q z), fun x y e => ?_,
    t.row h.hm (fun j q => nt j 26 (row_kd h.hm (own_at q)).1 (by omega) (by omega)),
    t.row h.hT (fun j q => nt j 95 (row_kd h.hT (own_at q)).1 (by omega) (by omega)),
    t.row h.hc (fun j q => nt j 24 (row_kd h.hc (own_at q)).1 (by omega) (by omega)),
    t.row h.ho (fun j q => nt j 76 (row_kd h.ho (own_at q)).1 (by omega) (by omega)), h.pp, fun x y hx hy hne k2 => ?_, fun x y hx hy k2 => ?_, h.lo⟩, t.mono (fun j _ q => .inr (.inr (.inr (.inl ⟨i, hi, q⟩)))), fun j q => ?_⟩
  · obtain ⟨t2, k2, z2⟩ := h.kb q
    exact nt j t2 k2 (by omega) (by omega)
  · by_cases q : x = i
    · subst q
      rw [put_same]
      have e2 : y = m := by
        rw [show (s.MD.set x m)[x]? = some m by simp [hi]] at e
        exact (Option.some.inj e).symm
      rw [e2]
      exact k
    · rw [put_other E D' q]
      have e2 : s.MD[x]? = some y := by rw [← e]; simp [List.getElem?_set, Ne.symm q]
      exact (h.dm x y e2).kept t (fun j z => h.ee x i (idx e2) hi q j z)
  · replace hx : x < s.MD.length := by rw [← hl]; exact hx
    replace hy : y < s.MD.length := by rw [← hl]; exact hy
    by_cases q : x = i
    · subst q
      rw [put_same, put_other E D' (Ne.symm hne)]
      intro z1 z2
      rcases hkn _ z1 with z3 | z3
      · exact h.ee x y hx hy hne _ z3 z2
      · have := ((h.dm y _ (List.getElem?_eq_getElem hy)).lo z2).2; omega
    · rw [put_other E D' q]
      by_cases q2 : y = i
      · subst q2
        rw [put_same]
        intro z1 z2
        rcases hkn _ z2 with z3 | z3
        · exact h.ee x y hx hy hne _ z1 z3
        · have := ((h.dm x _ (List.getElem?_eq_getElem hx)).lo z1).2; omega
      · rw [put_other E D' q2]; exact h.ee x y hx hy hne k2
  · replace hy : y < s.MD.length := by rw [← hl]; exact hy
    by_cases q : y = i
    · subst q
      rw [put_same]
      intro z1 z2
      rcases hkn _ z2 with z3 | z3
      · exact h.pe x y hx hy _ z1 z3
      · have := ((h.pm x _ (List.getElem?_eq_getElem hx)).lo z1).2; omega
    · rw [put_other E D' q]; exact h.pe x y hx hy k2
  · rcases q with q | q | q | ⟨x, hx, q⟩ | q
    · exact .inl (.inl q)
    · exact .inl (.inr (.inl q))
    · exact .inl (.inr (.inr (.inl q)))
    · replace hx : x < s.MD.length := by rw [← hl]; exact hx
      by_cases q1 : x = i
      · subst q1; rw [put_same] at q; exact (hkn j q).imp (fun z => .inr (.inr (.inr (.inl ⟨x, hi, z⟩)))) id
      · rw [put_other E D' q1] at q; exact .inl (.inr (.inr (.inr (.inl ⟨x, hx, q⟩))))
    · exact .inl (.inr (.inr (.inr (.inr q))))
/-- the moment of the document's board -/
theorem Tb.setN (h : Tb B s Db P E w) (v : Nat) : Tb B { s with dn := v } Db P E (w.setCell ⟨s.t, 3, none⟩ (.int .i64 (v : Int))) ∧ Turn (Sb s Db P E) w (w.setCell ⟨s.t, 3, none⟩ (.int .i64 (v : Int))) := by
  have t : Turn (fun j => j = s.t) w (w.setCell ⟨s.t, 3, none⟩ (.int .i64 (v : Int))) := (Turn.refl (fun k => k = s.t) w).setCell (p := ⟨s.t, 3, none⟩) (fun _ => rfl) _
  have nt : ∀ (j t : Nat), Kd w j t → t ≠ 47 → ¬ j = s.t := by
    rintro j t k n rfl
    exact n (k.det h.kt)
  refine ⟨⟨?_, h.bo.kept t (fun j q => ?_), fun x y e => (h.pm x y e).kept t (fun j q => ?_), fun x y e => (h.dm x y e).kept t (fun j q => ?_),
    t.row h.hm (fun j q => nt j 26 (row_kd h.hm (own_at q)).1 (by omega)),
    t.row h.hT (fun j q => nt j 95 (row_kd h.hT (own_at q)).1 (by omega)),
    t.row h.hc (fun j q => nt j 24 (row_kd h.hc (own_at q)).1 (by omega)),
    t.row h.ho (fun j q => nt j 76 (row_kd h.ho (own_at q)).1 (by omega)), h.pp, h.ee, h.pe, h.lo⟩, t.mono (fun j _ q => .inl q)⟩
  · rw [set_block h.ht]; rfl
  · obtain ⟨t2, k2, z2⟩ := h.kb q
    exact nt j t2 k2 (by omega)
  · obtain ⟨t2, k2, z2⟩ := (h.pm x y e).kind q
    exact nt j t2 k2 (by omega)
  · obtain ⟨t2, k2, z2⟩ := (h.dm x y e).kind q
    exact nt j t2 k2 (by omega)
theorem tkd_len (L : List (Nat × Int)) : (L.flatMap tkd).length = L.length * 2 := by
  induction L with
  | nil => rfl
  | cons a r ih => simp only [List.flatMap_cons, List.length_append, List.length_cons] at ih ⊢; rw [ih]; simp [tkd]; omega
theorem tkd_at : ∀ (L : List (Nat × Int)) (k : Nat) (x : Nat × Int), L[k]? = some x → (L.flatMap tkd)[k * 2]? = some (.int .i64 (x.1 : Nat)) ∧ (L.flatMap tkd)[k * 2 + 1]? = some (.int .i64 x.2) := by
  intro L
  induction L with
  | nil => intro k x h; simp at h
  | cons a r ih =>
    intro k x h
    cases k with
    | zero => simp at h; subst h; simp [tkd]
    | succ k =>
      simp at h
      obtain ⟨h1, h2⟩ := ih k x h
      refine ⟨?_, ?_⟩
      · rw [show (k + 1) * 2 = k * 2 + 2 by omega]; simpa [tkd] using h1
      · rw [show (k + 1) * 2 + 1 = k * 2 + 1 + 2 by omega]; simpa [tkd] using h2
theorem tkd_set : ∀ (L : List (Nat × Int)) (k : Nat) (x : Nat × Int) (e : Int), L[k]? = some x → (L.flatMap tkd).set (k * 2 + 1) (.int .i64 e) = (L.set k (x.1, e)).flatMap tkd := by
  intro L
  induction L with
  | nil => intro k x e h; simp at h
  | cons a r ih =>
    intro k x e h
    cases k with
    | zero => simp at h; subst h; simp [tkd]
    | succ k =>
      simp at h
      rw [show (k + 1) * 2 + 1 = k * 2 + 1 + 2 by omega]
      simpa [tkd] using ih k x e h
theorem add0 (g j : Nat) : (⟨g, 0, none⟩ : Addr).add j = ⟨g, j, none⟩ := by unfold Addr.add; split <;> simp_all
/-- where the document's tasks lie -/
theorem Tb.task (h : Tb B s Db P E w) {k : Nat} {x : Nat × Int} (hk : s.T[k]? = some x) : ∃ g, s.rt.a = some ⟨g, 0, none⟩ ∧ w.cell? ⟨g, k * 2, none⟩ = some (.int .i64 (x.1 : Nat)) ∧ w.cell? ⟨g, k * 2 + 1, none⟩ = some (.int .i64 x.2) ∧ (∀ j, w.frozen? ⟨g, j, none⟩ = false) ∧ g < w.heap.size ∧ Kd w g 95 := by
  have hlt := idx hk
  have hrow := h.hT
  rcases h.hT.2 with ⟨hv, h0⟩ | ⟨g, cap', cur, hv, hb, hg, rest⟩
  · omega
  · unfold Sl.v at hv hrow
    simp only [Value.slice.injEq] at hv
    obtain ⟨e0, _, _⟩ := hv
    obtain ⟨h1, h2⟩ := tkd_at s.T k x hk
    rw [e0] at hrow
    refine ⟨g, e0, ?_, ?_, fun j => Lib.frozen_of_heap hg j, lt_of_heap hg, ⟨_, _, hg⟩⟩
    · rw [← add0]; exact row_cell hrow _ _ h1
    · rw [← add0]; exact row_cell hrow _ _ h2
/-- a row of pointers -/
theorem at_row {e : Nat} {r : Sl} {xs : List Value} (h : w.ownsRow B e 1 (r.v xs.length) xs.length xs) {k : Nat} {u : Value} (hk : xs[k]? = some u) : ∃ g, r.a = some ⟨g, 0, none⟩ ∧ w.cell? ⟨g, k, none⟩ = some u ∧ g < w.heap.size ∧ Kd w g e := by
  have hlt := idx hk
  have hrow := h
  rcases h.2 with ⟨hv, h0⟩ | ⟨g, cap', cur, hv, hb, hg, rest⟩
  · omega
  · unfold Sl.v at hv hrow
    simp only [Value.slice.injEq] at hv
    obtain ⟨e0, _, _⟩ := hv
    rw [e0] at hrow
    refine ⟨g, e0, ?_, lt_of_heap hg, ⟨_, _, hg⟩⟩
    rw [← add0]; exact row_cell hrow _ _ hk
/-- a task's end is set -/
theorem Tb.setT {g k : Nat} {x : Nat × Int} (h : Tb B s Db P E w) (hg : s.rt.a = some ⟨g, 0, none⟩) (hk : s.T[k]? = some x) (v : Int) : Tb B { s with T := s.T.set k (x.1, v) } Db P E (w.setCell ⟨g, k * 2 + 1, none⟩ (.int .i64 v)) ∧ Turn (Sb s Db P E) w (w.setCell ⟨g, k * 2 + 1, none⟩ (.int .i64 v)) := by
  have hlt := idx hk
  have t : Turn (fun j => j = g) w (w.setCell ⟨g, k * 2 + 1, none⟩ (.int .i64 v)) := (Turn.refl (fun k => k = g) w).setCell (p := ⟨g, k * 2 + 1, none⟩) (fun _ => rfl) _
  have kg : Kd w g 95 := (row_kd h.hT ⟨_, hg, rfl⟩).1
  have nt : ∀ (j t : Nat), Kd w j t → t ≠ 95 → ¬ j = g := by
    rintro j t k n rfl
    exact n (k.det kg)
  refine ⟨⟨?_, h.bo.kept t (fun j q => ?_), fun x y e => (h.pm x y e).kept t (fun j q => ?_), fun x y e => (h.dm x y e).kept t (fun j q => ?_),
    t.row h.hm (fun j q => nt j 26 (row_kd h.hm (own_at q)).1 (by omega)), ?_,
    t.row h.hc (fun j q => nt j 24 (row_kd h.hc (own_at q)).1 (by omega)),
    t.row h.ho (fun j q => nt j 76 (row_kd h.ho (own_at q)).1 (by omega)), h.pp, h.ee, h.pe, h.lo⟩, t.mono (fun j _ q => .inr (.inr (.inr (.inr (.inr (.inl ⟨_, hg, q⟩))))))⟩
  · have := (t.block s.t h.lt (nt _ 47 h.kt (by omega))).trans h.ht
    rw [this]
    simp [Sq.cs]
  · obtain ⟨t2, k2, z2⟩ := h.kb q
    exact nt j t2 k2 (by omega)
  · obtain ⟨t2, k2, z2⟩ := (h.pm x y e).kind q
    exact nt j t2 k2 (by omega)
  · obtain ⟨t2, k2, z2⟩ := (h.dm x y e).kind q
    exact nt j t2 k2 (by omega)
  · have hl := h.hT.1
    refine ⟨by rw [tkd_len], ?_⟩
    rcases h.hT.2 with ⟨hv, h0⟩ | ⟨g', cap', cur, hv, hb, hg', h1, h2, h3, h4⟩
    · omega
    · unfold Sl.v at hv
      rw [hg] at hv
      simp only [Value.slice.injEq, Option.some.injEq] at hv
      obtain ⟨hv1, _, hv2⟩ := hv
      cases hv1
      refine .inr ⟨g, cap', cur.setIfInBounds (k * 2 + 1) (.int .i64 v), ?_, hb, set_block hg', by rw [List.length_set]; exact h1, h2, by simpa using h3, ?_⟩
      · simp [Sl.v, hg, hv2]
      · rw [Array.toList_setIfInBounds, List.take_set, List.length_set, h4, tkd_set s.T k x v hk]
end Q
end Go.Proofs.Ytjhnlmedmpcgoaa
