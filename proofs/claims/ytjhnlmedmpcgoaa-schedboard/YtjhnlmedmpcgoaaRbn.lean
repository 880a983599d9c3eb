import Derived.Test.YtjhnlmedmpcgoaaRbm
set_option linter.unusedVariables false
set_option linter.unusedSimpArgs false
namespace Go.Proofs.Ytjhnlmedmpcgoaa
open Go.RowKit
namespace Q
open C (Tk)
variable {D U : Nat → Prop} {B K : Nat} {m : Mr} {w w' w1 : World} {s : Sq} {Db : Nat → Prop} {P E : Nat → Nat → Prop}
def vif (M : List Mr) (i : Nat) : Nat × Value := match M[i]? with | some m => m.vi | none => (0, .nilIface)
theorem vif_at {M : List Mr} {i : Nat} {m : Mr} (h : M[i]? = some m) : vif M i = m.vi := by unfold vif; rw [h]
theorem vif_app {M : List Mr} {i : Nat} (m : Mr) (h : i < M.length) : vif (M ++ [m]) i = vif M i := by unfold vif; rw [List.getElem?_append_left h]
theorem up_vi (m : Mr) (v : Int) : (m.up v).vi = m.vi ∧ (m.up v).pc = m.pc ∧ (m.up v).po = m.po ∧ (m.up v).b = m.b := ⟨rfl, rfl, rfl, rfl⟩
theorem set_at {α : Type} {M : List α} {i j : Nat} {x y : α} (h : (M.set i x)[j]? = some y) : (j = i ∧ y = x) ∨ (j ≠ i ∧ M[j]? = some y) := by
  by_cases q : j = i
  · subst q
    have hl := idx h
    rw [List.length_set] at hl
    rw [List.getElem?_set_self hl] at h
    exact .inl ⟨rfl, (Option.some.inj h).symm⟩
  · rw [List.getElem?_set_ne (Ne.symm q)] at h
    exact .inr ⟨q, h⟩
theorem vif_set {M : List Mr} {i : Nat} {m : Mr} (h : M[i]? = some m) (v : Int) (j : Nat) : vif (M.set i (m.up v)) j = vif M j := by
  unfold vif
  by_cases q : j = i
  · subst q
    rw [List.getElem?_set_self (idx h), h]
    rfl
  · rw [List.getElem?_set_ne (Ne.symm q)]
theorem map_set_same {α β : Type} {M : List α} {i : Nat} {m x : α} (f : α → β) (h : M[i]? = some m) (e : f x = f m) : (M.set i x).map f = M.map f := by
  rw [List.map_set, e]
  apply List.ext_getElem?
  intro j
  by_cases q : j = i
  · subst q
    rw [List.getElem?_set_self (by rw [List.length_map]; exact idx h), List.getElem?_map, h]; rfl
  · rw [List.getElem?_set_ne (Ne.symm q)]
/-- A TABLE AT REST: both sides say the same -/
structure Rest (K : Nat) (s : Sq) : Prop where
  ln : s.MD.length = s.MP.length
  eq : ∀ (i : Nat) (p d : Mr), s.MP[i]? = some p → s.MD[i]? = some d → p.o = d.o ∧ p.n = d.n ∧ p.ts = d.ts
  vm : s.vm = s.MD.map (fun m => ptr m.b)
  vc : s.vc = s.MP.map Mr.pc
  vo : s.vo = s.MP.map Mr.po
  L : s.L = s.T.map (fun x => (vif s.MP x.1, x.2))
  T : ∀ x ∈ s.T, x.1 < s.MP.length ∧ -1 ≤ x.2
  nw : s.now = s.dn
  t64 : s.T.length ≤ 64
  kN : s.MP.length ≤ K
  kn : s.now ≤ K
  kt : ∀ (i : Nat) (p : Mr), s.MP[i]? = some p → p.ts.length ≤ K
theorem Rest.more {K' : Nat} (h : Rest K s) (hk : K ≤ K') : Rest K' s := ⟨h.ln, h.eq, h.vm, h.vc, h.vo, h.L, h.T, h.nw, h.t64, Nat.le_trans h.kN hk, Nat.le_trans h.kn hk, fun i p e => Nat.le_trans (h.kt i p e) hk⟩
theorem Rest.hc (h : Rest K s) {i : Nat} (hm : s.MP[i]? = some m) : s.vc[i]? = some m.pc ∧ s.vo[i]? = some m.po := by
  rw [h.vc, h.vo, List.getElem?_map, List.getElem?_map, hm]
  exact ⟨rfl, rfl⟩
theorem Rest.hd (h : Rest K s) {i : Nat} (hm : s.MP[i]? = some m) : ∃ d, s.MD[i]? = some d ∧ s.vm[i]? = some (ptr d.b) ∧ m.o = d.o ∧ m.n = d.n ∧ m.ts = d.ts := by
  have hl := idx hm
  rw [← h.ln] at hl
  refine ⟨s.MD[i], List.getElem?_eq_getElem hl, ?_, h.eq i _ _ hm (List.getElem?_eq_getElem hl)⟩
  rw [h.vm, List.getElem?_map, List.getElem?_eq_getElem hl]
  rfl
theorem Rest.Ll (h : Rest K s) : s.L.length = s.T.length := by rw [h.L, List.length_map]
theorem Rest.vl (h : Rest K s) : s.vm.length = s.MP.length := by rw [h.vm, List.length_map, h.ln]
theorem Rest.join {rt' : Sl} {i : Nat} (h : Rest K s) (hm : s.MP[i]? = some m) (hl : s.T.length < 64) : Rest K { s with T := s.T ++ [(i, -1)], rt := rt', L := s.L ++ [(m.vi, -1)] } := by
  refine ⟨h.ln, h.eq, h.vm, h.vc, h.vo, ?_, fun x hx => ?_, h.nw, ?_, h.kN, h.kn, h.kt⟩
  · show s.L ++ [(m.vi, -1)] = (s.T ++ [(i, -1)]).map _
    rw [List.map_append, h.L]
    simp only [List.map_cons, List.map_nil]
    rw [vif_at hm]
  · rcases List.mem_append.1 hx with q | q
    · exact h.T x q
    · rw [List.mem_singleton] at q
      rw [q]
      exact ⟨idx hm, by show (-1 : Int) ≤ -1; omega⟩
  · show (s.T ++ [(i, -1)]).length ≤ 64
    rw [List.length_append]
    simp
    omega
theorem Rest.add {p d : Mr} {rm rc ro : Sl} (h : Rest K s) (ho : p.o = d.o) (hn : p.n = d.n) (hp : p.ts = []) (hd : d.ts = []) :
    Rest (K + 1) { s with MP := s.MP ++ [p], MD := s.MD ++ [d], vm := s.vm ++ [ptr d.b], vc := s.vc ++ [p.pc], vo := s.vo ++ [p.po], rm := rm, rc := rc, ro := ro } := by
  refine ⟨by simp [h.ln], fun i x y h1 h2 => ?_, by simp [h.vm], by simp [h.vc], by simp [h.vo], ?_, fun x hx => ?_, h.nw, h.t64, ?_, Nat.le_succ_of_le h.kn, fun i x e => ?_⟩
  · rcases app_at h1 with ⟨a, a1⟩ | ⟨a, a1⟩
    · rcases app_at h2 with ⟨b, b1⟩ | ⟨b, b1⟩
      · exact h.eq i x y a1 b1
      · rw [h.ln] at b; omega
    · rcases app_at h2 with ⟨b, b1⟩ | ⟨b, b1⟩
      · rw [h.ln] at b; omega
      · rw [a1, b1]; exact ⟨ho, hn, hp.trans hd.symm⟩
  · show s.L = _
    rw [h.L]
    refine List.map_congr_left (fun x hx => ?_)
    rw [vif_app p (h.T x hx).1]
  · have := h.T x hx
    show x.1 < (s.MP ++ [p]).length ∧ _
    rw [List.length_append]
    exact ⟨by simp; omega, this.2⟩
  · show (s.MP ++ [p]).length ≤ K + 1
    have := h.kN
    simp
    omega
  · rcases app_at e with ⟨a, a1⟩ | ⟨a, a1⟩
    · exact Nat.le_succ_of_le (h.kt i x a1)
    · rw [a1, hp]; exact Nat.zero_le _
theorem nx_len (m : Mr) (v : Int) : (m.nx v).length ≤ m.ts.length + 1 := by
  unfold Mr.nx
  split
  · simp
  · exact stp_len _ _ _
theorem Rest.idle (h : Rest K s) : Rest (K + 1) { s with dn := s.dn + 1, now := s.now + 1 } := by
  have := h.nw
  have := h.kn
  exact ⟨h.ln, h.eq, h.vm, h.vc, h.vo, h.L, h.T, by show s.now + 1 = s.dn + 1; omega, h.t64, Nat.le_succ_of_le h.kN, by show s.now + 1 ≤ K + 1; omega, fun i p e => Nat.le_succ_of_le (h.kt i p e)⟩
theorem Rest.step {k i : Nat} {p d : Mr} (h : Rest K s) (hk : s.T[k]? = some (i, -1)) (hp : s.MP[i]? = some p) (hd : s.MD[i]? = some d) :
    Rest (K + 1) { s with dn := s.dn + 1, MD := s.MD.set i (d.up s.dn), T := if d.fin s.dn then s.T.set k (i, (s.dn : Int)) else s.T, MP := s.MP.set i (p.up s.now), L := if p.fin s.now then s.L.set k (p.vi, (s.now : Int)) else s.L, now := s.now + 1 } := by
  obtain ⟨eo, en, et⟩ := h.eq i p d hp hd
  have enx : p.nx s.now = d.nx s.dn := by unfold Mr.nx; rw [eo, en, et, h.nw]
  have ef : p.fin s.now = d.fin s.dn := by unfold Mr.fin; rw [en, enx]
  have hkl := idx hk
  refine ⟨by simp [h.ln], fun j x y h1 h2 => ?_, ?_, ?_, ?_, ?_, ?_, by show s.now + 1 = s.dn + 1; rw [h.nw], ?_, by simp; exact Nat.le_succ_of_le h.kN, by show s.now + 1 ≤ K + 1; exact Nat.succ_le_succ h.kn, fun j x e => ?_⟩
  · rcases set_at h1 with ⟨a, a1⟩ | ⟨a, a1⟩
    · rcases set_at h2 with ⟨b, b1⟩ | ⟨b, b1⟩
      · rw [a1, b1]; exact ⟨eo, en, enx⟩
      · exact absurd a b
    · rcases set_at h2 with ⟨b, b1⟩ | ⟨b, b1⟩
      · exact absurd b a
      · exact h.eq j x y a1 b1
  · show s.vm = (s.MD.set i (d.up s.dn)).map _
    exact h.vm.trans (map_set_same (m := d) (x := d.up s.dn) _ hd rfl).symm
  · show s.vc = (s.MP.set i (p.up s.now)).map _
    exact h.vc.trans (map_set_same (m := p) (x := p.up s.now) _ hp rfl).symm
  · show s.vo = (s.MP.set i (p.up s.now)).map _
    exact h.vo.trans (map_set_same (m := p) (x := p.up s.now) _ hp rfl).symm
  · show (if p.fin s.now then s.L.set k (p.vi, (s.now : Int)) else s.L) = (if d.fin s.dn then s.T.set k (i, (s.dn : Int)) else s.T).map (fun x => (vif (s.MP.set i (p.up s.now)) x.1, x.2))
    simp only [vif_set hp]
    rw [ef]
    cases d.fin s.dn
    · simp only [Bool.false_eq_true, if_false]; exact h.L
    · simp only [if_true]
      rw [List.map_set, h.L, vif_at hp, h.nw]
  · intro x hx
    show x.1 < (s.MP.set i (p.up s.now)).length ∧ _
    rw [List.length_set]
    have hx : x ∈ (if d.fin s.dn then s.T.set k (i, (s.dn : Int)) else s.T) := hx
    split at hx
    · rcases List.mem_or_eq_of_mem_set hx with q | q
      · exact h.T x q
      · rw [q]; exact ⟨idx hp, by show (-1 : Int) ≤ (s.dn : Int); omega⟩
    · exact h.T x hx
  · show (if d.fin s.dn then s.T.set k (i, (s.dn : Int)) else s.T).length ≤ 64
    split
    · rw [List.length_set]; exact h.t64
    · exact h.t64
  · rcases set_at e with ⟨a, a1⟩ | ⟨a, a1⟩
    · rw [a1]
      have := h.kt i p hp
      exact Nat.le_trans (nx_len p s.now) (Nat.succ_le_succ this)
    · exact Nat.le_succ_of_le (h.kt j x a1)
/-- what a table is, by its blocks alone -/
def RT (K B t : Nat) (D : Nat → Prop) (w : World) : Prop := ∃ s Db P E, s.t = t ∧ Rest K s ∧ Tb B s Db P E w ∧ ∀ j, D j ↔ Sb s Db P E j
/-- what an act leaves -/
def AT (K B t : Nat) (D : Nat → Prop) (w w' : World) : Prop := ∃ D', RT K B t D' w' ∧ Turn D w w' ∧ ∀ j, D' j → D j ∨ w.heap.size ≤ j
theorem AT.of {s' : Sq} {D : Nat → Prop} (h : To B s' (Sb s Db P E) w w') (r : Rest K s') (hd : ∀ j, D j ↔ Sb s Db P E j) : AT K B s'.t D w w' := by
  obtain ⟨Db', P', E', a, b, c⟩ := h
  exact ⟨Sb s' Db' P' E', ⟨s', Db', P', E', rfl, r, a, fun j => Iff.rfl⟩, b.mono (fun j _ q => (hd j).2 q), fun j q => (c j q).imp (hd j).2 id⟩
/-- a beginning that makes new blocks alone -/
theorem To.from {s' : Sq} (h : To B s' U w1 w') (b : Below w.heap.size w w1) : To B s' U w w' := by
  obtain ⟨Db', P', E', x, y, z⟩ := h
  exact ⟨Db', P', E', x, (turn_below b).trans y, fun j q => (z j q).imp id (Nat.le_trans b.size)⟩
/-- the act's own box stays -/
theorem To.box {s' : Sq} {o : Obj} {x : Nat} (h : To B s' U w1 w') (hx : w1.heap[x]? = some o) (hn : ¬ U x) : w'.heap[x]? = some o := by
  obtain ⟨_, _, _, _, t, _⟩ := h
  exact (t.block x (lt_of_heap hx) hn).trans hx
theorem joined_any (i : Nat) (h : Tb B s Db P E w) (r : Rest K s) (hB : B ≤ w.heap.size) (hi : i < s.MP.length) : Calls Try.prog 42 #[.pointer (some ⟨s.t, 0, none⟩), .int .i64 (i : Int)] w fun e w' => e = .returned (.bool true) ∧ ∃ s', s'.t = s.t ∧ Rest K s' ∧ To B s' (Sb s Db P E) w w' := by
  have hm := List.getElem?_eq_getElem hi
  obtain ⟨hc, ho⟩ := r.hc hm
  by_cases hl : s.T.length < 64
  · refine (joined_ok i _ h hB hl r.Ll hc ho).mono ?_
    rintro e w' ⟨rfl, rt', k⟩
    refine ⟨rfl, _, ?_, r.join hm hl, k⟩
    rfl
  · have := r.t64
    have := r.Ll
    refine (joined_full i _ h (by omega) (by omega) hc ho).mono ?_
    rintro e w' ⟨rfl, b⟩
    exact ⟨rfl, s, rfl, r, h.same b⟩
/-- the program's pick -/
theorem ppick_none (k : Int) (h : Tb B s Db P E w) (hn : s.now < 9000000000000000) (hk : C.en s.L k ≠ -1 ∨ C.hs s.L k = false) : Calls Try.prog 34 #[.pointer (some ⟨s.b, 0, none⟩), .int .i64 k] w fun e w' => e = .returned (.bool false) ∧ To B { s with now := s.now + 1 } (Sb s Db P E) w w' := by
  refine (C.pick_none k h.bo hk hn).mono ?_
  rintro e w' ⟨rfl, a, b⟩
  exact ⟨rfl, h.turnB b a (fun j q => .inl q)⟩
theorem ppick_some (k i : Nat) (h : Tb B s Db P E w) (hB : B ≤ w.heap.size) (hn : s.now < 9000000000000000) (hk : s.L[k]? = some (m.vi, -1)) (hm : s.MP[i]? = some m) (hs : m.ts.length < 17592186043904) : Calls Try.prog 34 #[.pointer (some ⟨s.b, 0, none⟩), .int .i64 (k : Int)] w fun e w' => e = .returned (.bool true) ∧ To B { s with MP := s.MP.set i (m.up s.now), L := if m.fin s.now then s.L.set k (m.vi, (s.now : Int)) else s.L, now := s.now + 1 } (Sb s Db P E) w w' := by
  have hp := h.pm i m hm
  have hi := idx hm
  have fresh : ∀ {D' : Nat → Prop}, (∀ j, D' j → P i j ∨ w.heap.size ≤ j) → (∀ j, D' j → P i j ∨ w.heap.size ≤ j) := fun q => q
  rcases hp with ⟨e, hp⟩ | ⟨e, hp, h1, h2⟩
  · have ev : m.vi = C.ptw m.b := by unfold Mr.vi; rw [e]; rfl
    have en : m.nx s.now = m.ts ++ [(s.now : Int)] := by unfold Mr.nx; rw [e]; rfl
    rw [ev] at hk
    refine (C.pick_stepW k h.bo hp hk hB hs hn).mono ?_
    rintro r w' ⟨rfl, a, b, Dc', c, d⟩
    refine ⟨rfl, ?_⟩
    have ef : m.fin s.now = W.fn m.n (m.ts ++ [(s.now : Int)]).length := by unfold Mr.fin; rw [en]
    rw [ef, ev]
    refine h.turnP hi b a (fun j q => .inl q) (.inl ⟨e, ?_⟩) d
    show W.Ct _ _ _ _ (m.nx s.now) _
    rw [en]
    exact c
  · have ev : m.vi = C.ptr m.b := by unfold Mr.vi; rw [e]; rfl
    have en : m.nx s.now = C.stp m.n m.ts s.now := by unfold Mr.nx; rw [e]; rfl
    rw [ev] at hk
    refine (C.pick_step k h.bo hp hk hB hs hn).mono ?_
    rintro r w' ⟨rfl, a, b, Dc', c, d⟩
    refine ⟨rfl, ?_⟩
    have ef : m.fin s.now = C.lst m.n (C.stp m.n m.ts s.now) := by unfold Mr.fin; rw [en, lst_fn h1 (stp_le _ h2)]
    rw [ef, ev]
    refine h.turnP hi b a (fun j q => .inl q) (.inr ⟨e, ?_, h1, ?_⟩) d
    · show C.Ct _ _ _ _ (m.nx s.now) _
      rw [en]
      exact c
    · show ((m.nx s.now).length : Int) ≤ m.n
      rw [en]
      exact stp_le _ h2
/-- both boards tell the same end -/
theorem Rest.ends (r : Rest K s) (k : Int) : C.en s.L k = eT s.T k := by
  unfold C.en C.hs eT
  rw [r.Ll]
  by_cases h : 0 ≤ k ∧ k < (s.T.length : Int)
  · rw [if_pos h, decide_eq_true h, if_pos rfl, r.L, List.getElem?_map]
    cases s.T[k.toNat]? <;> rfl
  · rw [if_neg h, decide_eq_false h, if_neg (by decide)]
end Q
end Go.Proofs.Ytjhnlmedmpcgoaa
