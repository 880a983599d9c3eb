import Derived.Test.YtaoglenfbbaliaaSlP
set_option linter.unusedVariables false
set_option linter.unusedSimpArgs false
namespace Go.Proofs.Ytaoglenfbbaliaa
open Go.RowKit
namespace X
open C F A
/-- lists that lie each in its row -/
def Lsd (B : Nat) (zs : List Int) (us : List Rw) (w : World) : Prop := ∀ (i : Nat) (r : Rw), us[i]? = some r → ∃ l, Chn zs i l ∧ r.len = l.length ∧ Gr B l r.ao r.cap w
theorem Lsd.turn {B : Nat} {zs : List Int} {us : List Rw} {w w' : World} {S : Nat → Prop} (h : Lsd B zs us w) (t : Turn S w w') (hS : ∀ j, S j → ∃ cs q, w.heap[j]? = some (.cells cs 23 q)) : Lsd B zs us w' := fun i r hr => by
  obtain ⟨l, h1, h2, h3⟩ := h i r hr
  refine ⟨l, h1, h2, h3.kept t (fun j hj q => ?_)⟩
  obtain ⟨_, _, cs, q', hh⟩ := row_kind h3.row hj
  obtain ⟨cs', q'', hh'⟩ := hS j q
  exact cells_ne hh hh' (by decide) rfl
structure Fi (w : World) (zs : List Int) (vs gs gs2 : List Rw) (oo go2 : Option Addr) (oc gc2 b5 b12 b13 N li mi : Nat) (lo : Option Addr) (lc : Nat) (mo : Option Addr) (mc : Nat) (X : World) : Prop where
  bel : Below w.heap.size w X
  h5 : X.heap[b5]? = some (.cells #[.slice oo vs.length oc] 31 (0, 0))
  h12 : X.heap[b12]? = some (.cells #[.int .i64 (N : Int)] 3 (0, 0))
  h13 : X.heap[b13]? = some (.cells #[.slice go2 gs2.length gc2] 31 (0, 0))
  lrow : X.ownsRow w.heap.size 23 1 (.slice lo (vs.length + li) lc) (vs.length + li) ((gs ++ gs2.take li).map Rw.v)
  mrow : X.ownsRow w.heap.size 23 1 (.slice mo (vs.length + mi) mc) (vs.length + mi) ((vs ++ vs.take mi).map Rw.v)
  cw : Cs X oo vs
  ca : Cs X go2 gs2
  lg : Lsd w.heap.size zs gs X
  l2 : Lsd w.heap.size zs gs2 X
  lv : Lsd w.heap.size zs vs X
  dj : ∀ (i j : Nat) (r s : Rw), (gs ++ gs2)[i]? = some r → (gs ++ gs2)[j]? = some s → i ≠ j → ∀ b, At r.ao b → ¬ At s.ao b
  dv : ∀ r ∈ vs, ∀ s ∈ gs ++ gs2, ∀ b, At r.ao b → ¬ At s.ao b
  n1 : gs.length = vs.length
  n2 : gs2.length = N
  n3 : N ≤ vs.length ∧ vs.length ≤ 40
  n4 : li ≤ N ∧ mi ≤ N
  a1 : ∀ j, At lo j → ¬ At mo j ∧ ¬ At go2 j ∧ ¬ At oo j
  a2 : ∀ j, At mo j → ¬ At go2 j
  a3 : ∀ j, At oo j → j < X.heap.size
  a4 : ∀ j, At go2 j → j < X.heap.size
variable {w X X1 : World} {zs : List Int} {vs gs gs2 : List Rw} {oo go2 : Option Addr} {oc gc2 b5 b12 b13 N li mi : Nat} {lo : Option Addr} {lc : Nat} {mo : Option Addr} {mc : Nat}
theorem box_turn {S : Nat → Prop} {b t : Nat} {cs : Array Value} {q : Nat × Nat} (h : X.heap[b]? = some (.cells cs t q)) (ht : t ≠ 23) (tr : Turn S X X1) (hS : ∀ j, S j → ∃ cs q, X.heap[j]? = some (.cells cs 23 q)) : X1.heap[b]? = some (.cells cs t q) :=
  (tr.block b (lt_of_heap h) (fun e => by obtain ⟨cs', q', hh⟩ := hS b e; exact cells_ne h hh ht rfl)).trans h
theorem row_lt {B e n cap : Nat} {ao : Option Addr} {xs : List Value} (h : X.ownsRow B e 1 (.slice ao n cap) n xs) {j : Nat} (hj : At ao j) : j < X.heap.size := by
  obtain ⟨_, _, cs, q, hh⟩ := row_kind h hj
  exact lt_of_heap hh
theorem take_v {us : List Rw} {i : Nat} {r : Rw} (h : us[i]? = some r) (ps : List Rw) : (ps ++ us.take i).map Rw.v ++ [r.v] = (ps ++ us.take (i + 1)).map Rw.v := by
  rw [List.take_add_one, h]
  simp
/-- the lists that were got grow -/
theorem Fi.more (h : Fi w zs vs gs gs2 oo go2 oc gc2 b5 b12 b13 N li mi lo lc mo mc X) {r : Rw} (hr : gs2[li]? = some r) {gg cc : Nat} (r1 : X1.ownsRow w.heap.size 23 1 (.slice (some ⟨gg, 0, none⟩) (vs.length + li + 1) cc) (vs.length + li + 1) ((gs ++ gs2.take li).map Rw.v ++ [r.v])) (t : Turn (At lo) X X1) (hg : lo = some ⟨gg, 0, none⟩ ∧ cc = lc ∨ X.heap.size ≤ gg ∧ Turn (fun _ => False) X X1) :
    Fi w zs vs gs gs2 oo go2 oc gc2 b5 b12 b13 N (li + 1) mi (some ⟨gg, 0, none⟩) cc mo mc X1 := by
  have hS : ∀ j, At lo j → ∃ cs q, X.heap[j]? = some (.cells cs 23 q) := fun j hj => (row_kind h.lrow hj).2.2
  have hli := (List.getElem?_eq_some_iff.1 hr).1
  rw [h.n2] at hli
  refine ⟨h.bel.trans (t.below (fun j hj => (row_kind h.lrow hj).1) h.bel.size), box_turn h.h5 (by decide) t hS, box_turn h.h12 (by decide) t hS, box_turn h.h13 (by decide) t hS, ?_, t.row h.mrow (fun j hj q => (h.a1 j q).1 (own_at hj)), h.cw.turn t (fun j hj q => (h.a1 j q).2.2 hj), h.ca.turn t (fun j hj q => (h.a1 j q).2.1 hj), h.lg.turn t hS, h.l2.turn t hS, h.lv.turn t hS, h.dj, h.dv, h.n1, h.n2, h.n3, ⟨by omega, h.n4.2⟩, fun j hj => ?_, h.a2, fun j hj => Nat.lt_of_lt_of_le (h.a3 j hj) t.size, fun j hj => Nat.lt_of_lt_of_le (h.a4 j hj) t.size⟩
  · rw [← take_v hr]; exact r1
  · obtain ⟨_, e, rfl⟩ := hj
    cases e
    rcases hg with ⟨e, _⟩ | ⟨e, _⟩
    · exact h.a1 gg ⟨_, e, rfl⟩
    · exact ⟨fun q => by have := row_lt h.mrow q; simp only at *; omega, fun q => by have := h.a4 _ q; simp only at *; omega, fun q => by have := h.a3 _ q; simp only at *; omega⟩
/-- what must be grows -/
theorem Fi.must (h : Fi w zs vs gs gs2 oo go2 oc gc2 b5 b12 b13 N li mi lo lc mo mc X) {r : Rw} (hr : vs[mi]? = some r) (hmi : mi < N) {gg cc : Nat} (r1 : X1.ownsRow w.heap.size 23 1 (.slice (some ⟨gg, 0, none⟩) (vs.length + mi + 1) cc) (vs.length + mi + 1) ((vs ++ vs.take mi).map Rw.v ++ [r.v])) (t : Turn (At mo) X X1) (hg : mo = some ⟨gg, 0, none⟩ ∧ cc = mc ∨ X.heap.size ≤ gg ∧ Turn (fun _ => False) X X1) :
    Fi w zs vs gs gs2 oo go2 oc gc2 b5 b12 b13 N li (mi + 1) lo lc (some ⟨gg, 0, none⟩) cc X1 := by
  have hS : ∀ j, At mo j → ∃ cs q, X.heap[j]? = some (.cells cs 23 q) := fun j hj => (row_kind h.mrow hj).2.2
  have r2 := r1
  rw [take_v hr] at r2
  refine ⟨h.bel.trans (t.below (fun j hj => (row_kind h.mrow hj).1) h.bel.size), box_turn h.h5 (by decide) t hS, box_turn h.h12 (by decide) t hS, box_turn h.h13 (by decide) t hS, t.row h.lrow (fun j hj q => (h.a1 j (own_at hj)).1 q), r2, ?_, h.ca.turn t (fun j hj q => h.a2 j q hj), h.lg.turn t hS, h.l2.turn t hS, h.lv.turn t hS, h.dj, h.dv, h.n1, h.n2, h.n3, ⟨h.n4.1, by omega⟩, fun j hj => ⟨fun q => ?_, (h.a1 j hj).2⟩, fun j hj q => ?_, fun j hj => Nat.lt_of_lt_of_le (h.a3 j hj) t.size, fun j hj => Nat.lt_of_lt_of_le (h.a4 j hj) t.size⟩
  · rcases hg with ⟨e, _⟩ | ⟨_, t'⟩
    · by_cases hq : ∃ j, At oo j ∧ At mo j
      · obtain ⟨j, h1, h2⟩ := hq
        have hcs : Cs X1 (some ⟨gg, 0, none⟩) vs := Cs.of (us := vs.take (mi + 1)) (by rw [List.length_append, List.length_take]; have := h.n3; omega) r2
        rcases h.cw with q | ⟨b, ha, _⟩
        · exact .inl q
        · have e1 : b = gg := by
            obtain ⟨_, q1, rfl⟩ := h1
            obtain ⟨_, q2, e3⟩ := h2
            rw [ha] at q1; cases q1
            rw [e] at q2; cases q2
            exact e3
          rw [ha, e1]
          exact hcs
      · exact h.cw.turn t (fun j h1 h2 => hq ⟨j, h1, h2⟩)
    · exact h.cw.turn t' (fun j _ q => q)
  · obtain ⟨_, e, e2⟩ := q
    cases e
    simp only at e2
    subst e2
    rcases hg with ⟨e, _⟩ | ⟨e, _⟩
    · exact (h.a1 _ hj).1 ⟨_, e, rfl⟩
    · have := row_lt h.lrow hj; omega
  · obtain ⟨_, e, e2⟩ := hj
    cases e
    simp only at e2
    subst e2
    rcases hg with ⟨e, _⟩ | ⟨e, _⟩
    · exact h.a2 _ ⟨_, e, rfl⟩ q
    · have := h.a4 _ q; omega
end X
end Go.Proofs.Ytaoglenfbbaliaa
