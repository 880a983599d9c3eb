import Derived.Test.YtbgjggblaeadlaaMuP
set_option linter.unusedVariables false
set_option linter.unusedSimpArgs false
namespace Go.Proofs.Ytbgjggblaeadlaa
open Go.RowKit
namespace X
open C F A
/-- lists that are gathered in a box while an iterator tells them -/
structure Gi (V : World) (bx : Nat) (zs : List Int) (k : Nat) (gs : List Rw) (go : Option Addr) (gc : Nat) (M : Nat → Prop) (X : World) : Prop where
  t : Turn (fun j => j = bx) V X
  hb : X.heap[bx]? = some (.cells #[.slice go gs.length gc] 31 (0, 0))
  row : X.ownsRow V.heap.size 23 1 (.slice go gs.length gc) gs.length (gs.map Rw.v)
  ls : ∀ (i : Nat) (r : Rw), gs[i]? = some r → ∃ l, Chn zs i l ∧ r.len = l.length ∧ Gr V.heap.size l r.ao r.cap X
  dj : ∀ (i j : Nat) (r s : Rw), gs[i]? = some r → gs[j]? = some s → i ≠ j → ∀ b, At r.ao b → ¬ At s.ao b
  kl : gs.length = k
  nb : ¬ M bx
  no : ∀ j, At go j → ¬ M j
  nl : ∀ (i : Nat) (r : Rw), gs[i]? = some r → ∀ j, At r.ao j → ¬ M j
  lb : bx < V.heap.size
variable {V X X' : World} {bx : Nat} {zs : List Int} {k : Nat} {gs : List Rw} {go : Option Addr} {gc : Nat} {M M' : Nat → Prop}
theorem Gi.start (hb : V.heap[bx]? = some (.cells #[.slice none 0 0] 31 (0, 0))) (hM : ¬ M bx) : Gi V bx zs 0 [] none 0 M V :=
  ⟨Turn.refl _ _, hb, World.ownsRow_nil V _ 23 1, fun i r h => by simp at h, fun i j r s h => by simp at h, rfl, hM, (fun j h => by obtain ⟨_, q, _⟩ := h; cases q), fun i r h => by simp at h, lt_of_heap hb⟩
theorem row_qm {B' : Nat} {w w' : World} {B e n : Nat} {ao : Option Addr} {cap : Nat} {xs : List Value} (h : w.ownsRow B e 1 (.slice ao n cap) n xs) (t : QM B' M w w') (hM : ∀ j, At ao j → ¬ M j) : w'.ownsRow B e 1 (.slice ao n cap) n xs := by
  obtain ⟨h1, h2⟩ := h
  refine ⟨h1, ?_⟩
  rcases h2 with h2 | ⟨g, cap', cur, hv, hb, hg, rest⟩
  · exact .inl h2
  · have ha : ao = some ⟨g, 0, none⟩ := by simp only [Value.slice.injEq] at hv; exact hv.1
    exact .inr ⟨g, cap', cur, hv, hb, t.block hg (hM g ⟨_, ha, rfl⟩), rest⟩
theorem Gi.gr (h : Gi V bx zs k gs go gc M X) {i : Nat} {r : Rw} (hr : gs[i]? = some r) {j : Nat} (hj : At r.ao j) : V.heap.size ≤ j ∧ j < X.heap.size ∧ ∃ cs q, X.heap[j]? = some (.cells cs 3 q) := by
  obtain ⟨l, _, _, g⟩ := h.ls i r hr
  obtain ⟨h1, _, cs, q, h2⟩ := row_kind g.row hj
  exact ⟨h1, lt_of_heap h2, cs, q, h2⟩
theorem Gi.qm (h : Gi V bx zs k gs go gc M X) (t : QM V.heap.size M X X') (hm : ∀ j, M' j → M j ∨ X.heap.size ≤ j) : Gi V bx zs k gs go gc M' X' := by
  have hlb := h.lb
  have hz := h.t.size
  refine ⟨h.t.then t (fun i hi q => q.elim (fun q => by have := q.1; omega) (fun q => by have := q.2; omega)), (t.low hlb (Nat.lt_of_lt_of_le hlb hz)).trans h.hb, row_qm h.row t h.no, fun i r hr => ?_, h.dj, h.kl, fun q => (hm bx q).elim h.nb (fun q => by omega), fun j hj q => ?_, fun i r hr j hj q => ?_, hlb⟩
  · obtain ⟨l, h1, h2, h3⟩ := h.ls i r hr
    exact ⟨l, h1, h2, ⟨row_qm h3.row t (h.nl i r hr)⟩⟩
  · rcases hm j q with q | q
    · exact h.no j hj q
    · obtain ⟨_, _, cs, qq, hh⟩ := row_kind h.row hj
      have := lt_of_heap hh
      omega
  · rcases hm j q with q | q
    · exact h.nl i r hr j hj q
    · have := (h.gr hr hj).2.1
      omega
/-- one list more -/
theorem Gi.add (h : Gi V bx zs k gs go gc M X) {ro : Option Addr} {rc : Nat} {l : List Int} (hc : Chn zs k l) (hr : X.ownsRow V.heap.size 3 1 (.slice ro l.length rc) l.length (ivs l)) (hM : ∀ j, At ro j → M j) {gg cc : Nat} {X1 : World}
    (r1 : X1.ownsRow V.heap.size 23 1 (.slice (some ⟨gg, 0, none⟩) (gs.length + 1) cc) (gs.length + 1) (gs.map Rw.v ++ [.slice ro l.length rc])) (hg : (X.alloc (.cells #[.slice ro l.length rc] 23)).grownBy X1 (Value.slice go gs.length gc).ownBlock) (hat : (Value.slice go gs.length gc).ownBlock = some gg ∨ X.heap.size ≤ gg) (hml : ∀ j, M j → j < X.heap.size) :
    KeepsFrom V.heap.size X (X1.setCell ⟨bx, 0, none⟩ (.slice (some ⟨gg, 0, none⟩) (gs.length + 1) cc)) ∧ Gi V bx zs (k + 1) (gs ++ [⟨ro, l.length, rc⟩]) (some ⟨gg, 0, none⟩) cc (fun j => M j ∧ ¬ At ro j) (X1.setCell ⟨bx, 0, none⟩ (.slice (some ⟨gg, 0, none⟩) (gs.length + 1) cc)) ∧ (∀ j, M j → ¬ At ro j → (X1.setCell ⟨bx, 0, none⟩ (.slice (some ⟨gg, 0, none⟩) (gs.length + 1) cc)).heap[j]? = X.heap[j]?) ∧ X1.heap[bx]? = some (.cells #[.slice go gs.length gc] 31 (0, 0)) := by
  have hlb := h.lb
  have hz := h.t.size
  have t0 : Turn (At go) X X1 := ((Turn.refl _ X).alloc _).grown hg (fun k hk _ => own_at hk)
  have hgo : ∀ j, At go j → V.heap.size ≤ j ∧ ∃ cs q, X.heap[j]? = some (.cells cs 23 q) := fun j hj => by
    obtain ⟨h1, _, cs, q, h2⟩ := row_kind h.row hj
    exact ⟨h1, cs, q, h2⟩
  have hbg : ¬ At go bx := fun q => by have := (hgo bx q).1; omega
  have hgV : V.heap.size ≤ gg := by
    rcases hat with q | q
    · exact (hgo gg (own_at q)).1
    · omega
  have hb1 := (t0.block bx (lt_of_heap h.hb) hbg).trans h.hb
  have t1 := (Turn.refl (fun j => j = bx) X1).setCell (p := ⟨bx, 0, none⟩) (fun _ => rfl) (.slice (some ⟨gg, 0, none⟩) (gs.length + 1) cc)
  have t2 : Turn (fun j => At go j ∨ j = bx) X (X1.setCell ⟨bx, 0, none⟩ (.slice (some ⟨gg, 0, none⟩) (gs.length + 1) cc)) := (t0.mono (fun k _ q => .inl q)).trans (t1.mono (fun k _ q => .inr q))
  have h3ne : ∀ j, (∃ cs q, X.heap[j]? = some (.cells cs 3 q)) → V.heap.size ≤ j → ¬ (At go j ∨ j = bx) := fun j ⟨cs, q, hj⟩ hV hq => by
    rcases hq with hq | hq
    · obtain ⟨_, cs', q', h2⟩ := hgo j hq
      exact cells_ne hj h2 (by decide) rfl
    · omega
  have hMn : ∀ j, M j → ¬ (At go j ∨ j = bx) := fun j hj hq => by
    rcases hq with hq | hq
    · exact h.no j hq hj
    · rw [hq] at hj; exact h.nb hj
  have hro : ∀ j, At ro j → V.heap.size ≤ j ∧ j < X.heap.size ∧ ∃ cs q, X.heap[j]? = some (.cells cs 3 q) := fun j hj => by
    obtain ⟨h1, _, cs, q, h2⟩ := row_kind hr hj
    exact ⟨h1, lt_of_heap h2, cs, q, h2⟩
  have spl : ∀ (i : Nat) (x : Rw), (gs ++ [(⟨ro, l.length, rc⟩ : Rw)])[i]? = some x → (i < gs.length ∧ gs[i]? = some x) ∨ (i = gs.length ∧ x = ⟨ro, l.length, rc⟩) := fun i x hx => by
    have hi := (List.getElem?_eq_some_iff.1 hx).1
    rw [List.length_append] at hi
    by_cases hlt : i < gs.length
    · rw [List.getElem?_append_left hlt] at hx
      exact .inl ⟨hlt, hx⟩
    · have : i = gs.length := by simp at hi; omega
      subst this
      rw [List.getElem?_append_right (Nat.le_refl _), Nat.sub_self] at hx
      simp at hx
      exact .inr ⟨rfl, hx.symm⟩
  have hlen : (gs ++ [(⟨ro, l.length, rc⟩ : Rw)]).length = gs.length + 1 := by rw [List.length_append]; rfl
  refine ⟨⟨t2.size, fun j o hB hj hcel => (t2.block j (lt_of_heap hj) (fun q => ?_)).trans hj⟩, ⟨?_, ?_, ?_, ?_, ?_, ?_, ?_, ?_, ?_, hlb⟩, fun j hj _ => t2.block j (hml j hj) (hMn j hj), hb1⟩
  · rcases q with q | q
    · obtain ⟨_, cs, qq, h2⟩ := hgo j q
      rw [hj] at h2
      cases h2
      cases hcel
    · omega
  · exact h.t.then t2 (fun i hi q => q.elim (fun q => by have := (hgo i q).1; omega) (fun q => q))
  · rw [hlen]; exact set_block hb1
  · rw [hlen, List.map_append]
    exact t1.row r1 (fun j hj q => by
      have : gg = j := by simpa [Value.ownBlock] using hj
      omega)
  · intro i x hx
    rcases spl i x hx with ⟨_, g1⟩ | ⟨hi, rfl⟩
    · obtain ⟨l', q1, q2, q3⟩ := h.ls i x g1
      exact ⟨l', q1, q2, q3.kept t2 (fun j hj => h3ne j (h.gr g1 hj).2.2 (h.gr g1 hj).1)⟩
    · refine ⟨l, by rw [hi, h.kl]; exact hc, rfl, ⟨t2.row hr (fun j hj => h3ne j (hro j (own_at hj)).2.2 (hro j (own_at hj)).1)⟩⟩
  · intro i j r s hr1 hs1 hij b hb1 hb2
    rcases spl i r hr1 with ⟨_, g1⟩ | ⟨hi, e1⟩ <;> rcases spl j s hs1 with ⟨_, g2⟩ | ⟨hj, e2⟩
    · exact h.dj i j r s g1 g2 hij b hb1 hb2
    · rw [e2] at hb2; exact h.nl i r g1 b hb1 (hM b hb2)
    · rw [e1] at hb1; exact h.nl j s g2 b hb2 (hM b hb1)
    · omega
  · rw [hlen, h.kl]
  · exact fun q => h.nb q.1
  · intro j hj q
    obtain ⟨_, e, rfl⟩ := hj
    cases e
    rcases hat with e | e
    · exact h.no gg (own_at e) q.1
    · have := hml gg q.1; omega
  · intro i x hx j hj q
    rcases spl i x hx with ⟨_, g1⟩ | ⟨_, e1⟩
    · exact h.nl i x g1 j hj q.1
    · rw [e1] at hj; exact q.2 hj
theorem Gi.sub (h : Gi V bx zs k gs go gc M X) (hM : ∀ j, M' j → M j) : Gi V bx zs k gs go gc M' X := h.qm (QM.of (QT.refl _ _)) (fun j q => .inl (hM j q))
end X
end Go.Proofs.Ytbgjggblaeadlaa
