import Derived.Test.YtjmkofdnlhfaiaaAvT
set_option linter.unusedVariables false
set_option linter.unusedSimpArgs false
namespace Go.Proofs.Ytjmkofdnlhfaiaa
open Go.RowKit
namespace C
variable {B c g n v : Nat} {b : Nat → Nat} {s : St} {w w' : World}
theorem turn_cells (bb : Nat) : ∀ (vs : List Value) (o : Nat) (w : World), Turn (fun j => j = bb) w (w.setCells bb o vs) := by
  intro vs
  induction vs with
  | nil => intro o w; exact Turn.refl _ _
  | cons u r ih => intro o w; exact (turn_b bb o u w).trans (ih (o + 1) _)
theorem cells_block {bb N : Nat} {t : TypeId} {r : Nat × Nat} : ∀ (vs : List Value) (o : Nat) (w : World) (q : Nat → Value), w.heap[bb]? = some (.cells (tab N q) t r) → (w.setCells bb o vs).heap[bb]? = some (.cells (tab N (fun i => if o ≤ i ∧ i < o + vs.length then vs.getD (i - o) (.bool false) else q i)) t r) := by
  intro vs
  induction vs with
  | nil =>
    intro o w q h
    rw [tab_congr (g' := q) (fun i _ => if_neg (by simp only [List.length_nil]; omega))]
    exact h
  | cons u rest ih =>
    intro o w q h
    have h1 := set_block (off := o) (v := u) h
    rw [tab_set (g' := fun i => if i = o then u else q i) (fun i _ => rfl)] at h1
    have := ih (o + 1) _ _ h1
    rw [tab_congr (g' := fun i => if o ≤ i ∧ i < o + (u :: rest).length then (u :: rest).getD (i - o) (.bool false) else q i) (fun i _ => ?_)] at this
    · exact this
    · simp only [List.length_cons]
      by_cases e : i = o
      · subst e
        rw [if_neg (by omega), if_pos rfl, if_pos (by omega), Nat.sub_self]
        rfl
      · by_cases e2 : o + 1 ≤ i ∧ i < o + 1 + rest.length
        · rw [if_pos e2, if_pos (by omega), show i - o = (i - (o + 1)) + 1 by omega]
          rfl
        · rw [if_neg e2, if_neg e, if_neg (by omega)]
/-- a place is written whole -/
theorem Ca.pall (h : Ca B c g n v b s w) {i j : Nat} (hi : i < n) (hj : j < v) (d : Option De) :
    Ca B c g n v b ⟨fup2 s.f i j d, s.h, s.hi, s.mi, s.ev⟩ (w.setCells (b i) (j * 7) (pcs d)) ∧ Turn (Own c g n b) w (w.setCells (b i) (j * 7) (pcs d)) := by
  have t := turn_cells (b i) (pcs d) (j * 7) w
  refine ⟨⟨(t.block c (lt_of_heap h.hc) (h.ne_cb hi)).trans h.hc, (t.block g (lt_of_heap h.hg) (h.ne_gb hi)).trans h.hg, fun q hq => ?_, h.inj, h.lc, h.lg, h.lb, h.n1, h.n2, h.v1, h.v2, h.hh⟩, t.mono (fun q _ e => .inr (.inr ⟨i, hi, e⟩))⟩
  show _ = some (Obj.cells (tab _ (prow (fup2 s.f i j d q))) 76 (0, 0))
  unfold fup2
  by_cases e : q = i
  · subst e
    rw [fup_self, cells_block (pcs d) (j * 7) w _ (h.hb q hi)]
    rw [tab_congr (g' := prow (fup (s.f q) j d)) (fun r hr => ?_)]
    rw [pcs_len]
    unfold prow
    by_cases e : r / 7 = j
    · rw [e, fup_self, if_pos (by omega), show r - j * 7 = r % 7 by omega]
      rfl
    · rw [fup_ne _ _ e, if_neg (by omega)]
  · rw [fup_ne _ _ e]
    exact (t.block (b q) (lt_of_heap (h.hb q hq)) (fun z => e (h.inj q i hq hi z))).trans (h.hb q hq)
theorem Ca.there (h : Ca B c g n v b s w) {i j : Nat} (hi : i < n) (hj : j < v) : w.there (b i) (j * 7) 7 := fun k hk => by
  rw [h.pc hi hj hk]
  exact ⟨rfl, h.fb hi _⟩
/-- Get, as the document says -/
def mis (s : St) : St := ⟨s.f, s.h, s.hi, s.mi + 1, s.ev⟩
def gta (n v : Nat) (s : St) (tag : Int) (t : Tr) : Bool × Bool × St :=
  match fst (has (s.f (spt n t)) t) v with
  | none => (false, false, mis s)
  | some j => match s.f (spt n t) j with
    | none => (false, false, mis s)
    | some d => if d.tag = tag then (d.al, true, ⟨fup2 s.f (spt n t) j (some (mrk d)), s.h, s.hi + 1, s.mi, s.ev⟩) else (false, false, ⟨fup2 s.f (spt n t) j none, s.h, s.hi, s.mi + 1, s.ev⟩)
theorem gta_none {tag : Int} {t : Tr} (h : fst (has (s.f (spt n t)) t) v = none) : gta n v s tag t = (false, false, mis s) := by unfold gta; rw [h]
theorem gta_hit {tag : Int} {t : Tr} {j : Nat} {d : De} (h : fst (has (s.f (spt n t)) t) v = some j) (hd : s.f (spt n t) j = some d) (ht : d.tag = tag) : gta n v s tag t = (d.al, true, ⟨fup2 s.f (spt n t) j (some (mrk d)), s.h, s.hi + 1, s.mi, s.ev⟩) := by
  unfold gta; rw [h]; simp only [hd, ht, if_true]
theorem gta_old {tag : Int} {t : Tr} {j : Nat} {d : De} (h : fst (has (s.f (spt n t)) t) v = some j) (hd : s.f (spt n t) j = some d) (ht : d.tag ≠ tag) : gta n v s tag t = (false, false, ⟨fup2 s.f (spt n t) j none, s.h, s.hi, s.mi + 1, s.ev⟩) := by
  unfold gta; rw [h]; simp only [hd, if_neg ht]
theorem pv4 (d : De) : pv (some d) 4 = .int .i64 d.tag := rfl
theorem pv5 (d : De) : pv (some d) 5 = .bool d.al := rfl
theorem turn_any' {S : Nat → Prop} {w w1 w2 : World} (hb : Below w.heap.size w w1) (t : Turn S w1 w2) (hS : ∀ j, S j → j < w.heap.size) : Turn S w w2 := (turn_below hb).trans t
set_option maxRecDepth 100000 in
set_option maxHeartbeats 2000000 in
theorem get_any (tag : Int) (t : Tr) (h : Ca B c g n v b s w) (h1 : s.hi < 4000000000000000000) (h2 : s.mi < 4000000000000000000) : Calls Try.prog 19 #[.pointer (some ⟨c, 0, none⟩), .int .i64 tag, .int .i64 t.s, .int .i64 t.o, .int .i64 t.a] w fun e w' => e = .returned (.tuple #[.bool (gta n v s tag t).1, .bool (gta n v s tag t).2.1]) ∧ Ca B c g n v b (gta n v s tag t).2.2 w' ∧ Turn (Own c g n b) w w' := by
  have HS := hide' (setOf_any t h)
  have hi : spt n t < n := spt_lt h.n1 t
  have HF : Hid (∀ k, Calls Try.prog 30 #[.pointer (some ⟨g, spt n t * 2, none⟩), .agg #[.int .i64 t.s, .int .i64 t.o, .int .i64 t.a]] (w.drewN k) fun e w' => e = .returned (pat (b (spt n t)) (fst (has (s.f (spt n t)) t) v)) ∧ Ca B c g n v b s w' ∧ Turn (Own c g n b) w w') := hide' (fun k => (find_any t hi (h.drewN k)).mono fun e w' ⟨he, hb⟩ => ⟨he, (h.drewN k).below hb, ((Turn.refl _ w).drewN k).trans (turn_below hb)⟩)
  have W1 := hide' (wsucN s.hi (by omega))
  have W2 := hide' (wsucN s.mi (by omega))
  clear h h1 h2
  obtain ⟨G, hG⟩ : ∃ G, G = gta n v s tag t := ⟨_, rfl⟩
  rw [← hG]
  have HG := hide' hG
  have Hi := hide' hi
  clear hG hi
  go_enter Try.func19, Try.ntmps19
  go_wp2_with fail
  refine HS.out.mono ?_
  rintro e w1 ⟨rfl, k, hk⟩
  have HF' := HF.out k
  rw [← hk] at HF'
  have HF1 := hide' HF'
  clear HS HF HF' hk
  go_wp2_with fail
  refine HF1.out.mono ?_
  rintro e w2 ⟨rfl, h2, t2⟩
  have H2 := hide' (And.intro h2 t2)
  clear h2 t2 HF1
  unfold pat
  cases hf : fst (has (s.f (spt n t)) t) v with
  | none =>
    have c2 := H2.out.1.c2
    have f2 := H2.out.1.fc 2
    have HE := hide' (H2.out.1.cset (mis s) rfl rfl 2 (.int .i64 ((s.mi + 1 : Nat) : Int)) rfl)
    have HR := hide' (HG.out.trans (gta_none hf))
    have HT := hide' H2.out.2
    clear hf H2
    simp only [Option.map_none]
    go_wp2
    go_ret2
    rw [HR.out, W2.out]
    exact ⟨rfl, HE.out.1, HT.out.trans HE.out.2⟩
  | some j =>
    obtain ⟨hj, hh, _⟩ := fst_some hf
    obtain ⟨d, hd, _⟩ := has_true hh
    have p4 := H2.out.1.pc Hi.out hj (k := 4) (by omega)
    rw [hd, pv4] at p4
    simp only [Option.map_some]
    by_cases ht : d.tag = tag
    · have HR := hide' (HG.out.trans (gta_hit hf hd ht))
      have p6 : w2.cell? ⟨b (spt n t), j * 7 + 6, none⟩ = some (.bool d.mr) := by
        have := H2.out.1.pc Hi.out hj (k := 6) (by omega)
        rw [hd] at this
        exact this
      have f6 := H2.out.1.fb Hi.out (j * 7 + 6)
      have HE := H2.out.1.pset Hi.out hj (k := 6) (by omega) (some (mrk d)) (.bool true) (fun q hq => by
        rw [hd]
        have : q = 0 ∨ q = 1 ∨ q = 2 ∨ q = 3 ∨ q = 4 ∨ q = 5 ∨ q = 6 := by omega
        rcases this with rfl | rfl | rfl | rfl | rfl | rfl | rfl <;> rfl)
      have c1 := HE.1.c1
      have f1 := HE.1.fc 1
      have p5 : (w2.setCell ⟨b (spt n t), j * 7 + 6, none⟩ (.bool true)).cell? ⟨b (spt n t), j * 7 + 5, none⟩ = some (.bool d.al) := by
        have := HE.1.pc Hi.out hj (k := 5) (by omega)
        rw [this]
        show some (pv (fup2 s.f (spt n t) j (some (mrk d)) (spt n t) j) 5) = _
        unfold fup2
        rw [fup_self, fup_self]
        rfl
      have HE2 := HE.1.cset (gta n v s tag t).2.2 (by rw [gta_hit hf hd ht]) (by rw [gta_hit hf hd ht]) 1 (.int .i64 ((s.hi + 1 : Nat) : Int)) (by rw [gta_hit hf hd ht]; rfl)
      rw [gta_hit hf hd ht] at HE2
      have ne : c ≠ b (spt n t) := H2.out.1.ne_cb Hi.out
      have HE3 := hide' HE2
      have HT := hide' (H2.out.2.trans HE.2)
      clear hf H2 HE HE2 hd hh hj HG
      generalize b (spt n t) = bb at *
      subst ht
      generalize d.tag = tg at *
      generalize d.al = al at *
      generalize d.mr = mr at *
      go_wp2
      go_ret2
      rw [HR.out, W1.out]
      exact ⟨rfl, HE3.out.1, HT.out.trans HE3.out.2⟩
    · have HR := hide' (HG.out.trans (gta_old hf hd ht))
      have HE := H2.out.1.pall Hi.out hj none
      obtain ⟨w3, hw3⟩ : ∃ w3, w3 = w2.setCells (b (spt n t)) (j * 7) (pcs none) := ⟨_, rfl⟩
      rw [← hw3] at HE
      have HW3 := hide' hw3
      clear hw3
      have Hth := hide' (H2.out.1.there Hi.out hj)
      have c2 := HE.1.c2
      have f2 := HE.1.fc 2
      have HE2 := HE.1.cset (gta n v s tag t).2.2 (by rw [gta_old hf hd ht]) (by rw [gta_old hf hd ht]) 2 (.int .i64 ((s.mi + 1 : Nat) : Int)) (by rw [gta_old hf hd ht]; rfl)
      rw [gta_old hf hd ht] at HE2
      have HE3 := hide' HE2
      have HT := hide' (H2.out.2.trans HE.2)
      have htd : ¬ (d.tag = tag) := ht
      clear hf H2 HE HE2 hd hh hj HG ht
      generalize b (spt n t) = bb at *
      generalize d.tag = tg at *
      go_wp2_with (with_reducible refine stay_store 76 _ _ rfl ?_)
      unfold Stay
      refine wpList_store_mid rfl 76 _ _ rfl bb (j * 7) #[.bool false, .int .i64 0, .int .i64 0, .int .i64 0, .int .i64 0, .bool false, .bool false] rfl rfl Hth.out (by kernel_rfl) (by simp [Value.oneCell']) ?_
      show wpList _ _ _ _ _ (w2.setCells bb (j * 7) (pcs none))
      rw [← HW3.out]
      go_wp2
      go_ret2
      rw [HR.out, W2.out]
      exact ⟨rfl, HE3.out.1, HT.out.trans HE3.out.2⟩
end C
end Go.Proofs.Ytjmkofdnlhfaiaa
