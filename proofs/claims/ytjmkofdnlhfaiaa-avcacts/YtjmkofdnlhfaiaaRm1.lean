import Derived.Test.YtjmkofdnlhfaiaaAvO
set_option linter.unusedVariables false
set_option linter.unusedSimpArgs false
namespace Go.Proofs.Ytjmkofdnlhfaiaa
open Go.RowKit
namespace C
def At (ao : Option Addr) (j : Nat) : Prop := ∃ a, ao = some a ∧ j = a.block
theorem own_at {ao : Option Addr} {n cap j : Nat} (h : (Value.slice ao n cap).ownBlock = some j) : At ao j := by
  cases ao with
  | none => cases h
  | some a => exact ⟨a, rfl, by simpa [Value.ownBlock] using h.symm⟩
theorem row_atk {w : World} {B e size n cap : Nat} {ao : Option Addr} {xs : List Value} (h : w.ownsRow B e size (.slice ao n cap) n xs) {j : Nat} (hj : At ao j) : B ≤ j ∧ j < w.heap.size ∧ ∃ cs, w.heap[j]? = some (.cells cs e (0, 0)) := by
  obtain ⟨a, rfl, rfl⟩ := hj
  rcases h.2 with ⟨hv, _⟩ | ⟨g', cap', cur, hv, hb, hg', _⟩
  · cases hv
  · simp only [Value.slice.injEq, Option.some.injEq] at hv
    obtain ⟨rfl, _, _⟩ := hv
    exact ⟨hb, lt_of_heap hg', cur, hg'⟩
/-- append of one thing to a row -/
theorem wpList_more {t e m bytes : Nat} {z : Value} (ht : Try.prog.underlying t = some (.slice e)) (hinf : (Try.prog.info? e).map (fun i => (i.zero, i.size, i.bytes)) = some (some z, m, bytes)) (hz : z.cells.size = m) (hm : 0 < m) (hby : bytes ≤ 80) (w : World) {ops : Array Oper} {rest : List Oper} {o : Oper} {a : Go.Act} {Q : Exit → Go.Act → World → Prop} (hgd : o.guard = none) (s y : Operand)
    (ho : o.op = .call { callee := .builtin .append, args := #[s, y], argTypes := #[t, t] }) {B : Nat} {ro : Option Addr} {rc k : Nat} {xs : List Value} (hrow : w.ownsRow B e m (.slice ro k rc) k xs) (hl : k < 1500000000000) (hB : B ≤ w.heap.size) (cs : List Value) (hcl : cs.length = m) (h1 : ∀ u ∈ cs, u.oneCell' = true) (c : Nat) (hs : a.eval s = .slice ro k rc) (hx : a.eval y = .slice (some ⟨w.heap.size, 0, none⟩) 1 c)
    (hk : ∀ gg cap' w1, w1.ownsRow B e m (.slice (some ⟨gg, 0, none⟩) (k + 1) cap') (k + 1) (xs ++ cs) → Turn (At ro) w w1 → (At ro gg ∨ w.heap.size ≤ gg) → wpList Try.prog ops Q rest (a.put o.dst (.slice (some ⟨gg, 0, none⟩) (k + 1) cap')) w1) :
    wpList Try.prog ops Q (o :: rest) a (w.alloc (.cells cs.toArray e)) := by
  obtain ⟨i0, hi0, hz0, hz1, hz2⟩ := info_parts hinf
  refine wpList_append_lies _ hgd s y t ho B e i0 _ m bytes ht hi0 hz0 hz1 hz2 hz hm _ k xs hs (World.ownsRow.alloc hrow _) ⟨w.heap.size, 0, none⟩ 1 c cs hx (by omega) (fun j u hj => World.news_of_block (heap_alloc_new w (.cells cs.toArray e)) j u (by simpa using hj)) h1 (by omega) (by unfold maxLen; omega) (Nat.le_trans (Nat.mul_le_mul_left _ hby) (by omega)) (by simp; omega) (w.heap.size + 1) (by simp) ?_
  intro gg cap' w1 hown1 hgrow hat hlt
  have t0 : Turn (At ro) w w1 := ((Turn.refl _ w).alloc _).grown hgrow (fun k hk _ => own_at hk)
  refine hk gg cap' w1 hown1 t0 ?_
  rcases hat with q | q
  · exact .inl (own_at q)
  · exact .inr (by omega)
/-- calls as cells, one behind the other -/
def acl (ys : List Act) : List Value := ys.flatMap fun y => y.arr.toList
theorem acl_add (ys : List Act) (y : Act) : acl (ys ++ [y]) = acl ys ++ [.int .i64 y.d, .int .i64 y.tag, .int .i64 y.t.s, .int .i64 y.t.o, .int .i64 y.t.a, .bool y.al] := by
  unfold acl
  rw [List.flatMap_append]
  simp [Act.arr]
theorem acl_at : ∀ (ys : List Act) (k r : Nat) (z : Act), r < 6 → ys[k]? = some z → (acl ys)[k * 6 + r]? = z.arr.toList[r]? := by
  intro ys
  induction ys with
  | nil => intro k r z _ h; simp at h
  | cons a t ih =>
    intro k r z hr h
    rw [show acl (a :: t) = a.arr.toList ++ acl t from rfl]
    have hl : a.arr.toList.length = 6 := rfl
    cases k with
    | zero =>
      simp only [List.getElem?_cons_zero, Option.some.injEq] at h
      subst h
      rw [Nat.zero_mul, Nat.zero_add, List.getElem?_append_left (by omega)]
    | succ k =>
      rw [List.getElem?_cons_succ] at h
      rw [List.getElem?_append_right (by omega), hl, show (k + 1) * 6 + r - 6 = k * 6 + r by omega]
      exact ih k r z hr h
theorem acs_row {w : World} {B rc : Nat} {ro : Option Addr} {ys : List Act} (h : w.ownsRow B 45 6 (.slice ro ys.length rc) ys.length (acl ys)) : Acs w ro ys := by
  rcases h.2 with ⟨hv, h0⟩ | ⟨g, cap, cur, hv, hb, hg, _⟩
  · exact .inl (List.eq_nil_of_length_eq_zero h0)
  · simp only [Value.slice.injEq] at hv
    obtain ⟨rfl, _, rfl⟩ := hv
    refine .inr ⟨g, 0, rfl, lt_of_heap hg, fun j x hx r u hu => ?_⟩
    have hr : r < 6 := (List.getElem?_eq_some_iff.1 hu).1
    have hj : j < ys.length := (List.getElem?_eq_some_iff.1 hx).1
    rw [Nat.zero_add, World.ownsRow.cellAt h (j * 6 + r) (by omega), acl_at ys j r x hr hx]
    exact hu
theorem info45 : (Try.prog.info? 45).map (fun i => (i.zero, i.size, i.bytes)) = some (some (.agg #[.int .i64 0, .int .i64 0, .int .i64 0, .int .i64 0, .int .i64 0, .bool false]), 6, 48) := by kernel_rfl
variable {n v : Nat} {s : St}
/-- what has room stays -/
structure Rv (n v : Nat) (tag : Int) (ts : List Tr) (ys : List Act) (s : St) : Prop where
  tv : Tv n v s ys
  of : ∀ y, y ∈ ys → y.d = 2 ∧ y.tag = tag ∧ y.t ∈ ts
  sd : ∀ y, y ∈ ys → Sd n v s y.t
  ev : s.ev = 0
  mi : s.mi = 0
theorem rv0 {tag : Int} {ts : List Tr} : Rv n v tag ts [] st0 := ⟨tv0, (fun y h => by cases h), (fun y h => by cases h), rfl, rfl⟩
theorem hld_free {f : Pf} : ∀ {k : Nat}, hld f k < k → ∃ j, j < k ∧ f j = none := by
  intro k
  induction k with
  | zero => intro h; omega
  | succ k ih =>
    intro h
    unfold hld at h
    cases hf : f k with
    | none => exact ⟨k, by omega, hf⟩
    | some d =>
      rw [hf] at h
      obtain ⟨j, h1, h2⟩ := ih (by simp at h; omega)
      exact ⟨j, by omega, h2⟩
theorem Rv.put {tag : Int} {ts : List Tr} {ys : List Act} (h : Rv n v tag ts ys s) (hn : 1 ≤ n) (hv : 1 ≤ v) (hh : ∀ i, i < n → s.h i < v) (hts : ts.length ≤ v) {a : Act} (hd : a.d = 2) (ht : a.tag = tag) (hm : a.t ∈ ts) : Rv n v tag ts (ys ++ [a]) (pta n v s tag a.t a.al) ∧ (pta n v s tag a.t a.al).hi = s.hi := by
  have hp := h.tv.put hn hv hh hd
  rw [ht] at hp
  have hi := spt_lt hn a.t
  have key : (pta n v s tag a.t a.al).ev = s.ev ∧ ∀ t, Sd n v s t → Sd n v (pta n v s tag a.t a.al) t := by
    cases hf : fst (has (s.f (spt n a.t)) a.t) v with
    | some k =>
      obtain ⟨hk, hh', _⟩ := fst_some hf
      obtain ⟨d, hd', ht'⟩ := has_true hh'
      rw [pta_same hf hd']
      refine ⟨rfl, fun t ⟨j, d1, h1, h2, h3⟩ => ?_⟩
      by_cases e : spt n t = spt n a.t ∧ j = k
      · rw [e.1, e.2, hd'] at h2
        cases h2
        exact ⟨k, ⟨d.t, tag, a.al, d.mr⟩, hk, by simp only [fup2_at]; rw [if_pos ⟨e.1, trivial⟩], h3⟩
      · exact ⟨j, d1, h1, by simp only [fup2_at]; rw [if_neg e]; exact h2, h3⟩
    | none =>
      cases hr : fst (fre (s.f (spt n a.t))) v with
      | some k =>
        obtain ⟨hk, hfk, _⟩ := fst_some hr
        rw [pta_room hf hr]
        refine ⟨rfl, fun t ⟨j, d1, h1, h2, h3⟩ => ⟨j, d1, h1, ?_, h3⟩⟩
        simp only [fup2_at]
        rw [if_neg]
        · exact h2
        · intro e
          rw [e.1, e.2] at h2
          unfold fre at hfk
          rw [h2] at hfk
          cases hfk
      | none =>
        exfalso
        have hno := fst_none hf
        have hfr := fst_none hr
        have hnd : (a.t :: pl (s.f (spt n a.t)) v).Nodup := by
          refine List.nodup_cons.2 ⟨fun q => ?_, pl_nodup _ v (fun j j' d d' h1 h2 => h.tv.uniq _ j j' d d' hi h1 h2)⟩
          obtain ⟨j, d, h1, h2, h3⟩ := (pl_mem _ _ v).1 q
          have := hno j h1
          rw [has_of h2 h3] at this
          cases this
        have hle := erase_len _ ts hnd (fun t q => by
          rcases List.mem_cons.1 q with q | q
          · rw [q]; exact hm
          · obtain ⟨j, d, h1, h2, h3⟩ := (pl_mem _ _ v).1 q
            obtain ⟨y, l, _⟩ := h.tv.last _ j d hi h1 h2
            obtain ⟨_, e2, e3⟩ := lst_is _ _ rfl y l
            rw [← h3, ← e2]
            exact (h.of y e3).2.2)
        rw [List.length_cons, pl_len] at hle
        obtain ⟨j, h1, h2⟩ := hld_free (f := s.f (spt n a.t)) (k := v) (by omega)
        have := hfr j h1
        unfold fre at this
        rw [h2] at this
        cases this
  have hc := pta_cnt (n := n) (v := v) (s := s) tag a.t a.al
  refine ⟨⟨hp.1, fun y hy => ?_, fun y hy => ?_, key.1.trans h.ev, hc.2.1.trans h.mi⟩, hc.1⟩
  · rcases List.mem_append.1 hy with q | q
    · exact h.of y q
    · rw [List.mem_singleton.1 q]; exact ⟨hd, ht, hm⟩
  · rcases List.mem_append.1 hy with q | q
    · exact key.2 _ (h.sd y q)
    · rw [List.mem_singleton.1 q]
      obtain ⟨j, d, h1, h2, h3⟩ := hp.2
      exact ⟨j, d, h1, h2, h3⟩
theorem Rv.ask {tag : Int} {ts : List Tr} {ys : List Act} (h : Rv n v tag ts ys s) (hn : 1 ≤ n) {k : Nat} {y : Act} (hy : ys[k]? = some y) : ∃ z, lst ys y.t = some z ∧ (gta n v s tag z.t).2.1 = true ∧ (gta n v s tag z.t).1 = z.al ∧ Rv n v tag ts ys (gta n v s tag z.t).2.2 ∧ (gta n v s tag z.t).2.2.hi = s.hi + 1 := by
  have hm : y ∈ ys := List.mem_of_getElem? hy
  obtain ⟨j, d, h1, h2, h3⟩ := h.sd y hm
  obtain ⟨z, l, _⟩ := h.tv.last _ j d (spt_lt hn y.t) h1 h2
  rw [h3] at l
  obtain ⟨_, e2, e3⟩ := lst_is _ _ rfl z l
  have hz := h.of z e3
  have l' : lst ys z.t = some z := by rw [e2]; exact l
  have ha := h.tv.ask hn l'
  rw [hz.2.1] at ha
  have hit := ha.1.2 (h.sd z e3)
  have hc := gta_cnt (n := n) (v := v) (s := s) tag z.t
  rw [hit] at hc
  refine ⟨z, l, hit, ha.2.1 hit, ⟨h.tv.get tag z.t, h.of, fun q hq => (ha.2.2 q.t).2 (h.sd q hq), hc.2.1.trans h.ev, ?_⟩, hc.2.2⟩
  have := h.mi
  have h3 := hc.2.2
  simp only [if_true] at h3
  omega
end C
end Go.Proofs.Ytjmkofdnlhfaiaa
