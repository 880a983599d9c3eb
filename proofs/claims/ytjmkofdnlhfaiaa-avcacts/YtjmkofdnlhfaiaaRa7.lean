import Derived.Test.YtjmkofdnlhfaiaaRa6
set_option linter.unusedVariables false
set_option linter.unusedSimpArgs false
namespace Go.Proofs.Ytjmkofdnlhfaiaa
open Go.RowKit
namespace C
variable {n v : Nat} {s : St} {L : List Dc} {B r hb : Nat} {lo : Option Addr} {lc : Nat} {w w' : World}
theorem Tb.below {x : Nat} {t : Tr} (h : Tb x t w) (k : Below w.heap.size w w') : Tb x t w' := (k.block x (lt_of_heap h)).trans h
/-- what stands where the triple has been looked for -/
theorem rput_pre (t : Tr) (h : Rf B r hb n v s L lo lc w) : ∃ w0 x, w0 = w.alloc (.cells #[.int .i64 t.s, .int .i64 t.o, .int .i64 t.a] 80) ∧ x = w.heap.size ∧ Calls Try.prog 34 #[.pointer (some ⟨r, 0, none⟩), .agg #[.int .i64 t.s, .int .i64 t.o, .int .i64 t.a]] w0 fun e w' => e = .returned (.int .i64 (idx (fst (ofp L t) L.length))) ∧ Hid (Rf B r hb n v s L lo lc w' ∧ Tb x t w' ∧ Below w.heap.size w w') := by
  have hb1 : Below w.heap.size w (w.alloc (.cells #[.int .i64 t.s, .int .i64 t.o, .int .i64 t.a] 80)) := (Below.refl _ _).alloc (Nat.le_refl _) _
  have hbx : Tb w.heap.size t (w.alloc (.cells #[.int .i64 t.s, .int .i64 t.o, .int .i64 t.a] 80)) := heap_alloc_new _ _
  refine ⟨_, _, rfl, rfl, (rof_any t (h.below hb1)).mono fun e w' ⟨he, hq⟩ => ⟨he, hide' ⟨(h.below hb1).below hq, hbx.below hq, hb1.trans (hq.mono hb1.size)⟩⟩⟩
set_option maxRecDepth 100000 in
set_option maxHeartbeats 2000000 in
theorem rput_same (tag : Int) (t : Tr) (al : Bool) (h : Rf B r hb n v s L lo lc w) {j : Nat} {d : De} (hf : fst (has (s.f (spt n t)) t) v = some j) (hd : s.f (spt n t) j = some d) : Calls Try.prog 24 #[.pointer (some ⟨r, 0, none⟩), .int .i64 tag, .int .i64 t.s, .int .i64 t.o, .int .i64 t.a, .bool al] w fun e w' => e = .returned (.tuple #[]) ∧ RT B r hb n v (pta n v s tag t al) lo w w' := by
  rw [pta_same hf hd]
  obtain ⟨hj, hh, _⟩ := fst_some hf
  obtain ⟨ht, _, k, hk, hLk⟩ := h.lr.of_some h.nv.1.1 hf hd
  obtain ⟨w0, x, hw0, hx, HF⟩ := rput_pre t h
  rw [hk] at HF
  unfold idx at HF
  replace HF := hide' HF
  have hkl := (List.getElem?_eq_some_iff.1 hLk).1
  have hkl' : (k : Int) < (L.length : Int) := by omega
  have hu : ∀ j' d', j' < v → j' ≠ j → s.f (spt n t) j' = some d' → d'.t ≠ d.t := fun j' d' hj' hne hd' e => hne (h.lr.uniq (spt n t) j' j d' d (spt_lt h.nv.1.1 t) hj' hj hd' hd e)
  have Hq : Hid (Lr n v ⟨fup2 s.f (spt n t) j (some ⟨d.t, tag, d.al, d.mr⟩), s.h, s.hi, s.mi, s.ev⟩ (L.set k ⟨spt n t, j, ⟨d.t, tag, d.al, d.mr⟩⟩)) := hide' (h.lr.set h.nv.1.1 hLk ⟨d.t, tag, d.al, d.mr⟩ (by show spt n d.t = _; rw [ht]) hu (fun i' j' _ _ => fup2_at ..))
  have Hq2 : Hid (Lr n v ⟨fup2 s.f (spt n t) j (some ⟨d.t, tag, al, d.mr⟩), s.h, s.hi, s.mi, s.ev⟩ ((L.set k ⟨spt n t, j, ⟨d.t, tag, d.al, d.mr⟩⟩).set k ⟨spt n t, j, ⟨d.t, tag, al, d.mr⟩⟩)) := hide' (by
    rw [List.set_set]
    exact h.lr.set h.nv.1.1 hLk ⟨d.t, tag, al, d.mr⟩ (by show spt n d.t = _; rw [ht]) hu (fun i' j' _ _ => fup2_at ..))
  have HL := hide' hLk
  have Hx := hide' hx
  have Hw0 := hide' hw0
  clear h hf hk hh ht hLk hu hx hw0
  go_enter Try.func24, Try.ntmps24
  go_wp2_with fail
  rw [← Hw0.out]
  refine HF.out.mono ?_
  rintro e w2 ⟨rfl, H2⟩
  clear HF Hw0 Hx
  obtain ⟨g, rfl, hc, hz⟩ := H2.out.1.ent HL.out
  have p5 := hc 5 _ rfl
  have p6 := hc 6 _ rfl
  have p5f := hz (k * 8 + 5)
  have p6f := hz (k * 8 + 6)
  have c3 := H2.out.1.c3
  have HE := H2.out.1.pset HL.out (q := 5) (by omega) rfl (.int .i64 tag) (x' := ⟨spt n t, j, ⟨d.t, tag, d.al, d.mr⟩⟩) rfl (s' := ⟨fup2 s.f (spt n t) j (some ⟨d.t, tag, d.al, d.mr⟩), s.h, s.hi, s.mi, s.ev⟩) rfl ⟨rfl, rfl, rfl⟩ Hq.out
  have HE2 := HE.1.pset (k := k) (x := ⟨spt n t, j, ⟨d.t, tag, d.al, d.mr⟩⟩) (by rw [List.getElem?_set_self hkl]) (q := 6) (by omega) rfl (.bool al) (x' := ⟨spt n t, j, ⟨d.t, tag, al, d.mr⟩⟩) rfl (s' := ⟨fup2 s.f (spt n t) j (some ⟨d.t, tag, al, d.mr⟩), s.h, s.hi, s.mi, s.ev⟩) rfl ⟨rfl, rfl, rfl⟩ Hq2.out
  have ne : r ≠ g := fun e => (H2.out.1.nat ⟨_, rfl, rfl⟩ : g ≠ r ∧ _).1 e.symm
  have HE3 := hide' HE2
  have HT : Hid (Turn (RO r hb (some ⟨g, 0, none⟩)) w (w2.setCell ⟨g, k * 8 + 5, none⟩ (.int .i64 tag))) := hide' ((turn_below H2.out.2.2).trans HE.2)
  clear H2 HE HE2 hc hz hd
  go_wp2
  refine bodyPost_ret (results_none rfl _ _ _) rfl ?_
  exact ⟨rfl, _, _, lc, HE3.out.1, HT.out.trans HE3.out.2, fun j hj => .inl hj⟩
end C
end Go.Proofs.Ytjmkofdnlhfaiaa
