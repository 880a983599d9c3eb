import Derived.Test.YtjmkofdnlhfaiaaRa5
set_option linter.unusedVariables false
set_option linter.unusedSimpArgs false
namespace Go.Proofs.Ytjmkofdnlhfaiaa
open Go.RowKit
namespace C
variable {n v : Nat} {s : St} {L : List Dc} {B r hb : Nat} {lo : Option Addr} {lc : Nat} {w w' : World}
/-- what a call leaves of the document's cache -/
def RT (B r hb n v : Nat) (s' : St) (lo : Option Addr) (w w' : World) : Prop := ∃ L' lo' lc', Rf B r hb n v s' L' lo' lc' w' ∧ Turn (RO r hb lo) w w' ∧ ∀ j, At lo' j → At lo j ∨ w.heap.size ≤ j
set_option maxRecDepth 100000 in
set_option maxHeartbeats 2000000 in
theorem rget_any (tag : Int) (t : Tr) (h : Rf B r hb n v s L lo lc w) (h1 : s.hi < 4000000000000000000) (h2 : s.mi < 4000000000000000000) : Calls Try.prog 23 #[.pointer (some ⟨r, 0, none⟩), .int .i64 tag, .int .i64 t.s, .int .i64 t.o, .int .i64 t.a] w fun e w' => e = .returned (.tuple #[.bool (gta n v s tag t).1, .bool (gta n v s tag t).2.1]) ∧ RT B r hb n v (gta n v s tag t).2.2 lo w w' := by
  have HF := hide' ((rof_any t h).mono fun e w' ⟨he, hq⟩ => And.intro he (hide' (And.intro (h.below hq) (turn_below (S := RO r hb lo) hq))))
  have W1 := hide' (wsucN s.hi (by omega))
  have W2 := hide' (wsucN s.mi (by omega))
  have Hn := hide' h.nv.1.1
  have Hlow := hide' (fun j (hj : RO r hb lo j) => (h.low hj).2)
  have Hlr := hide' h.lr
  cases hf : fst (has (s.f (spt n t)) t) v with
  | none =>
    have ho := h.lr.of_none h.nv.1.1 hf
    rw [ho] at HF
    rw [gta_none hf]
    unfold idx at HF
    clear h h1 h2 hf ho
    go_enter Try.func23, Try.ntmps23
    go_wp2_with fail
    refine HF.out.mono ?_
    rintro e w2 ⟨rfl, H2⟩
    have c5 := H2.out.1.c5
    have f5 := H2.out.1.fr 5
    have HE := hide' (H2.out.1.cset (mis s) rfl rfl 5 (.int .i64 ((s.mi + 1 : Nat) : Int)) rfl)
    have HT := hide' H2.out.2
    clear H2 HF
    go_wp2
    go_ret2
    rw [W2.out]
    exact ⟨rfl, L, lo, lc, HE.out.1, HT.out.trans HE.out.2, fun j hj => .inl hj⟩
  | some j =>
    obtain ⟨hj, hh, _⟩ := fst_some hf
    obtain ⟨d, hd, _⟩ := has_true hh
    obtain ⟨ht, _, k, hk, hLk⟩ := h.lr.of_some h.nv.1.1 hf hd
    rw [hk] at HF
    unfold idx at HF
    have hkl := (List.getElem?_eq_some_iff.1 hLk).1
    have hkl' : (k : Int) < (L.length : Int) := by omega
    by_cases hg : d.tag = tag
    · rw [gta_hit hf hd hg]
      have Hq : Hid (Lr n v ⟨fup2 s.f (spt n t) j (some (mrk d)), s.h, s.hi, s.mi, s.ev⟩ (L.set k ⟨spt n t, j, mrk d⟩)) := hide' (h.lr.set h.nv.1.1 hLk (mrk d) (by show spt n d.t = _; rw [ht]) (fun j' d' hj' hne hd' e => hne (h.lr.uniq (spt n t) j' j d' d (spt_lt h.nv.1.1 t) hj' hj hd' hd e)) (fun i' j' _ _ => fup2_at ..))
      have HL := hide' hLk
      clear h h1 h2 hf hk hh ht hLk
      go_enter Try.func23, Try.ntmps23
      go_wp2_with fail
      refine HF.out.mono ?_
      rintro e w2 ⟨rfl, H2⟩
      obtain ⟨g, rfl, hc, hz⟩ := H2.out.1.ent HL.out
      have p5 := hc 5 _ rfl
      have p7 := hc 7 _ rfl
      have p7f := hz (k * 8 + 7)
      have c3 := H2.out.1.c3
      have HE := H2.out.1.pset HL.out (q := 7) (by omega) rfl (.bool true) (x' := ⟨spt n t, j, mrk d⟩) rfl (s' := ⟨fup2 s.f (spt n t) j (some (mrk d)), s.h, s.hi, s.mi, s.ev⟩) rfl ⟨rfl, rfl, rfl⟩ Hq.out
      have HE2 := HE.1.cset ⟨fup2 s.f (spt n t) j (some (mrk d)), s.h, s.hi + 1, s.mi, s.ev⟩ rfl rfl 4 (.int .i64 ((s.hi + 1 : Nat) : Int)) rfl
      have ne : r ≠ g := fun e => (H2.out.1.nat ⟨_, rfl, rfl⟩ : g ≠ r ∧ _).1 e.symm
      have c4 := H2.out.1.c4
      have c4f := H2.out.1.fr 4
      have p6 := hc 6 _ rfl
      have HE3 := hide' HE2
      have HT := hide' (H2.out.2.trans HE.2)
      subst hg
      clear H2 HE HE2 HF hc hz hd
      go_wp2
      go_ret2
      rw [W1.out]
      exact ⟨rfl, _, _, lc, HE3.out.1, HT.out.trans HE3.out.2, fun j hj => .inl hj⟩
    · rw [gta_old hf hd hg]
      have Hq : Hid (Lr n v ⟨fup2 s.f (spt n t) j none, s.h, s.hi, s.mi + 1, s.ev⟩ (L.eraseIdx k)) := hide' (h.lr.drop hLk (fun i' j' _ _ => fup2_at ..))
      have HL := hide' hLk
      clear h h1 h2 hf hk hh ht hLk
      go_enter Try.func23, Try.ntmps23
      go_wp2_with fail
      refine HF.out.mono ?_
      rintro e w2 ⟨rfl, H2⟩
      obtain ⟨g, rfl, hc, hz⟩ := H2.out.1.ent HL.out
      have p5 := hc 5 _ rfl
      have c3 := H2.out.1.c3
      have c5 := H2.out.1.c5
      have c5f := H2.out.1.fr 5
      have HE := H2.out.1.cset (mis s) rfl rfl 5 (.int .i64 ((s.mi + 1 : Nat) : Int)) rfl
      have HO := hide' ((out_any hkl (s := mis s) (s' := ⟨fup2 s.f (spt n t) j none, s.h, s.hi, s.mi + 1, s.ev⟩) rfl ⟨rfl, rfl, rfl⟩ Hq.out HE.1).mono fun e w' ⟨he, lo', lc', a1, a2, a3⟩ => (And.intro he (⟨_, lo', lc', a1, (H2.out.2.trans HE.2).trans a2, fun j hj => .inr (Nat.le_trans (Nat.le_trans H2.out.2.size HE.2.size) (a3 j hj))⟩ : RT B r hb n v ⟨fup2 s.f (spt n t) j none, s.h, s.hi, s.mi + 1, s.ev⟩ _ w w')))
      clear H2 HE HF hc hz hd
      go_wp2_with fail
      rw [W2.out]
      refine HO.out.mono ?_
      rintro e w3 ⟨rfl, h3⟩
      have H3 := hide' h3
      clear h3 HO
      go_wp2
      go_ret2
      exact ⟨rfl, H3.out⟩
end C
end Go.Proofs.Ytjmkofdnlhfaiaa
