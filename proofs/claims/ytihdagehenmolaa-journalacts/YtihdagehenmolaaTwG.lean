import Derived.Test.YtihdagehenmolaaTwF
set_option linter.unusedVariables false
set_option linter.unusedSimpArgs false
namespace Go.Proofs.Ytihdagehenmolaa
open Go.RowKit
namespace J
open M K
variable {B t d jb : Nat} {room : Int} {es : List En} {s : Nat} {ao : Option Addr} {cap : Nat} {lo : Option Addr} {lc : Nat} {w w' : World}
theorem Lv.rs (q : Lv B t d jb room es s ao cap lo lc w) : Rs B t (.pointer (some ⟨d, 0, none⟩)) (.pointer (some ⟨jb, 0, none⟩)) (recs es) room (.int .i64 (s : Nat)) es lo lc w := ⟨q.hp, q.ls⟩
theorem Lv.same (q : Lv B t d jb room es s ao cap lo lc w) (b : Below w.heap.size w w') : AT B t (LB t d jb ao lo) w w' := AT.lv (q.below b) (turn_below b) (fun j hj => .inl hj)
theorem bel_al {o : Obj} {V : World} (b : Below (w.alloc o).heap.size (w.alloc o) V) : Below w.heap.size w V := (below_al w o).trans (b.mono (by simp))
theorem Bk.new (k : Int) (x : En) (w : World) : Bk w.heap.size k x (w.alloc (BA k x)) := heap_alloc_new w _
theorem act1_bad (x : En) (hx : ¬ frc x = 0) (q : Lv B t d jb room es s ao cap lo lc w) : Calls Try.prog 20 #[.pointer (some ⟨t, 0, none⟩), .agg #[.int .i64 1, .int .i64 x.v, .string (sb x.t)]] w fun r w' => r = .returned (.bool true) ∧ AT B t (LB t d jb ao lo) w w' := by
  refine act1_gen x (frc x) (fun V => Below (w.alloc (BA 1 x)).heap.size (w.alloc (BA 1 x)) V) (fun V => Below (w.alloc (BA 1 x)).heap.size (w.alloc (BA 1 x)) V) (fun V => AT B t (LB t d jb ao lo) w V) q (fun V b => ?_) (fun V b => ⟨(q.below (bel_al b)).c.2.1, (Bk.new 1 x w).below b⟩) (fun V b => b.drew) (fun V b => ⟨(q.below (bel_al b)).c.2.1, (Bk.new 1 x w).below b⟩) (fun V b => ?_) (fun V b => ?_)
  · exact (rappend_bad x hx _ V).mono fun r V' ⟨h1, h2⟩ => ⟨h1, b.trans (h2.mono b.size)⟩
  · exact (jappend_bad x hx _ V).mono fun r V' ⟨h1, h2⟩ => ⟨h1, b.trans (h2.mono b.size)⟩
  · exact (looks_any (q.below (bel_al b))).mono fun r V' ⟨h1, h2⟩ => ⟨h1, q.same ((bel_al b).trans (h2.mono (bel_al b).size))⟩
theorem act1_full (x : En) (hx : x.ok) (q : Lv B t d jb room es s ao cap lo lc w) (h : room - (recs es).length < (rcd x).length) : Calls Try.prog 20 #[.pointer (some ⟨t, 0, none⟩), .agg #[.int .i64 1, .int .i64 x.v, .string (sb x.t)]] w fun r w' => r = .returned (.bool true) ∧ AT B t (LB t d jb ao lo) w w' := by
  refine act1_gen x 210 (fun V => Below (w.alloc (BA 1 x)).heap.size (w.alloc (BA 1 x)) V) (fun V => Below (w.alloc (BA 1 x)).heap.size (w.alloc (BA 1 x)) V) (fun V => AT B t (LB t d jb ao lo) w V) q (fun V b => ?_) (fun V b => ⟨(q.below (bel_al b)).c.2.1, (Bk.new 1 x w).below b⟩) (fun V b => b.drew) (fun V b => ⟨(q.below (bel_al b)).c.2.1, (Bk.new 1 x w).below b⟩) (fun V b => ?_) (fun V b => ?_)
  · exact (rappend_full (q.below (bel_al b)).rs (dk_len q.dk) x hx h).mono fun r V' ⟨h1, h2⟩ => ⟨h1, b.trans (h2.mono b.size)⟩
  · exact (jappend_full (q.below (bel_al b)).jn (q.below (bel_al b)).dk x hx h).mono fun r V' ⟨h1, h2⟩ => ⟨h1, b.trans (h2.mono b.size)⟩
  · exact (looks_any (q.below (bel_al b))).mono fun r V' ⟨h1, h2⟩ => ⟨h1, q.same ((bel_al b).trans (h2.mono (bel_al b).size))⟩
/-- the document has it, the journal not yet -/
def Ah (B t d jb : Nat) (room : Int) (es : List En) (s : Nat) (lo : Option Addr) (x : En) (w1 V : World) : Prop := ∃ gg cc, Rs B t (.pointer (some ⟨d, 0, none⟩)) (.pointer (some ⟨jb, 0, none⟩)) (recs es ++ rcd x) room (.int .i64 (s : Nat)) (es ++ [x]) (some ⟨gg, 0, none⟩) cc V ∧ Turn (fun j => j = t ∨ At lo j) w1 V ∧ (At lo gg ∨ w1.heap.size ≤ gg)
/-- both have it -/
def Bh (B t d jb : Nat) (room : Int) (es : List En) (s : Nat) (ao lo : Option Addr) (x : En) (w V : World) : Prop := ∃ ao' cap' gg cc, Lv B t d jb room (es ++ [x]) s ao' cap' (some ⟨gg, 0, none⟩) cc V ∧ Turn (LB t d jb ao lo) w V ∧ (∀ j, LB t d jb ao' (some ⟨gg, 0, none⟩) j → LB t d jb ao lo j ∨ w.heap.size ≤ j) ∧ Bk w.heap.size 1 x V
theorem act1_ok (x : En) (hx : x.ok) (q : Lv B t d jb room es s ao cap lo lc w) (hB : B ≤ w.heap.size) (h : ((rcd x).length : Int) ≤ room - (recs es).length) : Calls Try.prog 20 #[.pointer (some ⟨t, 0, none⟩), .agg #[.int .i64 1, .int .i64 x.v, .string (sb x.t)]] w fun r w' => r = .returned (.bool true) ∧ AT B t (LB t d jb ao lo) w w' := by
  have q1 : Lv B t d jb room es s ao cap lo lc (w.alloc (BA 1 x)) := q.below (below_al w _)
  have hB1 : B ≤ (w.alloc (BA 1 x)).heap.size := by simp; omega
  have nlo : ∀ {g : Nat} {cs : Array Value} {T : Nat} {r : Nat × Nat}, w.heap[g]? = some (.cells cs T r) → T ≠ 24 → ¬ At lo g := fun hh hT hq => by
    obtain ⟨_, c, h2⟩ := own_kind q.ls hq
    exact cells_ne h2 hh (fun e => hT e.symm) rfl
  have hbl : ∀ j, (j = t ∨ At lo j) → j < w.heap.size := fun j hj => by
    rcases hj with hj | hj
    · exact (q.in (.inl hj)).2
    · exact (q.in (.inr (.inr (.inr hj)))).2
  have box : ∀ V, Turn (fun j => j = t ∨ At lo j) (w.alloc (BA 1 x)) V → Bk w.heap.size 1 x V := fun V u => (u.block _ (by simp) (fun e => by have := hbl _ e; omega)).trans (Bk.new 1 x w)
  have jnk : ∀ V, Turn (fun j => j = t ∨ At lo j) (w.alloc (BA 1 x)) V → Jn jb d (lst es) V ∧ Dk B d room (recs es) s ao cap V := fun V u => by
    refine ⟨q1.jn.kept u (fun e => ?_), q1.dk.kept u (fun j hj e => ?_)⟩
    · rcases e with e | e
      · exact cells_ne q.jn.hp q.hp (by decide) e
      · exact nlo q.jn.hp (by decide) e
    · rcases e with e | e
      · exact dk_nt q.dk q.hp j hj e
      · rcases hj with hj | hj
        · subst hj; exact nlo q.dk.hp (by decide) e
        · obtain ⟨_, c, h2⟩ := own_kind q.dk.row hj
          exact nlo h2 (by decide) e
  refine act1_gen x 0 (Ah B t d jb room es s lo x (w.alloc (BA 1 x))) (Bh B t d jb room es s ao lo x w) (fun V => AT B t (LB t d jb ao lo) w V) q (fun V b => ?_) (fun V ⟨gg, cc, h1, h2, h3⟩ => ⟨Lib.cell_of_heap h1.hp 1, box V h2⟩) (fun V ⟨gg, cc, h1, h2, h3⟩ => ⟨gg, cc, h1.below (below_drewN V 1), h2.drew, h3⟩) (fun V ⟨_, _, _, _, h1, _, _, h4⟩ => ⟨h1.c.2.1, h4⟩) (fun V hV => ?_) (fun V ⟨a', c', gg, cc, h1, h2, h3, h4⟩ => ?_)
  · have bb := b.size
    refine (rappend_ok (q1.below b).rs (by omega) q.few (dk_len q.dk) x hx h).mono fun r V' ⟨h1, h2⟩ => ⟨h1, ?_⟩
    obtain ⟨gg, cc, k1, k2, k3⟩ := h2.out
    exact ⟨gg, cc, k1, (turn_below b).trans k2, k3.imp id (fun z => by omega)⟩
  · obtain ⟨gg, cc, h1, h2, h3⟩ := hV
    obtain ⟨j1, k1⟩ := jnk V h2
    have hz := h2.size
    have hsz : (w.alloc (BA 1 x)).heap.size = w.heap.size + 1 := by simp
    refine (jappend_ok j1 k1 (by omega) x hx h).mono fun r V' ⟨e1, e2⟩ => ⟨e1, ?_⟩
    obtain ⟨a', c', k2, k3⟩ := e2.dk
    have hnt : ¬ (t = jb ∨ DB d ao t) := fun e => by
      rcases e with e | e
      · exact cells_ne h1.hp j1.hp (by decide) e
      · exact dk_nt k1 h1.hp t e rfl
    have hp' := (e2.tu.block t h1.lt hnt).trans h1.hp
    have ls' : Es B (some ⟨gg, 0, none⟩) cc (es ++ [x]) V' := h1.ls.kept e2.tu (fun g hg e => by
      obtain ⟨_, c, hh⟩ := own_kind h1.ls (own_at hg)
      rcases e with e | e | e
      · exact cells_ne hh j1.hp (by decide) e
      · exact cells_ne hh k1.hp (by decide) e
      · obtain ⟨_, c2, hh2⟩ := own_kind k1.row e
        exact cells_ne hh hh2 (by decide) rfl)
    have L1 : Lv B t d jb room (es ++ [x]) s a' c' (some ⟨gg, 0, none⟩) cc V' := ⟨by rw [recs_add, recs_one]; exact hp', by rw [recs_add, recs_one]; exact k2, by rw [lst_add]; exact e2.jn, ls', fun e he => by
      rcases List.mem_append.1 he with he | he
      · exact q.ok e he
      · rw [List.mem_singleton.1 he]; exact hx, q.hb, q.hj⟩
    have tw : Turn (LB t d jb ao lo) w V' := by
      have t0 : Turn (LB t d jb ao lo) w (w.alloc (BA 1 x)) := turn_below (below_al w _)
      have t1 : Turn (LB t d jb ao lo) (w.alloc (BA 1 x)) V := h2.mono (fun k _ e => by
        rcases e with e | e
        · exact .inl e
        · exact .inr (.inr (.inr e)))
      exact (t0.trans t1).trans (e2.tu.mono (fun k _ e => by
        rcases e with e | e
        · exact .inr (.inr (.inl e))
        · exact .inr (.inl e)))
    refine ⟨a', c', gg, cc, L1, tw, fun j hj => ?_, (e2.tu.block _ (lt_of_heap (box V h2)) (fun e => ?_)).trans (box V h2)⟩
    · rcases hj with hj | hj | hj | hj
      · exact .inl (.inl hj)
      · rcases k3 j hj with z | z
        · exact .inl (.inr (.inl z))
        · exact .inr (by omega)
      · exact .inl (.inr (.inr (.inl hj)))
      · obtain ⟨a, e, rfl⟩ := hj
        cases e
        rcases h3 with z | z
        · exact .inl (.inr (.inr (.inr z)))
        · exact .inr (by show w.heap.size ≤ gg; omega)
    · have hin : ∀ j, LB t d jb ao lo j → j < w.heap.size := fun j hj => (q.in hj).2
      rcases e with e | e
      · have := hin jb (.inr (.inr (.inl rfl))); omega
      · have := hin _ (.inr (.inl e)); omega
  · refine (looks_any h1).mono fun r V' ⟨e1, e2⟩ => ⟨e1, AT.lv (h1.below e2) (h2.trans (turn_below e2)) h3⟩
end J
end Go.Proofs.Ytihdagehenmolaa
