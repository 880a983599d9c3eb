import Derived.Test.YtihdagehenmolaaJop
set_option linter.unusedVariables false
set_option linter.unusedSimpArgs false
namespace Go.Proofs.Ytihdagehenmolaa
open Go.RowKit
namespace J
open M K
/-- a journal, its disk, and what was taken -/
structure Po (w : World) (b d : Nat) (room : Int) (tk : List En) (sf : Nat) (at' : Option Addr) (ct : Nat) (wx : World) : Prop where
  dk : ∃ ao cap, Dk w.heap.size d room (recs tk) (pre tk sf) ao cap wx
  jn : ∃ e, Jn b d e wx
  es : Es w.heap.size at' ct tk wx
  ok : ∀ e ∈ tk, e.ok
  sf : sf ≤ tk.length
  hb : w.heap.size ≤ b
  bel : Below w.heap.size w wx
variable {w wx wy : World} {b d : Nat} {room : Int} {tk : List En} {sf : Nat} {at' : Option Addr} {ct : Nat}
theorem Po.to (p : Po w b d room tk sf at' ct wx) (h : Below wx.heap.size wx wy) : Po w b d room tk sf at' ct wy := by
  obtain ⟨ao, cap, k⟩ := p.dk
  obtain ⟨e, j⟩ := p.jn
  exact ⟨⟨ao, cap, k.below h⟩, ⟨e, j.below h (Nat.le_refl _)⟩, p.es.below h, p.ok, p.sf, p.hb, p.bel.trans (h.mono p.bel.size)⟩
theorem es_jto {B B' s cap : Nat} {l : List UInt8} {ao : Option Addr} {e : En} (h : Es B at' ct tk wx) (q : Jn b d e wx) (k : Dk B' d room l s ao cap wx) (t : Turn (fun j => j = b ∨ DB d ao j) wx wy) : Es B at' ct tk wy :=
  h.kept t (fun g hg hS => by
    obtain ⟨_, c, hc⟩ := own_kind h (own_at hg)
    rcases hS with hS | hS | hS
    · exact cells_ne hc q.hp (by decide) hS
    · exact cells_ne hc k.hp (by decide) hS
    · obtain ⟨_, c', hc'⟩ := own_kind k.row hS
      exact cells_ne hc hc' (by decide) rfl)
theorem dk_es {B B' s cap : Nat} {l : List UInt8} {ao : Option Addr} (k : Dk B' d room l s ao cap wx) (h : Es B at' ct tk wx) (t : Turn (At at') wx wy) : Dk B' d room l s ao cap wy :=
  k.kept t (fun j hj q => by
    obtain ⟨_, c, hc⟩ := own_kind h q
    rcases hj with hj | hj
    · subst hj; exact cells_ne hc k.hp (by decide) rfl
    · obtain ⟨_, c', hc'⟩ := own_kind k.row hj
      exact cells_ne hc hc' (by decide) rfl)
theorem jn_es {B : Nat} {e : En} (q : Jn b d e wx) (h : Es B at' ct tk wx) (t : Turn (At at') wx wy) : Jn b d e wy :=
  q.kept t (fun r => by
    obtain ⟨_, c, hc⟩ := own_kind h r
    exact cells_ne hc q.hp (by decide) rfl)
theorem pre_add {tk : List En} {sf : Nat} (h : sf ≤ tk.length) (x : En) : pre (tk ++ [x]) sf = pre tk sf := by
  unfold pre
  rw [List.take_append_of_le_length h]
theorem pre_all (tk : List En) : pre tk tk.length = (recs tk).length := by unfold pre; rw [List.take_length]
/-- an append to the journal that is taken -/
theorem Po.app (p : Po w b d room tk sf at' ct wx) (x : En) (hx : x.ok) (h : ((rcd x).length : Int) ≤ room - (recs tk).length) : Calls Try.prog 27 #[.pointer (some ⟨b, 0, none⟩), .agg #[.int .i64 x.v, .string (sb x.t)]] wx fun r wy => r = .returned (.int .i64 0) ∧ (∃ ao cap, Dk w.heap.size d room (recs (tk ++ [x])) (pre tk sf) ao cap wy) ∧ Jn b d x wy ∧ Es w.heap.size at' ct tk wy ∧ Below w.heap.size w wy ∧ (∃ S, Turn S wx wy ∧ ∀ j, S j → ∃ cs t, wx.heap[j]? = some (.cells cs t (0, 0)) ∧ t ≠ 24) := by
  obtain ⟨ao, cap, k⟩ := p.dk
  obtain ⟨e, q⟩ := p.jn
  refine (jappend_ok q k p.bel.size x hx h).mono ?_
  rintro r wy ⟨rfl, j⟩
  obtain ⟨ao', cap', k', _⟩ := j.dk
  refine ⟨rfl, ⟨ao', cap', by rw [recs_add, recs_one]; exact k'⟩, j.jn, es_jto p.es q k j.tu, ?_, _, j.tu, fun i hi => ?_⟩
  · exact p.bel.trans (j.tu.below (fun i hi => by
      rcases hi with rfl | hi
      · exact p.hb
      · exact (k.in hi).1) p.bel.size)
  · rcases hi with rfl | rfl | hi
    · exact ⟨_, _, q.hp, by decide⟩
    · exact ⟨_, _, k.hp, by decide⟩
    · obtain ⟨_, cs, hc⟩ := own_kind k.row hi
      exact ⟨cs, 5, hc, by decide⟩
/-- one that is refused -/
theorem Po.full (p : Po w b d room tk sf at' ct wx) (x : En) (hx : x.ok) (h : room - (recs tk).length < (rcd x).length) : Calls Try.prog 27 #[.pointer (some ⟨b, 0, none⟩), .agg #[.int .i64 x.v, .string (sb x.t)]] wx fun r wy => r = .returned (.int .i64 210) ∧ Po w b d room tk sf at' ct wy := by
  obtain ⟨ao, cap, k⟩ := p.dk
  obtain ⟨e, q⟩ := p.jn
  refine (jappend_full q k x hx h).mono ?_
  rintro r wy ⟨rfl, b2⟩
  exact ⟨rfl, p.to b2⟩
/-- all is made safe -/
theorem Po.syn (p : Po w b d room tk sf at' ct wx) : Calls Try.prog 28 #[.pointer (some ⟨b, 0, none⟩)] wx fun r wy => r = .returned (.int .i64 0) ∧ Po w b d room tk tk.length at' ct wy := by
  obtain ⟨ao, cap, k⟩ := p.dk
  obtain ⟨e, q⟩ := p.jn
  refine (jsync_any q k).mono ?_
  rintro r wy ⟨rfl, k', t⟩
  have t' : Turn (fun j => j = b ∨ DB d ao j) wx wy := t.mono (fun j _ hj => .inr (.inl hj))
  refine ⟨rfl, ⟨⟨ao, cap, by rw [pre_all]; exact k'⟩, ⟨e, q.kept t (fun h => ?_)⟩, es_jto p.es q k t', p.ok, Nat.le_refl _, p.hb, p.bel.trans (t.below (fun j hj => by rw [hj]; exact k.hb) p.bel.size)⟩⟩
  exact q.ne k d (.inl rfl) h.symm
end J
end Go.Proofs.Ytihdagehenmolaa
