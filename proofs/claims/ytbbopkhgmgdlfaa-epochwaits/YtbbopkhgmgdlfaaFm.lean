import Derived.Test.YtbbopkhgmgdlfaaRp3
import Derived.Test.YtbbopkhgmgdlfaaOwnT
set_option linter.unusedVariables false
set_option linter.unusedSimpArgs false
namespace Go.Proofs.Ytbbopkhgmgdlfaa
open Go.RowKit
namespace V
open M F
def ptr (b : Nat) : Value := .pointer (some ⟨b, 0, none⟩)
abbrev Ob := Nat × Array Value
/-- blocks of one kind, each of its own -/
structure Fam (B T : Nat) (fs : List Ob) (w : World) : Prop where
  at_ : ∀ (i : Nat) (p : Ob), fs[i]? = some p → w.heap[p.1]? = some (.cells p.2 T (0, 0)) ∧ B ≤ p.1
  inj : ∀ (i j : Nat) (p q : Ob), fs[i]? = some p → fs[j]? = some q → p.1 = q.1 → i = j
variable {B T : Nat} {fs : List Ob} {w w' : World}
theorem Fam.kept {S : Nat → Prop} (h : Fam B T fs w) (t : Turn S w w') (hS : ∀ (j : Nat) (cs : Array Value), w.heap[j]? = some (.cells cs T (0, 0)) → ¬ S j) : Fam B T fs w' :=
  ⟨fun i p hp => ⟨(t.block p.1 (lt_of_heap (h.at_ i p hp).1) (hS _ _ (h.at_ i p hp).1)).trans (h.at_ i p hp).1, (h.at_ i p hp).2⟩, h.inj⟩
theorem set_getO {α : Type} {ts : List α} {i : Nat} {t' : α} (hil : i < ts.length) (j : Nat) (u : α) (hu : (ts.set i t')[j]? = some u) : (j = i ∧ u = t') ∨ (j ≠ i ∧ ts[j]? = some u) := by
  by_cases e : j = i
  · subst e
    rw [List.getElem?_set_self hil] at hu
    exact .inl ⟨rfl, (Option.some.inj hu).symm⟩
  · rw [List.getElem?_set_ne (fun z => e z.symm)] at hu
    exact .inr ⟨e, hu⟩
theorem add_getO {α : Type} {ts : List α} {t' : α} (j : Nat) (u : α) (hu : (ts ++ [t'])[j]? = some u) : (j = ts.length ∧ u = t') ∨ (j < ts.length ∧ ts[j]? = some u) := by
  by_cases hj : j < ts.length
  · rw [List.getElem?_append_left hj] at hu
    exact .inr ⟨hj, hu⟩
  · rw [List.getElem?_append_right (by omega)] at hu
    have hz : j - ts.length = 0 := by
      rcases Nat.eq_zero_or_pos (j - ts.length) with z | z
      · exact z
      · rw [List.getElem?_eq_none (by simp; omega)] at hu; cases hu
    rw [hz] at hu
    exact .inl ⟨by omega, (Option.some.inj hu).symm⟩
theorem Fam.set {S : Nat → Prop} (h : Fam B T fs w) (t : Turn S w w') {i : Nat} {p : Ob} (hi : fs[i]? = some p) (hS : ∀ (j : Nat) (cs : Array Value), w.heap[j]? = some (.cells cs T (0, 0)) → S j → j = p.1) {cs' : Array Value} (hw : w'.heap[p.1]? = some (.cells cs' T (0, 0))) : Fam B T (fs.set i (p.1, cs')) w' := by
  have hil := (List.getElem?_eq_some_iff.1 hi).1
  refine ⟨fun j u hu => ?_, fun j k u v hu hv e => ?_⟩
  · rcases set_getO hil j u hu with ⟨rfl, rfl⟩ | ⟨hne, hu'⟩
    · exact ⟨hw, (h.at_ j p hi).2⟩
    · obtain ⟨h1, h2⟩ := h.at_ j u hu'
      exact ⟨(t.block u.1 (lt_of_heap h1) (fun z => hne (h.inj j i u p hu' hi (hS _ _ h1 z)))).trans h1, h2⟩
  · rcases set_getO hil j u hu with ⟨rfl, rfl⟩ | ⟨hne, hu'⟩ <;> rcases set_getO hil k v hv with ⟨rfl, rfl⟩ | ⟨hne2, hv'⟩
    · rfl
    · exact h.inj j k p v hi hv' e
    · exact h.inj j k u p hu' hi e
    · exact h.inj j k u v hu' hv' e
theorem Fam.add (h : Fam B T fs w) {b : Nat} {cs : Array Value} (hw : w.heap[b]? = some (.cells cs T (0, 0))) (hB : B ≤ b) (hn : ∀ (i : Nat) (p : Ob), fs[i]? = some p → p.1 ≠ b) : Fam B T (fs ++ [(b, cs)]) w := by
  refine ⟨fun j u hu => ?_, fun j k u v hu hv e => ?_⟩
  · rcases add_getO j u hu with ⟨_, rfl⟩ | ⟨_, hu'⟩
    · exact ⟨hw, hB⟩
    · exact h.at_ j u hu'
  · rcases add_getO j u hu with ⟨rfl, rfl⟩ | ⟨_, hu'⟩ <;> rcases add_getO k v hv with ⟨rfl, rfl⟩ | ⟨_, hv'⟩
    · rfl
    · exact absurd e.symm (hn k v hv')
    · exact absurd e (hn j u hu')
    · exact h.inj j k u v hu' hv' e
/-- the kinds of the six families, and of their rows -/
def KT : Fin 6 → TypeId := fun i => ([90, 93, 115, 129, 113, 131] : List Nat).getD i.1 0
def KE : Fin 6 → TypeId := fun i => ([33, 47, 76, 116, 71, 119] : List Nat).getD i.1 0
def KS (t : TypeId) : Prop := t = 44 ∨ (∃ i, t = KT i) ∨ ∃ i, t = KE i
instance (t : TypeId) : Decidable (KS t) := by unfold KS; infer_instance
theorem kt_inj : ∀ i j : Fin 6, KT i = KT j → i = j := by decide
theorem ke_inj : ∀ i j : Fin 6, KE i = KE j → i = j := by decide
theorem kte : ∀ i j : Fin 6, KT i ≠ KE j := by decide
theorem kt44 : ∀ i : Fin 6, KT i ≠ 44 := by decide
theorem ke44 : ∀ i : Fin 6, KE i ≠ 44 := by decide
theorem ksT (i : Fin 6) : KS (KT i) := .inr (.inl ⟨i, rfl⟩)
theorem ksE (i : Fin 6) : KS (KE i) := .inr (.inr ⟨i, rfl⟩)
/-- where the rows lie -/
structure Ro where
  ao : Fin 6 → Option Addr
  cap : Fin 6 → Nat
  L : Fin 6 → Nat
/-- a world of the statement's: its block, its rows, its families -/
structure Ws (B s x y : Nat) (r : Ro) (rs : Fin 6 → List Nat) (fm : Fin 6 → List Ob) (ok : Bool) (w : World) : Prop where
  hs : w.heap[s]? = some (.cells #[.pointer (some ⟨x, 0, none⟩), .pointer (some ⟨y, 0, none⟩), .slice (r.ao 0) (r.L 0) (r.cap 0), .slice (r.ao 1) (r.L 1) (r.cap 1), .slice (r.ao 2) (r.L 2) (r.cap 2), .slice (r.ao 3) (r.L 3) (r.cap 3), .slice (r.ao 4) (r.L 4) (r.cap 4), .slice (r.ao 5) (r.L 5) (r.cap 5), .bool ok] 44 (0, 0))
  row : ∀ i, w.ownsRow B (KE i) 1 (.slice (r.ao i) (r.L i) (r.cap i)) (r.L i) ((rs i).map ptr)
  fam : ∀ i, Fam B (KT i) (fm i) w
  ls : B ≤ s
variable {s x y : Nat} {r : Ro} {rs : Fin 6 → List Nat} {fm : Fin 6 → List Ob} {ok : Bool}
theorem row_atk {B e size n cap : Nat} {ao : Option Addr} {xs : List Value} (h : w.ownsRow B e size (.slice ao n cap) n xs) {j : Nat} (hj : At ao j) : B ≤ j ∧ j < w.heap.size ∧ ∃ cs, w.heap[j]? = some (.cells cs e (0, 0)) := row_at h hj
theorem Ws.kept {S : Nat → Prop} (h : Ws B s x y r rs fm ok w) (t : Turn S w w') (hS : ∀ (j : Nat) (cs : Array Value) (T : TypeId), w.heap[j]? = some (.cells cs T (0, 0)) → S j → ¬ KS T) : Ws B s x y r rs fm ok w' :=
  ⟨(t.block s (lt_of_heap h.hs) (fun z => hS _ _ _ h.hs z (.inl rfl))).trans h.hs, fun i => t.row (h.row i) (fun j hj z => by obtain ⟨_, _, cs, h'⟩ := row_atk (h.row i) (own_at hj); exact hS _ _ _ h' z (ksE i)), fun i => (h.fam i).kept t (fun j cs hj z => hS _ _ _ hj z (ksT i)), h.ls⟩
theorem Ws.below (h : Ws B s x y r rs fm ok w) (b : Below w.heap.size w w') : Ws B s x y r rs fm ok w' := h.kept (turn_below (S := fun _ => False) b) (fun _ _ _ _ q => q.elim)
def upd {α : Type} (f : Fin 6 → α) (i : Fin 6) (v : α) : Fin 6 → α := fun j => if j = i then v else f j
theorem upd_self {α : Type} (f : Fin 6 → α) (i : Fin 6) (v : α) : upd f i v i = v := if_pos rfl
theorem upd_ne {α : Type} (f : Fin 6 → α) {i j : Fin 6} (v : α) (h : j ≠ i) : upd f i v j = f j := if_neg h
/-- one block of a family turns -/
theorem Ws.set {S : Nat → Prop} (h : Ws B s x y r rs fm ok w) (t : Turn S w w') {φ : Fin 6} {i : Nat} {p : Ob} (hi : (fm φ)[i]? = some p) (hS : ∀ (j : Nat) (cs : Array Value) (T : TypeId), w.heap[j]? = some (.cells cs T (0, 0)) → S j → ¬ KS T ∨ j = p.1) {cs' : Array Value} (hw : w'.heap[p.1]? = some (.cells cs' (KT φ) (0, 0))) : Ws B s x y r rs (upd fm φ ((fm φ).set i (p.1, cs'))) ok w' := by
  have hp := ((h.fam φ).at_ i p hi).1
  have no : ∀ (j : Nat) (cs : Array Value) (T : TypeId), w.heap[j]? = some (.cells cs T (0, 0)) → KS T → T ≠ KT φ → ¬ S j := fun j cs T hj hk hT z => by
    rcases hS _ _ _ hj z with e | e
    · exact e hk
    · exact cells_ne hj hp hT e
  refine ⟨(t.block s (lt_of_heap h.hs) (no _ _ _ h.hs (.inl rfl) (fun e => kt44 φ e.symm))).trans h.hs, fun k => t.row (h.row k) (fun j hj z => ?_), fun k => ?_, h.ls⟩
  · obtain ⟨_, _, cs, h'⟩ := row_atk (h.row k) (own_at hj)
    exact no _ _ _ h' (ksE k) (fun e => kte φ k e.symm) z
  · by_cases hk : k = φ
    · subst hk
      rw [upd_self]
      exact (h.fam k).set t hi (fun j cs hj z => by rcases hS _ _ _ hj z with e | e; exact absurd (ksT k) e; exact e) hw
    · rw [upd_ne _ _ hk]
      exact (h.fam k).kept t (fun j cs hj => no _ _ _ hj (ksT k) (fun e => hk (kt_inj k φ e)))
/-- a block more -/
theorem Ws.new (h : Ws B s x y r rs fm ok w) (φ : Fin 6) {b : Nat} {cs : Array Value} (hw : w.heap[b]? = some (.cells cs (KT φ) (0, 0))) (hB : B ≤ b) (hn : ∀ (i : Nat) (p : Ob), (fm φ)[i]? = some p → p.1 ≠ b) : Ws B s x y r rs (upd fm φ (fm φ ++ [(b, cs)])) ok w := by
  refine ⟨h.hs, h.row, fun k => ?_, h.ls⟩
  by_cases hk : k = φ
  · subst hk; rw [upd_self]; exact (h.fam k).add hw hB hn
  · rw [upd_ne _ _ hk]; exact h.fam k
/-- the flag is written -/
theorem Ws.flag (h : Ws B s x y r rs fm ok w) (v : Bool) : Ws B s x y r rs fm v (w.setCell ⟨s, 8, none⟩ (.bool v)) := by
  have t := turn_b s 8 (.bool v) w
  refine ⟨by have := set_block (off := 8) (v := .bool v) h.hs; exact this, fun i => t.row (h.row i) (fun j hj z => ?_), fun i => (h.fam i).kept t (fun j cs hj z => cells_ne hj h.hs (kt44 i) z), h.ls⟩
  obtain ⟨_, _, cs, h'⟩ := row_atk (h.row i) (own_at hj)
  exact cells_ne h' h.hs (ke44 i) z
def Ro.more (r : Ro) (φ : Fin 6) (gg cap' : Nat) : Ro := ⟨upd r.ao φ (some ⟨gg, 0, none⟩), upd r.cap φ cap', upd r.L φ (r.L φ + 1)⟩
/-- a row grows, and its cell is written -/
theorem Ws.grow (h : Ws B s x y r rs fm ok w) (φ : Fin 6) {b gg cap' : Nat} {w1 : World} (hr1 : w1.ownsRow B (KE φ) 1 (.slice (some ⟨gg, 0, none⟩) (r.L φ + 1) cap') (r.L φ + 1) ((rs φ).map ptr ++ [ptr b])) (t : Turn (At (r.ao φ)) w w1) : Ws B s x y (r.more φ gg cap') (upd rs φ (rs φ ++ [b])) fm ok (w1.setCell ⟨s, 2 + φ.1, none⟩ (.slice (some ⟨gg, 0, none⟩) (r.L φ + 1) cap')) := by
  have far : ∀ {j : Nat} {cs : Array Value} {T : TypeId}, w.heap[j]? = some (.cells cs T (0, 0)) → T ≠ KE φ → ¬ At (r.ao φ) j := fun hj n1 q => by
    obtain ⟨_, _, cs', h'⟩ := row_atk (h.row φ) q
    exact cells_ne hj h' n1 rfl
  have hs1 := (t.block s (lt_of_heap h.hs) (far h.hs (fun e => ke44 φ e.symm))).trans h.hs
  have t2 := turn_b s (2 + φ.1) (.slice (some ⟨gg, 0, none⟩) (r.L φ + 1) cap') w1
  have tt : Turn (fun j => At (r.ao φ) j ∨ j = s) w (w1.setCell ⟨s, 2 + φ.1, none⟩ (.slice (some ⟨gg, 0, none⟩) (r.L φ + 1) cap')) := (t.mono (fun j _ z => .inl z)).trans (t2.mono (fun j _ z => .inr z))
  have far2 : ∀ {j : Nat} {cs : Array Value} {T : TypeId}, w.heap[j]? = some (.cells cs T (0, 0)) → T ≠ KE φ → T ≠ 44 → ¬ (At (r.ao φ) j ∨ j = s) := fun hj n1 n2 q => by
    rcases q with q | q
    · exact far hj n1 q
    · exact cells_ne hj h.hs n2 q
  refine ⟨?_, fun k => ?_, fun k => (h.fam k).kept tt (fun j cs hj => far2 hj (kte k φ) (kt44 k)), h.ls⟩
  · have := set_block (off := 2 + φ.1) (v := .slice (some ⟨gg, 0, none⟩) (r.L φ + 1) cap') hs1
    rw [this]
    have : φ = 0 ∨ φ = 1 ∨ φ = 2 ∨ φ = 3 ∨ φ = 4 ∨ φ = 5 := by omega
    rcases this with rfl | rfl | rfl | rfl | rfl | rfl <;> rfl
  · by_cases hk : k = φ
    · subst hk
      have e1 : (r.more k gg cap').ao k = some ⟨gg, 0, none⟩ := upd_self _ _ _
      have e2 : (r.more k gg cap').cap k = cap' := upd_self _ _ _
      have e3 : (r.more k gg cap').L k = r.L k + 1 := upd_self _ _ _
      rw [e1, e2, e3, upd_self, List.map_append]
      refine t2.row hr1 (fun j hj e => ?_)
      have e1 : gg = j := by simpa [Value.ownBlock] using hj
      obtain ⟨_, _, cs', h'⟩ := row_atk hr1 ⟨_, rfl, rfl⟩
      exact cells_ne h' hs1 (ke44 k) (e1.trans e)
    · have e1 : (r.more φ gg cap').ao k = r.ao k := upd_ne _ _ hk
      have e2 : (r.more φ gg cap').cap k = r.cap k := upd_ne _ _ hk
      have e3 : (r.more φ gg cap').L k = r.L k := upd_ne _ _ hk
      rw [e1, e2, e3, upd_ne _ _ hk]
      refine tt.row (h.row k) (fun j hj => ?_)
      obtain ⟨_, _, cs, h'⟩ := row_atk (h.row k) (own_at hj)
      exact far2 h' (fun e => hk (ke_inj k φ e)) (ke44 k)
theorem Ws.mem (h : Ws B s x y r rs fm ok w) {D : Nat → Prop} {B' x' : Nat} {ws : List Int} {tr : List Ac} {bad : Nat} (hm : Mem D B' x' ws tr bad w) (t : Turn D w w') : Ws B s x y r rs fm ok w' := h.kept t (fun j cs T hj q hk => by
  obtain ⟨cs', t', h1, h2⟩ := hm.kind q
  rw [hj] at h1
  cases h1
  revert hk
  rcases h2 with rfl | rfl | rfl <;> decide)
theorem Ws.rem (h : Ws B s x y r rs fm ok w) {D : Nat → Prop} {B' y' m : Nat} {ws : List Int} {tr : List Ac} {bad : Nat} (hm : Rem D B' y' ws m tr bad w) (t : Turn D w w') : Ws B s x y r rs fm ok w' := h.kept t (fun j cs T hj q hk => by
  obtain ⟨cs', t', h1, h2⟩ := hm.kind q
  rw [hj] at h1
  cases h1
  revert hk
  rcases h2 with rfl | rfl | rfl <;> decide)
/-- behind a call on the memory and one block -/
theorem Ws.bto (h : Ws B s x y r rs fm ok w) {D : Nat → Prop} {B' x' : Nat} {ws ws' : List Int} {tr tr' : List Ac} {bad bad' : Nat} (hm : Mem D B' x' ws tr bad w) {φ : Fin 6} {i : Nat} {p : Ob} (hi : (fm φ)[i]? = some p) {cs' : Array Value} (k : BTo D B' x' p.1 ws' tr' bad' cs' (KT φ) w w') : Ws B s x y r rs (upd fm φ ((fm φ).set i (p.1, cs'))) ok w' := by
  obtain ⟨D', hm', hw, t, q⟩ := k
  refine h.set t hi (fun j cs T hj z => ?_) hw
  rcases z with z | z
  · refine .inl (fun hk => ?_)
    obtain ⟨cs', t', h1, h2⟩ := hm.kind z
    rw [hj] at h1
    cases h1
    revert hk
    rcases h2 with rfl | rfl | rfl <;> decide
  · exact .inr z
theorem Ws.rbto (h : Ws B s x y r rs fm ok w) {D : Nat → Prop} {B' y' m m' : Nat} {ws ws' : List Int} {tr tr' : List Ac} {bad bad' : Nat} (hm : Rem D B' y' ws m tr bad w) {φ : Fin 6} {i : Nat} {p : Ob} (hi : (fm φ)[i]? = some p) {cs' : Array Value} (k : RBTo D B' y' p.1 ws' m' tr' bad' cs' (KT φ) w w') : Ws B s x y r rs (upd fm φ ((fm φ).set i (p.1, cs'))) ok w' := by
  obtain ⟨D', hm', hw, t, q⟩ := k
  refine h.set t hi (fun j cs T hj z => ?_) hw
  rcases z with z | z
  · refine .inl (fun hk => ?_)
    obtain ⟨cs', t', h1, h2⟩ := hm.kind z
    rw [hj] at h1
    cases h1
    revert hk
    rcases h2 with rfl | rfl | rfl <;> decide
  · exact .inr z
end V
end Go.Proofs.Ytbbopkhgmgdlfaa
