import Derived.Test.YtihdagehenmolaaJaW
set_option linter.unusedVariables false
set_option linter.unusedSimpArgs false
namespace Go.Proofs.Ytihdagehenmolaa
open Go.RowKit
namespace A
open M K J
/-- of six: the third and the fourth are the other's -/
def ab {α : Type} (x y : α) (i : Nat) : α := if i = 2 ∨ i = 3 then y else x
/-- while the lists are told: kg were told, kw are what they must be -/
structure Jr (wb : World) (A1 B1 : List En) (ra rb : Sg) (kg kw : Nat) (G : Nat → Sg) (ga : Option Addr) (gc : Nat) (va : Option Addr) (vc : Nat) (wx : World) : Prop where
  rows : Rows wb.heap.size kg G (ab A1 B1) wx
  dj : Dj kg G
  got : wx.ownsRow wb.heap.size 29 1 (.slice ga kg gc) kg ((List.range kg).map (fun i => (G i).v))
  want : wx.ownsRow wb.heap.size 29 1 (.slice va kw vc) kw ((List.range kw).map (fun i => (ab ra rb i).v))
  ap : ∀ j, At ga j → At va j → False
  bel : Below wb.heap.size wb wx
variable {wb wx wy w1 : World} {A1 B1 : List En} {ra rb : Sg} {kg kw : Nat} {G : Nat → Sg} {ga va : Option Addr} {gc vc : Nat}
theorem row_below {B e z n cap : Nat} {ao : Option Addr} {xs : List Value} (h : wx.ownsRow B e z (.slice ao n cap) n xs) (b : Below wx.heap.size wx wy) : wy.ownsRow B e z (.slice ao n cap) n xs :=
  (turn_below (S := fun _ => False) b).row h (fun _ _ q => q)
theorem Jr.below (h : Jr wb A1 B1 ra rb kg kw G ga gc va vc wx) (b : Below wx.heap.size wx wy) : Jr wb A1 B1 ra rb kg kw G ga gc va vc wy :=
  ⟨fun i hi => row_below (h.rows i hi) b, h.dj, row_below h.got b, row_below h.want b, h.ap, h.bel.trans (b.mono h.bel.size)⟩
theorem Jr.zero (wb : World) (A1 B1 : List En) (ra rb : Sg) : Jr wb A1 B1 ra rb 0 0 (fun _ => ⟨none, 0, 0⟩) none 0 none 0 wb :=
  ⟨fun i hi => by omega, fun i hi => by omega, World.ownsRow_nil wb _ 29 1, World.ownsRow_nil wb _ 29 1, fun j hj => (by obtain ⟨a, q, _⟩ := hj; cases q), Below.refl _ _⟩
theorem row_lower' {B B' e z n cap : Nat} {ao : Option Addr} {xs : List Value} (h : wx.ownsRow B e z (.slice ao n cap) n xs) (hB : B' ≤ B) : wx.ownsRow B' e z (.slice ao n cap) n xs := by
  refine ⟨h.1, ?_⟩
  rcases h.2 with h2 | ⟨g, cap, cur, hv, hb, rest⟩
  · exact .inl h2
  · exact .inr ⟨g, cap, cur, hv, by omega, rest⟩
theorem upd_self (L : Nat → Sg) (p : Nat) (l : Sg) : upd L p l p = l := by simp [upd]
theorem upd_lt (L : Nat → Sg) {p i : Nat} (l : Sg) (h : i ≠ p) : upd L p l i = L i := by simp [upd, h]
/-- one more was told -/
theorem Jr.tell (h : Jr wb A1 B1 ra rb kg kw G ga gc va vc wx) (b : Below wx.heap.size wx wy) {ao : Option Addr} {cap : Nat} {es : List En} (he : Es wx.heap.size ao cap es wy) (hes : es = ab A1 B1 kg) {gg cap' : Nat}
    (r1 : w1.ownsRow wb.heap.size 29 1 (.slice (some ⟨gg, 0, none⟩) (kg + 1) cap') (kg + 1) ((List.range kg).map (fun i => (G i).v) ++ [.slice ao es.length cap])) (t : Turn (At ga) wy w1) (hg : At ga gg ∨ wy.heap.size ≤ gg) :
    Jr wb A1 B1 ra rb (kg + 1) kw (upd G kg ⟨ao, es.length, cap⟩) (some ⟨gg, 0, none⟩) cap' va vc w1 := by
  have hy := h.below b
  have hga : ∀ j, At ga j → wb.heap.size ≤ j ∧ ∃ cs r, wy.heap[j]? = some (.cells cs 29 r) := fun j hj => by
    obtain ⟨a1, _, a2⟩ := row_kind hy.got hj
    exact ⟨a1, a2⟩
  have hva : ∀ j, At va j → ∃ cs r, wy.heap[j]? = some (.cells cs 29 r) := fun j hj => (row_kind hy.want hj).2.2
  have hnew : ∀ j, At ao j → wx.heap.size ≤ j ∧ ∃ cs r, wy.heap[j]? = some (.cells cs 24 r) := fun j hj => by
    obtain ⟨a1, _, a2⟩ := row_kind he.row hj
    exact ⟨a1, a2⟩
  have hold : ∀ i, i < kg → ∀ j, At (G i).ao j → j < wx.heap.size := fun i hi j hj => (h.rows.kind ⟨i, hi, hj⟩).2.1
  have key : ∀ j, (∃ cs r, wy.heap[j]? = some (.cells cs 24 r)) → ¬ At ga j := fun j ⟨cs, r, hh⟩ q => by
    obtain ⟨_, cs', r', h2⟩ := hga j q
    exact cells_ne hh h2 (by decide) rfl
  refine ⟨fun i hi => ?_, fun i hi k hk j h1 h2 => ?_, ?_, ?_, fun j h1 h2 => ?_, ?_⟩
  · by_cases e : i = kg
    · subst e
      rw [upd_self]
      have := row_lower' (t.row he.row (fun j hj => key j (hnew j (own_at hj)).2)) h.bel.size
      rw [← hes]
      exact this
    · rw [upd_lt G _ e]
      exact t.row (hy.rows i (by omega)) (fun j hj => key j (hy.rows.kind ⟨i, by omega, own_at hj⟩).2.2)
  · by_cases e : i = kg
    · by_cases e' : k = kg
      · omega
      · rw [e, upd_self] at h1
        rw [upd_lt G _ e'] at h2
        have := (hnew j h1).1
        have := hold k (by omega) j h2
        omega
    · rw [upd_lt G _ e] at h1
      by_cases e' : k = kg
      · rw [e', upd_self] at h2
        have := (hnew j h2).1
        have := hold i (by omega) j h1
        omega
      · rw [upd_lt G _ e'] at h2
        exact h.dj i (by omega) k (by omega) j h1 h2
  · rw [List.range_succ, List.map_append]
    have e : (List.range kg).map (fun i => (upd G kg ⟨ao, es.length, cap⟩ i).v) = (List.range kg).map (fun i => (G i).v) := List.map_congr_left (fun i hi => by
      have := List.mem_range.1 hi
      rw [upd_lt G _ (by omega)])
    rw [e]
    simpa [upd, Sg.v] using r1
  · exact t.row hy.want (fun j hj q => h.ap j q (own_at hj))
  · obtain ⟨a, q, e⟩ := h1
    cases q
    subst e
    rcases hg with q | q
    · exact h.ap _ q h2
    · obtain ⟨cs, r, hh⟩ := hva _ h2
      have := lt_of_heap hh
      exact absurd this (Nat.not_lt.2 q)
  · exact hy.bel.trans (t.below (fun j hj => (hga j hj).1) hy.bel.size)
/-- and what it must be -/
theorem Jr.must (h : Jr wb A1 B1 ra rb kg kw G ga gc va vc wx) {l : Sg} (hl : l = ab ra rb kw) {gg cap' : Nat}
    (r1 : w1.ownsRow wb.heap.size 29 1 (.slice (some ⟨gg, 0, none⟩) (kw + 1) cap') (kw + 1) ((List.range kw).map (fun i => (ab ra rb i).v) ++ [.slice l.ao l.len l.cap])) (t : Turn (At va) wx w1) (hg : At va gg ∨ wx.heap.size ≤ gg) :
    Jr wb A1 B1 ra rb kg (kw + 1) G ga gc (some ⟨gg, 0, none⟩) cap' w1 := by
  have hva : ∀ j, At va j → wb.heap.size ≤ j ∧ ∃ cs r, wx.heap[j]? = some (.cells cs 29 r) := fun j hj => by
    obtain ⟨a1, _, a2⟩ := row_kind h.want hj
    exact ⟨a1, a2⟩
  refine ⟨fun i hi => t.row (h.rows i hi) (fun j hj q => ?_), h.dj, t.row h.got (fun j hj q => h.ap j (own_at hj) q), ?_, fun j h1 h2 => ?_, h.bel.trans (t.below (fun j hj => (hva j hj).1) h.bel.size)⟩
  · obtain ⟨_, cs, r, h2⟩ := hva j q
    obtain ⟨_, _, cs', r', h3⟩ := h.rows.kind ⟨i, hi, own_at hj⟩
    exact cells_ne h2 h3 (by decide) rfl
  · rw [List.range_succ, List.map_append]
    subst hl
    exact r1
  · obtain ⟨a, q, e⟩ := h2
    cases q
    subst e
    rcases hg with q | q
    · exact h.ap _ h1 q
    · obtain ⟨_, _, cs, r, hh⟩ := row_kind h.got h1
      have := lt_of_heap hh
      exact absurd this (Nat.not_lt.2 q)
/-- apart of them -/
theorem Jr.apart (h : Jr wb A1 B1 ra rb 6 6 G ga gc va vc wx) (ea : Rw 2 En.arr wb ra.ao A1) (la : ra.len = A1.length) (eb : Rw 2 En.arr wb rb.ao B1) (lb : rb.len = B1.length) (ka : A1.length ≤ 1048576) (kb : B1.length ≤ 1048576) (ga' : ∀ j, At ra.ao j → j < wb.heap.size) (gb' : ∀ j, At rb.ao j → j < wb.heap.size) :
    Calls Try.prog 16 #[.slice ga 6 gc, .slice va 6 vc] wx fun e w' => e = .returned (.bool true) ∧ Below wb.heap.size wb w' := by
  have lo : ∀ j, Ds 6 G j → wb.heap.size ≤ j := fun j hj => (h.rows.kind hj).1
  refine (apart_any (B := wb.heap.size) (N := 6) ga gc va vc G (ab ra rb) (ab A1 B1) wx (by omega) h.bel.size (Sl.of_row h.got) (Sl.of_row h.want) h.rows h.dj (fun i hi => ?_) (fun i hi => ?_)).mono fun e w' ⟨he, t⟩ => ⟨he, h.bel.trans (t.below lo h.bel.size)⟩
  · unfold ab
    split
    · exact ⟨eb.below h.bel, lb, fun _ j hj q => by have := lo j q; have := gb' j hj; omega⟩
    · exact ⟨ea.below h.bel, la, fun _ j hj q => by have := lo j q; have := ga' j hj; omega⟩
  · rw [← h.rows.len hi]
    unfold ab
    split <;> assumption
end A
end Go.Proofs.Ytihdagehenmolaa
