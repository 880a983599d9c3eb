import Derived.Test.YtbgjggblaeadlaaMxW
import Derived.Test.YtbgjggblaeadlaaMix
set_option linter.unusedVariables false
set_option linter.unusedSimpArgs false
namespace Go.Proofs.Ytbgjggblaeadlaa
open Go.RowKit
namespace X
open C F A
theorem Nx.uniq {l a b : List Int} (h : Nx l a) (h' : Nx l b) : a = b := by
  obtain ⟨p, g, h1, h2, h3, h4, h5, h6, rfl⟩ := h
  obtain ⟨p', g', h1', h2', h3', h4', h5', h6', rfl⟩ := h'
  have ep : p = p' := by
    rcases Nat.lt_trichotomy p p' with q | q | q
    · have := h4 p' (by omega) (by omega); omega
    · exact q
    · have := h4' p (by omega) (by omega); omega
  subst ep
  have eg : g = g' := by
    rcases Nat.lt_trichotomy g g' with q | q | q
    · have := h6 g' q h2'; omega
    · exact q
    · have := h6' g q h2; omega
  subst eg
  rfl
theorem Nx.not {l a : List Int} (h : Nx l a) (hf : Falls l (-1)) : False := by
  obtain ⟨p, g, h1, h2, h3, _⟩ := h
  have := hf p (by omega) (by omega)
  omega
theorem Chn.uniq {zs : List Int} {k : Nat} {a : List Int} (h : Chn zs k a) : ∀ {b : List Int}, Chn zs k b → a = b := by
  induction h with
  | zero => intro b hb; cases hb; rfl
  | succ h1 h2 ih =>
    intro b hb
    cases hb with
    | succ h1' h2' =>
      have e := ih h1'
      subst e
      exact h2.uniq h2'
theorem Chn.pred {zs : List Int} {j : Nat} {l : List Int} (h : Chn zs j l) : ∀ i, i < j → ∃ a b, Chn zs i a ∧ Nx a b := by
  induction h with
  | zero => intro i hi; omega
  | @succ k l l' h1 h2 ih =>
    intro i hi
    by_cases e : i = k
    · subst e; exact ⟨l, l', h1, h2⟩
    · exact ih i (by omega)
/-- behind the last list there is none -/
theorem fin_lt {zs : List Int} {k j : Nat} {l : List Int} (h : Fin zs k) (hc : Chn zs j l) : j < k := by
  obtain ⟨i, a, rfl, ha, hf⟩ := h
  rcases Nat.lt_or_ge i j with q | q
  · obtain ⟨a', b, h1, h2⟩ := hc.pred i q
    have e := ha.uniq h1
    subst e
    exact (h2.not hf).elim
  · omega
theorem fin_uniq {zs : List Int} {k m : Nat} (h : Fin zs k) (h' : Fin zs m) : k = m := by
  obtain ⟨i, a, rfl, ha, hf⟩ := h
  obtain ⟨j, b, rfl, hb, hg⟩ := h'
  have h1 := fin_lt ⟨j, b, rfl, hb, hg⟩ ha
  have h2 := fin_lt ⟨i, a, rfl, ha, hf⟩ hb
  omega
/-- how many lists there are to be told, W of them by the document (b: these are all) -/
def Want (zs : List Int) (W : Nat) (b : Bool) : Prop := (b = true ∧ Fin zs W) ∨ (b = false ∧ W = 40 ∧ ∃ l, Chn zs 39 l)
/-- the first range: ended by itself behind k lists -/
theorem got_end {zs : List Int} {W k : Nat} {b : Bool} (h : Want zs W b) (hf : Fin zs k) (hk : k ≤ W ∧ k < 40 ∨ k = 0) : k = W := by
  rcases h with ⟨_, h⟩ | ⟨_, rfl, l, hl⟩
  · exact fin_uniq hf h
  · have := fin_lt hf hl; omega
/-- the first range: left behind the list k -/
theorem got_left {zs : List Int} {W k : Nat} {b : Bool} {l : List Int} (h : Want zs W b) (hc : Chn zs k l) (hk : k ≤ W) (h40 : k < 40) (hW : W ≤ 40) (hx : W < k + 1 ∨ k + 1 = 40) : k + 1 = W ∧ W = 40 := by
  rcases h with ⟨_, h⟩ | ⟨_, rfl, _⟩
  · have := fin_lt h hc; omega
  · omega
/-- the second range: left ahead of the list n, or ended by itself behind k lists -/
theorem again_left {zs : List Int} {W n : Nat} {b : Bool} {l : List Int} (h : Want zs W b) (hc : Chn zs n l) (hn : n ≤ 40) : n ≤ W := by
  rcases h with ⟨_, h⟩ | ⟨_, rfl, _⟩
  · have := fin_lt h hc; omega
  · exact hn
theorem again_end {zs : List Int} {W n k : Nat} {b : Bool} (h : Want zs W b) (hf : Fin zs k) (hk : k ≤ n) (hn : n ≤ 40) : k = min n W := by
  rcases h with ⟨_, h⟩ | ⟨_, rfl, l, hl⟩
  · have := fin_uniq hf h; omega
  · have := fin_lt hf hl; omega
set_option maxRecDepth 100000 in
set_option maxHeartbeats 1000000 in
/-- 16.7: too many steps: an iterator that tells nothing -/
theorem mixes_no (a : Option Addr) (c : Nat) (zs : List Int) (w : World) (hI : Ints w a zs) (hm : mxb zs = false) : Calls Try.prog 31 #[.slice a zs.length c] w fun e w' => e = .returned (.func (.func 52) #[] #[]) ∧ w' = w := by
  have H1 := hide' (mixable_any a c zs w hI)
  rw [hm] at H1
  clear hI hm
  go_enter Try.func31, Try.ntmps31
  go_wp2_with fail
  refine H1.out.mono ?_
  rintro e w1 ⟨rfl, hw1⟩
  obtain rfl := hw1.symm
  clear hw1 H1
  go_wp2
  go_ret
  exact ⟨rfl, rfl⟩
end X
end Go.Proofs.Ytbgjggblaeadlaa
