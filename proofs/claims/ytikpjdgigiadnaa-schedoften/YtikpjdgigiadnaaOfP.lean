import Derived.Test.YtikpjdgigiadnaaTwn
set_option linter.unusedVariables false
set_option linter.unusedSimpArgs false
namespace Go.Proofs.Ytikpjdgigiadnaa
open Go.RowKit
namespace F
open C
theorem fr_more {ps es : List Int} {W W' : Int} (h : Fr ps es W) (hW : W ≤ W') : Fr ps es W' := by
  refine ⟨by have := h.1; omega, fun k hk f hf => ?_⟩
  obtain ⟨m, m1, m2, m3⟩ := h.2 k hk f (by omega)
  exact ⟨m, m1, by omega, m3⟩
/-- how often a number stands in a list -/
def cn (l : List Int) (v : Int) : Nat := (l.filter (fun x => decide (x = v))).length
theorem cn_append (a b : List Int) (v : Int) : cn (a ++ b) v = cn a v + cn b v := by simp [cn]
theorem cn_mem {l : List Int} {v : Int} (h : v ∈ l) : 1 ≤ cn l v := by
  unfold cn
  have : v ∈ l.filter (fun x => decide (x = v)) := List.mem_filter.2 ⟨h, by simp⟩
  exact List.length_pos_of_mem this
theorem cn_take_le (l : List Int) (v : Int) (a b : Nat) (h : a ≤ b) : cn (l.take a) v ≤ cn (l.take b) v := by
  have e : l.take b = l.take a ++ (l.take b).drop a := by
    have := List.take_append_drop a (l.take b)
    rw [List.take_take, Nat.min_eq_left h] at this
    exact this.symm
  rw [e, cn_append]
  omega
theorem cn_le (l : List Int) (v : Int) : cn l v ≤ l.length := List.length_filter_le _ _
theorem cn_succ {l : List Int} {k : Nat} (h : k < l.length) (v : Int) : cn (l.take (k + 1)) v = cn (l.take k) v + (if l.getD k 0 = v then 1 else 0) := by
  rw [List.take_succ_eq_append_getElem h, cn_append]
  congr 1
  have e : l.getD k 0 = l[k] := by simp [List.getD, h]
  rw [e]
  by_cases q : l[k] = v
  · simp [cn, q]
  · simp [cn, q]
/-- so many rows, so many picks -/
theorem fr_rows {ps es : List Int} {W : Nat} (h : Fr ps es (W : Int)) {k : Nat} (hk : k < es.length) : ∀ q : Nat, ((q * W : Nat) : Int) ≤ ef ps.length (es.getD k 0) + 1 → q ≤ cn (ps.take (q * W)) k := by
  intro q
  induction q with
  | zero => intro _; omega
  | succ q ih =>
    intro hq
    have e : (q + 1) * W = q * W + W := Nat.succ_mul q W
    rw [e] at hq ⊢
    have hi := ih (by omega)
    obtain ⟨m, m1, m2, m3⟩ := h.2 k hk (q * W) (by omega)
    have hlt : m < ps.length := (List.getElem?_eq_some_iff.1 m3).1
    have h1 := cn_take_le ps k (q * W) m m1
    have h2 := cn_succ hlt (k : Int)
    have h3 : ps.getD m 0 = (k : Int) := by simp [List.getD, m3]
    rw [if_pos h3] at h2
    have h4 := cn_take_le ps k (m + 1) (q * W + W) (by omega)
    omega
theorem fr_often {ps es : List Int} {W : Int} (h : Fr ps es W) {k : Nat} (hk : k < es.length) {E : Nat} (hE : (E : Int) = ef ps.length (es.getD k 0) + 1) : ¬ ((cn (ps.take E) k : Int) < (E : Int) / W) := by
  obtain ⟨V, rfl⟩ : ∃ V : Nat, W = (V : Int) := ⟨W.toNat, by have := h.1; omega⟩
  have h1 := Nat.div_mul_le_self E V
  have h2 := fr_rows h hk (E / V) (by omega)
  have h3 := cn_take_le ps k (E / V * V) E h1
  have h4 : (E : Int) / (V : Int) = ((E / V : Nat) : Int) := rfl
  omega
theorem fr_cut {ps es : List Int} {W : Int} (h : Fr ps es W) {c : Nat} (hc : c ≤ ps.length) (hall : ∀ k, k < es.length → (c : Int) ≤ ef ps.length (es.getD k 0) + 1) : Fr (ps.take c) (List.replicate es.length (-1)) W := by
  refine ⟨h.1, fun k hk f hf => ?_⟩
  rw [List.length_replicate] at hk
  have e : (List.replicate es.length (-1 : Int)).getD k 0 = -1 := by simp [List.getD, List.getElem?_replicate, hk]
  have e2 : ef (ps.take c).length (-1) = (c : Int) - 1 := by unfold ef; rw [if_pos (.inl (by omega)), List.length_take]; omega
  rw [e, e2] at hf
  obtain ⟨m, m1, m2, m3⟩ := h.2 k hk f (by have := hall k hk; omega)
  refine ⟨m, m1, m2, ?_⟩
  rw [List.getElem?_take_of_lt (by omega)]
  exact m3
set_option maxRecDepth 100000 in
set_option maxHeartbeats 1000000 in
theorem count_any (a : Option Addr) (c : Nat) (zs : List Int) (v : Int) (w : World) (hI : Ints w a zs) (hl : zs.length ≤ 17592186044000) : Calls Try.prog 40 #[.slice a zs.length c, .int .i64 v] w fun e w' => e = .returned (.int .i64 (cn zs v : Int)) ∧ w' = w := by
  have HI := hide' hI
  have HL := hide' hl
  have E3 : Hid (∀ k : Nat, k < 17592186044000 → wrap64 ((k : Int) + 1) = (k : Int) + 1) := hide' (fun k hk => wrap_in (by omega) (by omega))
  clear hI hl
  go_enter Try.func40, Try.ntmps40
  go_wp2_with fail
  go_loopw [6, 5] (fun i s wx => ∃ k : Nat, i = .int .i64 (k : Int) ∧ k ≤ zs.length ∧ s = .int .i64 (cn (zs.take k) v : Int) ∧ wx = w) (fun i _ _ => zs.length - (intOf i).toNat)
  case atStart => exact ⟨0, rfl, Nat.zero_le _, rfl, rfl⟩
  case round =>
    obtain ⟨k, rfl, hk, rfl, hwr⟩ := hrel
    obtain rfl := hwr.symm
    clear hwr
    by_cases hlt : k < zs.length
    · have hlt' : (k : Int) < (zs.length : Int) := by omega
      have e1 := E3.out k (Nat.lt_of_lt_of_le hlt HL.out)
      have Hend := hide' (msr' hlt _ e1)
      have Hk := hide' hlt
      rcases HI.out with q | ⟨b, off, ha, hb, hc⟩
      · rw [q] at hlt; simp at hlt
      have ic := hc k hlt
      have HS := hide' (cn_succ hlt v)
      have hcl : cn (zs.take k) v < 17592186044000 := by have := cn_le (zs.take k) v; rw [List.length_take] at this; have := HL.out; omega
      obtain ⟨s, hs⟩ : ∃ s, cn (zs.take k) v = s := ⟨_, rfl⟩
      rw [hs] at HS hcl
      rw [hs]
      have e2 := E3.out s hcl
      obtain ⟨u, hu⟩ : ∃ u, zs.getD k 0 = u := ⟨_, rfl⟩
      rw [hu] at ic HS
      obtain rfl := ha
      clear hc hb hu hk hs hcl
      by_cases huv : u = v
      · rw [if_pos huv] at HS
        obtain rfl := huv
        go_wp2_with fail
        exact ⟨⟨k + 1, by first | rfl | (rw [e1]; rfl), Hk.out, by rw [HS.out]; first | rfl | (rw [e2]; rfl), by trivial⟩, by first | exact Hend.out | (rw [← e1]; exact Hend.out)⟩
      · rw [if_neg huv] at HS
        go_wp2_with fail
        exact ⟨⟨k + 1, by first | rfl | (rw [e1]; rfl), Hk.out, by rw [HS.out]; rfl, by trivial⟩, by first | exact Hend.out | (rw [← e1]; exact Hend.out)⟩
    · obtain rfl : k = zs.length := by omega
      rw [List.take_length]
      clear hlt hk
      go_wp2_with fail
      go_ret
      exact ⟨rfl, rfl⟩
end F
end Go.Proofs.Ytikpjdgigiadnaa
