import Derived.Test.YtbgjggblaeadlaaFsW
set_option linter.unusedVariables false
set_option linter.unusedSimpArgs false
namespace Go.Proofs.Ytbgjggblaeadlaa
open Go.RowKit
namespace X
open C F
/-- the least of those above x; -1: none -/
def Rs (T : List Int) (x r : Int) : Prop := (r = -1 ∧ ∀ v ∈ T, ¬ x < v) ∨ (r ∈ T ∧ x < r ∧ ∀ v ∈ T, x < v → r ≤ v)
theorem Rs.nil (x : Int) : Rs [] x (-1) := .inl ⟨rfl, fun v h => by simp at h⟩
theorem Rs.take {T : List Int} {x r v : Int} (h : Rs T x r) (hx : x < v) (hr : r < 0 ∨ v < r) (h0 : 0 ≤ x) : Rs (T ++ [v]) x v := by
  refine .inr ⟨by simp, hx, fun u hu hxu => ?_⟩
  rcases List.mem_append.1 hu with hu | hu
  · rcases h with ⟨_, h⟩ | ⟨h1, h2, h3⟩
    · exact absurd hxu (h u hu)
    · have := h3 u hu hxu; omega
  · have := List.mem_singleton.1 hu; omega
theorem Rs.skip {T : List Int} {x r v : Int} (h : Rs T x r) (hn : ¬ x < v ∨ (¬ r < 0 ∧ ¬ v < r)) : Rs (T ++ [v]) x r := by
  rcases h with ⟨h1, h2⟩ | ⟨h1, h2, h3⟩
  · refine .inl ⟨h1, fun u hu => ?_⟩
    rcases List.mem_append.1 hu with hu | hu
    · exact h2 u hu
    · have := List.mem_singleton.1 hu; subst this; omega
  · refine .inr ⟨by simp [h1], h2, fun u hu hxu => ?_⟩
    rcases List.mem_append.1 hu with hu | hu
    · exact h3 u hu hxu
    · have := List.mem_singleton.1 hu; subst this; omega
theorem seg_one {l : List Int} {f k : Nat} {v : Int} (hf : f ≤ k) (h : l[k]? = some v) : (l.take (k + 1)).drop f = (l.take k).drop f ++ [v] := by
  rw [List.take_add_one, h]
  have hk := (List.getElem?_eq_some_iff.1 h).1
  rw [List.drop_append_of_le_length (by rw [List.length_take]; omega)]; rfl
theorem getD_get {l : List Int} {k : Nat} (h : k < l.length) : l[k]? = some (l.getD k 0) := by
  simp [List.getD, List.getElem?_eq_getElem h]
/-- a cell of a slice of numbers, as long as nothing below turns -/
theorem icells {w : World} {a : Option Addr} {l : List Int} (hI : Ints w a l) {k : Nat} (hk : k < l.length) : ∃ xb off, a = some ⟨xb, off, none⟩ ∧ xb < w.heap.size ∧ ∀ j, j < l.length → w.cell? ⟨xb, off + j, none⟩ = some (.int .i64 (l.getD j 0)) := by
  rcases hI with q | h
  · rw [q] at hk; simp at hk
  · exact h
set_option maxRecDepth 100000 in
set_option maxHeartbeats 4000000 in
theorem rest_any (a : Option Addr) (c : Nat) (l : List Int) (f : Nat) (x : Int) (w : World) (hI : Ints w a l) (hl : l.length ≤ 1048576) (hx : 0 ≤ x) (hf : f ≤ l.length) : Calls Try.prog 59 #[.slice a l.length c, .int .i64 (f : Nat), .int .i64 x] w fun e w' => ∃ r : Int, e = .returned (.int .i64 r) ∧ Hid (Rs (l.drop f) x r) ∧ w' = w := by
  have HI := hide' hI
  have HL := hide' (And.intro hl (And.intro hx hf))
  clear hI hl hx hf
  go_enter Try.func59, Try.ntmps59
  go_wp2_with fail
  go_loopw [7, 8] (fun r i wx => ∃ (k : Nat) (rv : Int), r = .int .i64 rv ∧ i = .int .i64 (k : Int) ∧ f ≤ k ∧ k ≤ l.length ∧ Rs ((l.take k).drop f) x rv ∧ wx = w) (fun _ i _ => l.length - (intOf i).toNat)
  case atStart => exact ⟨f, -1, rfl, rfl, Nat.le_refl _, HL.out.2.2, by rw [List.drop_eq_nil_of_le (by rw [List.length_take]; omega)]; exact Rs.nil x, rfl⟩
  case round =>
    obtain ⟨k, rv, rfl, rfl, hfk, hk, hR, hwr⟩ := hrel
    obtain rfl := hwr.symm
    clear hwr
    by_cases hlt : k < l.length
    · have hlt' : (k : Int) < (l.length : Int) := by omega
      have e1 := hide' (wsucN k (by have := HL.out.1; omega))
      have Hend := hide' (msr' hlt _ rfl)
      have Hk := hide' (And.intro hlt hfk)
      obtain ⟨b, off, ha, hb, hc⟩ := icells HI.out hlt
      have ic := hc k hlt
      have hseg := seg_one hfk (getD_get hlt)
      obtain ⟨v, hv⟩ : ∃ v, l.getD k 0 = v := ⟨_, rfl⟩
      rw [hv] at ic hseg
      obtain rfl := ha
      have HS := hide' (And.intro hseg hR)
      clear hc hb hv hseg hR hk hfk hlt
      by_cases h1 : x < v
      · by_cases h2 : rv < 0
        · have K2 : Hid (Rs ((l.take (k + 1)).drop f) x v) := hide' (by rw [HS.out.1]; exact HS.out.2.take h1 (.inl h2) HL.out.2.1)
          clear HS
          go_wp2
          exact ⟨⟨k + 1, v, rfl, by first | rfl | (rw [e1.out]), Nat.le_succ_of_le Hk.out.2, Hk.out.1, K2.out, trivial⟩, by first | exact Hend.out | (rw [e1.out]; exact Hend.out)⟩
        · by_cases h3 : v < rv
          · have K2 : Hid (Rs ((l.take (k + 1)).drop f) x v) := hide' (by rw [HS.out.1]; exact HS.out.2.take h1 (.inr h3) HL.out.2.1)
            clear HS
            go_wp2
            exact ⟨⟨k + 1, v, rfl, by first | rfl | (rw [e1.out]), Nat.le_succ_of_le Hk.out.2, Hk.out.1, K2.out, trivial⟩, by first | exact Hend.out | (rw [e1.out]; exact Hend.out)⟩
          · have K2 : Hid (Rs ((l.take (k + 1)).drop f) x rv) := hide' (by rw [HS.out.1]; exact HS.out.2.skip (.inr ⟨h2, h3⟩))
            clear HS
            go_wp2
            exact ⟨⟨k + 1, rv, rfl, by first | rfl | (rw [e1.out]), Nat.le_succ_of_le Hk.out.2, Hk.out.1, K2.out, trivial⟩, by first | exact Hend.out | (rw [e1.out]; exact Hend.out)⟩
      · have K2 : Hid (Rs ((l.take (k + 1)).drop f) x rv) := hide' (by rw [HS.out.1]; exact HS.out.2.skip (.inl h1))
        clear HS
        go_wp2
        exact ⟨⟨k + 1, rv, rfl, by first | rfl | (rw [e1.out]), Nat.le_succ_of_le Hk.out.2, Hk.out.1, K2.out, trivial⟩, by first | exact Hend.out | (rw [e1.out]; exact Hend.out)⟩
    · obtain rfl : k = l.length := by omega
      rw [List.take_length] at hR
      have K2 := hide' hR
      clear hR hk hfk hlt
      go_wp2
      go_ret
      exact ⟨rv, rfl, K2, rfl⟩
theorem cts_nil : cts [] = List.replicate 64 0 := by decide
theorem cts_add (l : List Int) {v : Nat} (h : v < 64) : (cts l).set v ((cts l).getD v 0 + 1) = cts (l ++ [(v : Int)]) := by
  apply List.ext_getElem?
  intro i
  rw [List.getElem?_set, cts_len, cts_at l h]
  by_cases hi : i < 64
  · have e1 : (cts l)[i]? = some ((l.count (i : Int) : Nat) : Int) := by simp [cts, List.getElem?_range hi]
    have e2 : (cts (l ++ [(v : Int)]))[i]? = some (((l ++ [(v : Int)]).count (i : Int) : Nat) : Int) := by simp only [cts, List.getElem?_map, List.getElem?_range hi, Option.map_some]
    rw [e1, e2, List.count_append, List.count_singleton]
    by_cases hv : v = i
    · subst hv; simp [h]
    · have : ((v : Int) == (i : Int)) = false := by simp; omega
      simp [hv, this]
  · have e1 : (cts l)[i]? = none := List.getElem?_eq_none (by rw [cts_len]; omega)
    have e2 : (cts (l ++ [(v : Int)]))[i]? = none := List.getElem?_eq_none (by rw [cts_len]; omega)
    rw [e1, e2]
    by_cases hv : v = i
    · omega
    · simp [hv]
end X
end Go.Proofs.Ytbgjggblaeadlaa
