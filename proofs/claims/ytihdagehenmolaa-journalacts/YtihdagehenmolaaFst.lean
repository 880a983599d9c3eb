import Derived.Test.YtihdagehenmolaaNum
import Derived.Laws.ResultCell
import Derived.Laws.Rows
set_option linter.unusedVariables false
set_option linter.unusedSimpArgs false
namespace Go.Proofs.Ytihdagehenmolaa
open Go.RowKit
namespace J
open M K
theorem results_row_tmp {P : Program} {fn : Func} {p u : Tmp} {ty : TypeId} (h : fn.results = #[.cell p ty, .tmp u]) (tmps : Array Value) (w : World) (g : Nat) (t : TypeId) (cs : Array Value) (fr : Nat × Nat) (d : TypeDesc)
    (hp : tmps.getD p undef = .pointer (some ⟨g, 0, none⟩)) (hg : w.heap[g]? = some (.cells cs t fr))
    (hu : P.underlying ty = some d) (hd : (match d with | .struct _ | .array _ _ => true | _ => false) = true) (hi : (P.info? ty).map (·.size) = some cs.size) :
    (results fn tmps).run P w = .ok (.tuple #[.agg cs, tmps.getD u undef]) w := by
  rw [results_cell_tmp h tmps, hp]
  simp [asAddr, Result.andThen, run_loadVar_row w g t ty cs fr d hg hu hd hi]
theorem sb_cut (l : List UInt8) (a b : Nat) : (sb l).extract a b = sb ((l.drop a).take (b - a)) := by
  apply ByteArray.ext
  simp [sb, List.extract_eq_take_drop]
theorem rw_cell {w : World} {b : Nat} {l : List UInt8} (h : Rw 1 ba w (some ⟨b, 0, none⟩) l) {k : Nat} (hk : k < l.length) : w.cell? ⟨b, k, none⟩ = some (.int .u8 ((l.getD k 0).toNat : Int)) := by
  rcases h with q | ⟨pb, po, q, hpb, hpc⟩
  · rw [q] at hk; simp at hk
  · cases q
    have := hpc k l[k] (List.getElem?_eq_getElem hk) 0 (by decide)
    rw [Nat.zero_add, Nat.mul_one, Nat.add_zero] at this
    rw [this, List.getD_eq_getElem?_getD, List.getElem?_eq_getElem hk]
    rfl
/-- bytes, wherever they lie, as a text -/
theorem conv_rw {w : World} {b : Nat} {l : List UInt8} (h : Rw 1 ba w (some ⟨b, 0, none⟩) l) (c : Nat) : (convert 60 9 (.slice (some ⟨b, 0, none⟩) l.length c)).run Try.prog w = .ok (.string (sb l)) w := by
  refine run_convert_bytes_back (P := Try.prog) w 60 9 5 ⟨b, 0, none⟩ c l Try.underlying60 Try.underlying5 Try.underlying9 (fun j hj => ?_)
  rw [Inm.add_off, Nat.zero_add, rw_cell h hj, List.getD_eq_getElem?_getD, List.getElem?_eq_getElem hj]
  rfl
theorem str_eq (a b : List UInt8) : ((sb a).toList == (sb b).toList) = decide (a = b) := by
  rw [ByteArray.toList_eq, ByteArray.toList_eq, sb_data, sb_data]
  by_cases h : a = b
  · rw [h, decide_eq_true rfl]; simp
  · rw [decide_eq_false h]; exact beq_false_of_ne h
theorem str_ne {a b : List UInt8} (h : a ≠ b) : ((sb a).toList == (sb b).toList) = false := by rw [str_eq, decide_eq_false h]
set_option maxRecDepth 100000 in
set_option maxHeartbeats 1000000 in
theorem prefix_yes (a c x : List UInt8) (h : a = c ++ x) (w : World) : Calls Try.prog 50 #[.string (sb a), .string (sb c)] w fun e w' => e = .returned (.bool true) ∧ w' = w := by
  have z1 := sb_size a
  have z2 := sb_size c
  have he : (sb a).extract 0 c.length = sb c := by rw [sb_cut, h]; simp
  have h1 : c.length ≤ a.length := by rw [h]; simp
  generalize sb a = A at *
  generalize sb c = C at *
  generalize c.length = n at *
  generalize a.length = m at *
  have h2 : (n : Int) ≤ (m : Int) := by omega
  have h3 : (0 : Int) ≤ (n : Int) := by omega
  clear h
  go_enter Try.func50, Try.ntmps50
  go_wp2
  go_ret
  exact ⟨rfl, rfl⟩
set_option maxRecDepth 100000 in
set_option maxHeartbeats 1000000 in
theorem prefix_no (a c : List UInt8) (h : ∀ x, a ≠ c ++ x) (w : World) : Calls Try.prog 50 #[.string (sb a), .string (sb c)] w fun e w' => e = .returned (.bool false) ∧ w' = w := by
  have z1 := sb_size a
  have z2 := sb_size c
  by_cases h1 : c.length ≤ a.length
  · have he : (((sb a).extract 0 c.length).toList == (sb c).toList) = false := by
      rw [sb_cut]
      apply str_ne
      intro this
      rw [List.drop_zero, Nat.sub_zero] at this
      exact h (a.drop c.length) (by conv => lhs; rw [← List.take_append_drop c.length a, this])
    generalize sb a = A at *
    generalize sb c = C at *
    generalize c.length = n at *
    generalize a.length = m at *
    have h2 : (n : Int) ≤ (m : Int) := by omega
    have h3 : (0 : Int) ≤ (n : Int) := by omega
    clear h
    go_enter Try.func50, Try.ntmps50
    go_wp2
    go_ret
    exact ⟨rfl, rfl⟩
  · generalize sb a = A at *
    generalize sb c = C at *
    generalize c.length = n at *
    generalize a.length = m at *
    have h2 : ¬ ((n : Int) ≤ (m : Int)) := by omega
    clear h
    go_enter Try.func50, Try.ntmps50
    go_wp2
    go_ret
    exact ⟨rfl, rfl⟩
set_option maxRecDepth 100000 in
set_option maxHeartbeats 1000000 in
theorem hasPrefix_yes (a c x : List UInt8) (h : a = c ++ x) (w : World) : Calls Try.prog 49 #[.string (sb a), .string (sb c)] w fun e w' => e = .returned (.bool true) ∧ w' = w := by
  have C1 := hide' (prefix_yes a c x h w)
  generalize sb a = A at *
  generalize sb c = C at *
  clear h
  go_enter Try.func49, Try.ntmps49
  go_wp2_with fail
  refine C1.out.mono ?_
  rintro e w1 ⟨rfl, rfl⟩
  go_wp2
  go_ret
  exact ⟨rfl, rfl⟩
set_option maxRecDepth 100000 in
set_option maxHeartbeats 1000000 in
theorem hasPrefix_no (a c : List UInt8) (h : ∀ x, a ≠ c ++ x) (w : World) : Calls Try.prog 49 #[.string (sb a), .string (sb c)] w fun e w' => e = .returned (.bool false) ∧ w' = w := by
  have C1 := hide' (prefix_no a c h w)
  generalize sb a = A at *
  generalize sb c = C at *
  clear h
  go_enter Try.func49, Try.ntmps49
  go_wp2_with fail
  refine C1.out.mono ?_
  rintro e w1 ⟨rfl, rfl⟩
  go_wp2
  go_ret
  exact ⟨rfl, rfl⟩
end J
end Go.Proofs.Ytihdagehenmolaa
