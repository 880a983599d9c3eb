import Derived.Test.YtdhdcpppilacmaaRkC
import Derived.Test.YtdhdcpppilacmaaKeP
import Derived.Laws.ResultCell
set_option linter.unusedVariables false
set_option linter.unusedSimpArgs false
namespace Go.Proofs.Ytdhdcpppilacmaa
open Go.RowKit
namespace K
open M
theorem results_row_tmp {P : Program} {fn : Func} {p u : Tmp} {ty : TypeId} (h : fn.results = #[.cell p ty, .tmp u]) (tmps : Array Value) (w : World) (g : Nat) (t : TypeId) (cs : Array Value) (fr : Nat × Nat) (d : TypeDesc)
    (hp : tmps.getD p undef = .pointer (some ⟨g, 0, none⟩)) (hg : w.heap[g]? = some (.cells cs t fr))
    (hu : P.underlying ty = some d) (hd : (match d with | .struct _ | .array _ _ => true | _ => false) = true) (hi : (P.info? ty).map (·.size) = some cs.size) :
    (results fn tmps).run P w = .ok (.tuple #[.agg cs, tmps.getD u undef]) w := by
  rw [results_cell_tmp h tmps, hp]
  simp [asAddr, Result.andThen, run_loadVar_row w g t ty cs fr d hg hu hd hi]
theorem spt_neg {x m : Int} (hm : 0 < m) (hz : Int.tmod x m < 0) : Int.tmod x m + m = x % m := by
  have h1 := Int.emod_nonneg x (show m ≠ 0 by omega)
  have h2 := Int.emod_lt_of_pos x hm
  have := @Int.tmod_eq_emod x m
  split at this <;> omega
theorem spt_pos {x m : Int} (hm : 0 < m) (hz : ¬ Int.tmod x m < 0) : Int.tmod x m = x % m := by
  have h1 := Int.emod_nonneg x (show m ≠ 0 by omega)
  have h2 := Int.emod_lt_of_pos x hm
  have := @Int.tmod_eq_emod x m
  split at this <;> omega
def pk (x : Int) (m : Nat) : Nat := (x % (m : Int)).toNat
theorem pk_lt (x : Int) {m : Nat} (hm : 0 < m) : pk x m < m := by
  have h3 := Int.emod_nonneg x (b := (m : Int)) (by omega)
  have h4 := Int.emod_lt_of_pos x (b := (m : Int)) (by omega)
  unfold pk; omega
theorem ret_int {k : IntKind} {a b : Int} (h : a = b) : Ending.returned (.int k a) = .returned (.int k b) := by rw [h]
set_option maxRecDepth 100000 in
set_option maxHeartbeats 1000000 in
theorem at_any (x : Int) (m : Nat) (w : World) (hm : 0 < m) (hm2 : m ≤ 35184372088832) : Calls Try.prog 9 #[.int .i64 x, .int .i64 (m : Nat)] w fun e w' => e = .returned (.int .i64 (pk x m : Nat)) ∧ w' = w := by
  have h3 := Int.emod_nonneg x (b := (m : Int)) (by omega)
  have h4 := Int.emod_lt_of_pos x (b := (m : Int)) (by omega)
  have hn : (0 : Int) < (m : Int) := by omega
  have hn0 : ¬ ((m : Int) = 0) := by omega
  have Hn2 := hide' (show (m : Int) ≤ 35184372088832 by omega)
  have Hk : Hid (x % (m : Int) = (pk x m : Int)) := hide' (by unfold pk; omega)
  have H4 := hide' (And.intro h3 h4)
  clear h3 h4 hm2
  go_enter Try.func9, Try.ntmps9
  go_wp2
  · rename_i hz
    go_ret
    refine ⟨ret_int ?_, rfl⟩
    rw [spt_neg hn hz, ← Hk.out]
    have := H4.out
    have := Hn2.out
    unfold wrap64
    omega
  · rename_i hz
    go_ret
    refine ⟨ret_int ?_, rfl⟩
    rw [spt_pos hn (by omega), ← Hk.out]
/-- what an Open says -/
def code (t : List UInt8) (room : Int) : Int := if room < 0 ∨ 1048576 < room then 3 else if room < (t.length : Int) then 210 else 0
theorem open_bad {t : List UInt8} {room : Int} (w : World) (h : code t room ≠ 0) : Calls Try.prog 16 #[.string (sb t), .int .i64 room] w fun e w' => e = .returned (.tuple #[.pointer none, .int .i64 (code t room)]) ∧ Below w.heap.size w w' := by
  unfold code at *
  by_cases h1 : room < 0 ∨ 1048576 < room
  · rw [if_pos h1]; exact (open_range _ w h1).mono (fun e w' ⟨a, b⟩ => ⟨a, by rw [b]; exact Below.refl _ _⟩)
  · rw [if_neg h1] at h ⊢
    by_cases h2 : room < (t.length : Int)
    · rw [if_pos h2]; exact open_full t w (by omega) (by omega) h2
    · rw [if_neg h2] at h; exact absurd rfl h
theorem ropen_bad {t : List UInt8} {room : Int} (w : World) (h : code t room ≠ 0) : Calls Try.prog 22 #[.string (sb t), .int .i64 room] w fun e w' => e = .returned (.tuple #[.pointer none, .int .i64 (code t room)]) ∧ Below w.heap.size w w' := by
  unfold code at *
  by_cases h1 : room < 0 ∨ 1048576 < room
  · rw [if_pos h1]; exact (ropen_range _ w h1).mono (fun e w' ⟨a, b⟩ => ⟨a, by rw [b]; exact Below.refl _ _⟩)
  · rw [if_neg h1] at h ⊢
    by_cases h2 : room < (t.length : Int)
    · rw [if_pos h2]; exact (ropen_full t w (by omega) (by omega) h2).mono (fun e w' ⟨a, b⟩ => ⟨a, by rw [b]; exact Below.refl _ _⟩)
    · rw [if_neg h2] at h; exact absurd rfl h
theorem code_ok {t : List UInt8} {room : Int} (h : code t room = 0) : (t.length : Int) ≤ room ∧ room ≤ 1048576 := by
  unfold code at h
  by_cases h1 : room < 0 ∨ 1048576 < room
  · rw [if_pos h1] at h; cases h
  · rw [if_neg h1] at h
    by_cases h2 : room < (t.length : Int)
    · rw [if_pos h2] at h; cases h
    · omega
set_option maxRecDepth 100000 in
set_option maxHeartbeats 1000000 in
theorem new_bad {room : Int} (w : World) (h : code [] room ≠ 0) : Calls Try.prog 20 #[.int .i64 room] w fun e w' => e = .returned (.tuple #[.pointer none, .int .i64 (code [] room)]) ∧ Below w.heap.size w w' := by
  have HC : Hid (Calls Try.prog 16 #[.string ⟨#[]⟩, .int .i64 room] w fun e w' => e = .returned (.tuple #[.pointer none, .int .i64 (code [] room)]) ∧ Below w.heap.size w w') := hide' (open_bad w h)
  generalize code [] room = cc at *
  clear h
  go_enter Try.func20, Try.ntmps20
  go_wp2_with fail
  refine HC.out.mono ?_
  rintro e w1 ⟨rfl, b1⟩
  have HB := hide' b1
  clear b1 HC
  go_wp2
  go_ret2
  exact ⟨rfl, HB.out⟩
set_option maxRecDepth 100000 in
set_option maxHeartbeats 1000000 in
theorem new_ok {room : Int} (w : World) (h : code [] room = 0) : Calls Try.prog 20 #[.int .i64 room] w fun e w' => ∃ b, e = .returned (.tuple #[.pointer (some ⟨b, 0, none⟩), .int .i64 0]) ∧ Hid (∃ ao cap, Dk w.heap.size b room [] 0 ao cap w' ∧ Below w.heap.size w w') := by
  have HC : Hid (Calls Try.prog 16 #[.string ⟨#[]⟩, .int .i64 room] w fun e w' => ∃ b, e = .returned (.tuple #[.pointer (some ⟨b, 0, none⟩), .int .i64 0]) ∧ Hid (∃ ao cap, Dk w.heap.size b room [] 0 ao cap w' ∧ Below w.heap.size w w')) := hide' (open_ok [] w (code_ok h).1 (code_ok h).2)
  clear h
  go_enter Try.func20, Try.ntmps20
  go_wp2_with fail
  refine HC.out.mono ?_
  rintro e w1 ⟨b, rfl, b1⟩
  clear HC
  go_wp2
  go_ret2
  exact ⟨_, rfl, b1⟩
set_option maxRecDepth 100000 in
set_option maxHeartbeats 1000000 in
theorem rnew_bad {room : Int} (w : World) (h : code [] room ≠ 0) : Calls Try.prog 21 #[.int .i64 room] w fun e w' => e = .returned (.tuple #[.pointer none, .int .i64 (code [] room)]) ∧ Below w.heap.size w w' := by
  have HC : Hid (Calls Try.prog 22 #[.string ⟨#[]⟩, .int .i64 room] w fun e w' => e = .returned (.tuple #[.pointer none, .int .i64 (code [] room)]) ∧ Below w.heap.size w w') := hide' (ropen_bad w h)
  generalize code [] room = cc at *
  clear h
  go_enter Try.func21, Try.ntmps21
  go_wp2_with fail
  refine HC.out.mono ?_
  rintro e w1 ⟨rfl, b1⟩
  have HB := hide' b1
  clear b1 HC
  go_wp2
  go_ret2
  exact ⟨rfl, HB.out⟩
set_option maxRecDepth 100000 in
set_option maxHeartbeats 1000000 in
theorem rnew_ok {room : Int} (w : World) (h : code [] room = 0) : Calls Try.prog 21 #[.int .i64 room] w fun e w' => ∃ b, e = .returned (.tuple #[.pointer (some ⟨b, 0, none⟩), .int .i64 0]) ∧ Hid (∃ ao cap, Rr w.heap.size b room (mk [] 0) ao cap w' ∧ Below w.heap.size w w') := by
  have HC : Hid (Calls Try.prog 22 #[.string ⟨#[]⟩, .int .i64 room] w fun e w' => ∃ b, e = .returned (.tuple #[.pointer (some ⟨b, 0, none⟩), .int .i64 0]) ∧ Hid (∃ ao cap, Rr w.heap.size b room (mk [] 0) ao cap w' ∧ Below w.heap.size w w')) := hide' (ropen_ok [] w (code_ok h).1 (code_ok h).2)
  clear h
  go_enter Try.func21, Try.ntmps21
  go_wp2_with fail
  refine HC.out.mono ?_
  rintro e w1 ⟨b, rfl, b1⟩
  clear HC
  go_wp2
  go_ret2
  exact ⟨_, rfl, b1⟩
end K
end Go.Proofs.Ytdhdcpppilacmaa
