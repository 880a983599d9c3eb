import Derived.Test.YtpnkfbmdpgdbcaaDoorGpR
import Derived.Deep.RegionHeld3
import Derived.Test.YtpnkfbmdpgdbcaaDoorVld
import Derived.OwnWalk
set_option linter.unusedVariables false
set_option linter.unusedSimpArgs false
namespace Go.Proofs.YtpnkfbmdpgdbcaaDoor
open Go.RowKit
set_option maxHeartbeats 400000 in
set_option maxRecDepth 100000 in
theorem written_sign (k : Int) (nm : ByteArray) (n g : Int) (nt : ByteArray) (hk : -9223372036854775808 ≤ k ∧ k ≤ 9223372036854775807) (hn : -9223372036854775808 ≤ n ∧ n ≤ 9223372036854775807) (hs : nm.size ≤ 140737488355328) (h2 : pik k 4 = 2) (w : World) :
    Calls Tryd.prog 9 #[.agg #[.int .i64 k, .string nm, .int .i64 n, .int .i64 g, .string nt]] w fun e w' => e = .returned (.tuple #[.string (L.wrL k nm n).1, .int .i8 (L.wrL k nm n).2.1, .string (L.wrL k nm n).2.2]) ∧ Below w.heap.size w w' := by
  have HP := hide' (fun W => pick_any k 4 W hk (by omega))
  have HPN := hide' (fun W => pick_any n 4 W hn (by omega))
  have HBN := hide' (pik_bd n 4 (by omega))
  have HQ := hide' (fun W => quotes_any nm hs W)
  have HD := hide' (fun W => decimal_any n hn W)
  have HB := hide' (fun W => bare_any nm n hn hs W)
  have hp := pik_bd k 4 (by omega)
  unfold L.wrL
  obtain ⟨p, ep⟩ : ∃ p, pik k 4 = p := ⟨_, rfl⟩
  obtain ⟨c, ec⟩ : ∃ c : Nat, pik n 4 = (c : Int) := ⟨(pik n 4).toNat, by have := HBN.out; omega⟩
  rw [ep] at HP hp h2 ⊢
  rw [ec] at HPN HBN ⊢
  rw [Int.toNat_natCast]
  clear ep ec hk hn
  have HV := hide' (fun (hm : nm.size ≤ maxLen) W => valid_any nm W hm)
  have BA : Hid (Below w.heap.size w (w.alloc (.cells #[.int .i64 k, .string nm, .int .i64 n, .int .i64 g, .string nt] 36))) := hide' ((Below.refl _ w).alloc (Nat.le_refl _) _)
  have hcell : ∀ (o : Nat) {v : Value}, (#[.int .i64 k, .string nm, .int .i64 n, .int .i64 g, .string nt] : Array Value)[o]? = some v → (w.alloc (.cells #[.int .i64 k, .string nm, .int .i64 n, .int .i64 g, .string nt] 36)).cell? ⟨w.heap.size, o, none⟩ = some v := fun o v h => by
    have hh : (w.alloc (.cells #[.int .i64 k, .string nm, .int .i64 n, .int .i64 g, .string nt] 36)).heap[w.heap.size]? = some (.cells #[.int .i64 k, .string nm, .int .i64 n, .int .i64 g, .string nt] 36) := heap_alloc_new w _
    unfold World.cell?
    rw [hh]
    exact h
  subst h2
  clear hp HV
  have hc0 : (0 : Int) ≤ (c : Int) := by omega
  have hc4 : (c : Int) + 1 ≤ 4 := by have := HBN.out; omega
  have hc5 : (c : Int) ≤ 4 := by omega
  have hc6 : (c : Int) ≤ (c : Int) + 1 := by omega
  have hc7 : (0 : Int) ≤ (c : Int) + 1 := by omega
  have hw : IntKind.i64.wrap ((c : Int) + 1) = (c : Int) + 1 := by rw [IntKind.wrap_i64]; omega
  have hw2 : wrap64 ((c : Int) + 1) = (c : Int) + 1 := by unfold wrap64; omega
  have hn1 : ((c : Int) + 1).toNat = c + 1 := by omega
  go_enter Tryd.func9, Tryd.ntmps9
  go_wp2_with fail
  refine (HP.out _).mono ?_
  rintro e w5 ⟨rfl, h5⟩
  go_wp2_with fail
  refine (HPN.out _).mono ?_
  rintro e w6 ⟨rfl, h6⟩
  go_wp2_with fail
  go_region_held3 (fun w' => True) (trivial) (fail)
  all_goals go_wp2_with fail
  all_goals refine bodyPost_ret (results_tmp3 rfl _ _ _) rfl ?_
  all_goals exact ⟨rfl, by first | exact BA.out | exact below_drewN BA.out _⟩
end Go.Proofs.YtpnkfbmdpgdbcaaDoor
