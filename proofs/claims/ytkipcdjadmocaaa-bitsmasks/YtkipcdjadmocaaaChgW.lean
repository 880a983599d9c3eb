import Derived.Test.YtkipcdjadmocaaaChg
import Derived.ChangeKeysEq
set_option linter.unusedVariables false
set_option linter.unusedSimpArgs false
namespace Go.Proofs.Ytkipcdjadmocaaa
open Go.RowKit
theorem turn_below {S : Nat → Prop} {w w' : World} (b : Below w.heap.size w w') : Turn S w w' := ⟨b.os, b.tape, b.output, b.size, fun k hk _ => b.block k hk⟩
theorem Bs.step {x g room : Nat} {p p' : Nat → Bool} {w : World} (m : Nat) (h : Bs x g room (B.upto p p' m) w) (hm : m < nw room) (ho : ∀ i, room ≤ i → p' i = false) (ho2 : ∀ i, room ≤ i → p i = false) (u : Nat) (hu : u = B.wd p' m) :
    Bs x g room (B.upto p p' (m + 1)) (w.setCell ⟨g, m, none⟩ (.int .u64 (u : Nat))) :=
  h.put m hm (fun k hk => B.upto_step p p' m k hk) (fun i hi => by simp only [B.upto]; (split; exact ho i hi; exact ho2 i hi)) u (by rw [B.upto_wd_lt _ _ _ _ (by omega)]; exact hu)
theorem idx0 (a b c d : Value) (w : World) : (Instr.index 64 (.agg #[a, b, c, d]) (.int .i64 0)).run Try.prog w = .ok a w := by
  simp [Instr.index, run_underlying Try.underlying64, asIntOf]
  exact run_part_plain (P := Try.prog) (e := 63) w (show Try.prog.plainKey 63 = true by kernel_rfl) rfl
theorem idx1 (a b c d : Value) (w : World) : (Instr.index 64 (.agg #[a, b, c, d]) (.int .i64 1)).run Try.prog w = .ok b w := by
  simp [Instr.index, run_underlying Try.underlying64, asIntOf]
  exact run_part_plain (P := Try.prog) (e := 63) w (show Try.prog.plainKey 63 = true by kernel_rfl) rfl
theorem idx2 (a b c d : Value) (w : World) : (Instr.index 64 (.agg #[a, b, c, d]) (.int .i64 2)).run Try.prog w = .ok c w := by
  simp [Instr.index, run_underlying Try.underlying64, asIntOf]
  exact run_part_plain (P := Try.prog) (e := 63) w (show Try.prog.plainKey 63 = true by kernel_rfl) rfl
theorem idx3 (a b c d : Value) (w : World) : (Instr.index 64 (.agg #[a, b, c, d]) (.int .i64 3)).run Try.prog w = .ok d w := by
  simp [Instr.index, run_underlying Try.underlying64, asIntOf]
  exact run_part_plain (P := Try.prog) (e := 63) w (show Try.prog.plainKey 63 = true by kernel_rfl) rfl
end Go.Proofs.Ytkipcdjadmocaaa
