import Derived.Test.YtnlopepbcnegbaaGreatDoorTold
set_option linter.unusedVariables false
set_option linter.unusedSimpArgs false
namespace Go.Proofs.YtnlopepbcnegbaaGreatDoor
open Go.RowKit Go.Extern.Stop Go.Stop Go.Extern
theorem rf_set (ta b e : Addr) (old : Value) (W : World) (hb : W.cell? b = some (.pointer (some e))) (ht : W.cell? ta = some old) (hf : W.frozen? ta = false) :
    (ReflectliteValue.set #[rv 58 ta 406, rv 58 b 150]).run Tryz.prog W = .ok (.tuple #[]) (W.setCell ta (.pointer (some e))) := by
  show (ReflectliteValue.parts (rv 58 ta 406) >>= _).run Tryz.prog W = _
  rw [Sem.run_bind, rf_partsA]
  dsimp only [Result.andThen]
  show (ReflectliteValue.parts (rv 58 b 150) >>= _).run Tryz.prog W = _
  rw [Sem.run_bind, rf_parts 58 (Or.inr rfl)]
  dsimp only [Result.andThen]
  show (loadVar 58 b >>= _).run Tryz.prog W = _
  have h0 : (loadVar 58 b).run Tryz.prog W = .ok (.pointer (some e)) W := by simp [loadVar, isAgg, underlying, Tryz.underlying58, hb, Result.andThen]
  rw [Sem.run_bind, h0]
  dsimp only [Result.andThen]
  show (Rtype.directlyAssignable 58 58 >>= _).run Tryz.prog W = _
  rw [Sem.run_bind, rf_direct]
  dsimp only [Result.andThen]
  show (storeVar 58 ta (.pointer (some e)) >>= _).run Tryz.prog W = _
  simp [isAgg, underlying, Tryz.underlying58, Result.andThen, storeVar, Value.cells, storeCells, Addr.add]
  rw [run_store Tryz.prog W ta _ _ (by rfl)]
  simp [ht, hf]
end Go.Proofs.YtnlopepbcnegbaaGreatDoor
