import Derived.Test.YtollaamlnddhcaaOob
import Derived.Deep.RegionHeld3
set_option linter.unusedVariables false
set_option linter.unusedSimpArgs false
namespace Go.Proofs.Ytollaamlnddhcaa
open Go.RowKit Go.Maps
namespace U
/-- a rule -/
structure Ru where
  d : Value
  who : ByteArray
  what : ByteArray
  ro : Option Addr
  rc : Nat
  rl : List ByteArray
  cd : Int
  lv : Nat
def Ru.val (R : Ru) : Value := .agg #[R.d, .string R.who, .string R.what, .slice R.ro R.rl.length R.rc, .int .i8 R.cd, .float .f64 R.lv]
/-- 8.2 -/
def mtc (P : Po) (R : Ru) (ts to ta : ByteArray) : Bool := isIn P.al ta && (R.rl.isEmpty || isIn R.rl ta) && (match tru P.sl ts with | some t => isIn (N.clo (P.m.2.2 ++ P.i.2.2) ts) R.who && M.pass R.cd R.lv t | none => false) && (isIn P.ol to && isIn (N.clo (P.p.2.2 ++ P.w.2.2) to) R.what)
theorem isIn_iff {l m : List ByteArray} (h : ∀ y, y ∈ l ↔ y ∈ m) (y : ByteArray) : isIn l y = isIn m y := by
  cases e : isIn m y with
  | true => exact isIn_yes ((h y).2 (by simpa [isIn] using e))
  | false => exact isIn_no (fun q => by rw [isIn_yes ((h y).1 q)] at e; cases e)

end U
end Go.Proofs.Ytollaamlnddhcaa
