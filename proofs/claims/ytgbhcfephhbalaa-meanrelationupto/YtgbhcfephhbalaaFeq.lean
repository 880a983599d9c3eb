import Derived.Test.YtgbhcfephhbalaaRmf
set_option linter.unusedVariables false
set_option linter.unusedSimpArgs false
namespace Go.Proofs.Ytgbhcfephhbalaa
open Go.RowKit Go.Maps
namespace U
theorem eqf (d : Nat) (w : World) : (Op.equalIn (d + 1) 24 (.float .f64 0) (.float .f64 0)).run Try.prog w = .ok true w := by
  simp only [Op.equalIn, Sem.run_bind, run_underlying Try.underlying24, Result.andThen_ok]
  rfl
/-- nought is nought -/
theorem eq00 (w : World) : (Op.equalIn 9999 24 (.float .f64 0) (.float .f64 0)).run Try.prog w = .ok true w := eqf 9998 w
end U
end Go.Proofs.Ytgbhcfephhbalaa
