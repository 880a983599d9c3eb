import Derived.Test.YtollaamlnddhcaaLng
set_option linter.unusedVariables false
set_option linter.unusedSimpArgs false
namespace Go.Proofs.Ytollaamlnddhcaa
open Go.RowKit Go.Maps
namespace Q
/-- the mark behind pairs -/
def sharp : K2 := ({ data := #[35] }, ByteArray.empty)
end Q
end Go.Proofs.Ytollaamlnddhcaa
