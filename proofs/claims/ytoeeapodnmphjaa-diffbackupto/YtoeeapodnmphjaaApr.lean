import Derived.Test.YtoeeapodnmphjaaLng
set_option linter.unusedVariables false
set_option linter.unusedSimpArgs false
namespace Go.Proofs.Ytoeeapodnmphjaa
open Go.RowKit Go.Maps
namespace Q
/-- the mark behind pairs -/
def sharp : K2 := ({ data := #[35] }, ByteArray.empty)
end Q
end Go.Proofs.Ytoeeapodnmphjaa
