import Derived.Test.YtollaamlnddhcaaRmt
set_option linter.unusedVariables false
set_option linter.unusedSimpArgs false
namespace Go.Proofs.Ytollaamlnddhcaa
open Go.RowKit Go.Maps
namespace S
/-- the mark behind a list -/
def sharp : ByteArray := { data := #[35] }
end S
namespace U
end U
end Go.Proofs.Ytollaamlnddhcaa
