import Derived.Test.YtoeeapodnmphjaaRmt
set_option linter.unusedVariables false
set_option linter.unusedSimpArgs false
namespace Go.Proofs.Ytoeeapodnmphjaa
open Go.RowKit Go.Maps
namespace S
/-- the mark behind a list -/
def sharp : ByteArray := { data := #[35] }
end S
namespace U
end U
end Go.Proofs.Ytoeeapodnmphjaa
