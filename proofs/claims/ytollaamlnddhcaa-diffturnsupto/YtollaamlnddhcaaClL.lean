import Derived.Test.YtollaamlnddhcaaCls
set_option linter.unusedVariables false
set_option linter.unusedSimpArgs false
namespace Go.Proofs.Ytollaamlnddhcaa
open Go.RowKit Go.Maps
namespace I
end I
end Go.Proofs.Ytollaamlnddhcaa
