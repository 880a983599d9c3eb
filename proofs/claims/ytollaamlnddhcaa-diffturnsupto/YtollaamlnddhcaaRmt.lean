import Derived.Test.YtollaamlnddhcaaTrs
set_option linter.unusedVariables false
set_option linter.unusedSimpArgs false
namespace Go.Proofs.Ytollaamlnddhcaa
open Go.RowKit Go.Maps
namespace U
end U
end Go.Proofs.Ytollaamlnddhcaa
