import Derived.Test.YtoeeapodnmphjaaTrs
set_option linter.unusedVariables false
set_option linter.unusedSimpArgs false
namespace Go.Proofs.Ytoeeapodnmphjaa
open Go.RowKit Go.Maps
namespace U
end U
end Go.Proofs.Ytoeeapodnmphjaa
