import Derived.Test.YtoeeapodnmphjaaCls
set_option linter.unusedVariables false
set_option linter.unusedSimpArgs false
namespace Go.Proofs.Ytoeeapodnmphjaa
open Go.RowKit Go.Maps
namespace I
end I
end Go.Proofs.Ytoeeapodnmphjaa
