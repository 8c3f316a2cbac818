/- Contracts: opposite, linear (program); l03Step, l03Poly, l03Second (model). -/
import Derived.Test.YtiahaipaekeinaaRm
import Derived.Test.YtiahaipaekeinaaJc
namespace Go.Proofs.Ytiahaipaekeinaa
open Go.RowKit
set_option linter.unusedVariables false
set_option linter.unusedSimpArgs false

end Go.Proofs.Ytiahaipaekeinaa
