/- Contracts: polysOf, associatesOf. -/
import Derived.Test.YtiahaipaekeinaaRd
namespace Go.Proofs.Ytiahaipaekeinaa
open Go.RowKit
set_option linter.unusedVariables false
set_option linter.unusedSimpArgs false

end Go.Proofs.Ytiahaipaekeinaa
