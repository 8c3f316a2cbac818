/- Contracts: polysOf, associatesOf. -/
import Derived.Test.YtnojmghmkoojfaaRd
namespace Go.Proofs.Ytnojmghmkoojfaa
open Go.RowKit
set_option linter.unusedVariables false
set_option linter.unusedSimpArgs false

end Go.Proofs.Ytnojmghmkoojfaa
