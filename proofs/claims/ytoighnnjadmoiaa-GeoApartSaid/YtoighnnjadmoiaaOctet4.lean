/- Layer 1 (octet), continued: Bare. -/
import Derived.Test.YtoighnnjadmoiaaOctet3
namespace Go.Proofs.Ytoighnnjadmoiaa
open Go.RowKit
set_option linter.unusedVariables false
set_option linter.unusedSimpArgs false
set_option maxRecDepth 10000
end Go.Proofs.Ytoighnnjadmoiaa
