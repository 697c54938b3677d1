/- Layer 1 (octet), continued: Read8, Bare, Pad. -/
import Derived.Test.YtoighnnjadmoiaaOctet2
namespace Go.Proofs.Ytoighnnjadmoiaa
open Go.RowKit
set_option linter.unusedVariables false
set_option linter.unusedSimpArgs false
set_option maxRecDepth 10000
end Go.Proofs.Ytoighnnjadmoiaa
