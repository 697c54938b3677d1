/- Layer 1 (octet), continued: Read8, Bare, Pad. -/
import Derived.Test.YtpipjjngffajlaaOctet2
namespace Go.Proofs.Ytpipjjngffajlaa
open Go.RowKit
set_option linter.unusedVariables false
set_option linter.unusedSimpArgs false
set_option maxRecDepth 10000
end Go.Proofs.Ytpipjjngffajlaa
