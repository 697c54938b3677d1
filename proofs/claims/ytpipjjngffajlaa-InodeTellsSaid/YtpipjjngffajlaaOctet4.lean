/- Layer 1 (octet), continued: Bare. -/
import Derived.Test.YtpipjjngffajlaaOctet3
namespace Go.Proofs.Ytpipjjngffajlaa
open Go.RowKit
set_option linter.unusedVariables false
set_option linter.unusedSimpArgs false
set_option maxRecDepth 10000
end Go.Proofs.Ytpipjjngffajlaa
