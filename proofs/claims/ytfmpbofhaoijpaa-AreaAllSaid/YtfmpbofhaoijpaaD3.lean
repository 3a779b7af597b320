/- Contracts: Out, Intact. -/
import Derived.Test.YtfmpbofhaoijpaaC5
namespace Go.Proofs.Ytfmpbofhaoijpaa
open Go.ChangeShapes Go.WideShapes Go.ChangeAt Go.RowKit
set_option linter.unusedVariables false
end Go.Proofs.Ytfmpbofhaoijpaa
