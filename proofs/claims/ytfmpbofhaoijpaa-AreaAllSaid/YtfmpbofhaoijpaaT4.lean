/- Contracts: Meet, Put, Take, and of the answer by the document: may, put, take. -/
import Derived.Test.YtfmpbofhaoijpaaT3
namespace Go.Proofs.Ytfmpbofhaoijpaa
open Go.ChangeShapes Go.WideShapes Go.ChangeAt Go.RowKit
open Fl
set_option linter.unusedVariables false
end Go.Proofs.Ytfmpbofhaoijpaa
