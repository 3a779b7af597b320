/- Contracts: Above, Less, Join. -/
import Derived.Test.YtfmpbofhaoijpaaT2
namespace Go.Proofs.Ytfmpbofhaoijpaa
open Go.ChangeShapes Go.WideShapes Go.ChangeAt Go.RowKit
open Fl
set_option linter.unusedVariables false
def aboveN (l c i j : Nat) : Bool := decide (i ≤ l) && (c ||| j == c)
theorem or_le (c j : Nat) (h : c ≤ 15) (h' : j ≤ 15) : c ||| j ≤ 15 := by
  have := Nat.or_lt_two_pow (x := c) (y := j) (n := 4) (by omega) (by omega); omega
theorem and_le (c j : Nat) (h : c ≤ 15) : c &&& j ≤ 15 := by
  have := Nat.and_le_left (n := c) (m := j); omega
def lessN (l c i j : Nat) : Bool := aheadB l (pop c * 16 + c) i (pop j * 16 + j)
end Go.Proofs.Ytfmpbofhaoijpaa
