/- Contracts of the answer by the document: Join, Meet, Above. -/
import Derived.Test.YtfmpbofhaoijpaaT5
import Derived.StillTailTactics
namespace Go.Proofs.Ytfmpbofhaoijpaa
open Go.ChangeShapes Go.WideShapes Go.ChangeAt Go.RowKit
open Fl
set_option linter.unusedVariables false
theorem stillOf {P : Program} {f : FuncId} {args : Array Value} {w : World} {v : Value} (h : Calls P f args w fun e w' => e = .returned v ∧ w = w') : Calls P f args w (fun e w'' => e = .returned v ∧ w'' = w) := h.mono (fun _ _ h => ⟨h.1, h.2.symm⟩)
theorem bits_above : ∀ c j : Fin 16, (c.val ||| j.val == c.val) = ((!(bitN j.val 0) || bitN c.val 0) && (!(bitN j.val 1) || bitN c.val 1) && (!(bitN j.val 2) || bitN c.val 2) && (!(bitN j.val 3) || bitN c.val 3)) := by decide +kernel
/-- Of the first n bits: where j has one, so has c. -/
def bitsTo (c j : Nat) : Nat → Bool
  | 0 => true
  | n + 1 => bitsTo c j n && (!(bitN j n) || bitN c n)
end Go.Proofs.Ytfmpbofhaoijpaa
