/- Contract: node.May. -/
import Derived.Test.YtcmmopngjeonfaaGc
import Derived.Test.YtcmmopngjeonfaaSf
namespace Go.Proofs.Ytcmmopngjeonfaa
open Go.ChangeShapes Go.WideShapes Go.ChangeAt Go.RowKit
set_option linter.unusedVariables false
def none5 : List Int := [-1, -1, -1, -1, -1]
/-- May a node be? -/
def MayN (k : Int) (n : Nd) : Prop := (1 ≤ n.g ∧ 0 ≤ n.l ∧ n.l ≤ 1000) ∧ ((k = 1 ∧ (0 ≤ n.s ∧ n.s ≤ 1120) ∧ n.t = [] ∧ PlM n.ps) ∨ (k = 2 ∧ n.l ≤ 1 ∧ n.s = 0 ∧ n.t = [] ∧ n.ps = none5) ∨ (k = 3 ∧ TgM n.t ∧ n.s = n.t.length ∧ n.ps = none5))
instance (k : Int) (n : Nd) : Decidable (MayN k n) := by unfold MayN; infer_instance
theorem str_nil {t : List Int} (h : AllB t) : ((strOfNums t).toList == ([] : List UInt8)) = decide (t = []) := by
  have e : (strOfNums []).toList = ([] : List UInt8) := by rw [strOfNums_toList]; rfl
  rw [← e]; exact str_beq h (fun x hx => by cases hx)
end Go.Proofs.Ytcmmopngjeonfaa
