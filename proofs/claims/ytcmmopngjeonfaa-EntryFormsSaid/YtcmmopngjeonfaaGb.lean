/- Contracts: node.toNumber, toPlace, toPlaces, noPlaces; the reference's mayAt; slices.Contains of ints. -/
import Derived.Test.YtcmmopngjeonfaaGa
namespace Go.Proofs.Ytcmmopngjeonfaa
open Go.ChangeShapes Go.WideShapes Go.ChangeAt Go.RowKit
set_option linter.unusedVariables false
theorem mayat_any (x : Int) (w : World) : Calls Try.prog 27 #[.int .i64 x] w fun e w' => e = .returned (.bool (decide (1 ≤ x ∧ x < 200))) ∧ w = w' := by
  by_cases h1 : 1 ≤ x
  · have h3 : decide (1 ≤ x ∧ x < 200) = decide (x < 200) := by simp [h1]
    rw [h3]
    go_enter Try.func27, Try.ntmps27
    go_wp2
    go_ret
    exact ⟨rfl, rfl⟩
  · have h3 : decide (1 ≤ x ∧ x < 200) = false := by simp [h1]
    rw [h3]
    go_enter Try.func27, Try.ntmps27
    go_wp2
    go_ret
    exact ⟨rfl, rfl⟩
theorem info3 : (Try.prog.info? 3).map (·.size) = some 1 := by kernel_rfl
def z5 : Array Value := #[.int .i64 0, .int .i64 0, .int .i64 0, .int .i64 0, .int .i64 0]
theorem plA_one (n : Nd) : (plA n).all (·.oneCell') = true := by unfold plA; simp [Value.oneCell']
def p4A (n : Nd) : Array Value := #[.int .i64 n.a, .int .i64 n.b, .int .i64 n.c, .int .i64 n.d, .int .i64 0]
end Go.Proofs.Ytcmmopngjeonfaa
