/- The same contracts for every label, and the opening test of each law. -/
import Derived.Test.YtfmpbofhaoijpaaT7
namespace Go.Proofs.Ytfmpbofhaoijpaa
open Go.ChangeShapes Go.WideShapes Go.ChangeAt Go.RowKit
open Fl
set_option linter.unusedVariables false
def mayV (l c : Int) : Bool := decide (0 ≤ l ∧ l ≤ 3 ∧ 0 ≤ c ∧ c ≤ 15)
def aboveV (l c i j : Int) : Bool := mayV l c && mayV i j && aboveN l.toNat c.toNat i.toNat j.toNat
def lessV (l c i j : Int) : Bool := mayV l c && mayV i j && lessN l.toNat c.toNat i.toNat j.toNat
def joinL (l c i j : Int) : Int := if mayV l c && mayV i j then ((max l.toNat i.toNat : Nat) : Int) else 0
def joinC (l c i j : Int) : Int := if mayV l c && mayV i j then ((c.toNat ||| j.toNat : Nat) : Int) else 0
def meetL (l c i j : Int) : Int := if mayV l c && mayV i j then ((min l.toNat i.toNat : Nat) : Int) else 0
def meetC (l c i j : Int) : Int := if mayV l c && mayV i j then ((c.toNat &&& j.toNat : Nat) : Int) else 0
def putV (l c : Int) : Int := if mayV l c then ((l.toNat * 16 + c.toNat : Nat) : Int) else 0
theorem may_t {l c : Int} (h : mayV l c = true) : ∃ l' c' : Nat, l = l' ∧ c = c' ∧ l' ≤ 3 ∧ c' ≤ 15 := by
  have := of_decide_eq_true h
  exact ⟨l.toNat, c.toNat, by omega, by omega, by omega, by omega⟩
theorem may_f {l c : Int} (h : mayV l c = false) : bad l c := by
  have := of_decide_eq_false h
  unfold bad; omega
theorem may_all (l c : Int) (w : World) (hl : i64 l) (hc : i64 c) :
    Calls Try.prog 23 #[.agg #[.int .i64 l, .int .i64 c]] w fun e w' => e = .returned (.bool (mayV l c)) ∧ Below w.heap.size w w' := by
  cases h : mayV l c
  · exact may_no l c w hl hc (may_f h)
  · obtain ⟨l', c', rfl, rfl, h1, h2⟩ := may_t h
    exact may_yes l' c' w h1 h2
theorem bad2 {l c i j : Int} (h : (mayV l c && mayV i j) = false) : bad l c ∨ bad i j := by
  cases h1 : mayV l c
  · exact Or.inl (may_f h1)
  · rw [h1, Bool.true_and] at h; exact Or.inr (may_f h)
def takeOk (b : Int) : Bool := decide (b < 64)
def takeL (b : Int) : Int := if takeOk b then b / 16 else 0
def takeC (b : Int) : Int := if takeOk b then b % 16 else 0
end Go.Proofs.Ytfmpbofhaoijpaa
