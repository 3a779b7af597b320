/- Contracts of the answer by the document: one category, how many, both. -/
import Derived.Test.YtfmpbofhaoijpaaT4
import Derived.LoopTactic
import Derived.Deep.QuietTactic
import Derived.BigQuiet
namespace Go.Proofs.Ytfmpbofhaoijpaa
open Go.ChangeShapes Go.WideShapes Go.ChangeAt Go.RowKit
open Fl
set_option linter.unusedVariables false
def bitN (c i : Nat) : Bool := c / 2 ^ i % 2 == 1
def manyTo (c : Nat) : Nat → Nat
  | 0 => 0
  | n + 1 => manyTo c n + (bitN c n).toNat
theorem manyTo_le (c n : Nat) : manyTo c n ≤ n := by
  induction n with
  | zero => exact Nat.le_refl _
  | succ n ih => have : ∀ b : Bool, b.toNat ≤ 1 := by decide
                 have := this (bitN c n); simp only [manyTo]; omega
theorem manyTo_pop : ∀ c : Fin 16, manyTo c.val 4 = pop c.val := by decide +kernel
/-- What 'both' has after so many rounds. -/
def bothTo (a b : Nat) (all : Bool) : Nat → Nat
  | 0 => 0
  | n + 1 => bothTo a b all n + if bitN a n && bitN b n || all && (bitN a n || bitN b n) then 2 ^ n else 0
theorem bothTo_le (a b : Nat) (all : Bool) (n : Nat) : bothTo a b all n < 2 ^ n := by
  induction n with
  | zero => exact Nat.one_pos
  | succ n ih => simp only [bothTo]; rw [Nat.pow_succ]; split <;> omega
theorem bothTo_or : ∀ a b : Fin 16, bothTo a.val b.val true 4 = a.val ||| b.val := by decide +kernel
theorem bothTo_and : ∀ a b : Fin 16, bothTo a.val b.val false 4 = a.val &&& b.val := by decide +kernel
end Go.Proofs.Ytfmpbofhaoijpaa
