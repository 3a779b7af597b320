/- The order of labels, as plain numbers. -/
import Derived.Test.YtfmpbofhaoijpaaT8
namespace Go.Proofs.Ytfmpbofhaoijpaa
open Fl
set_option linter.unusedVariables false
/-- A label's place in the line. -/
def key (l c : Int) : Nat := l.toNat * 100 + (pop c.toNat * 16 + c.toNat)
theorem less_key {l c i j : Int} (h : mayV l c = true) (g : mayV i j = true) : lessV l c i j = decide (key l c < key i j) := by
  have h' := of_decide_eq_true h
  have g' := of_decide_eq_true g
  have p1 := pop_le c.toNat
  have p2 := pop_le j.toNat
  unfold lessV lessN aheadB key
  rw [h, g]
  simp only [Bool.true_and]
  split <;> rw [decide_eq_decide] <;> omega
theorem key_inj {l c i j : Int} (h : mayV l c = true) (g : mayV i j = true) (e : key l c = key i j) : l = i ∧ c = j := by
  have h' := of_decide_eq_true h
  have g' := of_decide_eq_true g
  have p1 := pop_le c.toNat
  have p2 := pop_le j.toNat
  unfold key at e
  have r1 : pop c.toNat * 16 + c.toNat < 100 := by omega
  have r2 : pop j.toNat * 16 + j.toNat < 100 := by omega
  have d1 : l.toNat = i.toNat := by
    generalize pop c.toNat * 16 + c.toNat = x at *
    generalize pop j.toNat * 16 + j.toNat = y at *
    omega
  have d2 : pop c.toNat * 16 + c.toNat = pop j.toNat * 16 + j.toNat := by omega
  have d3 : (pop c.toNat * 16 + c.toNat) % 16 = (pop j.toNat * 16 + j.toNat) % 16 := by rw [d2]
  rw [Nat.mul_add_mod_self_right, Nat.mul_add_mod_self_right] at d3
  omega
theorem or_pop : ∀ c j : Fin 16, (c.val ||| j.val) = c.val → pop j.val ≤ pop c.val ∧ j.val ≤ c.val := by decide +kernel
theorem above_key {l c i j : Int} (h : mayV l c = true) (g : mayV i j = true) (e : aboveV l c i j = true) : key i j ≤ key l c := by
  have h' := of_decide_eq_true h
  have g' := of_decide_eq_true g
  have p1 := pop_le c.toNat
  have p2 := pop_le j.toNat
  unfold aboveV aboveN at e
  simp only [Bool.and_eq_true, decide_eq_true_eq, beq_iff_eq] at e
  have := or_pop ⟨c.toNat, by omega⟩ ⟨j.toNat, by omega⟩ e.2.2
  dsimp only at this
  unfold key
  omega
theorem may_of (x : Int) (h : 0 ≤ x ∧ x ≤ 255) : mayV (x / 16 % 4) (x % 16) = true := by unfold mayV; simp; omega
theorem may_i64 {l c : Int} (h : mayV l c = true) : i64 l ∧ i64 c := by
  have h' := of_decide_eq_true h
  refine ⟨⟨?_, ?_⟩, ⟨?_, ?_⟩⟩ <;> omega
end Go.Proofs.Ytfmpbofhaoijpaa
