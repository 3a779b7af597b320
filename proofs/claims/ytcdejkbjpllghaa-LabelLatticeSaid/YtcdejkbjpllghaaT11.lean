/- New blocks, behind a call. -/
import Derived.Test.YtcdejkbjpllghaaT10
namespace Go.Proofs.Ytcdejkbjpllghaa
open Go.ChangeShapes Go.WideShapes Go.ChangeAt Go.RowKit
open Fl
theorem new1 {W w1 : World} {u v : Value} {t : TypeId} (hb : Below (W.alloc (Obj.cells #[u, v] t)).heap.size (W.alloc (Obj.cells #[u, v] t)) w1) :
    w1.cell? ⟨W.heap.size, 0, none⟩ = some u ∧ w1.cell? ⟨W.heap.size, 1, none⟩ = some v :=
  ⟨keep hb (by simp [go_sem]), keep hb (by simp [go_sem])⟩
theorem newD {W w1 : World} {u v : Value} {t : TypeId} (hb : Below (W.alloc (Obj.cells #[u, v] t)).drew.heap.size (W.alloc (Obj.cells #[u, v] t)).drew w1) :
    w1.cell? ⟨W.heap.size, 0, none⟩ = some u ∧ w1.cell? ⟨W.heap.size, 1, none⟩ = some v :=
  ⟨keepD hb (by simp [go_sem]), keepD hb (by simp [go_sem])⟩
theorem new2 {W w1 : World} {u v x y : Value} {t t' : TypeId} (hb : Below ((W.alloc (Obj.cells #[u, v] t)).alloc (Obj.cells #[x, y] t')).heap.size ((W.alloc (Obj.cells #[u, v] t)).alloc (Obj.cells #[x, y] t')) w1) :
    w1.cell? ⟨W.heap.size, 0, none⟩ = some u ∧ w1.cell? ⟨W.heap.size, 1, none⟩ = some v ∧ w1.cell? ⟨W.heap.size + 1, 0, none⟩ = some x ∧ w1.cell? ⟨W.heap.size + 1, 1, none⟩ = some y :=
  ⟨keep hb (by simp [go_sem]), keep hb (by simp [go_sem]), keep hb (by simp [go_sem]), keep hb (by simp [go_sem])⟩
theorem newDD {W w1 : World} {u v x y : Value} {t t' : TypeId} (hb : Below ((W.alloc (Obj.cells #[u, v] t)).alloc (Obj.cells #[x, y] t')).drew.heap.size ((W.alloc (Obj.cells #[u, v] t)).alloc (Obj.cells #[x, y] t')).drew w1) :
    w1.cell? ⟨W.heap.size, 0, none⟩ = some u ∧ w1.cell? ⟨W.heap.size, 1, none⟩ = some v ∧ w1.cell? ⟨W.heap.size + 1, 0, none⟩ = some x ∧ w1.cell? ⟨W.heap.size + 1, 1, none⟩ = some y :=
  ⟨keepD hb (by simp [go_sem]), keepD hb (by simp [go_sem]), keepD hb (by simp [go_sem]), keepD hb (by simp [go_sem])⟩
theorem or_l1 : ∀ c j : Fin 16, ((c.val ||| j.val) ||| c.val) = (c.val ||| j.val) := by decide +kernel
theorem or_l2 : ∀ c j : Fin 16, ((c.val ||| j.val) ||| j.val) = (c.val ||| j.val) := by decide +kernel
theorem or_and_abs : ∀ c j : Fin 16, (c.val ||| (c.val &&& j.val)) = c.val := by decide +kernel
theorem or_and_abs2 : ∀ c j : Fin 16, (j.val ||| (c.val &&& j.val)) = j.val := by decide +kernel
theorem and_or_abs : ∀ c j : Fin 16, (c.val &&& (c.val ||| j.val)) = c.val := by decide +kernel
theorem or_and : ∀ c j : Fin 16, (c.val ||| j.val) = c.val → (c.val &&& j.val) = j.val := by decide +kernel
theorem and_l : ∀ c j n : Fin 16, (c.val ||| n.val) = c.val → (j.val ||| n.val) = j.val → ((c.val &&& j.val) ||| n.val) = (c.val &&& j.val) := by decide +kernel
theorem and_or : ∀ c j : Fin 16, (c.val &&& j.val) = j.val → (c.val ||| j.val) = c.val := by decide +kernel
/-- Where l, c is not above i, j, the join is another one than l, c, and the meet another one than i, j: by the level, or by the categories. -/
theorem above_ne {l c i j : Nat} (hc : c ≤ 15) (hj : j ≤ 15) (e : aboveN l c i j = false) :
    (((max l i : Nat) : Int) == (l : Int)) = false ∧ (((min l i : Nat) : Int) == (i : Int)) = false ∨
    (((max l i : Nat) : Int) == (l : Int)) = true ∧ (((c ||| j : Nat) : Int) == (c : Int)) = false ∧ (((min l i : Nat) : Int) == (i : Int)) = true ∧ (((c &&& j : Nat) : Int) == (j : Int)) = false := by
  by_cases h : l < i
  · refine Or.inl ⟨?_, ?_⟩
    · rw [beq_eq_false_iff_ne]; omega
    · rw [beq_eq_false_iff_ne]; omega
  · have h1 : max l i = l := by omega
    have h2 : min l i = i := by omega
    have h3 : (c ||| j) ≠ c := fun h3 => by rw [above_mk (by omega) h3] at e; cases e
    have h4 : (c &&& j) ≠ j := fun h4 => h3 (and_or ⟨c, by omega⟩ ⟨j, by omega⟩ h4)
    refine Or.inr ⟨?_, ?_, ?_, ?_⟩
    · rw [h1]; simp
    · rw [beq_eq_false_iff_ne]; intro h; exact h3 (by exact_mod_cast h)
    · rw [h2]; simp
    · rw [beq_eq_false_iff_ne]; intro h; exact h4 (by exact_mod_cast h)
end Go.Proofs.Ytcdejkbjpllghaa
