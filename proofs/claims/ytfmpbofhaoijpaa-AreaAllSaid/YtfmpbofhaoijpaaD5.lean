/- The opening test of each law of conf. -/
import Derived.Test.YtfmpbofhaoijpaaD1
import Derived.Test.YtfmpbofhaoijpaaC5
namespace Go.Proofs.Ytfmpbofhaoijpaa
open Go.ChangeShapes Go.WideShapes Go.ChangeAt Go.RowKit
set_option linter.unusedVariables false
/-- A row of one-cell values that the call owns. -/
theorem row_own {W : World} {B t n : Nat} {v : Value} {xs : List Value} (h : W.ownsRow B t 1 v n xs) :
    ∃ A d, v = .slice A n d ∧ n ≤ d ∧ d ≤ 9223372036854775807 ∧ ∀ i u, xs[i]? = some u → ∃ a, A = some a ∧ W.cell? (a.add i) = some u := by
  rcases h.2 with ⟨rfl, h0⟩ | ⟨g, cap, cur, rfl, hb, hg, hn, hm, hs, ht⟩
  · refine ⟨none, 0, by rw [h0], by omega, by omega, fun i s hi => ?_⟩
    have : xs = [] := List.eq_nil_of_length_eq_zero (by rw [h.1, h0])
    rw [this] at hi; cases hi
  · exact ⟨some ⟨g, 0, none⟩, cap, rfl, hn, by simp only [maxLen] at hm; omega, fun i s hi => ⟨_, rfl, h.cells (g := g) rfl i s hi⟩⟩
/-- Numbers lie behind a slice. -/
def Num (w : World) (A : Option Addr) (xs : List Int) : Prop := ∀ i x, xs[i]? = some x → ∃ a, A = some a ∧ w.cell? (a.add i) = some (.int .i64 x)
theorem Num.keep {w w' : World} {A : Option Addr} {xs : List Int} (h : Num w A xs) (hb : Below w.heap.size w w') : Num w' A xs := fun i x hi =>
  let ⟨a, e, hs⟩ := h i x hi; ⟨a, e, keepC hb hs⟩
theorem num_own {W : World} {B n : Nat} {v : Value} {l : List Int} (h : W.ownsRow B 3 1 v n (Is l)) (hn : l.length = n) :
    ∃ A d, v = .slice A l.length d ∧ Num W A l := by
  obtain ⟨A, d, e, h1, h2, h3⟩ := row_own h
  exact ⟨A, d, by rw [hn]; exact e, fun i x hi => h3 i _ (by unfold Is; rw [List.getElem?_map, hi]; rfl)⟩
theorem conf_lit {W : World} (C : Array Value) (cs : List Sh) (hc : C.toList = cellsL cs) : Conf (W.alloc (.cells C 35)) (some ⟨W.heap.size, 0, none⟩) cs := by
  intro i s hi
  refine ⟨_, rfl, ?_⟩
  have hb := heap_alloc_new W (.cells C 35)
  have e : ∀ j, (⟨W.heap.size, 0, none⟩ : Addr).add j = ⟨W.heap.size, j, none⟩ := fun j => by unfold Addr.add; split <;> simp_all
  have k : ∀ j u, j < 5 → s.cs[j]? = some u → (W.alloc (.cells C 35)).cell? ⟨W.heap.size, i * 5 + j, none⟩ = some u := fun j u hj hu => by
    rw [cell_of_row _ _ _ _ _ _ hb, ← Array.getElem?_toList, hc, cellsL_at hi hj]; exact hu
  rw [e]
  exact ⟨k 0 _ (by omega) rfl, k 1 _ (by omega) rfl, k 2 _ (by omega) rfl, k 3 _ (by omega) rfl, k 4 _ (by omega) rfl⟩
def bg : List Sh := [⟨1, 0, 8, 16, 2⟩, ⟨0, 0, 8, 16, 2⟩]
def bgB : List Int := [76, 70, 2, 16, 8, 16, 2, 0, 8, 16, 2]
theorem bg_may : mayConfV bg = true := by decide
theorem bg_put : putTo bg 2 = bgB := by decide
theorem bg_take : takeV bgB = some bg := by decide
theorem nil_take : takeV [] = none := rfl
theorem nil_may : mayConfV [] = false := by decide
theorem bg_below0 : BelowR bg 0 [0, 1] := ⟨[1], rfl, by decide, by decide⟩
theorem bg_below1 : BelowR bg 1 [1] := ⟨[], rfl, by decide, by decide⟩
theorem bg_ok : ShsOk bg := by
  intro s hs
  unfold bg at hs
  simp at hs
  rcases hs with rfl | rfl <;> constructor <;> constructor <;> decide
end Go.Proofs.Ytfmpbofhaoijpaa
