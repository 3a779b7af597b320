/- What stage 5's law AreaAll keeps: which blocks are used. -/
import Derived.Test.YtfmpbofhaoijpaaA4
import Derived.Test.YtfmpbofhaoijpaaP5
namespace Go.Proofs.Ytfmpbofhaoijpaa
open Go.ChangeShapes Go.WideShapes Go.ChangeAt Go.RowKit
set_option linter.unusedVariables false
/-- A row of bools. -/
structure TabR (C : Array Value) (m : Nat) (f : Nat → Bool) : Prop where
  size : C.size = m
  at_ : ∀ j, j < m → C[j]? = some (.bool (f j))
theorem TabR.set {C : Array Value} {m j : Nat} {f f' : Nat → Bool} (h : TabR C m f) (hj : j < m) (hf : ∀ i, i < m → f' i = (decide (i = j) || f i)) : TabR (C.setIfInBounds j (.bool true)) m f' := by
  refine ⟨by simp [h.size], fun i hi => ?_⟩
  rw [Array.getElem?_setIfInBounds, hf i hi]
  by_cases e : j = i
  · subst e; rw [if_pos rfl, if_pos (by rw [h.size]; exact hj)]; simp
  · rw [if_neg e, h.at_ i hi, decide_eq_false (fun x => e x.symm)]; simp
/-- Which blocks are used ahead of k. -/
def usedV (g b k : Nat) (j : Nat) : Bool := decide (j < 2 + min k g) || (decide (2 + g ≤ j) && decide (j < 2 + g + min k b))
theorem used_zero {g b : Nat} (j : Nat) : usedV g b 0 j = decide (j < 2) := by
  unfold usedV; rw [Bool.eq_iff_iff]; simp; omega
theorem used_all {g b k : Nat} (hg : g ≤ k) (hb : b ≤ k) (j : Nat) (hj : j < 2 + g + b) : usedV g b k j = true := by
  unfold usedV; simp; omega
theorem used_log {g b k : Nat} (hk : k < g) : usedV g b k (2 + k) = false := by
  unfold usedV; rw [Bool.eq_false_iff]; simp; omega
theorem used_next0 {g b k : Nat} (h1 : g ≤ k) (h2 : b ≤ k) (j : Nat) : usedV g b (k + 1) j = usedV g b k j := by
  unfold usedV; rw [Bool.eq_iff_iff]; simp; omega
theorem used_nextL {g b k : Nat} (h1 : k < g) (h2 : b ≤ k) (j : Nat) : usedV g b (k + 1) j = (decide (j = 2 + k) || usedV g b k j) := by
  unfold usedV; rw [Bool.eq_iff_iff]; simp; omega
theorem used_nextH {g b k : Nat} (h1 : g ≤ k) (h2 : k < b) (j : Nat) : usedV g b (k + 1) j = (decide (j = 2 + g + k) || usedV g b k j) := by
  unfold usedV; rw [Bool.eq_iff_iff]; simp; omega
/-- .. behind the log's one. -/
def usedL (g b k : Nat) (j : Nat) : Bool := decide (j = 2 + k) || usedV g b k j
theorem used_homeL {g b k : Nat} (h1 : k < g) (h2 : k < b) : usedL g b k (2 + g + k) = false := by
  unfold usedL usedV; rw [Bool.eq_false_iff]; simp; omega
theorem used_home {g b k : Nat} (h1 : g ≤ k) (h2 : k < b) : usedV g b k (2 + g + k) = false := by
  unfold usedV; rw [Bool.eq_false_iff]; simp; omega
theorem used_nextB {g b k : Nat} (h1 : k < g) (h2 : k < b) (j : Nat) : usedV g b (k + 1) j = (decide (j = 2 + g + k) || usedL g b k j) := by
  unfold usedL usedV; rw [Bool.eq_iff_iff]; simp; omega
/-- The share that is none. -/
def shNo : Sh := ⟨0, 0, 0, 0, 0⟩
theorem may_more {cs : List Sh} : mayConfV (cs ++ [shNo]) = false := by
  have : okV (cs ++ [shNo]) = false := ok_f (k := cs.length) (by simp) (by
    rw [okAt_some (s := shNo) (by simp)]
    have : mayShV shNo = false := by unfold mayShV shNo; simp
    rw [this]; rfl)
  unfold mayConfV; rw [this]; simp
theorem oks_more {cs : List Sh} (h : ShsOk cs) : ShsOk (cs ++ [shNo]) := fun s hs => by
  rcases List.mem_append.1 hs with hs | hs
  · exact h s hs
  · rw [List.mem_singleton] at hs; subst hs
    unfold ShOk shNo i64; simp
end Go.Proofs.Ytfmpbofhaoijpaa
