/- Contract: slices.SortFunc by the order of labels, of at most seven places. -/
import Derived.Test.YtfmpbofhaoijpaaC7
namespace Go.Proofs.Ytfmpbofhaoijpaa
open Go.ChangeShapes Go.WideShapes Go.ChangeAt Go.RowKit
open Go.Sort (swp insInner insOuter insertionSort)
set_option linter.unusedVariables false
section
variable {α : Type} [Inhabited α] (lt : α → α → Bool)
theorem ins_go (a j : Nat) (d : Array α) (hj : a < j + 1) (hl : lt d[j + 1]! d[j]! = true) : insInner lt a (j + 1) d = insInner lt a j (swp d (j + 1) j) := by
  rw [insInner, if_pos (by simp [hl]; omega)]
theorem ins_stop (a j : Nat) (d : Array α) (h : j ≤ a ∨ lt d[j]! d[j - 1]! = false) : insInner lt a j d = d := by
  cases j with
  | zero => rfl
  | succ j =>
    rw [insInner, if_neg]
    rcases h with h | h
    · simp; omega
    · simp only [Nat.add_sub_cancel] at h; simp [h]
theorem outer_go (a b i : Nat) (d : Array α) (h : i < b) : insOuter lt a b i d = insOuter lt a b (i + 1) (insInner lt a i d) := by rw [insOuter, if_pos h]
theorem outer_stop (a b i : Nat) (d : Array α) (h : ¬ i < b) : insOuter lt a b i d = d := by rw [insOuter, if_neg h]
end
/-- The row holds d from place o on, and else what it held. -/
structure RowC (C0 C : Array Value) (o : Nat) (d : Array Int) : Prop where
  size : C.size = C0.size
  fit : o + d.size ≤ C0.size
  here : ∀ i, i < d.size → C[o + i]? = some (.int .i64 d[i]!)
  else_ : ∀ i, (i < o ∨ o + d.size ≤ i) → C[i]? = C0[i]?
theorem RowC.swap {C0 C : Array Value} {o : Nat} {d : Array Int} (h : RowC C0 C o d) {i j : Nat} (hi : i < d.size) (hj : j < d.size) (hij : i ≠ j) :
    RowC C0 ((C.setIfInBounds (o + i) (.int .i64 d[j]!)).setIfInBounds (o + j) (.int .i64 d[i]!)) o (swp d i j) := by
  have hs : (swp d i j).size = d.size := Go.Sort.size_swp d i j
  refine ⟨by simp [h.size], by rw [hs]; exact h.fit, fun k hk => ?_, fun k hk => ?_⟩
  · rw [hs] at hk
    have hlt : o + k < C.size := by have := h.size; have := h.fit; omega
    rw [Array.getElem?_setIfInBounds, Array.getElem?_setIfInBounds]
    by_cases e1 : k = j
    · subst e1
      rw [if_pos rfl, if_pos (by simpa using hlt), Go.Sort.swp_right d i k hk]
    · rw [if_neg (by omega)]
      by_cases e2 : k = i
      · subst e2
        rw [if_pos rfl, if_pos (by simpa using hlt), Go.Sort.swp_left d k j hk hij]
      · rw [if_neg (by omega), Go.Sort.swp_other d i j k e2 e1]
        exact h.here k hk
  · rw [hs] at hk
    rw [Array.getElem?_setIfInBounds, Array.getElem?_setIfInBounds, if_neg (by omega), if_neg (by omega)]
    exact h.else_ k hk
structure InW (w0 wr : World) (g o : Nat) (C0 C : Array Value) (m : Nat) (d : Array Int) : Prop where
  sz : d.size = m
  blk : wr.heap[g]? = some (.cells C 3 (0, 0))
  row : RowC C0 C o d
  gr : w0.grownBy wr (some g)
theorem InW.below {w0 wr w' : World} {g o : Nat} {C0 C : Array Value} {m : Nat} {d : Array Int} (h : InW w0 wr g o C0 C m d) (hb : Below wr.heap.size wr w') : InW w0 w' g o C0 C m d :=
  ⟨h.sz, (hb.block g (by
    rcases Nat.lt_or_ge g wr.heap.size with h1 | h1
    · exact h1
    · have := h.blk; rw [Array.getElem?_eq_none h1] at this; cases this)).trans h.blk, h.row, h.gr.trans ⟨hb.os, hb.tape, hb.output, hb.size, fun k hk _ => hb.block k hk⟩⟩
theorem setBy (W : World) (g i : Nat) (u : Value) : W.grownBy (W.setCell ⟨g, i, none⟩ u) (some g) := ⟨rfl, rfl, rfl, by simp, fun k hk hne => by
  rw [World.setCell]; simp only [Array.getElem?_modify]; rw [if_neg (fun e => hne (by rw [e]))]⟩
theorem setByD (W : World) (g i : Nat) (u : Value) : W.grownBy (W.setCell ⟨g, i, none⟩ u).drew (some g) := ⟨rfl, rfl, rfl, by simp, fun k hk hne => by
  show (W.setCell ⟨g, i, none⟩ u).heap[k]? = _
  rw [World.setCell]; simp only [Array.getElem?_modify]; rw [if_neg (fun e => hne (by rw [e]))]⟩
def Vals (cs : List Sh) (d : Array Int) : Prop := ∀ i, i < d.size → InR cs d[i]!
theorem Vals.swap {cs : List Sh} {d : Array Int} (h : Vals cs d) {i j : Nat} (hi : i < d.size) (hj : j < d.size) (hij : i ≠ j) : Vals cs (swp d i j) := fun k hk => by
  rw [Go.Sort.size_swp] at hk
  by_cases e1 : k = j
  · subst e1; rw [Go.Sort.swp_right d i k hk]; exact h i hi
  · by_cases e2 : k = i
    · subst e2; rw [Go.Sort.swp_left d k j hk hij]; exact h j hj
    · rw [Go.Sort.swp_other d i j k e2 e1]; exact h k hk
end Go.Proofs.Ytfmpbofhaoijpaa
