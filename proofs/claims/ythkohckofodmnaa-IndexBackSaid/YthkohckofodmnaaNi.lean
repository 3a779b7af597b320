/- A slice of ints as an argument, opened. (cache's Kw without its deeds: for seats that have not cache.) -/
import Derived.Test.YthkohckofodmnaaAi
import Derived.Deep.Slices
namespace Go.Proofs.Ythkohckofodmnaa
open Go.ChangeShapes Go.WideShapes Go.ChangeAt Go.RowKit Go.Deep
set_option linter.unusedVariables false
def AllI (xs : List Int) : Prop := ∀ x ∈ xs, i64 x
section
variable {H : Type} {enc : TypeId × Value → H} {w : World} {base : Nat} {spare : Nat → Bool} {held : Bool}
theorem cells_int3 : Try.prog.cellsOf 3 = 1 := by kernel_rfl
theorem open_nts {fuel : Nat} {cs : List Value} {x : DataW H × List MemPlace} (h : DataW.trod enc Try.prog w base spare held fuel 22 cs = some x) :
    ∃ (A : Option Addr) (bs : List Int) (d : Nat), cs = [.slice A bs.length d] ∧ bs.length ≤ d ∧ d ≤ 9223372036854775807 ∧ Nts w A bs ∧ AllI bs := by
  rcases open_ints Try.underlying22 Try.underlying3 cells_int3 h with ⟨rfl, _⟩ | ⟨a, len, cap, zs, rfl, _, hl, hm, hz, _, hcell, hwf⟩
  · exact ⟨none, [], 0, rfl, Nat.le_refl _, by omega, (fun i s hi => by cases hi), (fun s hs => by cases hs)⟩
  · have hzl : len ≤ zs.length := by rw [hz]; split <;> omega
    have e : (zs.take len).length = len := List.length_take_of_le hzl
    refine ⟨some a, zs.take len, cap, by rw [e], by rw [e]; exact hl, by simp only [maxLen] at hm; omega, fun i s hi => ⟨a, rfl, ?_⟩, fun s hs => ?_⟩
    · rw [List.getElem?_take] at hi
      split at hi
      · have hlt : i < zs.length := (List.getElem?_eq_some_iff.1 hi).1
        rw [hcell i hlt, List.getD, hi]; rfl
      · cases hi
    · have := bounds_i64 (hwf s (List.mem_of_mem_take hs)); constructor <;> omega
end
end Go.Proofs.Ythkohckofodmnaa
