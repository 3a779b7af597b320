/- Bytes as this program's types have them: as a string, opened as an argument, laid by make. -/
import Derived.Test.YtcmmopngjeonfaaK1
import Derived.Deep.Slices
import Derived.Deep.Fields
import Derived.ChangeSame
import Derived.Carry
import Derived.Lib.SmallJoins
namespace Go.Proofs.Ytcmmopngjeonfaa
open Go.ChangeShapes Go.WideShapes Go.ChangeAt Go.RowKit Go.Deep
set_option linter.unusedVariables false
theorem conv_any {A : Option Addr} {xs : List Int} {n c : Nat} {w : World} (h : Byt w A xs) (hn : xs.length = n) : (convert 41 9 (.slice A n c)).run Try.prog w = .ok (.string (strOfNums xs)) w := by
  rcases A with _ | a
  · have : xs = [] := by
      cases xs with
      | nil => rfl
      | cons x l => obtain ⟨a, e, _⟩ := h 0 x rfl; cases e
    subst this
    rw [run_convert_bytes_nil w 41 5 Try.underlying41 Try.underlying5 n c 9 Try.underlying9]
    rfl
  · have hl : (loadCells a n).run Try.prog w = .ok (Bs xs).toArray w := by
      have := run_loadCells_list (P := Try.prog) w a (Bs xs) (fun j v hj => by
        unfold Bs at hj
        rw [List.getElem?_map] at hj
        obtain ⟨x, hx, rfl⟩ := Option.map_eq_some_iff.1 hj
        obtain ⟨a', e, hc⟩ := h j x hx
        injection e with e; subst e; exact hc)
      have e : (Bs xs).length = n := by rw [Bs_length]; exact hn
      rw [e] at this
      exact this
    rw [run_convert_bytes_string w 41 9 5 _ n c Try.underlying41 Try.underlying5 Try.underlying9, run_bytesToString w _ n c xs hl, foldl_push_bytes]
    simp [strOfNums, ByteArray.empty, ByteArray.emptyWithCapacity]
    rfl
section
variable {H : Type} {enc : TypeId × Value → H} {w : World} {base : Nat} {spare : Nat → Bool} {held : Bool}
theorem cells5' : Try.prog.cellsOf 5 = 1 := by kernel_rfl
theorem open_byt {fuel : Nat} {cs : List Value} {x : DataW H × List MemPlace} (h : DataW.trod enc Try.prog w base spare held fuel 41 cs = some x) :
    ∃ (A : Option Addr) (bs : List Int) (d : Nat), cs = [.slice A bs.length d] ∧ bs.length ≤ d ∧ d ≤ 9223372036854775807 ∧ Byt w A bs ∧ AllB bs := by
  rcases open_ints Try.underlying41 Try.underlying5 cells5' h with ⟨rfl, _⟩ | ⟨a, len, cap, zs, rfl, _, hl, hm, hz, _, hcell, hwf⟩
  · exact ⟨none, [], 0, rfl, Nat.le_refl _, by omega, (fun i s hi => by cases hi), (fun s hs => by cases hs)⟩
  · have hzl : len ≤ zs.length := by rw [hz]; split <;> omega
    have e : (zs.take len).length = len := List.length_take_of_le hzl
    refine ⟨some a, zs.take len, cap, by rw [e], by rw [e]; exact hl, by simp only [maxLen] at hm; omega, fun i s hi => ⟨a, rfl, ?_⟩, fun s hs => ?_⟩
    · rw [List.getElem?_take] at hi
      split at hi
      · have hlt : i < zs.length := (List.getElem?_eq_some_iff.1 hi).1
        rw [hcell i hlt, List.getD, hi]; rfl
      · cases hi
    · have := bounds_u8 (hwf s (List.mem_of_mem_take hs)); omega
end
end Go.Proofs.Ytcmmopngjeonfaa
