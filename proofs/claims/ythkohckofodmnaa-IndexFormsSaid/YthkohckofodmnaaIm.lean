/- For the law IndexForms: its tables, its places. -/
import Derived.Test.YthkohckofodmnaaIl
namespace Go.Proofs.Ythkohckofodmnaa
open Go.ChangeShapes Go.WideShapes Go.ChangeAt Go.RowKit
set_option linter.unusedVariables false
def offL : List Int := [0, 0, 55, 56, 1119, 1120, 1119, -1, 0, 3, 100]
def nsL : List Int := [0, 56, 2, 56, 1, 0, 2, 1, -1, 1120, 57]
def manyL : List Int := [0, 1, 2, 1, 1, 0, 0, 0, 0, 0, 2]
theorem forms_at : ∀ j, j < 11 → ∃ (o n : Int) (m : Nat), (Is offL).toArray[j]? = some (.int .i64 o) ∧ (Is nsL).toArray[j]? = some (.int .i64 n) ∧ (Is manyL).toArray[j]? = some (.int .i64 m) ∧ (pcM o n).length = m ∧ (-10000 ≤ o ∧ o ≤ 10000) ∧ (-10000 ≤ n ∧ n ≤ 10000)
  | 0, _ => ⟨0, 0, 0, rfl, rfl, rfl, by decide, by decide, by decide⟩
  | 1, _ => ⟨0, 56, 1, rfl, rfl, rfl, by decide, by decide, by decide⟩
  | 2, _ => ⟨55, 2, 2, rfl, rfl, rfl, by decide, by decide, by decide⟩
  | 3, _ => ⟨56, 56, 1, rfl, rfl, rfl, by decide, by decide, by decide⟩
  | 4, _ => ⟨1119, 1, 1, rfl, rfl, rfl, by decide, by decide, by decide⟩
  | 5, _ => ⟨1120, 0, 0, rfl, rfl, rfl, by decide, by decide, by decide⟩
  | 6, _ => ⟨1119, 2, 0, rfl, rfl, rfl, by decide, by decide, by decide⟩
  | 7, _ => ⟨-1, 1, 0, rfl, rfl, rfl, by decide, by decide, by decide⟩
  | 8, _ => ⟨0, -1, 0, rfl, rfl, rfl, by decide, by decide, by decide⟩
  | 9, _ => ⟨3, 1120, 0, rfl, rfl, rfl, by decide, by decide, by decide⟩
  | 10, _ => ⟨100, 57, 2, rfl, rfl, rfl, by decide, by decide, by decide⟩
  | j + 11, h => absurd h (by omega)
/-- The three tables in memory. -/
structure JF (w : World) (p g1 g2 g3 : Nat) (W : World) : Prop where
  bel : Below p w W
  sz : p ≤ W.heap.size
  r1 : W.heap[g1]? = some (.cells (Is offL).toArray 3 (0, 0))
  r2 : W.heap[g2]? = some (.cells (Is nsL).toArray 3 (0, 0))
  r3 : W.heap[g3]? = some (.cells (Is manyL).toArray 3 (0, 0))
theorem JF.next {w : World} {p g1 g2 g3 : Nat} {W W' : World} (h : JF w p g1 g2 g3 W) (hb : Below W.heap.size W W') : JF w p g1 g2 g3 W' :=
  ⟨h.bel.trans (hb.mono h.sz), Nat.le_trans h.sz hb.size, kb hb h.r1, kb hb h.r2, kb hb h.r3⟩
def VF8 (g1 g2 g3 : Nat) (j : Nat) (o n : Int) (m : Nat) (i : Nat) (v : Value) (W : World) : Prop :=
  match i with
  | 0 => v = .slice (some ⟨g1, 0, none⟩) 11 11
  | 1 | 5 | 11 => v = .int .i64 j
  | 2 => v = .pointer (some ⟨g1, j, none⟩)
  | 3 => v = .int .i64 o
  | 4 => v = .slice (some ⟨g2, 0, none⟩) 11 11
  | 6 => v = .pointer (some ⟨g2, j, none⟩)
  | 7 => v = .int .i64 n
  | 9 | 13 => v = .int .i64 m
  | 10 => v = .slice (some ⟨g3, 0, none⟩) 11 11
  | 12 => v = .pointer (some ⟨g3, j, none⟩)
  | 8 => ∃ A c, v = .slice A m c
  | _ => True
theorem VF8.on {g1 g2 g3 j : Nat} {o n : Int} {m i : Nat} {v : Value} {w w' : World} (h : VF8 g1 g2 g3 j o n m i v w) : VF8 g1 g2 g3 j o n m i v w' := h
/-- Places that rise. -/
def upL (j : Nat) : List Int := (List.range 16).map fun i => if i < j then (i : Int) + 1 else 0
theorem upL_length (j : Nat) : (upL j).length = 16 := by unfold upL; simp
theorem upL_at (j : Nat) {i : Nat} (h : i < 16) : (upL j)[i]? = some (if i < j then (i : Int) + 1 else 0) := by
  unfold upL; rw [List.getElem?_map, List.getElem?_range h]; rfl
theorem upL_set {j : Nat} (h : j < 16) : (upL j).set j ((j : Int) + 1) = upL (j + 1) := by
  apply List.ext_getElem?
  intro i
  by_cases hi : i < 16
  · rw [upL_at (j + 1) hi, List.getElem?_set, upL_length]
    by_cases e : j = i
    · subst e; rw [if_pos rfl, if_pos h, if_pos (by omega)]
    · rw [if_neg e, upL_at j hi]
      by_cases h2 : i < j
      · rw [if_pos h2, if_pos (by omega)]
      · rw [if_neg h2, if_neg (by omega)]
  · rw [List.getElem?_eq_none (by simp [upL_length]; omega), List.getElem?_eq_none (by rw [upL_length]; omega)]
theorem up_zero : mayB z16 = false := by decide
theorem up_may : mayB (upL 16) = true := by decide
def upT : List Int := (upL 16).set 15 3
theorem upT_may : mayB upT = false := by decide
theorem upC_may : mayB (upT.take 15) = false := by decide
def upB : List Int := pad (encL (upL 16))
theorem upB_len : upB.length = 56 := rfl
theorem upB_allB : AllB upB := pad_allB (encL_allB (mayB_all up_may))
def upX : List Int := upB.set 32 1
theorem upX_len : upX.length = 56 := rfl
theorem upX_allB : AllB upX := set_allB upB_allB 32 (by omega)
theorem upX_tk : tkB 5 upX = false := by decide
theorem upX_1 : upX[0]? = some 0 := by decide
theorem upX_2 : upX[1]? = some 2 := by decide
theorem upX_32 : upX[31]? = some 17 := by decide
theorem Nts_take15 {W : World} {q : Nat} {L : List Int} (h : W.heap[q]? = some (.cells (Is L).toArray 3 (0, 0))) : Nts W (some ⟨q, 0, none⟩) (L.take 15) := (nts_is h).take 15
end Go.Proofs.Ythkohckofodmnaa
