/- Rows of nodes; strings built of bytes; the closed law's nodes. -/
import Derived.Test.YtebahdiiokfkfaaGq
import Derived.Test.YtebahdiiokfkfaaRo
namespace Go.Proofs.Ytebahdiiokfkfaa
open Go.ChangeShapes Go.WideShapes Go.ChangeAt Go.RowKit
set_option linter.unusedVariables false
def rowN (l : List Nd) : List Value := rowL (fun n => (ndA n).toList) l
theorem rowN_fits (l : List Nd) : Fits (fun n => (ndA n).toList) 9 l := fun x _ => rfl
theorem rowN_length (l : List Nd) : (rowN l).length = l.length * 9 := rowL_length (rowN_fits l)
theorem rowN_one (l : List Nd) : ∀ v ∈ rowN l, v.oneCell' = true := rowL_one (fun n v hv => by
  unfold ndA at hv
  simp only [List.mem_cons, List.not_mem_nil, or_false] at hv
  rcases hv with rfl | rfl | rfl | rfl | rfl | rfl | rfl | rfl | rfl <;> rfl) l
/-- Nodes lie at a block. -/
def RowN (w : World) (g : Nat) (l : List Nd) : Prop := w.heap[g]? = some (.cells (rowN l).toArray 25 (0, 0))
theorem RowN.below {w w' : World} {g : Nat} {l : List Nd} (h : RowN w g l) (hb : Below w.heap.size w w') : RowN w' g l := kb hb h
theorem RowN.cell {w : World} {g : Nat} {l : List Nd} (h : RowN w g l) {i : Nat} {n : Nd} (hi : l[i]? = some n) {j : Nat} {v : Value} (hj : (ndA n).toList[j]? = some v) : w.cell? ⟨g, i * 9 + j, none⟩ = some v := by
  rw [blk_cell h, ← Array.getElem?_toList]
  exact rowL_at (rowN_fits l) hi hj
theorem RowN.range {w : World} {g : Nat} {l : List Nd} (h : RowN w g l) {i : Nat} {n : Nd} (hi : l[i]? = some n) : w.rangeAt g (i * 9) (ndA n).toList := fun j v hj => h.cell hi hj
theorem RowN.there {w : World} {g : Nat} {l : List Nd} (h : RowN w g l) {i : Nat} (hi : i < l.length) : w.there g (i * 9) 9 := fun j hj => by
  have hl := rowN_length l
  obtain ⟨u, hu⟩ : ∃ u, (rowN l).toArray[i * 9 + j]? = some u := ⟨_, Array.getElem?_eq_getElem (by simp only [List.size_toArray]; omega)⟩
  rw [blk_cell h, hu]
  exact ⟨rfl, blk_free h _⟩
section
variable {ops : Array Oper} {rest : List Oper} {o : Oper} {ac : Act} {w : World} {Q : Exit → Act → World → Prop}
theorem wp_loadR {K : Act → World → Prop} (x : Operand) (ho : o.op = .load 25 x) (g i : Nat) (hx : ac.eval x = .pointer (some ⟨g, i * 9, none⟩)) (l : List Nd) (n : Nd) (hg : RowN w g l) (hi : l[i]? = some n)
    (h : K (ac.put o.dst (.agg (ndA n))) w) : o.wp Try.prog ac w K Q :=
  wp_load_mid 25 x ho g (i * 9) hx (ndA n).toList _ (hg.range hi) Try.underlying25 rfl sizeN h
theorem wpList_storeR (hgd : o.guard = none) (x y : Operand) (ho : o.op = .store 25 x y) (g i : Nat) (hx : ac.eval x = .pointer (some ⟨g, i * 9, none⟩)) (l : List Nd) (n m : Nd) (hy : ac.eval y = .agg (ndA n)) (hg : RowN w g l) (hi : l[i]? = some m)
    (h : RowN (w.setCells g (i * 9) (ndA n).toList) g (l.set i n) → wpList Try.prog ops Q rest (ac.put o.dst undef) (w.setCells g (i * 9) (ndA n).toList)) : wpList Try.prog ops Q (o :: rest) ac w := by
  have hlt : i < l.length := (List.getElem?_eq_some_iff.1 hi).1
  have hl := rowN_length l
  refine wpList_store_mid hgd 25 x y ho g (i * 9) (ndA n) hx hy (hg.there hlt) sizeN (ndA_one n) (h ?_)
  unfold RowN
  rw [heap_setCells _ _ _ _ hg (by simp only [List.size_toArray]; show i * 9 + 9 ≤ _; omega)]
  congr 2
  exact congrArg List.toArray (rowL_splice (enc := fun n => (ndA n).toList) (sz := 9) (rowN_fits l) (k := i) (x := m) (y := n) (j := 0) (cs := (ndA n).toList) hi (by show 0 + 9 ≤ 9; omega) (splice_whole _ _ rfl).symm)
end
theorem str_append (xs ys : List Int) : strOfNums xs ++ strOfNums ys = strOfNums (xs ++ ys) := by
  apply ByteArray.ext
  apply Array.toList_inj.1
  rw [ByteArray.data_append, Array.toList_append, strOfNums_data, strOfNums_data, strOfNums_data, List.map_append]
def gd : Nd := ⟨1, 1, 0, -1, -1, -1, -1, -1, []⟩
theorem gd_ok : NdOk gd := ⟨⟨by decide, by decide⟩, ⟨by decide, by decide⟩, ⟨by decide, by decide⟩, ⟨by decide, by decide⟩, ⟨by decide, by decide⟩, ⟨by decide, by decide⟩, ⟨by decide, by decide⟩, ⟨by decide, by decide⟩, (fun x hx => by cases hx), by decide⟩
/-- The row while it is being spoilt. -/
def badL (b0 b1 b2 b3 b4 b5 b6 b7 b8 : Bool) : List Nd := [if b0 then { gd with g := 0 } else gd, if b1 then { gd with l := -1 } else gd, if b2 then { gd with l := 1001 } else gd, if b3 then { gd with s := 1121 } else gd, if b4 then { gd with a := 0 } else gd, if b5 then { gd with x := 200 } else gd, if b6 then { gd with t := [120] } else gd, if b7 then { gd with s := 1 } else gd, if b8 then { gd with l := 2 } else gd, gd, gd, gd]
def xs (n : Nat) : List Int := List.replicate n 120
theorem xs_allB (n : Nat) : AllB (xs n) := fun x hx => by unfold xs at hx; rw [List.eq_of_mem_replicate hx]; omega
def badF : List Nd := [{ gd with g := 0 }, { gd with l := -1 }, { gd with l := 1001 }, { gd with s := 1121 }, { gd with a := 0 }, { gd with x := 200 }, { gd with t := [120] }, { gd with s := 1 }, { gd with l := 2 }, { gd with s := 33, t := xs 33 }, { gd with s := 3, t := [97, 32, 98] }, gd]
def kinds : List Int := [1, 1, 1, 1, 1, 1, 1, 2, 2, 3, 3, 4]
theorem bad_not : ∀ i, i < 12 → ¬ MayN (kinds.getD i 0) (badF.getD i gd) := by decide
theorem ok_of (g l s a b c d x : Int) (t : List Int) (h : (0 ≤ g ∧ g ≤ 4294967295) ∧ (-2 ^ 63 ≤ l ∧ l ≤ 2 ^ 63) ∧ (-2 ^ 63 ≤ s ∧ s ≤ 2 ^ 63) ∧ (-2 ^ 63 ≤ a ∧ a ≤ 2 ^ 63) ∧ (-2 ^ 63 ≤ b ∧ b ≤ 2 ^ 63) ∧ (-2 ^ 63 ≤ c ∧ c ≤ 2 ^ 63) ∧ (-2 ^ 63 ≤ d ∧ d ≤ 2 ^ 63) ∧ (-2 ^ 63 ≤ x ∧ x ≤ 2 ^ 63) ∧ (∀ y ∈ t, 0 ≤ y ∧ y < 256) ∧ t.length ≤ 9223372036854775807) : NdOk ⟨g, l, s, a, b, c, d, x, t⟩ :=
  ⟨h.1, h.2.1, h.2.2.1, h.2.2.2.1, h.2.2.2.2.1, h.2.2.2.2.2.1, h.2.2.2.2.2.2.1, h.2.2.2.2.2.2.2.1, h.2.2.2.2.2.2.2.2.1, h.2.2.2.2.2.2.2.2.2⟩
theorem bad_ok : ∀ i, i < 12 → NdOk (badF.getD i gd) := by
  intro i hi
  match i, hi with
  | 0, _ => exact ok_of _ _ _ _ _ _ _ _ _ (by decide)
  | 1, _ => exact ok_of _ _ _ _ _ _ _ _ _ (by decide)
  | 2, _ => exact ok_of _ _ _ _ _ _ _ _ _ (by decide)
  | 3, _ => exact ok_of _ _ _ _ _ _ _ _ _ (by decide)
  | 4, _ => exact ok_of _ _ _ _ _ _ _ _ _ (by decide)
  | 5, _ => exact ok_of _ _ _ _ _ _ _ _ _ (by decide)
  | 6, _ => exact ok_of _ _ _ _ _ _ _ _ _ (by decide)
  | 7, _ => exact ok_of _ _ _ _ _ _ _ _ _ (by decide)
  | 8, _ => exact ok_of _ _ _ _ _ _ _ _ _ (by decide)
  | 9, _ => exact ok_of _ _ _ _ _ _ _ _ _ (by decide)
  | 10, _ => exact ok_of _ _ _ _ _ _ _ _ _ (by decide)
  | 11, _ => exact ok_of _ _ _ _ _ _ _ _ _ (by decide)
end Go.Proofs.Ytebahdiiokfkfaa
