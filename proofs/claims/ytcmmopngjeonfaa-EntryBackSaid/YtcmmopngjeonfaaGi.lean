/- Contracts: node.takeNumber, takeNumbers. -/
import Derived.Test.YtcmmopngjeonfaaGh
namespace Go.Proofs.Ytcmmopngjeonfaa
open Go.ChangeShapes Go.WideShapes Go.ChangeAt Go.RowKit
set_option linter.unusedVariables false
/-- A part of a body, in memory. -/
theorem byt_seg {W : World} {g : Nat} {k : Int} {bs : List Int} (h : W.heap[g]? = some (.cells (blkA k bs) 29 (0, 0))) (o m : Nat) : Byt W (some ⟨g, 1 + o, none⟩) ((bs.drop o).take m) := by
  intro i x hi
  refine ⟨_, rfl, ?_⟩
  rw [List.getElem?_take] at hi
  split at hi
  · rw [List.getElem?_drop] at hi
    rw [add_off, blk_cell h, ← Array.getElem?_toList, blkA_list]
    unfold blkL
    rw [show 1 + o + i = (o + i) + 1 by omega]
    exact Bs_at hi
  · cases hi
def seg (bs : List Int) (o m : Nat) : List Int := (bs.drop o).take m
theorem seg_len {bs : List Int} (h : bs.length = 56) {o m : Nat} (hm : o + m ≤ 56) : (seg bs o m).length = m := by unfold seg; rw [List.length_take, List.length_drop]; omega
theorem seg_allB {bs : List Int} (h : AllB bs) (o m : Nat) : AllB (seg bs o m) := fun x hx => h x (List.mem_of_mem_drop (List.mem_of_mem_take hx))
def plV (bs : List Int) (i : Nat) : Int := (numV (seg bs (10 + 2 * i) 2) : Int) - 1
/-- What the first bytes tell, j places told. -/
def rdJ (bs : List Int) (j : Nat) : Nd := ⟨numV (seg bs 0 4), numV (seg bs 4 2), numV (seg bs 6 4), if 0 < j then plV bs 0 else 0, if 1 < j then plV bs 1 else 0, if 2 < j then plV bs 2 else 0, if 3 < j then plV bs 3 else 0, if 4 < j then plV bs 4 else 0, []⟩
theorem numV2_lt {bs : List Int} (h : bs.length = 56) (hB : AllB bs) {o : Nat} (ho : o + 2 ≤ 56) : numV (seg bs o 2) < 65536 := numV_lt 2 _ (seg_len h ho) (seg_allB hB _ _)
theorem numV4_lt {bs : List Int} (h : bs.length = 56) (hB : AllB bs) {o : Nat} (ho : o + 4 ≤ 56) : numV (seg bs o 4) < 4294967296 := numV_lt 4 _ (seg_len h ho) (seg_allB hB _ _)
def slN (g i : Nat) : Value := .slice (some ⟨g, 11 + 2 * i, none⟩) (10 - 2 * i) (46 - 2 * i)
def VTN (g : Nat) (bs : List Int) (W0 : World) (i : Nat) (v : Value) (W : World) : Prop :=
  match i with
  | 0 | 3 | 7 => v = .slice (some ⟨g, 1, none⟩) 20 56
  | 1 => v = .slice (some ⟨g, 1, none⟩) 4 56
  | 2 => v = .int .u32 (numV (seg bs 0 4))
  | 4 => v = .slice (some ⟨g, 5, none⟩) 2 52
  | 5 => v = .int .u32 (numV (seg bs 4 2))
  | 6 => v = .int .i64 (numV (seg bs 4 2))
  | 8 => v = .slice (some ⟨g, 7, none⟩) 4 50
  | 9 => v = .int .u32 (numV (seg bs 6 4))
  | 10 => v = .int .i64 (numV (seg bs 6 4))
  | 11 => v = .agg (ndA (rdJ bs 0))
  | 12 => v = .pointer (some ⟨W0.heap.size, 0, none⟩)
  | _ => True
end Go.Proofs.Ytcmmopngjeonfaa
