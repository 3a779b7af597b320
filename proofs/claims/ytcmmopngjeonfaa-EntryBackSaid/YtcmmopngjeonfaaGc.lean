/- Contracts: slices.Index, slices.Contains of ints; node.placesMay, targetMay; the reference's MayTarget. -/
import Derived.Test.YtcmmopngjeonfaaGb
namespace Go.Proofs.Ytcmmopngjeonfaa
open Go.ChangeShapes Go.WideShapes Go.ChangeAt Go.RowKit
set_option linter.unusedVariables false
/-- May a place be? -/
def plAt (ps : List Int) (i : Nat) : Prop := ps.getD i 0 = -1 ∨ ((1 ≤ ps.getD i 0 ∧ ps.getD i 0 < 200) ∧ ps.getD i 0 ∉ ps.take i)
instance (ps : List Int) (i : Nat) : Decidable (plAt ps i) := by unfold plAt; infer_instance
def PlM (ps : List Int) : Prop := ∀ i, i < 5 → plAt ps i
instance (ps : List Int) : Decidable (PlM ps) := by unfold PlM; infer_instance
theorem plA_at (n : Nd) {k : Nat} (h : k < 5) : (plA n)[k]? = some (.int .i64 (n.ps.getD k 0)) := by
  match k, h with
  | 0, _ => rfl
  | 1, _ => rfl
  | 2, _ => rfl
  | 3, _ => rfl
  | 4, _ => rfl
theorem run_indexS (t : List Int) (ht : AllB t) {k : Nat} {y : Int} (h : t[k]? = some y) (w : World) : (Instr.index 9 (.string (strOfNums t)) (.int .i64 k)).run Try.prog w = .ok (.int .u8 y) w := by
  have hk := (List.getElem?_eq_some_iff.1 h).1
  have hy := ht y (List.mem_of_getElem? h)
  rw [run_index_string w _ _ _ _ Try.underlying9, dif_pos ⟨by omega, by rw [strOfNums_size]; omega⟩]
  congr 2
  have e1 : (strOfNums t).data.toList[k]? = some (UInt8.ofNat y.toNat) := by rw [strOfNums_data, List.getElem?_map, h]; rfl
  have hs : k < (strOfNums t).data.size := by
    have := strOfNums_size t
    show k < (strOfNums t).size
    omega
  have e2 : (strOfNums t).data[k]'hs = UInt8.ofNat y.toNat := by
    rw [Array.getElem?_toList, Array.getElem?_eq_getElem hs] at e1
    injection e1
  show (((strOfNums t).data[(k : Int).toNat]'_).toNat : Int) = y
  simp only [Int.toNat_natCast]
  rw [e2, UInt8.toNat_ofNat']
  omega
/-- May a target be? -/
def tgAt (t : List Int) (i : Nat) : Prop := 33 ≤ t.getD i 0 ∧ t.getD i 0 ≤ 126
instance (t : List Int) (i : Nat) : Decidable (tgAt t i) := by unfold tgAt; infer_instance
def TgM (t : List Int) : Prop := (1 ≤ t.length ∧ t.length ≤ 32) ∧ ∀ i, i < t.length → tgAt t i
instance (t : List Int) : Decidable (TgM t) := by unfold TgM; infer_instance
end Go.Proofs.Ytcmmopngjeonfaa
