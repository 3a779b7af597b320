/- Strings as bytes: laid by a conversion. (dev's names with a stroke: for seats that have not dev.) -/
import Derived.Test.YtcnpepfboapljaaNm
import Derived.Laws.IdiomStrings
namespace Go.Proofs.Ytcnpepfboapljaa
open Go.ChangeShapes Go.WideShapes Go.ChangeAt Go.RowKit
set_option linter.unusedVariables false
theorem nums_at' (b : List Int) (hb : AllB b) (j : Nat) (x : Int) (hx : b[j]? = some x) (cap : Nat) : (bytesRow (strOfNums b) cap)[j]? = some (.int .u8 x) := by
  have hl := (List.getElem?_eq_some_iff.1 hx).1
  have hj : j < (strOfNums b).data.size := by
    show j < (strOfNums b).size
    rw [strOfNums_size]; exact hl
  rw [bytesRow_at _ _ _ hj]
  have hxb := hb x (List.mem_of_getElem? hx)
  have e : (strOfNums b).data.toList = b.map fun n => UInt8.ofNat n.toNat := by rw [← ByteArray.toList_eq]; exact strOfNums_toList b
  have e2 : (strOfNums b).data[j] = UInt8.ofNat x.toNat := by
    have h1 : (strOfNums b).data.toList[j]? = some (UInt8.ofNat x.toNat) := by rw [e, List.getElem?_map, hx]; rfl
    rw [Array.getElem?_toList, Array.getElem?_eq_getElem hj] at h1
    injection h1
  rw [e2]
  congr 2
  rw [UInt8.toNat_ofNat']
  omega
/-- A string's bytes, laid: a new block. -/
theorem conv_str (b : List Int) (hb : AllB b) (hl : b.length ≤ 1000000) (w : World) : ∃ d W', (convert 9 25 (.string (strOfNums b))).run Try.prog w = .ok (.slice (some ⟨w.heap.size, 0, none⟩) b.length d) W' ∧ b.length ≤ d ∧ d ≤ 9223372036854775807 ∧ Byt W' (some ⟨w.heap.size, 0, none⟩) b ∧ Below w.heap.size w W' := by
  have hr := run_bytes_of_string (P := Try.prog) w 9 25 5 (strOfNums b) Try.underlying9 Try.underlying25 Try.underlying5
  rw [strOfNums_size] at hr
  have hge := grownCap_ge w b.length 0 5
  have hle : grownCap w b.length 0 5 ≤ maxLen := grownCap_le_maxLen w b.length 0 _ (by simp only [maxLen]; omega)
  simp only [maxLen] at hle
  refine ⟨_, _, hr, hge, by omega, fun j x hx => ⟨_, rfl, ?_⟩, (bdn (Below.refl _ _) 1).alloc (Nat.le_refl _) _⟩
  rw [add_at]
  exact (blk_cell (heap_alloc_new w.drew _) j).trans (nums_at' b hb j x hx _)
section
variable {ops : Array Oper} {rest : List Oper} {o : Oper} {a : Act} {w : World} {Q : Exit → Act → World → Prop}
theorem wp_convS {K : Act → World → Prop} (x : Operand) (ho : o.op = .convert 9 25 x) (b : List Int) (hx : a.eval x = .string (strOfNums b)) (hb : AllB b) (hl : b.length ≤ 1000000)
    (h : ∀ d W', b.length ≤ d → d ≤ 9223372036854775807 → Byt W' (some ⟨w.heap.size, 0, none⟩) b → Below w.heap.size w W' → K (a.put o.dst (.slice (some ⟨w.heap.size, 0, none⟩) b.length d)) W') : o.wp Try.prog a w K Q := by
  obtain ⟨d, W', hr, h1, h2, h3, h4⟩ := conv_str b hb hl w
  unfold Oper.wp execOp
  simp only [ho, hx, Sem.run_bind, hr, Sem.run_pure, Result.andThen_ok]
  exact h d W' h1 h2 h3 h4
theorem wpList_convS (hgd : o.guard = none) (x : Operand) (ho : o.op = .convert 9 25 x) (b : List Int) (hx : a.eval x = .string (strOfNums b)) (hb : AllB b) (hl : b.length ≤ 1000000)
    (h : ∀ d W', b.length ≤ d → d ≤ 9223372036854775807 → Byt W' (some ⟨w.heap.size, 0, none⟩) b → Below w.heap.size w W' → wpList Try.prog ops Q rest (a.put o.dst (.slice (some ⟨w.heap.size, 0, none⟩) b.length d)) W') : wpList Try.prog ops Q (o :: rest) a w :=
  wpList_plain hgd fun _ hK => wp_convS x ho b hx hb hl fun d W' h1 h2 h3 h4 => hK _ _ (h d W' h1 h2 h3 h4)
end
end Go.Proofs.Ytcnpepfboapljaa
