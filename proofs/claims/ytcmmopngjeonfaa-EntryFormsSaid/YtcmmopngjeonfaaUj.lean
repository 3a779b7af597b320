/- IDs, seven bytes as arguments by value, opened. -/
import Derived.Test.YtcmmopngjeonfaaUi
namespace Go.Proofs.Ytcmmopngjeonfaa
open Go.ChangeShapes Go.WideShapes Go.ChangeAt Go.RowKit
set_option linter.unusedVariables false
section
variable {H : Type} {enc : TypeId × Value → H} {w : World} {base : Nat} {spare : Nat → Bool} {held : Bool}
theorem cellsID : Try.prog.cellsOf 24 = 3 := by kernel_rfl
theorem cellsI : Try.prog.cellsOf 3 = 1 := by kernel_rfl
theorem icellsU : Try.prog.cellsOf 22 = 1 := by kernel_rfl
theorem three_of {α : Type} {l : List α} (h : l.length = 3) : ∃ a b c, l = [a, b, c] := by
  match l, h with
  | [a, b, c], _ => exact ⟨a, b, c, rfl⟩
theorem open_id {fuel : Nat} {cs : List Value} {x : DataW H × List MemPlace} (h : DataW.trod enc Try.prog w base spare held fuel 24 cs = some x) :
    ∃ l a g : Int, cs = [.int .i64 l, .int .i64 a, .int .u32 g] ∧ i64 l ∧ i64 a ∧ u32 g := by
  have hS : Try.prog.underlying 24 = some (.struct (Try.prog.fieldsOf 24)) := by kernel_rfl
  obtain ⟨ys, m, _, rfl, hl, hys, hel⟩ := DataW.trod_struct hS h
  rw [cellsID] at hl
  have hf : (Try.prog.fieldsOf 24).toList.map (fun f => (f.type, f.offset)) = [(3, 0), (3, 1), (22, 2)] := by kernel_rfl
  have hsz : (Try.prog.fieldsOf 24).size = 3 := by kernel_rfl
  obtain ⟨f0, f1, f2, hfs⟩ := three_of (show (Try.prog.fieldsOf 24).toList.length = 3 by simpa using hsz)
  rw [hfs] at hf
  simp only [List.map_cons, List.map_nil, List.cons.injEq, Prod.mk.injEq, and_true] at hf
  obtain ⟨⟨t0, o0⟩, ⟨t1, o1⟩, ⟨t2, o2⟩⟩ := hf
  have h0 := hel 0 f0 (by rw [← Array.getElem?_toList, hfs]; rfl)
  have h1 := hel 1 f1 (by rw [← Array.getElem?_toList, hfs]; rfl)
  have h2 := hel 2 f2 (by rw [← Array.getElem?_toList, hfs]; rfl)
  rw [t0, o0] at h0
  rw [t1, o1] at h1
  rw [t2, o2] at h2
  rw [hsz] at hys
  obtain ⟨y0, hy0⟩ : ∃ y, ys[0]? = some y := ⟨_, List.getElem?_eq_getElem (by omega)⟩
  obtain ⟨y1, hy1⟩ : ∃ y, ys[1]? = some y := ⟨_, List.getElem?_eq_getElem (by omega)⟩
  obtain ⟨y2, hy2⟩ : ∃ y, ys[2]? = some y := ⟨_, List.getElem?_eq_getElem (by omega)⟩
  rw [hy0] at h0
  rw [hy1] at h1
  rw [hy2] at h2
  obtain ⟨l, e0, _, w0⟩ := DataW.trod_int Try.underlying3 h0
  obtain ⟨a, e1, _, w1⟩ := DataW.trod_int Try.underlying3 h1
  obtain ⟨g, e2, _, w2⟩ := DataW.trod_int Try.underlying22 h2
  rw [show Try.prog.cellsOf (3) = 1 from cellsI] at e0 e1
  rw [show Try.prog.cellsOf (22) = 1 from icellsU] at e2
  have c0 := take_one e0
  have c1 := take_one e1
  have c2 := take_one e2
  refine ⟨l, a, g, ?_, wf_i64 w0, wf_i64 w1, by have := bounds_u32 w2; constructor <;> omega⟩
  match cs, hl with
  | [v0, v1, v2], _ =>
    simp at c0 c1 c2
    rw [c0, c1, c2]
end
end Go.Proofs.Ytcmmopngjeonfaa
