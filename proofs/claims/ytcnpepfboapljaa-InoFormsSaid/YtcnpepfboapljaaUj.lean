/- IDs, seven bytes as arguments by value, opened. -/
import Derived.Test.YtcnpepfboapljaaUi
namespace Go.Proofs.Ytcnpepfboapljaa
open Go.ChangeShapes Go.WideShapes Go.ChangeAt Go.RowKit
set_option linter.unusedVariables false
section
variable {H : Type} {enc : TypeId × Value → H} {w : World} {base : Nat} {spare : Nat → Bool} {held : Bool}
theorem cells7 : Try.prog.cellsOf 32 = 7 := by kernel_rfl
theorem cellsID : Try.prog.cellsOf 24 = 3 := by kernel_rfl
theorem cellsI : Try.prog.cellsOf 3 = 1 := by kernel_rfl
theorem cellsU : Try.prog.cellsOf 22 = 1 := by kernel_rfl
theorem take_one {α : Type} {l : List α} {i : Nat} {x : α} (h : (l.drop i).take 1 = [x]) : l[i]? = some x := by
  have : ((l.drop i).take 1)[0]? = some x := by rw [h]; rfl
  rw [List.getElem?_take, if_pos (by omega), List.getElem?_drop] at this
  exact this
theorem open_arr7 {fuel : Nat} {cs : List Value} {x : DataW H × List MemPlace} (h : DataW.trod enc Try.prog w base spare held fuel 32 cs = some x) :
    ∃ bs : List Int, cs = Bs bs ∧ bs.length = 7 ∧ AllB bs := by
  obtain ⟨ys, m, _, rfl, hl, hys, hel⟩ := DataW.trod_array Try.underlying32 h
  rw [cells7] at hl
  have leaf : ∀ i, i < 7 → ∃ n : Int, cs[i]? = some (.int .u8 n) ∧ 0 ≤ n ∧ n < 256 := fun i hi => by
    have h1 := hel i hi
    rw [cells5', Nat.mul_one] at h1
    obtain ⟨y, hy⟩ : ∃ y, ys[i]? = some y := ⟨_, List.getElem?_eq_getElem (by omega)⟩
    rw [hy] at h1
    obtain ⟨n, e, _, hwf⟩ := DataW.trod_int Try.underlying5 h1
    have := bounds_u8 hwf
    exact ⟨n, take_one e, by omega, by omega⟩
  refine ⟨cs.map intOf, ?_, by simpa using hl, fun x hx => ?_⟩
  · apply List.ext_getElem?
    intro i
    by_cases hi : i < 7
    · obtain ⟨n, e, _⟩ := leaf i hi
      unfold Bs
      rw [List.getElem?_map, List.getElem?_map, e]; rfl
    · rw [List.getElem?_eq_none (by omega), List.getElem?_eq_none (by rw [Bs_length]; simp; omega)]
  · obtain ⟨v, hv, rfl⟩ := List.mem_map.1 hx
    obtain ⟨i, hi⟩ := List.getElem?_of_mem hv
    have hlt := (List.getElem?_eq_some_iff.1 hi).1
    obtain ⟨n, e, h1⟩ := leaf i (by omega)
    rw [e] at hi
    injection hi with hi
    subst hi
    exact h1
theorem three_of {α : Type} {l : List α} (h : l.length = 3) : ∃ a b c, l = [a, b, c] := by
  match l, h with
  | [a, b, c], _ => exact ⟨a, b, c, rfl⟩
theorem open_id {fuel : Nat} {cs : List Value} {x : DataW H × List MemPlace} (h : DataW.trod enc Try.prog w base spare held fuel 24 cs = some x) :
    ∃ l a g : Int, cs = [.int .i64 l, .int .i64 a, .int .u32 g] ∧ i64 l ∧ i64 a ∧ u32 g := by
  have hS : Try.prog.underlying 24 = some (.struct (Try.prog.fieldsOf 24)) := by kernel_rfl
  obtain ⟨ys, m, _, rfl, hl, hys, hel⟩ := DataW.trod_struct hS h
  rw [cellsID] at hl
  have hf : (Try.prog.fieldsOf 24).toList.map (fun f => (f.type, f.offset)) = [(3, 0), (3, 1), (22, 2)] := by kernel_rfl
  have hsz : (Try.prog.fieldsOf 24).size = 3 := by kernel_rfl
  obtain ⟨f0, f1, f2, hfs⟩ := three_of (show (Try.prog.fieldsOf 24).toList.length = 3 by simpa using hsz)
  rw [hfs] at hf
  simp only [List.map_cons, List.map_nil, List.cons.injEq, Prod.mk.injEq, and_true] at hf
  obtain ⟨⟨t0, o0⟩, ⟨t1, o1⟩, ⟨t2, o2⟩⟩ := hf
  have h0 := hel 0 f0 (by rw [← Array.getElem?_toList, hfs]; rfl)
  have h1 := hel 1 f1 (by rw [← Array.getElem?_toList, hfs]; rfl)
  have h2 := hel 2 f2 (by rw [← Array.getElem?_toList, hfs]; rfl)
  rw [t0, o0] at h0
  rw [t1, o1] at h1
  rw [t2, o2] at h2
  rw [hsz] at hys
  obtain ⟨y0, hy0⟩ : ∃ y, ys[0]? = some y := ⟨_, List.getElem?_eq_getElem (by omega)⟩
  obtain ⟨y1, hy1⟩ : ∃ y, ys[1]? = some y := ⟨_, List.getElem?_eq_getElem (by omega)⟩
  obtain ⟨y2, hy2⟩ : ∃ y, ys[2]? = some y := ⟨_, List.getElem?_eq_getElem (by omega)⟩
  rw [hy0] at h0
  rw [hy1] at h1
  rw [hy2] at h2
  obtain ⟨l, e0, _, w0⟩ := DataW.trod_int Try.underlying3 h0
  obtain ⟨a, e1, _, w1⟩ := DataW.trod_int Try.underlying3 h1
  obtain ⟨g, e2, _, w2⟩ := DataW.trod_int Try.underlying22 h2
  rw [show Try.prog.cellsOf (3) = 1 from cellsI] at e0 e1
  rw [show Try.prog.cellsOf (22) = 1 from cellsU] at e2
  have c0 := take_one e0
  have c1 := take_one e1
  have c2 := take_one e2
  refine ⟨l, a, g, ?_, wf_i64 w0, wf_i64 w1, by have := bounds_u32 w2; constructor <;> omega⟩
  match cs, hl with
  | [v0, v1, v2], _ =>
    simp at c0 c1 c2
    rw [c0, c1, c2]
end
theorem okWide_row {P : Program} {w : World} {r : Reach} {base : Nat} {t e : TypeId} {n : Nat} {v : Value} (ht : P.underlying t = some (.array n e)) (h : Value.okWide P w r base t v) : ∃ cs, v = .agg cs ∧ cs.size = P.cellsOf t := by
  simp only [Value.okWide, ht] at h
  obtain ⟨cs, h1, h2, _⟩ := h
  exact ⟨cs, h1, h2⟩
end Go.Proofs.Ytcnpepfboapljaa
