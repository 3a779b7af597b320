/- Nodes as arguments by value, opened. -/
import Derived.Test.YtebahdiiokfkfaaGm
namespace Go.Proofs.Ytebahdiiokfkfaa
open Go.ChangeShapes Go.WideShapes Go.ChangeAt Go.RowKit
set_option linter.unusedVariables false
/-- Any string is that of its bytes. -/
theorem str_nums (s : ByteArray) : ∃ t : List Int, s = strOfNums t ∧ AllB t ∧ t.length = s.size := by
  refine ⟨s.data.toList.map fun x => (x.toNat : Int), ?_, fun x hx => ?_, ?_⟩
  · apply ByteArray.ext
    apply Array.toList_inj.1
    rw [strOfNums_data, List.map_map]
    conv => lhs; rw [← List.map_id s.data.toList]
    apply List.map_congr_left
    intro x _
    simp
  · obtain ⟨b, _, rfl⟩ := List.mem_map.1 hx
    have := b.toNat_lt
    omega
  · rw [List.length_map, Array.length_toList]; rfl
section
variable {H : Type} {enc : TypeId × Value → H} {w : World} {base : Nat} {spare : Nat → Bool} {held : Bool}
theorem cellsN : Try.prog.cellsOf 25 = 9 := by kernel_rfl
theorem cells4 : Try.prog.cellsOf 23 = 4 := by kernel_rfl
theorem cellsU : Try.prog.cellsOf 22 = 1 := by kernel_rfl
theorem cellsS : Try.prog.cellsOf 9 = 1 := by kernel_rfl
theorem six_of {α : Type} {l : List α} (h : l.length = 6) : ∃ a b c d e f, l = [a, b, c, d, e, f] := by
  match l, h with
  | [a, b, c, d, e, f], _ => exact ⟨a, b, c, d, e, f, rfl⟩
theorem four_of {α : Type} {l : List α} (h : l.length = 4) : ∃ a b c d, l = [a, b, c, d] := by
  match l, h with
  | [a, b, c, d], _ => exact ⟨a, b, c, d, rfl⟩
theorem nine_of {α : Type} {l : List α} (h : l.length = 9) : ∃ a b c d e f g i j, l = [a, b, c, d, e, f, g, i, j] := by
  match l, h with
  | [a, b, c, d, e, f, g, i, j], _ => exact ⟨a, b, c, d, e, f, g, i, j, rfl⟩
theorem open_arr4 {fuel : Nat} {cs : List Value} {x : DataW H × List MemPlace} (h : DataW.trod enc Try.prog w base spare held fuel 23 cs = some x) :
    ∃ a b c d : Int, cs = [.int .i64 a, .int .i64 b, .int .i64 c, .int .i64 d] ∧ i64 a ∧ i64 b ∧ i64 c ∧ i64 d := by
  obtain ⟨ys, m, _, rfl, hl, hys, hel⟩ := DataW.trod_array Try.underlying23 h
  rw [cells4] at hl
  have leaf : ∀ i, i < 4 → ∃ n : Int, cs[i]? = some (.int .i64 n) ∧ i64 n := fun i hi => by
    have h1 := hel i hi
    rw [cells3b, Nat.mul_one] at h1
    obtain ⟨y, hy⟩ : ∃ y, ys[i]? = some y := ⟨_, List.getElem?_eq_getElem (by omega)⟩
    rw [hy] at h1
    obtain ⟨n, e, _, hwf⟩ := DataW.trod_int Try.underlying3 h1
    exact ⟨n, take_one e, wf_i64 hwf⟩
  obtain ⟨a, ha, ka⟩ := leaf 0 (by omega)
  obtain ⟨b, hb, kb⟩ := leaf 1 (by omega)
  obtain ⟨c, hc, kc⟩ := leaf 2 (by omega)
  obtain ⟨d, hd, kd⟩ := leaf 3 (by omega)
  refine ⟨a, b, c, d, ?_, ka, kb, kc, kd⟩
  obtain ⟨v0, v1, v2, v3, rfl⟩ := four_of hl
  simp at ha hb hc hd
  rw [ha, hb, hc, hd]
theorem open_nd {fuel : Nat} {cs : List Value} {x : DataW H × List MemPlace} (h : DataW.trod enc Try.prog w base spare held fuel 25 cs = some x) :
    ∃ n : Nd, cs = (ndA n).toList ∧ NdOk n := by
  have hS : Try.prog.underlying 25 = some (.struct (Try.prog.fieldsOf 25)) := by kernel_rfl
  obtain ⟨ys, m, _, rfl, hl, hys, hel⟩ := DataW.trod_struct hS h
  rw [cellsN] at hl
  have hf : (Try.prog.fieldsOf 25).toList.map (fun f => (f.type, f.offset)) = [(22, 0), (3, 1), (3, 2), (23, 3), (3, 7), (9, 8)] := by kernel_rfl
  have hsz : (Try.prog.fieldsOf 25).size = 6 := by kernel_rfl
  obtain ⟨f0, f1, f2, f3, f4, f5, hfs⟩ := six_of (show (Try.prog.fieldsOf 25).toList.length = 6 by simpa using hsz)
  rw [hfs] at hf
  simp only [List.map_cons, List.map_nil, List.cons.injEq, Prod.mk.injEq, and_true] at hf
  obtain ⟨⟨t0, o0⟩, ⟨t1, o1⟩, ⟨t2, o2⟩, ⟨t3, o3⟩, ⟨t4, o4⟩, ⟨t5, o5⟩⟩ := hf
  have h0 := hel 0 f0 (by rw [← Array.getElem?_toList, hfs]; rfl)
  have h1 := hel 1 f1 (by rw [← Array.getElem?_toList, hfs]; rfl)
  have h2 := hel 2 f2 (by rw [← Array.getElem?_toList, hfs]; rfl)
  have h3 := hel 3 f3 (by rw [← Array.getElem?_toList, hfs]; rfl)
  have h4 := hel 4 f4 (by rw [← Array.getElem?_toList, hfs]; rfl)
  have h5 := hel 5 f5 (by rw [← Array.getElem?_toList, hfs]; rfl)
  rw [t0, o0] at h0
  rw [t1, o1] at h1
  rw [t2, o2] at h2
  rw [t3, o3] at h3
  rw [t4, o4] at h4
  rw [t5, o5] at h5
  rw [hsz] at hys
  obtain ⟨y0, hy0⟩ : ∃ y, ys[0]? = some y := ⟨_, List.getElem?_eq_getElem (by omega)⟩
  obtain ⟨y1, hy1⟩ : ∃ y, ys[1]? = some y := ⟨_, List.getElem?_eq_getElem (by omega)⟩
  obtain ⟨y2, hy2⟩ : ∃ y, ys[2]? = some y := ⟨_, List.getElem?_eq_getElem (by omega)⟩
  obtain ⟨y3, hy3⟩ : ∃ y, ys[3]? = some y := ⟨_, List.getElem?_eq_getElem (by omega)⟩
  obtain ⟨y4, hy4⟩ : ∃ y, ys[4]? = some y := ⟨_, List.getElem?_eq_getElem (by omega)⟩
  obtain ⟨y5, hy5⟩ : ∃ y, ys[5]? = some y := ⟨_, List.getElem?_eq_getElem (by omega)⟩
  rw [hy0] at h0
  rw [hy1] at h1
  rw [hy2] at h2
  rw [hy3] at h3
  rw [hy4] at h4
  rw [hy5] at h5
  obtain ⟨g, e0, _, w0⟩ := DataW.trod_int Try.underlying22 h0
  obtain ⟨l, e1, _, w1⟩ := DataW.trod_int Try.underlying3 h1
  obtain ⟨s, e2, _, w2⟩ := DataW.trod_int Try.underlying3 h2
  obtain ⟨a, b, c, d, e3, ka, kb, kc, kd⟩ := open_arr4 h3
  obtain ⟨xx, e4, _, w4⟩ := DataW.trod_int Try.underlying3 h4
  obtain ⟨st, e5, _, w5⟩ := DataW.trod_string Try.underlying9 h5
  obtain ⟨t, rfl, ht, hlt⟩ := str_nums st
  rw [show Try.prog.cellsOf (3) = 1 from cells3b] at e1 e2 e4
  rw [show Try.prog.cellsOf (22) = 1 from cellsU] at e0
  rw [show Try.prog.cellsOf (23) = 4 from cells4] at e3
  rw [show Try.prog.cellsOf (9) = 1 from cellsS] at e5
  have c0 := take_one e0
  have c1 := take_one e1
  have c2 := take_one e2
  have c4 := take_one e4
  have c5 := take_one e5
  refine ⟨⟨g, l, s, a, b, c, d, xx, t⟩, ?_, ⟨by have := bounds_u32 w0; unfold u32; omega, wf_i64 w1, wf_i64 w2, ka, kb, kc, kd, wf_i64 w4, ht, by rw [hlt]; simp only [maxLen] at w5; omega⟩⟩
  obtain ⟨v0, v1, v2, v3, v4, v5, v6, v7, v8, rfl⟩ := nine_of hl
  simp at c0 c1 c2 c4 c5 e3
  obtain ⟨q3, q4, q5, q6⟩ := e3
  rw [c0, c1, c2, c4, c5, q3, q4, q5, q6]
  rfl
end
end Go.Proofs.Ytebahdiiokfkfaa
