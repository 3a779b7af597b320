/- Blocks, bodies as arguments by value, opened. -/
import Derived.Test.YtflldlhfeiamnaaBh
namespace Go.Proofs.Ytflldlhfeiamnaa
open Go.ChangeShapes Go.WideShapes Go.ChangeAt Go.RowKit
set_option linter.unusedVariables false
section
variable {H : Type} {enc : TypeId × Value → H} {w : World} {base : Nat} {spare : Nat → Bool} {held : Bool}
theorem cells22 : Try.prog.cellsOf 42 = 56 := by kernel_rfl
theorem cells24 : Try.prog.cellsOf 44 = 57 := by kernel_rfl
theorem cells3b : Try.prog.cellsOf 3 = 1 := by kernel_rfl
theorem take_one {α : Type} {l : List α} {i : Nat} {x : α} (h : (l.drop i).take 1 = [x]) : l[i]? = some x := by
  have : ((l.drop i).take 1)[0]? = some x := by rw [h]; rfl
  rw [List.getElem?_take, if_pos (by omega), List.getElem?_drop] at this
  exact this
theorem open_body {fuel : Nat} {cs : List Value} {x : DataW H × List MemPlace} (h : DataW.trod enc Try.prog w base spare held fuel 42 cs = some x) :
    ∃ bs : List Int, cs = Bs bs ∧ bs.length = 56 ∧ AllB bs := by
  obtain ⟨ys, m, _, rfl, hl, hys, hel⟩ := DataW.trod_array Try.underlying42 h
  rw [cells22] at hl
  have leaf : ∀ i, i < 56 → ∃ n : Int, cs[i]? = some (.int .u8 n) ∧ 0 ≤ n ∧ n < 256 := fun i hi => by
    have h1 := hel i hi
    rw [cells5', Nat.mul_one] at h1
    obtain ⟨y, hy⟩ : ∃ y, ys[i]? = some y := ⟨_, List.getElem?_eq_getElem (by omega)⟩
    rw [hy] at h1
    obtain ⟨n, e, _, hwf⟩ := DataW.trod_int Try.underlying5 h1
    have := bounds_u8 hwf
    exact ⟨n, take_one e, by omega, by omega⟩
  refine ⟨cs.map intOf, ?_, by simpa using hl, fun x hx => ?_⟩
  · apply List.ext_getElem?
    intro i
    by_cases hi : i < 56
    · obtain ⟨n, e, _⟩ := leaf i hi
      unfold Bs
      rw [List.getElem?_map, List.getElem?_map, e]; rfl
    · rw [List.getElem?_eq_none (by omega), List.getElem?_eq_none (by rw [Bs_length]; simp; omega)]
  · obtain ⟨v, hv, rfl⟩ := List.mem_map.1 hx
    obtain ⟨i, hi⟩ := List.getElem?_of_mem hv
    have hlt := (List.getElem?_eq_some_iff.1 hi).1
    obtain ⟨n, e, h1⟩ := leaf i (by omega)
    rw [e] at hi
    injection hi with hi
    subst hi
    exact h1
theorem open_blk {fuel : Nat} {cs : List Value} {x : DataW H × List MemPlace} (h : DataW.trod enc Try.prog w base spare held fuel 44 cs = some x) :
    ∃ (k : Int) (bs : List Int), cs = blkL k bs ∧ bs.length = 56 ∧ i64 k ∧ AllB bs := by
  have hS : Try.prog.underlying 44 = some (.struct (Try.prog.fieldsOf 44)) := by kernel_rfl
  obtain ⟨ys, m, _, rfl, hl, hys, hel⟩ := DataW.trod_struct hS h
  rw [cells24] at hl
  have hf : (Try.prog.fieldsOf 44).toList.map (fun f => (f.type, f.offset)) = [(3, 0), (42, 1)] := by kernel_rfl
  have hsz : (Try.prog.fieldsOf 44).size = 2 := by kernel_rfl
  obtain ⟨f0, f1, hfs⟩ := two_of (show (Try.prog.fieldsOf 44).toList.length = 2 by simpa using hsz)
  rw [hfs] at hf
  simp only [List.map_cons, List.map_nil, List.cons.injEq, Prod.mk.injEq, and_true] at hf
  obtain ⟨⟨t0, o0⟩, ⟨t1, o1⟩⟩ := hf
  have h0 := hel 0 f0 (by rw [← Array.getElem?_toList, hfs]; rfl)
  have h1 := hel 1 f1 (by rw [← Array.getElem?_toList, hfs]; rfl)
  rw [t0, o0] at h0
  rw [t1, o1] at h1
  rw [hsz] at hys
  obtain ⟨y0, hy0⟩ : ∃ y, ys[0]? = some y := ⟨_, List.getElem?_eq_getElem (by omega)⟩
  obtain ⟨y1, hy1⟩ : ∃ y, ys[1]? = some y := ⟨_, List.getElem?_eq_getElem (by omega)⟩
  rw [hy0] at h0
  rw [hy1] at h1
  obtain ⟨k, e0, _, hwf⟩ := DataW.trod_int Try.underlying3 h0
  obtain ⟨bs, e1, h56, hB⟩ := open_body h1
  rw [show Try.prog.cellsOf (3) = 1 from cells3b] at e0
  rw [show Try.prog.cellsOf (42) = 56 from cells22] at e1
  have c0 := take_one e0
  refine ⟨k, bs, ?_, h56, ?_, hB⟩
  · unfold blkL
    cases cs with
    | nil => cases c0
    | cons v l =>
      have hv : v = .int .i64 k := by simpa using c0
      have : (l.take 56) = Bs bs := e1
      rw [hv, ← this, List.take_of_length_le (by simp at hl; omega)]
  · have := bounds_i64 hwf
    constructor <;> omega
end
theorem okWide_row {P : Program} {w : World} {r : Reach} {base : Nat} {t e : TypeId} {n : Nat} {v : Value} (ht : P.underlying t = some (.array n e)) (h : Value.okWide P w r base t v) : ∃ cs, v = .agg cs ∧ cs.size = P.cellsOf t := by
  simp only [Value.okWide, ht] at h
  obtain ⟨cs, h1, h2, _⟩ := h
  exact ⟨cs, h1, h2⟩
/-- The bytes of a Seal, none where there is none. -/
def sealX (l k t : Int) (bs : List Int) : List Int := if MayB k t then sealB l k t.toNat bs else []
theorem sealX_allB {l k t : Int} {bs : List Int} (hl : 0 ≤ l ∧ l ≤ 255) (hB : AllB bs) : AllB (sealX l k t bs) := by
  unfold sealX
  split
  · rename_i h; exact sealB_allB hl h.1 hB
  · exact fun x hx => by cases hx
def SealE (l k t : Int) (bs : List Int) (B : Nat) (w : World) (e : Ending) (w' : World) : Prop :=
  ∃ A d, e = .returned (.tuple #[.slice A (sealX l k t bs).length d, .bool (decide (MayB k t))]) ∧ Byt w' A (sealX l k t bs) ∧ (sealX l k t bs).length ≤ d ∧ d ≤ 9223372036854775807 ∧ Below w.heap.size w w'
theorem kb {W W' : World} {g : Nat} {o : Obj} (hb : Below W.heap.size W W') (h : W.heap[g]? = some o) : W'.heap[g]? = some o := by rw [hb.block _ (room_lt h)]; exact h
end Go.Proofs.Ytflldlhfeiamnaa
