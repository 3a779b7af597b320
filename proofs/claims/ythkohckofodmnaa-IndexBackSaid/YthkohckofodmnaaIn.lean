/- For the law IndexBack: sixteen bytes as an argument, the places that they say. -/
import Derived.Test.YthkohckofodmnaaIl
namespace Go.Proofs.Ythkohckofodmnaa
open Go.ChangeShapes Go.WideShapes Go.ChangeAt Go.RowKit Go.Deep
set_option linter.unusedVariables false
section
variable {H : Type} {enc : TypeId × Value → H} {w : World} {base : Nat} {spare : Nat → Bool} {held : Bool}
theorem cells16 : Try.prog.cellsOf 43 = 16 := by kernel_rfl
theorem open_arr16 {fuel : Nat} {cs : List Value} {x : DataW H × List MemPlace} (h : DataW.trod enc Try.prog w base spare held fuel 43 cs = some x) :
    ∃ bs : List Int, cs = Bs bs ∧ bs.length = 16 ∧ AllB bs := by
  obtain ⟨ys, m, _, rfl, hl, hys, hel⟩ := DataW.trod_array Try.underlying43 h
  rw [cells16] at hl
  have leaf : ∀ i, i < 16 → ∃ n : Int, cs[i]? = some (.int .u8 n) ∧ 0 ≤ n ∧ n < 256 := fun i hi => by
    have h1 := hel i hi
    rw [cells5', Nat.mul_one] at h1
    obtain ⟨y, hy⟩ : ∃ y, ys[i]? = some y := ⟨_, List.getElem?_eq_getElem (by omega)⟩
    rw [hy] at h1
    obtain ⟨n, e, _, hwf⟩ := DataW.trod_int Try.underlying5 h1
    have := bounds_u8 hwf
    exact ⟨n, take_one e, by omega, by omega⟩
  refine ⟨cs.map intOf, ?_, by simpa using hl, fun x hx => ?_⟩
  · apply List.ext_getElem?
    intro i
    by_cases hi : i < 16
    · obtain ⟨n, e, _⟩ := leaf i hi
      unfold Bs
      rw [List.getElem?_map, List.getElem?_map, e]; rfl
    · rw [List.getElem?_eq_none (by omega), List.getElem?_eq_none (by rw [Bs_length]; simp; omega)]
  · obtain ⟨v, hv, rfl⟩ := List.mem_map.1 hx
    obtain ⟨i, hi⟩ := List.getElem?_of_mem hv
    have hlt := (List.getElem?_eq_some_iff.1 hi).1
    obtain ⟨n, e, h1⟩ := leaf i (by omega)
    rw [e] at hi
    injection hi with hi
    subst hi
    exact h1
end
/-- The places that bytes say. -/
def gX (b : Int) : Int := if b % 200 - 1 = 0 then -1 else b % 200 - 1
def gL (g : List Int) : List Int := g.map gX
theorem gX_rng (b : Int) : gX b = -1 ∨ (1 ≤ gX b ∧ gX b < 200) := by unfold gX; split <;> omega
theorem gL_length (g : List Int) : (gL g).length = g.length := by unfold gL; simp
theorem gL_at {g : List Int} {i : Nat} {b : Int} (h : g[i]? = some b) : (gL g)[i]? = some (gX b) := by unfold gL; rw [List.getElem?_map, h]; rfl
theorem okP_next {l : List Int} {j : Nat} {x : Int} (h : l[j]? = some x) (hx : x = -1 ∨ (1 ≤ x ∧ x < 200)) : (!okP l (j + 1)) = (!okP l j || (x != -1 && (l.take j).contains x)) := by
  rw [okP_at h]
  unfold okX
  rcases hx with rfl | ⟨h1, h2⟩
  · simp
  · have h3 : (x == -1) = false := by simp; omega
    have h4 : (x != -1) = true := by simp; omega
    rw [h3, h4, decide_eq_true h1, decide_eq_true h2]
    cases okP l j <;> simp
theorem take_has {l : List Int} {k : Nat} {x y : Int} (h : l[k]? = some y) : (l.take (k + 1)).contains x = ((l.take k).contains x || y == x) := by
  rw [take_snoc' h, Bool.eq_iff_iff]
  simp only [List.contains_iff_mem, List.mem_append, List.mem_singleton, Bool.or_eq_true, beq_iff_eq]
  constructor
  · rintro (h | h)
    · exact .inl h
    · exact .inr h.symm
  · rintro (h | h)
    · exact .inl h
    · exact .inr h.symm
/-- An index comes back. -/
theorem encL_get : ∀ (l : List Int) (i : Nat) (x : Int), l[i]? = some x → (encL l)[i * 2]? = some 0 ∧ (encL l)[i * 2 + 1]? = some (x + 1)
  | [], i, x, h => by cases h
  | y :: l, 0, x, h => by injection h with h; subst h; exact ⟨rfl, rfl⟩
  | y :: l, i + 1, x, h => by
    have h1 := encL_get l i x h
    rw [show (i + 1) * 2 = i * 2 + 1 + 1 by omega]
    exact ⟨by simpa [encL] using h1.1, by simpa [encL] using h1.2⟩
theorem rd_enc {l : List Int} (h : l.length = 16) : rdL (pad (encL l)) = l := by
  apply List.ext_getElem?
  intro i
  by_cases hi : i < 16
  · obtain ⟨x, hx⟩ : ∃ x, l[i]? = some x := ⟨_, List.getElem?_eq_getElem (by omega)⟩
    obtain ⟨h1, h2⟩ := encL_get l i x hx
    rw [rdL_at _ hi, hx]
    congr 1
    unfold rdX pad
    rw [List.getD, List.getD, List.getElem?_append_left (List.getElem?_eq_some_iff.1 h1).1, List.getElem?_append_left (List.getElem?_eq_some_iff.1 h2).1, h1, h2]
    show (0 : Int) * 256 + (x + 1) - 1 = x
    omega
  · rw [List.getElem?_eq_none (by rw [rdL_length]; omega), List.getElem?_eq_none (by omega)]
theorem tk_yes {l : List Int} (h : mayB l = true) : tkB 5 (pad (encL l)) = true ∧ tkL 5 (pad (encL l)) = l := by
  have e := rd_enc (mayB_len h)
  have h1 : tkB 5 (pad (encL l)) = true := by unfold tkB; rw [e, h]; simp
  exact ⟨h1, by unfold tkL; rw [if_pos h1, e]⟩
theorem tk_zero : tkB 0 zBs = false := by unfold tkB; simp
/-- Where IndexBack stands: its bytes, the places so far. -/
structure JBI (w : World) (p : Nat) (g : List Int) (v : Value) (n : Nat) (ys : List Int) (W : World) : Prop where
  bel : Below p w W
  sz : p + 1 ≤ W.heap.size
  blk : W.heap[p]? = some (.cells (Bs g).toArray 43 (0, 0))
  own : W.ownsRow (p + 1) 3 1 v n (Is ys)
theorem JBI.below {w W W' : World} {p n : Nat} {g : List Int} {v : Value} {ys : List Int} (h : JBI w p g v n ys W) (hb : Below W.heap.size W W') : JBI w p g v n ys W' :=
  ⟨h.bel.trans (hb.mono (by have := h.sz; omega)), Nat.le_trans h.sz hb.size, kb hb h.blk, ownB h.own hb⟩
theorem JBI.push {w W W' : World} {p n m : Nat} {g : List Int} {v v' : Value} {ys zs : List Int} (h : JBI w p g v n ys W) (ho : W'.ownsRow (p + 1) 3 1 v' m (Is zs)) (hg : W.grownBy W' v.ownBlock) : JBI w p g v' m zs W' :=
  ⟨h.bel.grown hg (by have := h.sz; omega) (fun j e => by have := (h.own.lt j e).1; omega), Nat.le_trans h.sz hg.size, by rw [hg.block p (room_lt h.blk) (fun e => by have := (h.own.lt p e.symm).1; omega)]; exact h.blk, ho⟩
end Go.Proofs.Ythkohckofodmnaa
