/- Contract: conf.Below, the walk. -/
import Derived.Test.YtfmpbofhaoijpaaC9
namespace Go.Proofs.Ytfmpbofhaoijpaa
open Go.ChangeShapes Go.WideShapes Go.ChangeAt Go.RowKit
open Go.Sort (swp insInner insOuter insertionSort)
set_option linter.unusedVariables false
theorem own_lit' {W : World} {b t : Nat} {l : List Value} {n : Nat} (hb : b ≤ W.heap.size) (hn : l.length = n) (hn2 : n ≤ 1000) (cs : Array Value) (hc : cs.toList = l) : (W.alloc (.cells cs t)).ownsRow b t 1 (.slice (some ⟨W.heap.size, 0, none⟩) n n) n l := by
  have hs : cs.size = n := by rw [← Array.length_toList, hc]; exact hn
  refine ⟨by omega, .inr ⟨W.heap.size, n, cs, rfl, hb, heap_alloc_new W _, Nat.le_refl _, by simp only [maxLen]; omega, by omega, ?_⟩⟩
  rw [← hc]; exact List.take_of_length_le (by simp; omega)
theorem take_sorted {C0 C : Array Value} {o m : Nat} {x : Int} {l : List Int} {d : Array Int} (h0 : C0.toList.take (1 + m) = Is (x :: l)) (hl : l.length = m) (h : RowC C0 C o d) (hd : d.size = m) (ho : o = 1 ∨ (o = 0 ∧ m = 0)) (hs : 1 + m ≤ C0.size) :
    C.toList.take (1 + m) = Is (x :: d.toList) := by
  apply List.ext_getElem?
  intro i
  by_cases hi : i < 1 + m
  · rw [List.getElem?_take_of_lt hi]
    rw [Array.getElem?_toList]
    cases i with
    | zero =>
      rw [h.else_ 0 (by omega), ← Array.getElem?_toList, ← List.getElem?_take_of_lt hi, h0]; rfl
    | succ j =>
      have e1 : o = 1 := by omega
      rw [show j + 1 = o + j by omega, h.here j (by omega)]
      have e2 : o + j = j + 1 := by omega
      rw [e2]
      unfold Is
      rw [List.map_cons, List.getElem?_cons_succ, List.getElem?_map, Array.getElem?_toList, getElem!_pos d j (by omega), Array.getElem?_eq_getElem (by omega)]
      rfl
  · rw [List.getElem?_eq_none (by rw [List.length_take, Array.length_toList]; omega), List.getElem?_eq_none (by unfold Is; simp; omega)]
theorem row_first {C0 : Array Value} {o m : Nat} {x : Int} {l : List Int} (h0 : C0.toList.take (1 + m) = Is (x :: l)) (hl : l.length = m) (ho : o = 1 ∨ (o = 0 ∧ m = 0)) (hs : 1 + m ≤ C0.size) : RowC C0 C0 o l.toArray := by
  refine ⟨rfl, by simp; omega, fun i hi => ?_, fun _ _ => rfl⟩
  have hi' : i < m := by simpa [hl] using hi
  have e1 : o = 1 := by omega
  subst e1
  rw [← Array.getElem?_toList, ← List.getElem?_take_of_lt (show 1 + i < 1 + m by omega), h0, show 1 + i = i + 1 by omega]
  unfold Is
  rw [List.map_cons, List.getElem?_cons_succ, List.getElem?_map, getElem!_pos l.toArray i hi, List.getElem_toArray, List.getElem?_eq_getElem (by omega)]
  rfl
theorem conf_far {W0 W W' : World} {A : Option Addr} {cs : List Sh} {g : Nat} (h : Conf W0 A cs) (hb : Below W0.heap.size W0 W) (hg : W.grownBy W' (some g)) (hlt : W0.heap.size ≤ g) : Conf W' A cs := fun i s hi => by
  obtain ⟨a, e, hs⟩ := h i s hi
  have k : ∀ {q : Addr} {v : Value}, W0.cell? q = some v → W'.cell? q = some v := fun {q v} hq => by
    have := World.block_lt_of_cell? W0 q hq
    exact hg.cell (keepC hb hq) (fun e => by injection e; omega)
  exact ⟨a, e, ⟨k hs.c0, k hs.c1, k hs.c2, k hs.c3, k hs.c4⟩⟩
end Go.Proofs.Ytfmpbofhaoijpaa
