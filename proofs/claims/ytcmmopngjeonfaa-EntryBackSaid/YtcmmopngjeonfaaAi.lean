/- Rows of ints behind a slice; append of ints, also in a region that draws its order: what it keeps of every block. (K4's and Ap's laws of bytes, for ints.) -/
import Derived.Test.YtcmmopngjeonfaaAp
namespace Go.Proofs.Ytcmmopngjeonfaa
open Go.ChangeShapes Go.WideShapes Go.ChangeAt Go.RowKit
set_option linter.unusedVariables false
/-- The cells of ints. -/
def Is (xs : List Int) : List Value := xs.map (.int .i64)
/-- Ints lie behind a slice. -/
def Nts (w : World) (A : Option Addr) (xs : List Int) : Prop := ∀ i x, xs[i]? = some x → ∃ a, A = some a ∧ w.cell? (a.add i) = some (.int .i64 x)
theorem Is_at {xs : List Int} {i : Nat} {x : Int} (h : xs[i]? = some x) : (Is xs)[i]? = some (.int .i64 x) := by unfold Is; rw [List.getElem?_map, h]; rfl
theorem Is_length (xs : List Int) : (Is xs).length = xs.length := by unfold Is; simp
theorem Nts.keep {w w' : World} {A : Option Addr} {xs : List Int} (h : Nts w A xs) (hb : Below w.heap.size w w') : Nts w' A xs := fun i x hi =>
  let ⟨a, e, hs⟩ := h i x hi; ⟨a, e, keepC hb hs⟩
theorem Nts.alloc {w : World} {A : Option Addr} {xs : List Int} (h : Nts w A xs) (o : Obj) : Nts (w.alloc o) A xs := fun i x hi =>
  let ⟨a, e, hs⟩ := h i x hi; ⟨a, e, keepA hs o⟩
theorem Nts.take {w : World} {A : Option Addr} {xs : List Int} (h : Nts w A xs) (k : Nat) : Nts w A (xs.take k) := fun i x hi => h i x (by
  rw [List.getElem?_take] at hi; split at hi; exact hi; cases hi)
theorem nts_blk {W : World} {r : Nat} {C : Array Value} {t : TypeId} {fr : Nat × Nat} {bs : List Int} (h : W.heap[r]? = some (.cells C t fr)) (hc : C.toList = Is bs) : Nts W (some ⟨r, 0, none⟩) bs := by
  intro i x hi
  refine ⟨_, rfl, ?_⟩
  rw [add_at, cell_of_row _ _ _ _ _ _ h, ← Array.getElem?_toList, hc]
  exact Is_at hi
/-- Ntses that a call owns. -/
theorem nts_own {W : World} {B : Nat} {t : TypeId} {sv : Value} {n : Nat} {bs : List Int} (h : W.ownsRow B t 1 sv n (Is bs)) (hn : bs.length = n) :
    ∃ A d, sv = .slice A bs.length d ∧ bs.length ≤ d ∧ d ≤ 9223372036854775807 ∧ Nts W A bs := by
  subst hn
  rcases h.2 with ⟨rfl, h0⟩ | ⟨g, cap, cur, rfl, hb, hg, hn', hm, hs, ht⟩
  · refine ⟨none, 0, by rw [h0], by omega, by omega, fun i s hi => ?_⟩
    rw [List.length_eq_zero_iff.1 h0] at hi; cases hi
  · refine ⟨some ⟨g, 0, none⟩, cap, rfl, hn', by simp only [maxLen] at hm; omega, fun i s hi => ⟨_, rfl, ?_⟩⟩
    exact h.cells (g := g) rfl _ _ (Is_at hi)
theorem infoI : (Try.prog.info? 3).map (fun i => (i.zero, i.size, i.bytes)) = some (some (.int .i64 0), 1, 8) := by kernel_rfl
theorem Is_one (l : List Int) : ∀ u ∈ Is l, u.oneCell' = true := by
  intro u hu; unfold Is at hu; obtain ⟨x, _, rfl⟩ := List.mem_map.1 hu; rfl
theorem Is_append (l m : List Int) : Is (l ++ m) = Is l ++ Is m := List.map_append
end Go.Proofs.Ytcmmopngjeonfaa
