/- Contracts: Out, Intact (bytes handed out, with a tail in the same room). -/
import Derived.Test.YtcmmopngjeonfaaK3
namespace Go.Proofs.Ytcmmopngjeonfaa
open Go.ChangeShapes Go.WideShapes Go.ChangeAt Go.RowKit
set_option linter.unusedVariables false
theorem info5 : (Try.prog.info? 5).map (fun i => (i.zero, i.size, i.bytes)) = some (some (.int .u8 0), 1, 1) := by kernel_rfl
def patB (i : Nat) : Int := 60 + (i : Int) % 7
/-- The room's cells, so many set: first the pattern (k), then the bytes (j). -/
structure RoomC (C : Array Value) (n : Nat) (bs : List Int) (k j : Nat) : Prop where
  size : C.size = n + 7
  first : ∀ i, i < j → ∀ x, bs[i]? = some x → C[i]? = some (.int .u8 x)
  pat : ∀ i, j ≤ i → i < k → C[i]? = some (.int .u8 (patB i))
theorem RoomC.setP {C : Array Value} {n k : Nat} {bs : List Int} (h : RoomC C n bs k 0) (hk : k < n + 7) : RoomC (C.setIfInBounds k (.int .u8 (patB k))) n bs (k + 1) 0 := by
  refine ⟨by simp [h.size], fun i hi => by omega, fun i _ hi => ?_⟩
  rw [Array.getElem?_setIfInBounds]
  by_cases e : k = i
  · subst e; rw [if_pos rfl, if_pos (by rw [h.size]; exact hk)]
  · rw [if_neg e]; exact h.pat i (Nat.zero_le _) (by omega)
theorem RoomC.setB {C : Array Value} {n k j : Nat} {bs : List Int} {x : Int} (h : RoomC C n bs k j) (hj : j < n + 7) (hx : bs[j]? = some x) : RoomC (C.setIfInBounds j (.int .u8 x)) n bs k (j + 1) := by
  refine ⟨by simp [h.size], fun i hi y hy => ?_, fun i hi hik => ?_⟩
  · rw [Array.getElem?_setIfInBounds]
    by_cases e : j = i
    · subst e; rw [if_pos rfl, if_pos (by rw [h.size]; exact hj)]; rw [hx] at hy; injection hy with hy; rw [hy]
    · rw [if_neg e]; exact h.first i (by omega) y hy
  · rw [Array.getElem?_setIfInBounds, if_neg (by omega)]
    exact h.pat i (by omega) hik
theorem RoomC.byt {W : World} {g : Nat} {C : Array Value} {t : TypeId} {fr : Nat × Nat} {bs : List Int} {k : Nat} (h : RoomC C bs.length bs k bs.length) (hb : W.heap[g]? = some (.cells C t fr)) : Byt W (some ⟨g, 0, none⟩) bs := by
  intro i x hx
  exact ⟨_, rfl, by rw [add_at, blk_cell hb]; exact h.first i (List.getElem?_eq_some_iff.1 hx).1 x hx⟩
end Go.Proofs.Ytcmmopngjeonfaa
