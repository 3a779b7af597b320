/- Contract: the reference's MayNode. -/
import Derived.Test.YtcmmopngjeonfaaGd
namespace Go.Proofs.Ytcmmopngjeonfaa
open Go.ChangeShapes Go.WideShapes Go.ChangeAt Go.RowKit
set_option linter.unusedVariables false
def VMN (p : Nat) (n : Nd) (i : Nat) (v : Value) (W : World) : Prop :=
  match i with
  | 1 => v = .pointer (some ⟨p, 3, none⟩)
  | 2 => v = .slice (some ⟨p, 3, none⟩) 4 4
  | 4 => v = .pointer (some ⟨p, 7, none⟩)
  | 5 => v = .int .i64 n.x
  | 0 => (∃ g, v = .slice (some ⟨g, 0, none⟩) 0 0 ∧ p + 1 ≤ g ∧ W.heap[g]? = some (.cells #[] 3 (0, 0)))
  | 3 => W.ownsRow (p + 1) 3 1 v 4 (Is [n.a, n.b, n.c, n.d])
  | 6 => (∃ g, v = .slice (some ⟨g, 0, none⟩) 1 1 ∧ W.heap[g]? = some (.cells #[.int .i64 n.x] 3 (0, 0)))
  | 7 => W.ownsRow (p + 1) 3 1 v 5 (Is n.ps)
  | _ => True
def SMN (i : Nat) (w w' : World) : Prop := if i = 7 then KeepB 4 5 w w' else w.grownBy w' none
theorem VMN.on {p : Nat} {n : Nd} {i j : Nat} {v : Value} {w w' : World} (hij : i ≠ j) (h : VMN p n j v w) (hs : SMN i w w') : VMN p n j v w' := by
  unfold SMN at hs
  by_cases hi : i = 7
  · rw [if_pos hi] at hs
    unfold VMN at *
    split <;> try exact h
    · obtain ⟨g, e, hb, hg⟩ := h; exact ⟨g, e, hb, hs.small _ _ _ _ hg (by decide)⟩
    · exact own_keep h hs (by decide)
    · obtain ⟨g, e, hg⟩ := h; exact ⟨g, e, hs.small _ _ _ _ hg (show 1 < 5 by omega)⟩
    · exact absurd hi hij
    · trivial
  · rw [if_neg hi] at hs
    unfold VMN at *
    split <;> try exact h
    · obtain ⟨g, e, hb, hg⟩ := h; exact ⟨g, e, hb, by rw [hs.block g (room_lt hg) (by simp)]; exact hg⟩
    · exact World.ownsRow.kept h hs (by cases v.ownBlock <;> simp)
    · obtain ⟨g, e, hg⟩ := h; exact ⟨g, e, by rw [hs.block g (room_lt hg) (by simp)]; exact hg⟩
    · exact World.ownsRow.kept h hs (by cases v.ownBlock <;> simp)
    · trivial
theorem plM_none5 : PlM none5 := by decide
theorem MayN.pl {k : Int} {n : Nd} (h : MayN k n) : PlM n.ps := by
  rcases h.2 with h1 | h1 | h1
  · exact h1.2.2.2
  · rw [h1.2.2.2.2]; exact plM_none5
  · rw [h1.2.2.2]; exact plM_none5
theorem ps_len (n : Nd) : n.ps.length = 5 := rfl
theorem ps_none (n : Nd) : n.ps = none5 ↔ ∀ j, j < 5 → n.ps.getD j 0 = -1 := by
  constructor
  · intro h j hj; rw [h]
    match j, hj with
    | 0, _ => rfl
    | 1, _ => rfl
    | 2, _ => rfl
    | 3, _ => rfl
    | 4, _ => rfl
  · intro h
    have h0 := h 0 (by omega); have h1 := h 1 (by omega); have h2 := h 2 (by omega); have h3 := h 3 (by omega); have h4 := h 4 (by omega)
    unfold Nd.ps none5 at *
    simp only [List.getD_cons_zero, List.getD_cons_succ] at h0 h1 h2 h3 h4
    rw [h0, h1, h2, h3, h4]
theorem mem_take {xs : List Int} {k : Nat} {x : Int} (h : x ∈ xs.take k) : ∃ j, j < k ∧ xs[j]? = some x := by
  obtain ⟨j, hj⟩ := List.getElem?_of_mem h
  rw [List.getElem?_take] at hj
  split at hj
  · exact ⟨j, by assumption, hj⟩
  · cases hj
end Go.Proofs.Ytcmmopngjeonfaa
