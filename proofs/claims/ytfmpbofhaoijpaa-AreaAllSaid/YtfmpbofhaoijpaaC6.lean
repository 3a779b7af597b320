/- Contract: the reference's TakeConf. -/
import Derived.Test.YtfmpbofhaoijpaaC5
namespace Go.Proofs.Ytfmpbofhaoijpaa
open Go.ChangeShapes Go.WideShapes Go.ChangeAt Go.RowKit
set_option linter.unusedVariables false
theorem add_pos (a : Addr) (k : Nat) (h : 0 < k) : a.add k = ⟨a.block, a.off + k, none⟩ := by unfold Addr.add; rw [if_neg (by omega)]
theorem rowsV_len : ∀ (l : Nat) (r : List Int) (acc : List Sh), r.length ≠ 4 * l → rowsV l r acc = none
  | 0, r, acc, h => by
    have : r ≠ [] := fun e => h (by rw [e]; rfl)
    simp [rowsV, this]
  | l + 1, a :: b :: c :: d :: r, acc, h => by
    simp only [rowsV]
    split
    · exact rowsV_len l r _ (by simp at h; omega)
    · rfl
  | _ + 1, [], _, _ => rfl
  | _ + 1, [_], _, _ => rfl
  | _ + 1, [_, _], _, _ => rfl
  | _ + 1, [_, _, _], _, _ => rfl
end Go.Proofs.Ytfmpbofhaoijpaa
