/- Contract: New that answers no, of a new slice. -/
import Derived.Test.YtocmjbfbjiinhaaV26
namespace Go.Proofs.Ytocmjbfbjiinhaa
open Go.ChangeShapes Go.WideShapes Go.ChangeAt Go.RowKit
set_option linter.unusedVariables false
theorem new_no_at (W : World) (g : Nat) (zs : List Int) (n : Nat) (hn : zs.length = n) (hl : n ≤ 1000000) (hm : mayV zs = false) (hI : AllI zs) (t : TypeId) (hb : W.heap[g]? = some (.cells ((zs.map (Value.int .i64)).toArray) t (0, 0))) :
    Calls Try.prog 11 #[.slice (some ⟨g, 0, none⟩) n n] W fun e w' => e = .returned (.tuple #[.pointer none, .bool false]) ∧ W = w' := by
  subst hn
  refine new_no (some ⟨g, 0, none⟩) zs _ W hI (fun i x hx => ⟨_, rfl, ?_⟩) hl hm
  rw [Addr.add_mid, Nat.zero_add, blk_cell hb, List.getElem?_toArray, List.getElem?_map, hx]; rfl
end Go.Proofs.Ytocmjbfbjiinhaa
