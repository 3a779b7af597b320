/- Contract: block.Open. -/
import Derived.Test.YtflldlhfeiamnaaBd
import Derived.Deep.DeepCutAuto
import Derived.StillTailTactics
namespace Go.Proofs.Ytflldlhfeiamnaa
open Go.ChangeShapes Go.WideShapes Go.ChangeAt Go.RowKit
set_option linter.unusedVariables false
def opK (xs : List Int) : Int := xs.getD 0 0
def opBs (xs : List Int) : List Int := (xs.drop 4).take 56
def Opens (l t : Int) (xs : List Int) : Prop := xs.length = 64 ∧ MayB (opK xs) t ∧ sealB l (opK xs) t.toNat (opBs xs) = xs
instance (l t : Int) (xs : List Int) : Decidable (Opens l t xs) := by unfold Opens; infer_instance
def openA (l t : Int) (xs : List Int) : Array Value := if Opens l t xs then blkA (opK xs) (opBs xs) else blkA 0 zBs
theorem opBs_len {xs : List Int} (h : xs.length = 64) : (opBs xs).length = 56 := by unfold opBs; simp [h]
theorem opBs_allB {xs : List Int} (h : AllB xs) : AllB (opBs xs) := fun x hx => h x (List.mem_of_mem_drop (List.mem_of_mem_take hx))
theorem setRow_blk {w : World} {g : Nat} {C D : Array Value} {t : TypeId} {fr : Nat × Nat} (h : w.heap[g]? = some (.cells C t fr)) : (w.setRow g D).heap[g]? = some (.cells D t fr) := setRow_heap w g C D t fr h
theorem below_setRow {B g : Nat} {w W : World} (h : Below B w W) (hg : B ≤ g) (D : Array Value) : Below B w (W.setRow g D) :=
  ⟨h.os, h.tape, h.output, by simpa using h.size, fun k hk => by rw [setRow_other W g k D (by omega)]; exact h.block k hk⟩
theorem blkA_set0 (x k : Int) (bs : List Int) : (blkA k bs).setIfInBounds 0 (.int .i64 x) = blkA x bs := by unfold blkA blkL; simp
end Go.Proofs.Ytflldlhfeiamnaa
