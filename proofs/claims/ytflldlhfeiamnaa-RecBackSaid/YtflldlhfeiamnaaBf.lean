/- Contract: the reference's Open. -/
import Derived.Test.YtflldlhfeiamnaaBe
namespace Go.Proofs.Ytflldlhfeiamnaa
open Go.ChangeShapes Go.WideShapes Go.ChangeAt Go.RowKit
set_option linter.unusedVariables false
theorem built24k (x : Int) : Try.prog.built 44 [(0, .int .i64 x)] = some (blkA x zBs) := by kernel_rfl
theorem wpList_buildBk {ops : Array Oper} {rest : List Oper} {o : Oper} {a : Act} {w : World} {Q : Exit → Act → World → Prop} (hgd : o.guard = none) (x : Operand) (k : Int) (ho : o.op = .build 44 #[(0, x)]) (hx : a.eval x = .int .i64 k)
    (h : wpList Try.prog ops Q rest (a.put o.dst (.agg (blkA k zBs))) w) : wpList Try.prog ops Q (o :: rest) a w :=
  wpList_plain hgd fun _ hK => by
    unfold Oper.wp execOp
    have hb := run_build (P := Try.prog) w 44 #[(0, .int .i64 k)] _ (built24k k)
    simp only [ho, List.map_toArray, List.map_cons, List.map_nil, hx, Sem.run_bind, hb, Result.andThen_ok]
    exact hK _ _ h
/-- The first j bytes of a body, noughts behind. -/
def fillBs (bs : List Int) (j : Nat) : List Int := bs.take j ++ List.replicate (56 - j) 0
theorem fillBs_len {bs : List Int} {j : Nat} (h : bs.length = 56) (hj : j ≤ 56) : (fillBs bs j).length = 56 := by unfold fillBs; simp [h]; omega
theorem fillBs_all {bs : List Int} (h : bs.length = 56) : fillBs bs 56 = bs := by unfold fillBs; simp [← h]
theorem fillBs_none (bs : List Int) : fillBs bs 0 = zBs := rfl
theorem fillBs_set {bs : List Int} {j : Nat} {x : Int} (h : bs.length = 56) (hj : j < 56) (hx : bs[j]? = some x) : (fillBs bs j).set j x = fillBs bs (j + 1) := by
  unfold fillBs
  rw [show 56 - j = (56 - (j + 1)) + 1 by omega, List.replicate_succ, take_snoc' hx, List.set_append_right _ _ (by simp; omega)]
  simp only [List.length_take, h, Nat.min_eq_left (show j ≤ 56 by omega), Nat.sub_self, List.set_cons_zero, List.append_assoc, List.singleton_append]
theorem blkA_setB (k : Int) (bs : List Int) (j : Nat) (x : Int) : (blkA k bs).setIfInBounds (1 + j) (.int .u8 x) = blkA k (bs.set j x) := by
  unfold blkA blkL
  rw [Nat.add_comm]
  simp [← set_Bs]
theorem opBs_at {xs : List Int} {j : Nat} (hj : j < 56) {x : Int} (hx : xs[4 + j]? = some x) : (opBs xs)[j]? = some x := by
  unfold opBs; rw [List.getElem?_take, if_pos hj, List.getElem?_drop]; exact hx
end Go.Proofs.Ytflldlhfeiamnaa
