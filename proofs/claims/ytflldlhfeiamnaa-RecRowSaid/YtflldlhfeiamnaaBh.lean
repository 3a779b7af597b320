/- Contract: the law's opening test. -/
import Derived.Test.YtflldlhfeiamnaaBg
namespace Go.Proofs.Ytflldlhfeiamnaa
open Go.ChangeShapes Go.WideShapes Go.ChangeAt Go.RowKit
set_option linter.unusedVariables false
theorem zBs_allB : AllB zBs := fun x hx => by unfold zBs at hx; rw [List.eq_of_mem_replicate hx]; omega
theorem set_allB {bs : List Int} (h : AllB bs) (i : Nat) {y : Int} (hy : 0 ≤ y ∧ y < 256) : AllB (bs.set i y) := fun x hx => by
  rcases List.mem_or_eq_of_mem_set hx with h1 | rfl
  · exact h x h1
  · exact hy
theorem loadAt_blk (w : World) (g : Nat) (k : Int) (bs : List Int) (h56 : bs.length = 56) (hg : w.heap[g]? = some (.cells (blkA k bs) 44 (0, 0))) :
    (Instr.loadAt 44 (.pointer (some ⟨g, 0, none⟩))).run Try.prog w = .ok (.agg (blkA k bs)) w := by
  simp only [Instr.loadAt, Instr.sureAddr, Sem.run_bind, Sem.run_pure, Result.andThen_ok]
  exact run_loadVar_row w g _ _ _ _ _ hg Try.underlying44 rfl (by rw [blkA_size h56]; exact size24b)
section
variable {ops : Array Oper} {rest : List Oper} {o : Oper} {a : Act} {w : World} {Q : Exit → Act → World → Prop}
theorem wpList_loadBw (hw : Region.wanted o (yielded ops a.tmps) = true) (x : Operand) (ho : o.op = .load 44 x) (g : Nat) (hx : a.eval x = .pointer (some ⟨g, 0, none⟩)) (k : Int) (bs : List Int) (h56 : bs.length = 56) (hg : w.heap[g]? = some (.cells (blkA k bs) 44 (0, 0)))
    (h : wpList Try.prog ops Q rest (a.put o.dst (.agg (blkA k bs))) w) : wpList Try.prog ops Q (o :: rest) a w :=
  BigFrame.wpList_want hw fun _ hK => wp_load_row 44 x ho g hx _ _ _ _ hg Try.underlying44 rfl (by rw [blkA_size h56]; exact size24b) (hK _ _ h)
theorem guard24 : Try.prog.eqGuardType Try.prog.depth 44 = false := by kernel_rfl
theorem wpList_eqlBw (hw : Region.wanted o (yielded ops a.tmps) = true) (x y : Operand) (t : TypeId) (ho : o.op = .binOp .eql 44 x y t) (k j : Int) (bs cs : List Int) (hx : a.eval x = .agg (blkA k bs)) (hy : a.eval y = .agg (blkA j cs)) (hb : bs.length = 56) (hc : cs.length = 56) (hB : AllB bs) (hC : AllB cs)
    (h : wpList Try.prog ops Q rest (a.put o.dst (.bool (decide (k = j ∧ bs = cs)))) w) : wpList Try.prog ops Q (o :: rest) a w :=
  BigFrame.wpList_want hw fun _ hK => by
    have hg := run_eqGuard_agg (P := Try.prog) w .eql 44 x y (blkA k bs) (blkA j cs) guard24
    have hr := run_eql_struct (P := Try.prog) w 44 (blkA k bs) (blkA j cs)
    rw [eql24 k j bs cs hb hc hB hC w] at hr
    unfold Oper.wp execOp
    simp only [ho, hx, hy, Sem.run_bind, hg, hr, Result.andThen_ok]
    exact hK _ _ h
end
end Go.Proofs.Ytflldlhfeiamnaa
