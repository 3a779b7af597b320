/- Contract: node.Put, walked. -/
import Derived.Test.YtcmmopngjeonfaaGg
namespace Go.Proofs.Ytcmmopngjeonfaa
open Go.ChangeShapes Go.WideShapes Go.ChangeAt Go.RowKit
set_option linter.unusedVariables false
theorem run_sliceAt56 (g : Nat) {m : Nat} (h : m ≤ 55) (w : World) : (Instr.sliceAt 27 (.pointer (some ⟨g, 1, none⟩)) (some (.int .i64 m)) none none).run Try.prog w = .ok (.slice (some ⟨g, 1 + m, none⟩) (56 - m) (56 - m)) w := by
  have z3 := Try.sizeOf5
  have e1 : Try.prog.arrayLen 27 = 56 := by kernel_rfl
  have e2 : Try.prog.elem 27 = 5 := by kernel_rfl
  have e3 : Try.prog.underlying 27 = some (.array (Try.prog.arrayLen 27) (Try.prog.elem 27)) := by kernel_rfl
  rw [run_sliceAt_array_l w 27 _ e3 .i64 (m : Int) (by omega) (by rw [e1]; omega), e1, e2]
  have hm : ¬ 56 = m := by omega
  simp [z3, slicedAt, add_off, hm]
theorem wpList_copyT {ops : Array Oper} {rest : List Oper} {o : Oper} {ac : Act} {w : World} {Q : Exit → Act → World → Prop} (hgd : o.guard = none) (s x : Operand)
    (ho : o.op = .call { callee := .builtin .copy, args := #[s, x], argTypes := #[41, 9] })
    (g : Nat) (k : Int) (n : Nat) (ys t : List Int) (hn : ys.length = n) (hs : ac.eval s = .slice (some ⟨g, 1 + n, none⟩) (56 - n) (56 - n)) (hx : ac.eval x = .string (strOfNums t)) (hg : w.heap[g]? = some (.cells (blkA k (pad ys)) 29 (0, 0))) (hl : n + t.length ≤ 56) (ht : AllB t)
    (h : wpList Try.prog ops Q rest (ac.put o.dst (goInt t.length)) (w.setRow g (blkA k (pad (ys ++ t))))) : wpList Try.prog ops Q (o :: rest) ac w :=
  wpList_plain hgd fun _ hK => by
    subst hn
    have hr := run_copyT w o.type g k ys t hg hl ht
    unfold Oper.wp execOp
    simp only [ho, resolve, invoke, builtin, Sem.run_bind, Sem.run_pure, Result.andThen_ok, List.map_toArray, List.map_cons, List.map_nil, hs, hx, hr]
    exact hK _ _ h
end Go.Proofs.Ytcmmopngjeonfaa
