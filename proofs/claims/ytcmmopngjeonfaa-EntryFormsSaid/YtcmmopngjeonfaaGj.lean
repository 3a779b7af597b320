/- Contract: node.Take. -/
import Derived.Test.YtcmmopngjeonfaaGi
namespace Go.Proofs.Ytcmmopngjeonfaa
open Go.ChangeShapes Go.WideShapes Go.ChangeAt Go.RowKit
set_option linter.unusedVariables false
/-- The node that a body tells. -/
def rdT (bs : List Int) : Nd := { rdJ bs 5 with t := seg bs 21 (bs.getD 20 0).toNat }
def Taken (k : Int) (bs : List Int) : Prop := bs.getD 20 0 ≤ 32 ∧ MayN k (rdT bs) ∧ pad (bytesN (rdT bs)) = bs
instance (k : Int) (bs : List Int) : Decidable (Taken k bs) := by unfold Taken; infer_instance
def takeN (k : Int) (bs : List Int) : Nd := if Taken k bs then rdT bs else nd0
theorem getD_byte {bs : List Int} (hB : AllB bs) (i : Nat) : 0 ≤ bs.getD i 0 ∧ bs.getD i 0 < 256 := by
  rw [List.getD]
  cases h : bs[i]? with
  | none => exact ⟨by decide, by decide⟩
  | some x => exact hB x (List.mem_of_getElem? h)
theorem rdT_ok {bs : List Int} (h56 : bs.length = 56) (hB : AllB bs) : NdOk (rdT bs) := by
  have h4 := fun o ho => numV4_lt (o := o) h56 hB ho
  have h2 := fun o ho => numV2_lt (o := o) h56 hB ho
  have pl : ∀ i, i < 5 → i64 (plV bs i) := fun i hi => by
    have := h2 (10 + 2 * i) (by omega)
    unfold plV i64; omega
  refine ⟨?_, ?_, ?_, pl 0 (by omega), pl 1 (by omega), pl 2 (by omega), pl 3 (by omega), pl 4 (by omega), seg_allB hB _ _, ?_⟩
  · have := h4 0 (by omega); show u32 (numV (seg bs 0 4) : Int); unfold u32; omega
  · have := h2 4 (by omega); show i64 (numV (seg bs 4 2) : Int); unfold i64; omega
  · have := h4 6 (by omega); show i64 (numV (seg bs 6 4) : Int); unfold i64; omega
  · show (seg bs 21 _).length ≤ _
    unfold seg; rw [List.length_take, List.length_drop]; omega
theorem takeN_ok {k : Int} {bs : List Int} (h56 : bs.length = 56) (hB : AllB bs) : NdOk (takeN k bs) := by
  unfold takeN; split
  · exact rdT_ok h56 hB
  · exact nd0_ok
theorem run_sliceAt_lh (g : Nat) {m : Nat} (h : m ≤ 32) (w : World) : (Instr.sliceAt 27 (.pointer (some ⟨g, 1, none⟩)) (some (.int .i64 21)) (some (.int .i64 (21 + (m : Int)))) none).run Try.prog w = .ok (.slice (some ⟨g, 22, none⟩) m 35) w := by
  have z3 := Try.sizeOf5
  have e1 : Try.prog.arrayLen 27 = 56 := by kernel_rfl
  have e2 : Try.prog.elem 27 = 5 := by kernel_rfl
  have e3 : Try.prog.underlying 27 = some (.array (Try.prog.arrayLen 27) (Try.prog.elem 27)) := by kernel_rfl
  rw [run_sliceAt_array_lh w 27 _ e3 .i64 .i64 21 (21 + (m : Int)) (by omega) (by omega) (by rw [e1]; omega), e1, e2]
  have hm : (21 + (m : Int)).toNat = 21 + m := by omega
  simp [z3, slicedAt, add_off, hm]
theorem wpList_neqB {ops : Array Oper} {rest : List Oper} {o : Oper} {a : Act} {w : World} {Q : Exit → Act → World → Prop} (hgd : o.guard = none) (x y : Operand) (t : TypeId) (ho : o.op = .binOp .neq 29 x y t) (k j : Int) (bs cs : List Int) (hx : a.eval x = .agg (blkA k bs)) (hy : a.eval y = .agg (blkA j cs)) (hb : bs.length = 56) (hc : cs.length = 56) (hB : AllB bs) (hC : AllB cs)
    (h : wpList Try.prog ops Q rest (a.put o.dst (.bool (!(decide (k = j ∧ bs = cs))))) w) : wpList Try.prog ops Q (o :: rest) a w :=
  wpList_plain hgd fun _ hK => by
    have hg := run_eqGuard_agg (P := Try.prog) w .neq 29 x y (blkA k bs) (blkA j cs) guard24
    have hr := neqB k j bs cs hb hc hB hC w
    unfold Oper.wp execOp
    simp only [ho, hx, hy, Sem.run_bind, hg, hr, Result.andThen_ok]
    exact hK _ _ h
section
variable {w W W' : World} {p : Nat} {k j : Int} {bs cs : List Int} {m : Nd}
end
end Go.Proofs.Ytcmmopngjeonfaa
