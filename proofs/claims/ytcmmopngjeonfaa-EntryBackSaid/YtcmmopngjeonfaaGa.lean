/- Nodes as values: laid, loaded, stored, built, compared. -/
import Derived.Test.YtcmmopngjeonfaaBk
import Derived.Test.YtcmmopngjeonfaaRk
import Derived.Test.YtcmmopngjeonfaaAi
import Derived.Deep.DeepCutAuto
import Derived.StillTailTactics
namespace Go.Proofs.Ytcmmopngjeonfaa
open Go.ChangeShapes Go.WideShapes Go.ChangeAt Go.RowKit
set_option linter.unusedVariables false
/-- A node. -/
structure Nd where
  g : Int
  l : Int
  s : Int
  a : Int
  b : Int
  c : Int
  d : Int
  x : Int
  t : List Int
theorem Nd.ext_iff' (n m : Nd) : n = m ↔ (n.g = m.g ∧ n.l = m.l ∧ n.s = m.s ∧ (n.a = m.a ∧ n.b = m.b ∧ n.c = m.c ∧ n.d = m.d) ∧ n.x = m.x ∧ n.t = m.t) := by
  cases n; cases m
  simp only [Nd.mk.injEq]
  constructor <;> (intro h; simp only [h, and_self])
instance (n m : Nd) : Decidable (n = m) := decidable_of_iff _ (Nd.ext_iff' n m).symm
/-- Its cells. -/
def ndA (n : Nd) : Array Value := #[.int .u32 n.g, .int .i64 n.l, .int .i64 n.s, .int .i64 n.a, .int .i64 n.b, .int .i64 n.c, .int .i64 n.d, .int .i64 n.x, .string (strOfNums n.t)]
structure NdOk (n : Nd) : Prop where
  g : u32 n.g
  l : i64 n.l
  s : i64 n.s
  a : i64 n.a
  b : i64 n.b
  c : i64 n.c
  d : i64 n.d
  x : i64 n.x
  t : AllB n.t
  tl : n.t.length ≤ 9223372036854775807
def nd0 : Nd := ⟨0, 0, 0, 0, 0, 0, 0, 0, []⟩
theorem nd0_ok : NdOk nd0 := ⟨⟨by decide, by decide⟩, ⟨by decide, by decide⟩, ⟨by decide, by decide⟩, ⟨by decide, by decide⟩, ⟨by decide, by decide⟩, ⟨by decide, by decide⟩, ⟨by decide, by decide⟩, ⟨by decide, by decide⟩, (fun x hx => by cases hx), by decide⟩
theorem ndA_one (n : Nd) : (ndA n).all (·.oneCell') = true := by unfold ndA; simp [Value.oneCell']
theorem ndA_size (n : Nd) : (ndA n).size = 9 := rfl
section
variable {ops : Array Oper} {rest : List Oper} {o : Oper} {ac : Act} {w : World} {Q : Exit → Act → World → Prop}
end
theorem results_blk1 {fn : Func} {p : Tmp} (h : fn.results = #[.cell p 29]) (tmps : Array Value) (w : World) (g : Nat) (k : Int) (bs : List Int) (hp : tmps.getD p undef = .pointer (some ⟨g, 0, none⟩)) (h56 : bs.length = 56) (hg : w.heap[g]? = some (.cells (blkA k bs) 29 (0, 0))) :
    (results fn tmps).run Try.prog w = .ok (.agg (blkA k bs)) w :=
  results_cell_row h tmps w g _ _ _ _ hp hg Try.underlying29 rfl (by rw [blkA_size h56]; exact size24b)
/-- The five places, as a value. -/
def Nd.ps (n : Nd) : List Int := [n.a, n.b, n.c, n.d, n.x]
def plA (n : Nd) : Array Value := #[.int .i64 n.a, .int .i64 n.b, .int .i64 n.c, .int .i64 n.d, .int .i64 n.x]
theorem plA_eq (n : Nd) : plA n = (Is n.ps).toArray := rfl
theorem neqB (k j : Int) (bs cs : List Int) (hb : bs.length = 56) (hc : cs.length = 56) (hB : AllB bs) (hC : AllB cs) (w : World) : (binOp .neq 29 (.agg (blkA k bs)) (.agg (blkA j cs))).run Try.prog w = .ok (.bool (!(decide (k = j ∧ bs = cs)))) w := by
  rw [run_neq_struct', eql24 k j bs cs hb hc hB hC w]; rfl
theorem wpList_neqBw {ops : Array Oper} {rest : List Oper} {o : Oper} {a : Act} {w : World} {Q : Exit → Act → World → Prop} (hw : Region.wanted o (yielded ops a.tmps) = true) (x y : Operand) (t : TypeId) (ho : o.op = .binOp .neq 29 x y t) (k j : Int) (bs cs : List Int) (hx : a.eval x = .agg (blkA k bs)) (hy : a.eval y = .agg (blkA j cs)) (hb : bs.length = 56) (hc : cs.length = 56) (hB : AllB bs) (hC : AllB cs)
    (h : wpList Try.prog ops Q rest (a.put o.dst (.bool (!(decide (k = j ∧ bs = cs))))) w) : wpList Try.prog ops Q (o :: rest) a w :=
  BigFrame.wpList_want hw fun _ hK => by
    have hg := run_eqGuard_agg (P := Try.prog) w .neq 29 x y (blkA k bs) (blkA j cs) guard24
    have hr := neqB k j bs cs hb hc hB hC w
    unfold Oper.wp execOp
    simp only [ho, hx, hy, Sem.run_bind, hg, hr, Result.andThen_ok]
    exact hK _ _ h
end Go.Proofs.Ytcmmopngjeonfaa
