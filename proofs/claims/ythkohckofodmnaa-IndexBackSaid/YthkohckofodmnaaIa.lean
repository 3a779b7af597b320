/- Contracts: index: rows of bytes as complex numbers (toRow, ofOneBlock, some, fromNextBlock), toPiece. -/
import Derived.Test.YthkohckofodmnaaUa
import Derived.Test.YthkohckofodmnaaBk
import Derived.Laws.ComplexArith
import Derived.Deep.DeepCutAuto
import Derived.StillTailTactics
namespace Go.Proofs.Ythkohckofodmnaa
open Go.ChangeShapes Go.WideShapes Go.ChangeAt Go.RowKit
open Fx
set_option linter.unusedVariables false
theorem fi_56 : fi 56 = 4633078116657397760 := by rw [show (56 : Int) = ((56 : Nat) : Int) from rfl, fi_fb, fb_eq 56 (by omega)]; decide
theorem sub_tab : (List.range 2400).all (fun n => decide (FloatKind.f64.format.sub (fi ((n : Int) - 1200)) (fi 56) = some (fi ((n : Int) - 1200 - 56)))) = true := by decide +kernel
theorem sub_56 (x : Int) (h : -1200 ≤ x ∧ x < 1200) : FloatKind.f64.format.sub (fi x) 4633078116657397760 = some (fi (x - 56)) := by
  have h1 := List.all_eq_true.1 sub_tab (x + 1200).toNat (List.mem_range.2 (by omega))
  have h2 := of_decide_eq_true h1
  rwa [show (((x + 1200).toNat : Nat) : Int) = x + 1200 by omega, show x + 1200 - 1200 = x by omega, fi_56] at h2
/-- A row of bytes: from where, to where. -/
def rowC (a b : Int) : Value := .complex .f64 (fi a) (fi b)
theorem max_fi {P : Program} (x : Int) (h : x.natAbs ≤ 100000) (ts : Array TypeId) (t : TypeId) (w : World) : (Builtin.max_ ts t #[.float .f64 (fi x), .float .f64 0]).run P w = .ok (.float .f64 (fi (if x < 0 then 0 else x))) w := by
  have ho := order_fi x 0 (by omega) (by decide)
  rw [fi_zero] at ho
  rcases Int.lt_trichotomy x 0 with hx | hx | hx
  · have hc : compare x 0 = .lt := by rw [cmp_int, if_pos hx]
    rw [hc] at ho
    simp [Builtin.max_, Builtin.max2, ho, hx, fi_zero]
  · have hc : compare x 0 = .eq := by rw [cmp_int, if_neg (by omega), if_pos hx]
    rw [hc] at ho
    subst hx
    rw [fi_zero] at ho ⊢
    simp [Builtin.max_, Builtin.max2, ho, fi_zero]
  · have hc : compare x 0 = .gt := by rw [cmp_int, if_neg (by omega), if_neg (by omega)]
    rw [hc] at ho
    simp [Builtin.max_, Builtin.max2, ho, show ¬ x < 0 by omega]
theorem min_fi {P : Program} (x : Int) (h : x.natAbs ≤ 100000) (ts : Array TypeId) (t : TypeId) (w : World) : (Builtin.min_ ts t #[.float .f64 (fi x), .float .f64 4633078116657397760]).run P w = .ok (.float .f64 (fi (if x < 56 then x else 56))) w := by
  have ho := order_fi x 56 (by omega) (by decide)
  rw [fi_56] at ho
  rcases Int.lt_trichotomy x 56 with hx | hx | hx
  · have hc : compare x 56 = .lt := by rw [cmp_int, if_pos hx]
    rw [hc] at ho
    simp [Builtin.min_, Builtin.min2, ho, hx]
  · have hc : compare x 56 = .eq := by rw [cmp_int, if_neg (by omega), if_pos hx]
    rw [hc] at ho
    subst hx
    rw [fi_56] at ho ⊢
    simp [Builtin.min_, Builtin.min2, ho, fi_56]
  · have hc : compare x 56 = .gt := by rw [cmp_int, if_neg (by omega), if_neg (by omega)]
    rw [hc] at ho
    simp [Builtin.min_, Builtin.min2, ho, show ¬ x < 56 by omega, fi_56]
theorem torow_any (a b : Int) (w : World) : Calls Try.prog 23 #[.int .i64 a, .int .i64 b] w fun e w' => e = .returned (rowC a b) ∧ w = w' := by
  unfold rowC fi
  go_enter Try.func23, Try.ntmps23
  go_wp2
  go_ret
  exact ⟨rfl, rfl⟩
theorem one_any (a b : Int) (ha : a.natAbs ≤ 1200) (hb : b.natAbs ≤ 1200) (w : World) : Calls Try.prog 24 #[rowC a b] w fun e w' => e = .returned (rowC (if a < 0 then 0 else a) (if b < 56 then b else 56)) ∧ w = w' := by
  have h1 := fun ts t w => max_fi (P := Try.prog) a (by omega) ts t w
  have h2 := fun ts t w => min_fi (P := Try.prog) b (by omega) ts t w
  unfold rowC
  generalize fi (if a < 0 then 0 else a) = ra at *
  generalize fi (if b < 56 then b else 56) = rb at *
  go_enter Try.func24, Try.ntmps24
  go_wp2
  go_ret
  exact ⟨rfl, rfl⟩
theorem some_any (a b : Int) (ha : a.natAbs ≤ 1200) (hb : b.natAbs ≤ 1200) (w : World) : Calls Try.prog 25 #[rowC a b] w fun e w' => e = .returned (.bool (decide (a < b))) ∧ w = w' := by
  have h1 := lt_fi a b (by omega) (by omega)
  unfold rowC
  go_enter Try.func25, Try.ntmps25
  go_wp2
  go_ret
  exact ⟨rfl, rfl⟩
theorem next_any (a b : Int) (ha : a.natAbs ≤ 1150) (hb : b.natAbs ≤ 1150) (w : World) : Calls Try.prog 27 #[rowC a b] w fun e w' => e = .returned (rowC (a - 56) (b - 56)) ∧ w = w' := by
  have h := fun w : World => run_complex_sum (P := Try.prog) w .sub (.inr rfl) 54 .f64 (fi a) (fi b) 4633078116657397760 4633078116657397760 (fi (a - 56)) (fi (b - 56)) (by
    have e1 : floatBits .sub .f64 (fi a) 4633078116657397760 = some (fi (a - 56)) := sub_56 a (by omega)
    have e2 : floatBits .sub .f64 (fi b) 4633078116657397760 = some (fi (b - 56)) := sub_56 b (by omega)
    unfold cSumBits; rw [e1, e2]; rfl)
  unfold rowC
  go_enter Try.func27, Try.ntmps27
  go_wp2
  go_ret
  exact ⟨rfl, rfl⟩
/-- A piece as cells. -/
def pcA (k a b : Int) : Array Value := #[.int .i64 k, .int .i64 a, .int .i64 b]
theorem size38 : (Try.prog.info? 38).map (·.size) = some 3 := by kernel_rfl
theorem results_pc {fn : Func} {p : Tmp} (h : fn.results = #[.cell p 38]) (tmps : Array Value) (w : World) (g : Nat) (k a b : Int) (hp : tmps.getD p undef = .pointer (some ⟨g, 0, none⟩)) (hg : w.heap[g]? = some (.cells (pcA k a b) 38 (0, 0))) :
    (results fn tmps).run Try.prog w = .ok (.agg (pcA k a b)) w :=
  results_cell_row h tmps w g _ _ _ _ hp hg Try.underlying38 rfl size38
theorem topiece_any (k a b : Int) (ha : a.natAbs ≤ 1200) (hb : b.natAbs ≤ 1200) (w : World) : Calls Try.prog 26 #[.int .i64 k, rowC a b] w fun e w' => e = .returned (.agg (pcA k a b)) ∧ Below w.heap.size w w' := by
  have hmin : IntKind.i64.min = -9223372036854775808 := rfl
  have hmax : IntKind.i64.max = 9223372036854775807 := rfl
  have v1 := fun w : World => run_convert_float_int w 61 3 .f64 .i64 _ _ (P := Try.prog) (by kernel_rfl) Try.underlying3 (int_fi .i64 a (by omega) (by omega) (by omega))
  have v2 := fun w : World => run_convert_float_int w 61 3 .f64 .i64 _ _ (P := Try.prog) (by kernel_rfl) Try.underlying3 (int_fi .i64 b (by omega) (by omega) (by omega))
  unfold rowC
  go_enter Try.func26, Try.ntmps26
  go_wp2
  refine bodyPost_ret (results_pc rfl _ _ w.heap.size k a b rfl (heap_alloc_new _ _)) rfl ?_
  exact ⟨rfl, bel1 _⟩
end Go.Proofs.Ythkohckofodmnaa
