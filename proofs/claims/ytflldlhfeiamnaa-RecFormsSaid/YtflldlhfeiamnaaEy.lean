/- Writes built of constants; thirteen of them. -/
import Derived.Test.YtflldlhfeiamnaaEx
import Derived.Great.BuildSlice
namespace Go.Proofs.Ytflldlhfeiamnaa
open Go.ChangeShapes Go.WideShapes Go.ChangeAt Go.RowKit
set_option linter.unusedVariables false
theorem builtWt (t : Int) : Try.prog.built 46 [(0, .int .i64 t)] = some (wrA ⟨t, 0, zBs⟩) := by kernel_rfl
theorem builtWk (k : Int) : Try.prog.built 46 [(1, .agg (blkA k zBs))] = some (wrA ⟨0, k, zBs⟩) := by kernel_rfl
section
variable {ops : Array Oper} {rest : List Oper} {o : Oper} {a : Act} {w : World} {Q : Exit → Act → World → Prop}
theorem wpList_buildWt (hgd : o.guard = none) (x : Operand) (t : Int) (ho : o.op = .build 46 #[(0, x)]) (hx : a.eval x = .int .i64 t)
    (h : wpList Try.prog ops Q rest (a.put o.dst (.agg (wrA ⟨t, 0, zBs⟩))) w) : wpList Try.prog ops Q (o :: rest) a w :=
  wpList_plain hgd fun _ hK => by
    unfold Oper.wp execOp
    have hb := run_build (P := Try.prog) w 46 #[(0, .int .i64 t)] _ (builtWt t)
    simp only [ho, List.map_toArray, List.map_cons, List.map_nil, hx, Sem.run_bind, hb, Result.andThen_ok]
    exact hK _ _ h
theorem wpList_buildWk (hgd : o.guard = none) (x : Operand) (k : Int) (ho : o.op = .build 46 #[(1, x)]) (hx : a.eval x = .agg (blkA k zBs))
    (h : wpList Try.prog ops Q rest (a.put o.dst (.agg (wrA ⟨0, k, zBs⟩))) w) : wpList Try.prog ops Q (o :: rest) a w :=
  wpList_plain hgd fun _ hK => by
    unfold Oper.wp execOp
    have hb := run_build (P := Try.prog) w 46 #[(1, .agg (blkA k zBs))] _ (builtWk k)
    simp only [ho, List.map_toArray, List.map_cons, List.map_nil, hx, Sem.run_bind, hb, Result.andThen_ok]
    exact hK _ _ h
def w3 : Wr := ⟨3, 0, zBs⟩
theorem fill2 : Instr.fill (fun i => some (i * 58, 58)) ((Array.range (2 * 58)).map ((Value.agg (wrA zW)).cells[· % (Value.agg (wrA zW)).cells.size]!)) [(0, .agg (wrA w3)), (1, .agg (wrA w3))] = some (wrsL [w3, w3]).toArray := by kernel_rfl
theorem wpList_twoW (hgd : o.guard = none) (x y : Operand) (ho : o.op = .buildSlice 23 2 #[(0, x), (1, y)]) (hx : a.eval x = .agg (wrA w3)) (hy : a.eval y = .agg (wrA w3))
    (h : wpList Try.prog ops Q rest (a.put o.dst (.slice (some ⟨w.heap.size, 0, none⟩) 2 2)) (w.alloc (.cells (wrsL [w3, w3]).toArray 46))) : wpList Try.prog ops Q (o :: rest) a w := by
  obtain ⟨i0, hi, hz0, hz1, hz2⟩ := info_parts infoW
  refine wpList_buildSlice hgd 23 46 2 _ ho _ i0 _ Try.underlying23 hi hz0 (by rw [hz1]; decide) (by rw [hz1]; decide) ?_ h
  rw [hz1]
  have hp : ((#[(0, x), (1, y)] : Array (Nat × Operand)).map fun (i, x) => (i, a.eval x)).toList = [(0, .agg (wrA w3)), (1, .agg (wrA w3))] := by simp [hx, hy]
  rw [hp]
  exact fill2
def manyL (k : Nat) : List Wr := (List.range 13).map fun i => ⟨if i < k then (i : Int) else 0, 0, zBs⟩
def manyA (k : Nat) : Array Value := (wrsL (manyL k)).toArray
theorem zw_ok {t k : Int} (ht : -1 ≤ t ∧ t ≤ 300) (hk : 0 ≤ k ∧ k ≤ 300) : (⟨t, k, zBs⟩ : Wr).Ok := ⟨by constructor <;> (simp only; omega), by constructor <;> (simp only; omega), zBs_len, fun x hx => by unfold zBs at hx; rw [List.eq_of_mem_replicate hx]; omega⟩
theorem many_ok (k : Nat) : WrsOk (manyL k) := fun x hx => by
  unfold manyL at hx
  obtain ⟨i, hi, rfl⟩ := List.mem_map.1 hx
  have := List.mem_range.1 hi
  refine zw_ok ?_ ⟨by omega, by omega⟩
  split <;> omega
theorem many0 : manyL 0 = List.replicate 13 zW := rfl
theorem made13 : madeCells (Value.agg (wrA zW)).cells (13 * 58) = manyA 0 := by
  show madeCells (wrA zW) 754 = manyA 0
  have h58 : (wrL zW).length = 58 := wrL_length zW_len
  apply Array.ext'
  apply List.ext_getElem?
  intro j
  by_cases hj : j < 754
  · have hr : j % 58 < (wrL zW).length := by rw [h58]; omega
    have h1 := wrsL_at (l := manyL 0) (many_ok 0).len (i := j / 58) (x := zW) (by rw [many0, List.getElem?_replicate, if_pos (by omega)]) (j := j % 58) (v := (wrL zW)[j % 58]) (List.getElem?_eq_getElem hr)
    rw [show j / 58 * 58 + j % 58 = j by omega] at h1
    have hl : (madeCells (wrA zW) 754).toList[j]? = some ((wrA zW)[j % (wrA zW).size]!) := by simp [madeCells, hj]
    rw [hl, wrA_size zW_len]
    have h2 : (wrA zW)[j % 58]! = (wrL zW)[j % 58] := by unfold wrA; simp [hr]
    rw [h2]
    exact h1.symm
  · rw [List.getElem?_eq_none (by rw [Array.length_toList, size_madeCells]; omega), List.getElem?_eq_none (by unfold manyA; rw [wrsL_length (many_ok 0).len, many0, List.length_replicate]; omega)]
theorem wpList_makeW (hgd : o.guard = none) (x y : Operand) (ho : o.op = .makeSlice 23 x y) (hx : a.eval x = .int .i64 13) (hy : a.eval y = .int .i64 13)
    (h : wpList Try.prog ops Q rest (a.put o.dst (.slice (some ⟨w.heap.size, 0, none⟩) 13 13)) (w.alloc (.cells (manyA 0) 46))) : wpList Try.prog ops Q (o :: rest) a w := by
  obtain ⟨i0, hi, hz0, hz1, hz2⟩ := info_parts infoW
  refine wpList_plain hgd fun _ hK => wp_run ?_ (hK _ _ h)
  have hr := run_make (P := Try.prog) w 23 46 i0 _ Try.underlying23 hi hz0 .i64 .i64 13 13 (by omega) (by omega) (by rw [hz2]; decide) (by omega)
  rw [hz1, show (13 : Int).toNat = 13 from rfl, made13] at hr
  unfold execOp
  simp only [ho, hx, hy, Sem.run_bind, hr, Result.andThen_ok, Sem.run_pure]
end
theorem many_length (k : Nat) : (manyL k).length = 13 := by unfold manyL; simp
theorem many_set {k : Nat} (h : k < 13) : (manyA k).setIfInBounds (k * 58) (.int .i64 (k : Int)) = manyA (k + 1) := by
  rcases (by omega : k = 0 ∨ k = 1 ∨ k = 2 ∨ k = 3 ∨ k = 4 ∨ k = 5 ∨ k = 6 ∨ k = 7 ∨ k = 8 ∨ k = 9 ∨ k = 10 ∨ k = 11 ∨ k = 12) with rfl | rfl | rfl | rfl | rfl | rfl | rfl | rfl | rfl | rfl | rfl | rfl | rfl <;> kernel_rfl
theorem many_at {k : Nat} (h : k < 13) : (manyA k)[k * 58]? = some (.int .i64 0) := by
  rcases (by omega : k = 0 ∨ k = 1 ∨ k = 2 ∨ k = 3 ∨ k = 4 ∨ k = 5 ∨ k = 6 ∨ k = 7 ∨ k = 8 ∨ k = 9 ∨ k = 10 ∨ k = 11 ∨ k = 12) with rfl | rfl | rfl | rfl | rfl | rfl | rfl | rfl | rfl | rfl | rfl | rfl | rfl <;> kernel_rfl
theorem wrs_row {w : World} {g : Nat} {l : List Wr} {t : TypeId} {fr : Nat × Nat} (h : w.heap[g]? = some (.cells (wrsL l).toArray t fr)) (h56 : Len56 l) : Wrs w (some ⟨g, 0, none⟩) l := fun i x hi =>
  ⟨_, rfl, fun j v hj => by rw [add_at, add_off, blk_cell h, List.getElem?_toArray]; exact wrsL_at h56 hi hj⟩
theorem Wrs.take {w : World} {A : Option Addr} {l : List Wr} (h : Wrs w A l) (k : Nat) : Wrs w A (l.take k) := fun i x hi => h i x (by
  rw [List.getElem?_take] at hi; split at hi; exact hi; cases hi)
theorem kbW {W W' : World} {g : Nat} {o : Obj} (hb : Below W.heap.size W W') (h : W.heap[g]? = some o) : W'.heap[g]? = some o := by rw [hb.block _ (room_lt h)]; exact h
theorem own64 {W : World} {B g d : Nat} {b : List Int} (h : W.ownsRow B 5 1 (.slice (some ⟨g, 0, none⟩) 64 d) b.length (Bs b)) (h64 : b.length = 64) : Byt W (some ⟨g, 0, none⟩) b ∧ 64 ≤ d := by
  obtain ⟨A, d', e, h1, h2, h3⟩ := byt_own h rfl
  injection e with e1 e2 e3
  subst e1; subst e3
  exact ⟨h3, by omega⟩
theorem may13 : decide (MayL (manyL 13)) = false := by decide +kernel
theorem may12 : decide (MayL ((manyL 13).take 12)) = true := by decide +kernel
theorem may0 : decide (MayL []) = false := by decide +kernel
theorem may200 : decide (MayL [⟨200, 0, zBs⟩]) = false := by decide +kernel
theorem mayneg : decide (MayL [⟨-1, 0, zBs⟩]) = false := by decide +kernel
theorem may33 : decide (MayL [w3, w3]) = false := by decide +kernel
theorem mayk8 : decide (MayL [⟨0, 8, zBs⟩]) = false := by decide +kernel
/-- The write of the forms. -/
def w9 : Wr := ⟨199, 7, zBs.set 0 9⟩
theorem may9 : MayL [w9] := of_decide_eq_true (by decide +kernel)
theorem w9_ok : w9.Ok := ⟨by constructor <;> (unfold w9; simp only; omega), by constructor <;> (unfold w9; simp only; omega), by unfold w9; rw [List.length_set]; exact zBs_len, set_allB zBs_allB 0 (by omega)⟩
theorem sumd_pref {xs : List Int} {n : Nat} (h : xs.length ≤ 60) (hn : n ≤ 60) : (sumd xs).take n = (fillB xs).take n := by
  unfold sumd; rw [List.take_append_of_le_length (by rw [fillB_length h]; exact hn)]
theorem put9 : putL 33 16909060 84281096 [w9] = [sumd (headR 33 16909060 84281096 [w9]), sumd (bearB 16909060 84281096 w9.bs)] := rfl
theorem len9h : (sumd (headR 33 16909060 84281096 [w9])).length = 64 := sumd_length (by rw [headR_length]; decide)
theorem len9b : (sumd (bearB 16909060 84281096 w9.bs)).length = 64 := sumd_length (by rw [bearB_length w9_ok.len]; omega)
theorem head9 : (sumd (headR 33 16909060 84281096 [w9])).take 14 = [72, 33, 1, 2, 3, 4, 5, 6, 7, 8, 1, 0, 199, 7] := by
  rw [sumd_pref (by rw [headR_length]; decide) (by omega)]
  decide +kernel
theorem body9a : (sumd (bearB 16909060 84281096 w9.bs))[0]? = some 9 := by
  have h := sumd_pref (xs := bearB 16909060 84281096 w9.bs) (n := 1) (by rw [bearB_length w9_ok.len]; omega) (by omega)
  have h2 : ((sumd (bearB 16909060 84281096 w9.bs)).take 1)[0]? = some 9 := by rw [h]; decide +kernel
  rw [List.getElem?_take] at h2
  exact h2
theorem body9b : ((sumd (bearB 16909060 84281096 w9.bs)).drop 56).take 4 = [3, 4, 7, 8] := by
  have h := sumd_pref (xs := bearB 16909060 84281096 w9.bs) (n := 60) (by rw [bearB_length w9_ok.len]; omega) (by omega)
  have h2 : ((sumd (bearB 16909060 84281096 w9.bs)).drop 56).take 4 = ((sumd (bearB 16909060 84281096 w9.bs)).take 60).drop 56 := by rw [List.drop_take]
  rw [h2, h]; decide +kernel
theorem anch9 : (anchorB 33 258).take 8 = [65, 78, 33, 0, 0, 1, 2, 0] := by
  unfold anchorB
  rw [sumd_pref (by decide) (by omega)]
  decide +kernel
theorem str9h : strOfNums [72, 33, 1, 2, 3, 4, 5, 6, 7, 8, 1, 0, 199, 7] = { data := #[72, 33, 1, 2, 3, 4, 5, 6, 7, 8, 1, 0, 199, 7] } := by kernel_rfl
theorem str9b : strOfNums [3, 4, 7, 8] = { data := #[3, 4, 7, 8] } := by kernel_rfl
theorem str9a : strOfNums [65, 78, 33, 0, 0, 1, 2, 0] = { data := #[65, 78, 33, 0, 0, 1, 2, 0] } := by kernel_rfl
end Go.Proofs.Ytflldlhfeiamnaa
