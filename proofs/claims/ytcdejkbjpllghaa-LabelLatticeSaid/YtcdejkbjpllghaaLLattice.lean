/- The law LabelLattice answers true for every three bytes, and leaves its arguments alone. No condition. -/
import Derived.Test.YtcdejkbjpllghaaRows
import Derived.Test.YtcdejkbjpllghaaT11
import Derived.WalkKit
import Derived.ProofKit
import Derived.OpenShut
namespace Go.Proofs.Ytcdejkbjpllghaa.labelLattice
open Go.ChangeShapes Go.WideShapes Go.ChangeAt Go.RowKit
set_option linter.unusedVariables false      -- a walk need not use every 'w<i>' (that an integer argument fits its kind)

theorem own : ownKnob Try.prog.godebug = none := by kernel_rfl

open Fl
set_option maxRecDepth 100000 in
set_option maxHeartbeats 12800000 in
theorem walk (a0 : Int) (a1 : Int) (a2 : Int) (w0 : (Lit.int .u8 a0).wf = true) (w1 : (Lit.int .u8 a1).wf = true) (w2 : (Lit.int .u8 a2).wf = true) (w : World) :
    Calls Try.prog 4 #[.int .u8 a0, .int .u8 a1, .int .u8 a2] w fun e w' => e = .returned (.bool true) ∧ Below w.heap.size w w' := by
  have bd0 := bounds_u8 w0
  have bd1 := bounds_u8 w1
  have bd2 := bounds_u8 w2
  clear w0 w1 w2
  obtain ⟨l, c, e0, e1, hl, hc⟩ := of_nat a0 bd0
  obtain ⟨i, j, e2, e3, hi, hj⟩ := of_nat a1 bd1
  obtain ⟨m, n, e4, e5, hm, hn⟩ := of_nat a2 bd2
  have E0 := Lib.hid e0
  have E1 := Lib.hid e1
  have E2 := Lib.hid e2
  have E3 := Lib.hid e3
  have E4 := Lib.hid e4
  have E5 := Lib.hid e5
  clear e0 e1 e2 e3 e4 e5
  go_enter Try.func4, Try.ntmps4
  go_wp2_with fail
  refine (begun_any _).mono ?_; rintro e W1 ⟨rfl, hB⟩
  go_wp2_with fail
  refine (of_all _ _ (by omega)).mono ?_; rintro e W2 ⟨rfl, hb⟩
  replace hB := keepB hB hb
  clear hb
  go_wp2_with fail
  refine (of_all _ _ (by omega)).mono ?_; rintro e W3 ⟨rfl, hb⟩
  replace hB := keepB hB hb
  clear hb
  go_wp2_with fail
  refine (of_all _ _ (by omega)).mono ?_; rintro e W4 ⟨rfl, hb⟩
  replace hB := keepB hB hb
  clear hb
  rw [E0.out, E1.out, E2.out, E3.out, E4.out, E5.out]
  clear E0 E1 E2 E3 E4 E5 bd0 bd1 bd2
  go_wp2_with fail
  obtain ⟨W, hW⟩ : ∃ W, W = ((W4.alloc (Obj.cells #[.int .i64 l, .int .i64 c] 23)).alloc (Obj.cells #[.int .i64 i, .int .i64 j] 23)).alloc (Obj.cells #[.int .i64 m, .int .i64 n] 23) := ⟨_, rfl⟩
  have z0 : W.cell? ⟨W4.heap.size, 0, none⟩ = some (.int .i64 l) := by rw [hW]; simp [go_sem]
  have z1 : W.cell? ⟨W4.heap.size, 1, none⟩ = some (.int .i64 c) := by rw [hW]; simp [go_sem]
  have z2 : W.cell? ⟨W4.heap.size + 1, 0, none⟩ = some (.int .i64 i) := by rw [hW]; simp [go_sem]
  have z3 : W.cell? ⟨W4.heap.size + 1, 1, none⟩ = some (.int .i64 j) := by rw [hW]; simp [go_sem]
  have z4 : W.cell? ⟨W4.heap.size + 1 + 1, 0, none⟩ = some (.int .i64 m) := by rw [hW]; simp [go_sem]
  have z5 : W.cell? ⟨W4.heap.size + 1 + 1, 1, none⟩ = some (.int .i64 n) := by rw [hW]; simp [go_sem]
  have zB : Below w.heap.size w W := by
    have := hB.size
    rw [hW]
    exact ((hB.alloc this _).alloc (by simp; omega) _).alloc (by simp; omega) _
  rw [← hW]
  clear hW hB
  generalize W4.heap.size = p at *
  have o1 := or_le c j hc hj
  have o4 := and_le c j hc
  have mkS : ∀ wx : World, Below W.heap.size W wx → wx.cell? ⟨p, 0, none⟩ = some (.int .i64 l) ∧ wx.cell? ⟨p, 1, none⟩ = some (.int .i64 c) ∧ wx.cell? ⟨p + 1, 0, none⟩ = some (.int .i64 i) ∧ wx.cell? ⟨p + 1, 1, none⟩ = some (.int .i64 j) ∧ wx.cell? ⟨p + 1 + 1, 0, none⟩ = some (.int .i64 m) ∧ wx.cell? ⟨p + 1 + 1, 1, none⟩ = some (.int .i64 n) ∧ Below W.heap.size W wx := fun wx hX => ⟨keep hX z0, keep hX z1, keep hX z2, keep hX z3, keep hX z4, keep hX z5, hX⟩
  go_upto_region 4 with fail
  go_cut [10, 11] (fun s t wx => JM W (max l i) (c ||| j) (min l i) (c &&& j) s t wx)
  case first => as_aux_lemma =>
    go_region_held3 (fun wx => wx.cell? ⟨p, 0, none⟩ = some (.int .i64 l) ∧ wx.cell? ⟨p, 1, none⟩ = some (.int .i64 c) ∧ wx.cell? ⟨p + 1, 0, none⟩ = some (.int .i64 i) ∧ wx.cell? ⟨p + 1, 1, none⟩ = some (.int .i64 j) ∧ wx.cell? ⟨p + 1 + 1, 0, none⟩ = some (.int .i64 m) ∧ wx.cell? ⟨p + 1 + 1, 1, none⟩ = some (.int .i64 n) ∧ Below W.heap.size W wx)
      ((refine mkS _ ?_; first | exact (Below.refl _ _).drew | assumption | ((repeat (first | assumption | exact Below.refl _ _ | (refine Below.drew ?_) | (refine Below.alloc ?_ ?_ _) | (refine Below.setCell ?_ ?_ _))); all_goals (first | assumption | exact Nat.le_refl _ | omega | (simp; done) | (simp; omega)))))
      (first | (go_at_call 18; refine (Join_yes _ _ _ _ _ (by first | assumption | omega) (by first | assumption | omega) (by first | assumption | omega) (by first | assumption | omega)).mono ?_; rintro e wJ ⟨rfl, hbJ⟩; have hBW : Below W.heap.size W wJ := keepB (by (go_split_ands; assumption)) hbJ; have hzW := hBW.size; obtain ⟨hcc, hff⟩ := bcell hbJ; have hzz := hbJ.size; (try simp at hzz); (first | have hz1 : W.heap.size < wJ.heap.size := by omega | skip); (first | have hz2 : W.heap.size + 1 < wJ.heap.size := by omega | skip); (first | have hn1 : ¬ (W.heap.size = wJ.heap.size) := by omega | skip); (first | have hn2 : ¬ (wJ.heap.size = W.heap.size) := by omega | skip); (first | have hn3 : ¬ (W.heap.size + 1 = wJ.heap.size) := by omega | skip); (first | have hn4 : ¬ (wJ.heap.size = W.heap.size + 1) := by omega | skip); (first | (have hzl := Nat.lt_of_succ_le hzz; have hzn := Nat.ne_of_lt hzl; have hzm := Ne.symm hzn) | skip)) | (go_at_call 20; refine (Meet_yes _ _ _ _ _ (by first | assumption | omega) (by first | assumption | omega) (by first | assumption | omega) (by first | assumption | omega)).mono ?_; rintro e wM ⟨rfl, hbM⟩; have hBW : Below W.heap.size W wM := keepB (by (go_split_ands; assumption)) hbM; have hzW := hBW.size; obtain ⟨hcc, hff⟩ := bcell hbM; have hzz := hbM.size; (try simp at hzz); (first | have hz1 : W.heap.size < wM.heap.size := by omega | skip); (first | have hz2 : W.heap.size + 1 < wM.heap.size := by omega | skip); (first | have hn1 : ¬ (W.heap.size = wM.heap.size) := by omega | skip); (first | have hn2 : ¬ (wM.heap.size = W.heap.size) := by omega | skip); (first | have hn3 : ¬ (W.heap.size + 1 = wM.heap.size) := by omega | skip); (first | have hn4 : ¬ (wM.heap.size = W.heap.size + 1) := by omega | skip); (first | (have hzl := Nat.lt_of_succ_le hzz; have hzn := Nat.ne_of_lt hzl; have hzm := Ne.symm hzn) | skip)))
    all_goals
      go_wp2_with fail
      go_meet
      case rel =>
        refine ⟨_, _, rfl, rfl, ?_, ?_, ?_, ?_, ?_⟩
        rotate_left 4
        · go_split_ands; with_reducible assumption
        all_goals first | (simp [go_sem]; done) | with_reducible exact keepA (set2 (by first | with_reducible exact (new1 hbM).1 | with_reducible exact keep hbM (newD hbJ).1 | with_reducible exact keep hbM (keepA (newD hbJ).1 _) | with_reducible exact (new1 hbM).2 | with_reducible exact keep hbM (newD hbJ).2 | with_reducible exact keep hbM (keepA (newD hbJ).2 _) | with_reducible exact (new2 hbM).1 | with_reducible exact keep hbM (newDD hbJ).1 | with_reducible exact (new2 hbM).2.1 | with_reducible exact keep hbM (newDD hbJ).2.1 | with_reducible exact (new2 hbM).2.2.1 | with_reducible exact keep hbM (newDD hbJ).2.2.1 | with_reducible exact (new2 hbM).2.2.2 | with_reducible exact keep hbM (newDD hbJ).2.2.2) (by first | with_reducible exact (new1 hbM).1 | with_reducible exact keep hbM (newD hbJ).1 | with_reducible exact keep hbM (keepA (newD hbJ).1 _) | with_reducible exact (new1 hbM).2 | with_reducible exact keep hbM (newD hbJ).2 | with_reducible exact keep hbM (keepA (newD hbJ).2 _) | with_reducible exact (new2 hbM).1 | with_reducible exact keep hbM (newDD hbJ).1 | with_reducible exact (new2 hbM).2.1 | with_reducible exact keep hbM (newDD hbJ).2.1 | with_reducible exact (new2 hbM).2.2.1 | with_reducible exact keep hbM (newDD hbJ).2.2.1 | with_reducible exact (new2 hbM).2.2.2 | with_reducible exact keep hbM (newDD hbJ).2.2.2)).1 _ | with_reducible exact keepA (set2 (by first | with_reducible exact (new1 hbM).1 | with_reducible exact keep hbM (newD hbJ).1 | with_reducible exact keep hbM (keepA (newD hbJ).1 _) | with_reducible exact (new1 hbM).2 | with_reducible exact keep hbM (newD hbJ).2 | with_reducible exact keep hbM (keepA (newD hbJ).2 _) | with_reducible exact (new2 hbM).1 | with_reducible exact keep hbM (newDD hbJ).1 | with_reducible exact (new2 hbM).2.1 | with_reducible exact keep hbM (newDD hbJ).2.1 | with_reducible exact (new2 hbM).2.2.1 | with_reducible exact keep hbM (newDD hbJ).2.2.1 | with_reducible exact (new2 hbM).2.2.2 | with_reducible exact keep hbM (newDD hbJ).2.2.2) (by first | with_reducible exact (new1 hbM).1 | with_reducible exact keep hbM (newD hbJ).1 | with_reducible exact keep hbM (keepA (newD hbJ).1 _) | with_reducible exact (new1 hbM).2 | with_reducible exact keep hbM (newD hbJ).2 | with_reducible exact keep hbM (keepA (newD hbJ).2 _) | with_reducible exact (new2 hbM).1 | with_reducible exact keep hbM (newDD hbJ).1 | with_reducible exact (new2 hbM).2.1 | with_reducible exact keep hbM (newDD hbJ).2.1 | with_reducible exact (new2 hbM).2.2.1 | with_reducible exact keep hbM (newDD hbJ).2.2.1 | with_reducible exact (new2 hbM).2.2.2 | with_reducible exact keep hbM (newDD hbJ).2.2.2)).2 _ | with_reducible exact (set4 (by first | omega | (simp; omega)) (by first | with_reducible exact (new1 hbM).1 | with_reducible exact keep hbM (newD hbJ).1 | with_reducible exact keep hbM (keepA (newD hbJ).1 _) | with_reducible exact (new1 hbM).2 | with_reducible exact keep hbM (newD hbJ).2 | with_reducible exact keep hbM (keepA (newD hbJ).2 _) | with_reducible exact (new2 hbM).1 | with_reducible exact keep hbM (newDD hbJ).1 | with_reducible exact (new2 hbM).2.1 | with_reducible exact keep hbM (newDD hbJ).2.1 | with_reducible exact (new2 hbM).2.2.1 | with_reducible exact keep hbM (newDD hbJ).2.2.1 | with_reducible exact (new2 hbM).2.2.2 | with_reducible exact keep hbM (newDD hbJ).2.2.2) (by first | with_reducible exact (new1 hbM).1 | with_reducible exact keep hbM (newD hbJ).1 | with_reducible exact keep hbM (keepA (newD hbJ).1 _) | with_reducible exact (new1 hbM).2 | with_reducible exact keep hbM (newD hbJ).2 | with_reducible exact keep hbM (keepA (newD hbJ).2 _) | with_reducible exact (new2 hbM).1 | with_reducible exact keep hbM (newDD hbJ).1 | with_reducible exact (new2 hbM).2.1 | with_reducible exact keep hbM (newDD hbJ).2.1 | with_reducible exact (new2 hbM).2.2.1 | with_reducible exact keep hbM (newDD hbJ).2.2.1 | with_reducible exact (new2 hbM).2.2.2 | with_reducible exact keep hbM (newDD hbJ).2.2.2) (by first | with_reducible exact (new1 hbM).1 | with_reducible exact keep hbM (newD hbJ).1 | with_reducible exact keep hbM (keepA (newD hbJ).1 _) | with_reducible exact (new1 hbM).2 | with_reducible exact keep hbM (newD hbJ).2 | with_reducible exact keep hbM (keepA (newD hbJ).2 _) | with_reducible exact (new2 hbM).1 | with_reducible exact keep hbM (newDD hbJ).1 | with_reducible exact (new2 hbM).2.1 | with_reducible exact keep hbM (newDD hbJ).2.1 | with_reducible exact (new2 hbM).2.2.1 | with_reducible exact keep hbM (newDD hbJ).2.2.1 | with_reducible exact (new2 hbM).2.2.2 | with_reducible exact keep hbM (newDD hbJ).2.2.2) (by first | with_reducible exact (new1 hbM).1 | with_reducible exact keep hbM (newD hbJ).1 | with_reducible exact keep hbM (keepA (newD hbJ).1 _) | with_reducible exact (new1 hbM).2 | with_reducible exact keep hbM (newD hbJ).2 | with_reducible exact keep hbM (keepA (newD hbJ).2 _) | with_reducible exact (new2 hbM).1 | with_reducible exact keep hbM (newDD hbJ).1 | with_reducible exact (new2 hbM).2.1 | with_reducible exact keep hbM (newDD hbJ).2.1 | with_reducible exact (new2 hbM).2.2.1 | with_reducible exact keep hbM (newDD hbJ).2.2.1 | with_reducible exact (new2 hbM).2.2.2 | with_reducible exact keep hbM (newDD hbJ).2.2.2) _ rfl).1 | with_reducible exact (set4 (by first | omega | (simp; omega)) (by first | with_reducible exact (new1 hbM).1 | with_reducible exact keep hbM (newD hbJ).1 | with_reducible exact keep hbM (keepA (newD hbJ).1 _) | with_reducible exact (new1 hbM).2 | with_reducible exact keep hbM (newD hbJ).2 | with_reducible exact keep hbM (keepA (newD hbJ).2 _) | with_reducible exact (new2 hbM).1 | with_reducible exact keep hbM (newDD hbJ).1 | with_reducible exact (new2 hbM).2.1 | with_reducible exact keep hbM (newDD hbJ).2.1 | with_reducible exact (new2 hbM).2.2.1 | with_reducible exact keep hbM (newDD hbJ).2.2.1 | with_reducible exact (new2 hbM).2.2.2 | with_reducible exact keep hbM (newDD hbJ).2.2.2) (by first | with_reducible exact (new1 hbM).1 | with_reducible exact keep hbM (newD hbJ).1 | with_reducible exact keep hbM (keepA (newD hbJ).1 _) | with_reducible exact (new1 hbM).2 | with_reducible exact keep hbM (newD hbJ).2 | with_reducible exact keep hbM (keepA (newD hbJ).2 _) | with_reducible exact (new2 hbM).1 | with_reducible exact keep hbM (newDD hbJ).1 | with_reducible exact (new2 hbM).2.1 | with_reducible exact keep hbM (newDD hbJ).2.1 | with_reducible exact (new2 hbM).2.2.1 | with_reducible exact keep hbM (newDD hbJ).2.2.1 | with_reducible exact (new2 hbM).2.2.2 | with_reducible exact keep hbM (newDD hbJ).2.2.2) (by first | with_reducible exact (new1 hbM).1 | with_reducible exact keep hbM (newD hbJ).1 | with_reducible exact keep hbM (keepA (newD hbJ).1 _) | with_reducible exact (new1 hbM).2 | with_reducible exact keep hbM (newD hbJ).2 | with_reducible exact keep hbM (keepA (newD hbJ).2 _) | with_reducible exact (new2 hbM).1 | with_reducible exact keep hbM (newDD hbJ).1 | with_reducible exact (new2 hbM).2.1 | with_reducible exact keep hbM (newDD hbJ).2.1 | with_reducible exact (new2 hbM).2.2.1 | with_reducible exact keep hbM (newDD hbJ).2.2.1 | with_reducible exact (new2 hbM).2.2.2 | with_reducible exact keep hbM (newDD hbJ).2.2.2) (by first | with_reducible exact (new1 hbM).1 | with_reducible exact keep hbM (newD hbJ).1 | with_reducible exact keep hbM (keepA (newD hbJ).1 _) | with_reducible exact (new1 hbM).2 | with_reducible exact keep hbM (newD hbJ).2 | with_reducible exact keep hbM (keepA (newD hbJ).2 _) | with_reducible exact (new2 hbM).1 | with_reducible exact keep hbM (newDD hbJ).1 | with_reducible exact (new2 hbM).2.1 | with_reducible exact keep hbM (newDD hbJ).2.1 | with_reducible exact (new2 hbM).2.2.1 | with_reducible exact keep hbM (newDD hbJ).2.2.1 | with_reducible exact (new2 hbM).2.2.2 | with_reducible exact keep hbM (newDD hbJ).2.2.2) _ rfl).2.1 | with_reducible exact (set4 (by first | omega | (simp; omega)) (by first | with_reducible exact (new1 hbM).1 | with_reducible exact keep hbM (newD hbJ).1 | with_reducible exact keep hbM (keepA (newD hbJ).1 _) | with_reducible exact (new1 hbM).2 | with_reducible exact keep hbM (newD hbJ).2 | with_reducible exact keep hbM (keepA (newD hbJ).2 _) | with_reducible exact (new2 hbM).1 | with_reducible exact keep hbM (newDD hbJ).1 | with_reducible exact (new2 hbM).2.1 | with_reducible exact keep hbM (newDD hbJ).2.1 | with_reducible exact (new2 hbM).2.2.1 | with_reducible exact keep hbM (newDD hbJ).2.2.1 | with_reducible exact (new2 hbM).2.2.2 | with_reducible exact keep hbM (newDD hbJ).2.2.2) (by first | with_reducible exact (new1 hbM).1 | with_reducible exact keep hbM (newD hbJ).1 | with_reducible exact keep hbM (keepA (newD hbJ).1 _) | with_reducible exact (new1 hbM).2 | with_reducible exact keep hbM (newD hbJ).2 | with_reducible exact keep hbM (keepA (newD hbJ).2 _) | with_reducible exact (new2 hbM).1 | with_reducible exact keep hbM (newDD hbJ).1 | with_reducible exact (new2 hbM).2.1 | with_reducible exact keep hbM (newDD hbJ).2.1 | with_reducible exact (new2 hbM).2.2.1 | with_reducible exact keep hbM (newDD hbJ).2.2.1 | with_reducible exact (new2 hbM).2.2.2 | with_reducible exact keep hbM (newDD hbJ).2.2.2) (by first | with_reducible exact (new1 hbM).1 | with_reducible exact keep hbM (newD hbJ).1 | with_reducible exact keep hbM (keepA (newD hbJ).1 _) | with_reducible exact (new1 hbM).2 | with_reducible exact keep hbM (newD hbJ).2 | with_reducible exact keep hbM (keepA (newD hbJ).2 _) | with_reducible exact (new2 hbM).1 | with_reducible exact keep hbM (newDD hbJ).1 | with_reducible exact (new2 hbM).2.1 | with_reducible exact keep hbM (newDD hbJ).2.1 | with_reducible exact (new2 hbM).2.2.1 | with_reducible exact keep hbM (newDD hbJ).2.2.1 | with_reducible exact (new2 hbM).2.2.2 | with_reducible exact keep hbM (newDD hbJ).2.2.2) (by first | with_reducible exact (new1 hbM).1 | with_reducible exact keep hbM (newD hbJ).1 | with_reducible exact keep hbM (keepA (newD hbJ).1 _) | with_reducible exact (new1 hbM).2 | with_reducible exact keep hbM (newD hbJ).2 | with_reducible exact keep hbM (keepA (newD hbJ).2 _) | with_reducible exact (new2 hbM).1 | with_reducible exact keep hbM (newDD hbJ).1 | with_reducible exact (new2 hbM).2.1 | with_reducible exact keep hbM (newDD hbJ).2.1 | with_reducible exact (new2 hbM).2.2.1 | with_reducible exact keep hbM (newDD hbJ).2.2.1 | with_reducible exact (new2 hbM).2.2.2 | with_reducible exact keep hbM (newDD hbJ).2.2.2) _ rfl).2.2.1 | with_reducible exact (set4 (by first | omega | (simp; omega)) (by first | with_reducible exact (new1 hbM).1 | with_reducible exact keep hbM (newD hbJ).1 | with_reducible exact keep hbM (keepA (newD hbJ).1 _) | with_reducible exact (new1 hbM).2 | with_reducible exact keep hbM (newD hbJ).2 | with_reducible exact keep hbM (keepA (newD hbJ).2 _) | with_reducible exact (new2 hbM).1 | with_reducible exact keep hbM (newDD hbJ).1 | with_reducible exact (new2 hbM).2.1 | with_reducible exact keep hbM (newDD hbJ).2.1 | with_reducible exact (new2 hbM).2.2.1 | with_reducible exact keep hbM (newDD hbJ).2.2.1 | with_reducible exact (new2 hbM).2.2.2 | with_reducible exact keep hbM (newDD hbJ).2.2.2) (by first | with_reducible exact (new1 hbM).1 | with_reducible exact keep hbM (newD hbJ).1 | with_reducible exact keep hbM (keepA (newD hbJ).1 _) | with_reducible exact (new1 hbM).2 | with_reducible exact keep hbM (newD hbJ).2 | with_reducible exact keep hbM (keepA (newD hbJ).2 _) | with_reducible exact (new2 hbM).1 | with_reducible exact keep hbM (newDD hbJ).1 | with_reducible exact (new2 hbM).2.1 | with_reducible exact keep hbM (newDD hbJ).2.1 | with_reducible exact (new2 hbM).2.2.1 | with_reducible exact keep hbM (newDD hbJ).2.2.1 | with_reducible exact (new2 hbM).2.2.2 | with_reducible exact keep hbM (newDD hbJ).2.2.2) (by first | with_reducible exact (new1 hbM).1 | with_reducible exact keep hbM (newD hbJ).1 | with_reducible exact keep hbM (keepA (newD hbJ).1 _) | with_reducible exact (new1 hbM).2 | with_reducible exact keep hbM (newD hbJ).2 | with_reducible exact keep hbM (keepA (newD hbJ).2 _) | with_reducible exact (new2 hbM).1 | with_reducible exact keep hbM (newDD hbJ).1 | with_reducible exact (new2 hbM).2.1 | with_reducible exact keep hbM (newDD hbJ).2.1 | with_reducible exact (new2 hbM).2.2.1 | with_reducible exact keep hbM (newDD hbJ).2.2.1 | with_reducible exact (new2 hbM).2.2.2 | with_reducible exact keep hbM (newDD hbJ).2.2.2) (by first | with_reducible exact (new1 hbM).1 | with_reducible exact keep hbM (newD hbJ).1 | with_reducible exact keep hbM (keepA (newD hbJ).1 _) | with_reducible exact (new1 hbM).2 | with_reducible exact keep hbM (newD hbJ).2 | with_reducible exact keep hbM (keepA (newD hbJ).2 _) | with_reducible exact (new2 hbM).1 | with_reducible exact keep hbM (newDD hbJ).1 | with_reducible exact (new2 hbM).2.1 | with_reducible exact keep hbM (newDD hbJ).2.1 | with_reducible exact (new2 hbM).2.2.1 | with_reducible exact keep hbM (newDD hbJ).2.2.1 | with_reducible exact (new2 hbM).2.2.2 | with_reducible exact keep hbM (newDD hbJ).2.2.2) _ rfl).2.2.2 | (trace_state; sorry)
  case rest =>
    obtain ⟨jb, mb, rfl, rfl, x0, x1, x2, x3, hW⟩ := hcut
    clear mkS
    replace z0 := keep hW z0
    replace z1 := keep hW z1
    replace z2 := keep hW z2
    replace z3 := keep hW z3
    replace z4 := keep hW z4
    replace z5 := keep hW z5
    replace zB := zB.trans (hW.mono zB.size)
    clear hW
    have q0 : ∀ wx, Below wc.heap.size wc wx → wx.cell? ⟨p, 0, none⟩ = some (.int .i64 l) := fun wx h => keep h z0
    have q1 : ∀ wx, Below wc.heap.size wc wx → wx.cell? ⟨p, 1, none⟩ = some (.int .i64 c) := fun wx h => keep h z1
    have q2 : ∀ wx, Below wc.heap.size wc wx → wx.cell? ⟨p + 1, 0, none⟩ = some (.int .i64 i) := fun wx h => keep h z2
    have q3 : ∀ wx, Below wc.heap.size wc wx → wx.cell? ⟨p + 1, 1, none⟩ = some (.int .i64 j) := fun wx h => keep h z3
    have q4 : ∀ wx, Below wc.heap.size wc wx → wx.cell? ⟨p + 1 + 1, 0, none⟩ = some (.int .i64 m) := fun wx h => keep h z4
    have q5 : ∀ wx, Below wc.heap.size wc wx → wx.cell? ⟨p + 1 + 1, 1, none⟩ = some (.int .i64 n) := fun wx h => keep h z5
    have q6 : ∀ wx, Below wc.heap.size wc wx → wx.cell? ⟨jb, 0, none⟩ = some (.int .i64 (max l i : Nat)) := fun wx h => keep h x0
    have q7 : ∀ wx, Below wc.heap.size wc wx → wx.cell? ⟨jb, 1, none⟩ = some (.int .i64 (c ||| j : Nat)) := fun wx h => keep h x1
    have q8 : ∀ wx, Below wc.heap.size wc wx → wx.cell? ⟨mb, 0, none⟩ = some (.int .i64 (min l i : Nat)) := fun wx h => keep h x2
    have q9 : ∀ wx, Below wc.heap.size wc wx → wx.cell? ⟨mb, 1, none⟩ = some (.int .i64 (c &&& j : Nat)) := fun wx h => keep h x3
    have hV : Below wc.heap.size wc wc := Below.refl _ _
    clear z0 z1 z2 z3 z4 z5 x0 x1 x2 x3
    have r0 : aboveN l c l c = true := above_mk (Nat.le_refl _) (by simp)
    generalize wc = V at *
    go_upto_region 5 with fail
    go_cut [60] (fun s wx => s = .bool false ∧ Below V.heap.size V wx)
    case first => as_aux_lemma =>
      cases X1 : aboveN l c i j
      · go_wp2_with (go_at_call 16; refine (above_yes _ _ _ _ _ (by first | assumption | omega) (by first | assumption | omega) (by first | assumption | omega) (by first | assumption | omega)).mono ?_; rintro e w' ⟨rfl, hb⟩; replace hV := keepB hV hb; clear hb)
        go_meet
        case rel => exact ⟨rfl, hV⟩
      · obtain ⟨h1, h2⟩ := above_eq X1
        cases X3 : aboveN i j m n
        · cases X2 : aboveN i j l c
          · go_wp2_with (go_at_call 16; refine (above_yes _ _ _ _ _ (by first | assumption | omega) (by first | assumption | omega) (by first | assumption | omega) (by first | assumption | omega)).mono ?_; rintro e w' ⟨rfl, hb⟩; replace hV := keepB hV hb; clear hb)
            go_meet
            case rel => exact ⟨rfl, hV⟩
          · obtain ⟨h3, h4⟩ := above_eq X2
            have e1 : ((l : Int) == (i : Int)) = true := by simp; omega
            have e2 : ((c : Int) == (j : Int)) = true := by
              have : c = j := h2.symm.trans ((Nat.or_comm c j).trans h4)
              simp [this]
            clear h1 h2 h3 h4
            go_wp2_with (go_at_call 16; refine (above_yes _ _ _ _ _ (by first | assumption | omega) (by first | assumption | omega) (by first | assumption | omega) (by first | assumption | omega)).mono ?_; rintro e w' ⟨rfl, hb⟩; replace hV := keepB hV hb; clear hb)
            go_meet
            case rel => exact ⟨rfl, hV⟩
        · obtain ⟨g1, g2⟩ := above_eq X3
          have X4 : aboveN l c m n = true := above_mk (by omega) (by rw [← h2, or_as ⟨c, by omega⟩ ⟨j, by omega⟩ ⟨n, by omega⟩]; dsimp only; rw [g2])
          clear g1 g2
          cases X2 : aboveN i j l c
          · clear h1 h2
            go_wp2_with (go_at_call 16; refine (above_yes _ _ _ _ _ (by first | assumption | omega) (by first | assumption | omega) (by first | assumption | omega) (by first | assumption | omega)).mono ?_; rintro e w' ⟨rfl, hb⟩; replace hV := keepB hV hb; clear hb)
            go_meet
            case rel => exact ⟨rfl, hV⟩
          · obtain ⟨h3, h4⟩ := above_eq X2
            have e1 : ((l : Int) == (i : Int)) = true := by simp; omega
            have e2 : ((c : Int) == (j : Int)) = true := by
              have : c = j := h2.symm.trans ((Nat.or_comm c j).trans h4)
              simp [this]
            clear h1 h2 h3 h4
            go_wp2_with (go_at_call 16; refine (above_yes _ _ _ _ _ (by first | assumption | omega) (by first | assumption | omega) (by first | assumption | omega) (by first | assumption | omega)).mono ?_; rintro e w' ⟨rfl, hb⟩; replace hV := keepB hV hb; clear hb)
            go_meet
            case rel => exact ⟨rfl, hV⟩
    case rest =>
      obtain ⟨rfl, hV⟩ := hcut
      have y1 : aboveN (max l i) (c ||| j) l c = true := above_mk (by omega) (or_l1 ⟨c, by omega⟩ ⟨j, by omega⟩)
      have y2 : aboveN (max l i) (c ||| j) i j = true := above_mk (by omega) (or_l2 ⟨c, by omega⟩ ⟨j, by omega⟩)
      have y3 : aboveN l c (min l i) (c &&& j) = true := above_mk (by omega) (or_and_abs ⟨c, by omega⟩ ⟨j, by omega⟩)
      have y4 : aboveN i j (min l i) (c &&& j) = true := above_mk (by omega) (or_and_abs2 ⟨c, by omega⟩ ⟨j, by omega⟩)
      go_upto_region 7 with fail
      go_cut [82] (fun s wx => s = .bool false ∧ Below V.heap.size V wx)
      case first => as_aux_lemma =>
        go_wp2_with (go_at_call 16; refine (above_yes _ _ _ _ _ (by first | assumption | omega) (by first | assumption | omega) (by first | assumption | omega) (by first | assumption | omega)).mono ?_; rintro e w' ⟨rfl, hb⟩; replace hV := keepB hV hb; clear hb)
        go_meet
        case rel => exact ⟨rfl, hV⟩
      case rest =>
        obtain ⟨rfl, hV⟩ := hcut
        clear y1 y2 y3 y4 r0
        go_upto_region 9 with fail
        go_cut [112] (fun s wx => s = .bool false ∧ Below V.heap.size V wx)
        case first => as_aux_lemma =>
          have u1 : aboveN m n l c = true → aboveN m n i j = true → aboveN m n (max l i) (c ||| j) = true := fun h g => by
            obtain ⟨h1, h2⟩ := above_eq h
            obtain ⟨g1, g2⟩ := above_eq g
            exact above_mk (by omega) (by rw [← Nat.or_assoc, h2, g2])
          have u2 : aboveN l c m n = true → aboveN i j m n = true → aboveN (min l i) (c &&& j) m n = true := fun h g => by
            obtain ⟨h1, h2⟩ := above_eq h
            obtain ⟨g1, g2⟩ := above_eq g
            exact above_mk (by omega) (and_l ⟨c, by omega⟩ ⟨j, by omega⟩ ⟨n, by omega⟩ h2 g2)
          cases X5 : aboveN m n l c <;> cases X6 : aboveN m n i j <;> cases X4 : aboveN l c m n <;> cases X3 : aboveN i j m n
          all_goals
            try (have v1 := u1 X5 X6)
            try (have v2 := u2 X4 X3)
            clear u1 u2
            go_wp2_with (go_at_call 16; refine (above_yes _ _ _ _ _ (by first | assumption | omega) (by first | assumption | omega) (by first | assumption | omega) (by first | assumption | omega)).mono ?_; rintro e w' ⟨rfl, hb⟩; replace hV := keepB hV hb; clear hb)
            go_meet
            case rel => exact ⟨rfl, hV⟩
        case rest => as_aux_lemma =>
          obtain ⟨rfl, hV⟩ := hcut
          have g1 : max l (min l i) = l := by omega
          have g2 : c ||| (c &&& j) = c := or_and_abs ⟨c, by omega⟩ ⟨j, by omega⟩
          have g3 : min l (max l i) = l := by omega
          have g4 : c &&& (c ||| j) = c := and_or_abs ⟨c, by omega⟩ ⟨j, by omega⟩
          have g5 : max i l = max l i := by omega
          have g6 : j ||| c = c ||| j := Nat.or_comm _ _
          go_upto_region 11 with fail
          cases X1 : aboveN l c i j
          · as_aux_lemma =>
            have nf := above_ne hc hj X1
            rcases nf with ⟨n1, n2⟩ | ⟨n1, n2, n3, n4⟩
            all_goals
              have k0 : ∀ g : Later _, g.w.cell? _ = _ := fun g => q0 _ (hV.trans (g.below.mono hV.size))
              have k1 : ∀ g : Later _, g.w.cell? _ = _ := fun g => q1 _ (hV.trans (g.below.mono hV.size))
              have k2 : ∀ g : Later _, g.w.cell? _ = _ := fun g => q2 _ (hV.trans (g.below.mono hV.size))
              have k3 : ∀ g : Later _, g.w.cell? _ = _ := fun g => q3 _ (hV.trans (g.below.mono hV.size))
              have k6 : ∀ g : Later _, g.w.cell? _ = _ := fun g => q6 _ (hV.trans (g.below.mono hV.size))
              have k7 : ∀ g : Later _, g.w.cell? _ = _ := fun g => q7 _ (hV.trans (g.below.mono hV.size))
              have k8 : ∀ g : Later _, g.w.cell? _ = _ := fun g => q8 _ (hV.trans (g.below.mono hV.size))
              have k9 : ∀ g : Later _, g.w.cell? _ = _ := fun g => q9 _ (hV.trans (g.below.mono hV.size))
              clear q0 q1 q2 q3 q4 q5 q6 q7 q8 q9
              refine wp_region_later (by kernel_rfl) (by kernel_rfl) ?_
              repeat (first | go_big_quiet_step ((first | (go_at_call 16; exact quiet_laterB (above_yes _ _ _ _ _ (by first | assumption | omega) (by first | assumption | omega) (by first | assumption | omega) (by first | assumption | omega)) (by assumption)) | (go_at_call 18; exact quiet_later (Join_yes _ _ _ _ _ (by first | assumption | omega) (by first | assumption | omega) (by first | assumption | omega) (by first | assumption | omega))) | (go_at_call 20; exact quiet_later (Meet_yes _ _ _ _ _ (by first | assumption | omega) (by first | assumption | omega) (by first | assumption | omega) (by first | assumption | omega))))) | (refine BigFrame.wpQuiet_skip (by rfl) ?_; simp only [Act.put, List.setIfInBounds_toArray, List.set_cons_zero, List.set_cons_succ]))
              refine wpQuiet_nil ?_
              intro _ hw'
              obtain ⟨nq, hw''⟩ := hw'
              subst hw''
              have hZ := zB.trans (hV.mono zB.size)
              replace hZ := keepB hZ nq.below
              go_wp2_with fail
              go_ret
              exact ⟨rfl, hZ⟩
          · obtain ⟨h1, h2⟩ := above_eq X1
            have e1 : max l i = l := by omega
            have e3 : min l i = i := by omega
            have e4 : c &&& j = j := or_and ⟨c, by omega⟩ ⟨j, by omega⟩ h2
            rw [e1] at q6
            rw [h2] at q7
            rw [e3] at q8
            rw [e4] at q9
            have f1 : max l l = l := by omega
            have f3 : min l l = l := by omega
            have f2 : c &&& c = c := by simp
            have k0 : ∀ g : Later _, g.w.cell? _ = _ := fun g => q0 _ (hV.trans (g.below.mono hV.size))
            have k1 : ∀ g : Later _, g.w.cell? _ = _ := fun g => q1 _ (hV.trans (g.below.mono hV.size))
            have k2 : ∀ g : Later _, g.w.cell? _ = _ := fun g => q2 _ (hV.trans (g.below.mono hV.size))
            have k3 : ∀ g : Later _, g.w.cell? _ = _ := fun g => q3 _ (hV.trans (g.below.mono hV.size))
            have k6 : ∀ g : Later _, g.w.cell? _ = _ := fun g => q6 _ (hV.trans (g.below.mono hV.size))
            have k7 : ∀ g : Later _, g.w.cell? _ = _ := fun g => q7 _ (hV.trans (g.below.mono hV.size))
            have k8 : ∀ g : Later _, g.w.cell? _ = _ := fun g => q8 _ (hV.trans (g.below.mono hV.size))
            have k9 : ∀ g : Later _, g.w.cell? _ = _ := fun g => q9 _ (hV.trans (g.below.mono hV.size))
            clear q0 q1 q2 q3 q4 q5 q6 q7 q8 q9
            refine wp_region_later (by kernel_rfl) (by kernel_rfl) ?_
            repeat (first | go_big_quiet_step ((first | (go_at_call 16; exact quiet_laterB (above_yes _ _ _ _ _ (by first | assumption | omega) (by first | assumption | omega) (by first | assumption | omega) (by first | assumption | omega)) (by assumption)) | (go_at_call 18; exact quiet_later (Join_yes _ _ _ _ _ (by first | assumption | omega) (by first | assumption | omega) (by first | assumption | omega) (by first | assumption | omega))) | (go_at_call 20; exact quiet_later (Meet_yes _ _ _ _ _ (by first | assumption | omega) (by first | assumption | omega) (by first | assumption | omega) (by first | assumption | omega))))) | (refine BigFrame.wpQuiet_skip (by rfl) ?_; simp only [Act.put, List.setIfInBounds_toArray, List.set_cons_zero, List.set_cons_succ]))
            refine wpQuiet_nil ?_
            intro _ hw'
            obtain ⟨nq, hw''⟩ := hw'
            subst hw''
            have hZ := zB.trans (hV.mono zB.size)
            replace hZ := keepB hZ nq.below
            go_wp2_with fail
            go_ret
            exact ⟨rfl, hZ⟩

/-! ### THE ROW's STEP: WRITTEN OUT: LEAVE IT -/
set_option maxRecDepth 100000 in
theorem lifted (os : Os) (started : os.Started) (H : Type) (enc : TypeId × Value → H) :
    ReturnsInHanded {} Try.checked os 4 .any (Rows.labelLatticeSpec.pre6 enc Try.prog Try.f4 Rows.labelLatticeRow.domain false) (Rows.labelLatticeSpec.post enc Try.prog Try.f4 false true false false) := by
  refine returnsInHanded_of_change (C := Try.checked) own started (by kernel_rfl) Try.func4
    (ChangeSpec.witness6 (enc := enc) (C := Try.checked) false ⟨#[], #[.int .u8 0, .int .u8 0, .int .u8 0], []⟩ 8 (by kernel_rfl) (by kernel_rfl) (by kernel_rfl) (by kernel_rfl)) ?_
  intro W base args ds gs before hval0 hW hcnd _
  have hval : ∀ (j : Nat) t v, Try.f4.params[j]? = some t → args[j]? = some v → Value.okWide Try.prog W .any base t v := hval0
  have hW' := hW
  obtain ⟨p, q, hA0, hV, rfl, hfz, hnd⟩ := hW
  have hA : DataW.TrodAll enc Try.prog W 0 (fun _ => true) true Try.f4.params.toList args.toList ds p := hA0
  rw [Try.params4] at hA hval
  obtain ⟨v0, vs0, d0, ds0, p0, q0, hargs, rfl, rfl, h0, r0⟩ := trodAll_cons hA
  obtain ⟨v1, vs1, d1, ds1, p1, q1, rfl, rfl, rfl, h1, r1⟩ := trodAll_cons r0
  obtain ⟨v2, vs2, d2, ds2, p2, q2, rfl, rfl, rfl, h2, r2⟩ := trodAll_cons r1
  obtain ⟨rfl, rfl, rfl⟩ := trodAll_nil r2
  obtain rfl : args = #[v0, v1, v2] := by cases args; simp_all
  obtain ⟨rfl, rfl⟩ := trodVars_none hV
  obtain ⟨a0, rfl, rfl, rfl, w0⟩ := open_int Try.underlying5 (hval 0 5 v0 rfl rfl) h0
  obtain ⟨a1, rfl, rfl, rfl, w1⟩ := open_int Try.underlying5 (hval 1 5 v1 rfl rfl) h1
  obtain ⟨a2, rfl, rfl, rfl, w2⟩ := open_int Try.underlying5 (hval 2 5 v2 rfl rfl) h2
  clear hA0 hval0
  simp only [List.append_nil] at hW'
  refine (walk a0 a1 a2 w0 w1 w2 W).mono fun e W' ⟨he, bel⟩ => ?_
  subst he
  exact ⟨_, rfl, _, _, _, [], _, [], hW', (trodAll_cons_mk (shut_bool Try.underlying4 _) trodAll_mk0), (trodAll_cons_mk (shut_int Try.underlying5 w0) (trodAll_cons_mk (shut_int Try.underlying5 w1) (trodAll_cons_mk (shut_int Try.underlying5 w2) trodAll_mk0))), rfl, bel.frame _, fun h => by cases h⟩

theorem over : Rows.labelLatticeRow.holds Try.pinned (OpenSpec.ofChange Rows.labelLatticeSpec) :=
  OpenClaim.holds_of_wide 4 Try.f4 rfl rfl rfl rfl rfl rfl rfl ⟨rfl, rfl, rfl, rfl, rfl⟩ rfl rfl rfl rfl rfl (by kernel_rfl) Try.func4 (by kernel_rfl)
    (of_decide_eq_true (by kernel_rfl)) (by unfold Func.isWrapper; first | (rw [if_pos (by decide +kernel)]; kernel_rfl) | (rw [if_neg (by decide +kernel)]; exact ⟨rfl, rfl⟩))
    (fun os started H enc _ => lifted os started H enc)

/-- ████ THE STATEMENT ████ -/
theorem proved : Rows.LabelLatticeSaid :=
  over
#print axioms proved
end Go.Proofs.Ytcdejkbjpllghaa.labelLattice
