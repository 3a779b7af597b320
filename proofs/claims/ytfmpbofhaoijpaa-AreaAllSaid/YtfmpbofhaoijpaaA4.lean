/- Contract: the opening test of stage 5's laws. -/
import Derived.Test.YtfmpbofhaoijpaaA3
namespace Go.Proofs.Ytfmpbofhaoijpaa
open Go.ChangeShapes Go.WideShapes Go.ChangeAt Go.RowKit
set_option linter.unusedVariables false
set_option maxRecDepth 100000 in
set_option maxHeartbeats 1600000 in
theorem begun5_any (w : World) : Calls Try.prog 5 #[] w fun e w' => e = .returned (.bool true) ∧ Below w.heap.size w w' := by
  have c0 := Lib.hid (show ∀ w, Calls Try.prog 10 #[.agg #[.int .i64 0, .int .i64 0, .int .i64 4, .int .i64 16, .int .i64 0]] w fun e w' => e = .returned (.int .i64 22) ∧ Below w.heap.size w w' from fun w => size_any 0 0 4 16 0 (by omega) (by omega) w)
  have c1 := Lib.hid (show ∀ w, Calls Try.prog 13 #[.int .u32 3] w fun e w' => e = .returned (.int .i64 1) ∧ w = w' from fun w => anchor_any 3 (by omega) w)
  have c2 := Lib.hid (show ∀ w, Calls Try.prog 11 #[.agg #[.int .i64 0, .int .i64 0, .int .i64 4, .int .i64 16, .int .i64 0], .int .i64 (0)] w fun e w' => e = .returned (.int .i64 (2)) ∧ Below w.heap.size w w' from fun w => Log_any 0 0 4 16 0 (0) (by omega) (by omega) w)
  have c3 := Lib.hid (show ∀ w, Calls Try.prog 12 #[.agg #[.int .i64 0, .int .i64 0, .int .i64 4, .int .i64 16, .int .i64 0], .int .i64 (0)] w fun e w' => e = .returned (.int .i64 (18)) ∧ Below w.heap.size w w' from fun w => Home_any 0 0 4 16 0 (0) (by omega) (by omega) (by omega) w)
  have c4 := Lib.hid (show ∀ w, Calls Try.prog 11 #[.agg #[.int .i64 0, .int .i64 0, .int .i64 4, .int .i64 16, .int .i64 0], .int .i64 (16)] w fun e w' => e = .returned (.int .i64 (-1)) ∧ Below w.heap.size w w' from fun w => Log_any 0 0 4 16 0 (16) (by omega) (by omega) w)
  have c5 := Lib.hid (show ∀ w, Calls Try.prog 12 #[.agg #[.int .i64 0, .int .i64 0, .int .i64 4, .int .i64 16, .int .i64 0], .int .i64 (4)] w fun e w' => e = .returned (.int .i64 (-1)) ∧ Below w.heap.size w w' from fun w => Home_any 0 0 4 16 0 (4) (by omega) (by omega) (by omega) w)
  go_enter Try.func5, Try.ntmps5
  go_wp2_with fail
  refine (c0.out _).mono ?_; rintro e w0 ⟨rfl, hb⟩
  have HB0 := Lib.hid (keepB ((Below.refl w.heap.size w).alloc (Nat.le_refl _) _) hb)
  have z0 := keepC hb (q := ⟨w.heap.size, 0, none⟩) (v := .int .i64 0) (by simp [go_sem])
  have z1 := keepC hb (q := ⟨w.heap.size, 1, none⟩) (v := .int .i64 0) (by simp [go_sem])
  have z2 := keepC hb (q := ⟨w.heap.size, 2, none⟩) (v := .int .i64 4) (by simp [go_sem])
  have z3 := keepC hb (q := ⟨w.heap.size, 3, none⟩) (v := .int .i64 16) (by simp [go_sem])
  have z4 := keepC hb (q := ⟨w.heap.size, 4, none⟩) (v := .int .i64 0) (by simp [go_sem])
  clear hb
  go_wp2_with fail
  refine (c1.out _).mono ?_; rintro e w1 ⟨rfl, rfl⟩
  go_wp2_with fail
  refine (c2.out _).mono ?_; rintro e w2 ⟨rfl, hb⟩
  have HB2 := Lib.hid (keepB HB0.out hb)
  replace z0 := keepC hb z0
  replace z1 := keepC hb z1
  replace z2 := keepC hb z2
  replace z3 := keepC hb z3
  replace z4 := keepC hb z4
  clear hb
  go_wp2_with fail
  refine (c3.out _).mono ?_; rintro e w3 ⟨rfl, hb⟩
  have HB3 := Lib.hid (keepB HB2.out hb)
  replace z0 := keepC hb z0
  replace z1 := keepC hb z1
  replace z2 := keepC hb z2
  replace z3 := keepC hb z3
  replace z4 := keepC hb z4
  clear hb
  go_wp2_with fail
  refine (c4.out _).mono ?_; rintro e w4 ⟨rfl, hb⟩
  have HB4 := Lib.hid (keepB HB3.out hb)
  replace z0 := keepC hb z0
  replace z1 := keepC hb z1
  replace z2 := keepC hb z2
  replace z3 := keepC hb z3
  replace z4 := keepC hb z4
  clear hb
  go_wp2_with fail
  refine (c5.out _).mono ?_; rintro e w5 ⟨rfl, hb⟩
  have HB5 := Lib.hid (keepB HB4.out hb)
  replace z0 := keepC hb z0
  replace z1 := keepC hb z1
  replace z2 := keepC hb z2
  replace z3 := keepC hb z3
  replace z4 := keepC hb z4
  clear hb
  go_wp2_with fail
  refine (sizes_no none [] 0 _ (by simp) (by simp) (by omega) (fun s hs => by cases hs) (fun i s hi => by cases hi) rfl).mono ?_; rintro e w6 ⟨rfl, hb⟩
  have HB6 := Lib.hid (keepB HB5.out hb)
  clear hb
  go_wp2_with fail
  go_ret
  exact ⟨rfl, HB6.out⟩
end Go.Proofs.Ytfmpbofhaoijpaa
