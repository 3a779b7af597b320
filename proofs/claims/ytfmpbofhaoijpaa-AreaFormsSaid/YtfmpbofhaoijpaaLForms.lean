/- The law AreaForms answers true and leaves its arguments alone. No condition. -/
import Derived.Test.YtfmpbofhaoijpaaRows
import Derived.Test.YtfmpbofhaoijpaaA4
import Derived.WalkKit
import Derived.ProofKit
import Derived.OpenShut
namespace Go.Proofs.Ytfmpbofhaoijpaa.areaForms
open Go.ChangeShapes Go.WideShapes Go.ChangeAt Go.RowKit Go.Joins
set_option linter.unusedVariables false
theorem own : ownKnob Try.prog.godebug = none := by kernel_rfl
theorem laidOut : laidOutB Try.prog = true := by kernel_rfl
set_option maxRecDepth 100000 in
set_option maxHeartbeats 1600000 in
theorem walk (w : World) : Calls Try.prog 4 #[] w fun e w' => e = .returned (.bool true) ∧ Below w.heap.size w w' := by
  have c0 := Lib.hid (show ∀ w, Calls Try.prog 10 #[.agg #[.int .i64 0, .int .i64 0, .int .i64 200, .int .i64 100, .int .i64 0]] w fun e w' => e = .returned (.int .i64 302) ∧ Below w.heap.size w w' from fun w => size_any 0 0 200 100 0 (by omega) (by omega) w)
  have c1 := Lib.hid (show ∀ w, Calls Try.prog 11 #[.agg #[.int .i64 0, .int .i64 0, .int .i64 200, .int .i64 100, .int .i64 0], .int .i64 (99)] w fun e w' => e = .returned (.int .i64 (101)) ∧ Below w.heap.size w w' from fun w => Log_any 0 0 200 100 0 (99) (by omega) (by omega) w)
  have c2 := Lib.hid (show ∀ w, Calls Try.prog 11 #[.agg #[.int .i64 0, .int .i64 0, .int .i64 200, .int .i64 100, .int .i64 0], .int .i64 (100)] w fun e w' => e = .returned (.int .i64 (-1)) ∧ Below w.heap.size w w' from fun w => Log_any 0 0 200 100 0 (100) (by omega) (by omega) w)
  have c3 := Lib.hid (show ∀ w, Calls Try.prog 12 #[.agg #[.int .i64 0, .int .i64 0, .int .i64 200, .int .i64 100, .int .i64 0], .int .i64 (0)] w fun e w' => e = .returned (.int .i64 (102)) ∧ Below w.heap.size w w' from fun w => Home_any 0 0 200 100 0 (0) (by omega) (by omega) (by omega) w)
  have c4 := Lib.hid (show ∀ w, Calls Try.prog 12 #[.agg #[.int .i64 0, .int .i64 0, .int .i64 200, .int .i64 100, .int .i64 0], .int .i64 (199)] w fun e w' => e = .returned (.int .i64 (301)) ∧ Below w.heap.size w w' from fun w => Home_any 0 0 200 100 0 (199) (by omega) (by omega) (by omega) w)
  have c5 := Lib.hid (show ∀ w, Calls Try.prog 12 #[.agg #[.int .i64 0, .int .i64 0, .int .i64 200, .int .i64 100, .int .i64 0], .int .i64 (200)] w fun e w' => e = .returned (.int .i64 (-1)) ∧ Below w.heap.size w w' from fun w => Home_any 0 0 200 100 0 (200) (by omega) (by omega) (by omega) w)
  have c6 := Lib.hid (show ∀ w, Calls Try.prog 11 #[.agg #[.int .i64 0, .int .i64 0, .int .i64 200, .int .i64 100, .int .i64 0], .int .i64 (-1)] w fun e w' => e = .returned (.int .i64 (-1)) ∧ Below w.heap.size w w' from fun w => Log_any 0 0 200 100 0 (-1) (by omega) (by omega) w)
  have c7 := Lib.hid (show ∀ w, Calls Try.prog 12 #[.agg #[.int .i64 0, .int .i64 0, .int .i64 200, .int .i64 100, .int .i64 0], .int .i64 (-1)] w fun e w' => e = .returned (.int .i64 (-1)) ∧ Below w.heap.size w w' from fun w => Home_any 0 0 200 100 0 (-1) (by omega) (by omega) (by omega) w)
  have c8 := Lib.hid (show ∀ w, Calls Try.prog 13 #[.int .u32 0] w fun e w' => e = .returned (.int .i64 0) ∧ w = w' from fun w => anchor_any 0 (by omega) w)
  have c9 := Lib.hid (show ∀ w, Calls Try.prog 13 #[.int .u32 4294967295] w fun e w' => e = .returned (.int .i64 1) ∧ w = w' from fun w => anchor_any 4294967295 (by omega) w)
  go_enter Try.func4, Try.ntmps4
  go_wp2_with fail
  refine (begun5_any _).mono ?_; rintro e wb ⟨rfl, hb⟩
  have HB := Lib.hid hb
  clear hb
  go_wp2_with fail
  refine (c0.out _).mono ?_; rintro e w0 ⟨rfl, hb⟩
  have HB0 := Lib.hid (keepB ((Below.refl wb.heap.size wb).alloc (Nat.le_refl _) _) hb)
  have z0 := keepC hb (q := ⟨wb.heap.size, 0, none⟩) (v := .int .i64 0) (by simp [go_sem])
  have z1 := keepC hb (q := ⟨wb.heap.size, 1, none⟩) (v := .int .i64 0) (by simp [go_sem])
  have z2 := keepC hb (q := ⟨wb.heap.size, 2, none⟩) (v := .int .i64 200) (by simp [go_sem])
  have z3 := keepC hb (q := ⟨wb.heap.size, 3, none⟩) (v := .int .i64 100) (by simp [go_sem])
  have z4 := keepC hb (q := ⟨wb.heap.size, 4, none⟩) (v := .int .i64 0) (by simp [go_sem])
  clear hb
  go_wp2_with fail
  refine (c1.out _).mono ?_; rintro e w1 ⟨rfl, hb⟩
  have HB1 := Lib.hid (keepB HB0.out hb)
  replace z0 := keepC hb z0
  replace z1 := keepC hb z1
  replace z2 := keepC hb z2
  replace z3 := keepC hb z3
  replace z4 := keepC hb z4
  clear hb
  go_wp2_with fail
  refine (c2.out _).mono ?_; rintro e w2 ⟨rfl, hb⟩
  have HB2 := Lib.hid (keepB HB1.out hb)
  replace z0 := keepC hb z0
  replace z1 := keepC hb z1
  replace z2 := keepC hb z2
  replace z3 := keepC hb z3
  replace z4 := keepC hb z4
  clear hb
  go_wp2_with fail
  refine (c3.out _).mono ?_; rintro e w3 ⟨rfl, hb⟩
  have HB3 := Lib.hid (keepB HB2.out hb)
  replace z0 := keepC hb z0
  replace z1 := keepC hb z1
  replace z2 := keepC hb z2
  replace z3 := keepC hb z3
  replace z4 := keepC hb z4
  clear hb
  go_wp2_with fail
  refine (c4.out _).mono ?_; rintro e w4 ⟨rfl, hb⟩
  have HB4 := Lib.hid (keepB HB3.out hb)
  replace z0 := keepC hb z0
  replace z1 := keepC hb z1
  replace z2 := keepC hb z2
  replace z3 := keepC hb z3
  replace z4 := keepC hb z4
  clear hb
  go_wp2_with fail
  refine (c5.out _).mono ?_; rintro e w5 ⟨rfl, hb⟩
  have HB5 := Lib.hid (keepB HB4.out hb)
  replace z0 := keepC hb z0
  replace z1 := keepC hb z1
  replace z2 := keepC hb z2
  replace z3 := keepC hb z3
  replace z4 := keepC hb z4
  clear hb
  go_wp2_with fail
  refine (c6.out _).mono ?_; rintro e w6 ⟨rfl, hb⟩
  have HB6 := Lib.hid (keepB HB5.out hb)
  replace z0 := keepC hb z0
  replace z1 := keepC hb z1
  replace z2 := keepC hb z2
  replace z3 := keepC hb z3
  replace z4 := keepC hb z4
  clear hb
  go_wp2_with fail
  refine (c7.out _).mono ?_; rintro e w7 ⟨rfl, hb⟩
  have HB7 := Lib.hid (keepB HB6.out hb)
  replace z0 := keepC hb z0
  replace z1 := keepC hb z1
  replace z2 := keepC hb z2
  replace z3 := keepC hb z3
  replace z4 := keepC hb z4
  clear hb
  go_wp2_with fail
  refine (c8.out _).mono ?_; rintro e w8 ⟨rfl, rfl⟩
  go_wp2_with fail
  refine (c9.out _).mono ?_; rintro e w9 ⟨rfl, rfl⟩
  go_wp2_with fail
  go_ret
  exact ⟨rfl, keepB HB.out HB7.out⟩

set_option maxRecDepth 100000 in
theorem lifted (os : Os) (started : os.Started) (H : Type) (enc : TypeId × Value → H) :
    ReturnsInHanded {} Try.checked os 4 .any (Rows.areaFormsSpec.pre6 enc Try.prog Try.f4 Rows.areaFormsRow.domain false) (Rows.areaFormsSpec.post enc Try.prog Try.f4 false true false false) := by
  refine returnsInHanded_of_change (C := Try.checked) own started (by kernel_rfl) Try.func4
    (ChangeSpec.witness6 (enc := enc) (C := Try.checked) false ⟨#[], #[], []⟩ 8 (by kernel_rfl) (by kernel_rfl) (by kernel_rfl) (by kernel_rfl)) ?_
  intro W base args ds gs before hval0 hW hcnd _
  have hW' := hW
  obtain ⟨p, q, hA0, hV, rfl, hfz, hnd⟩ := hW
  have hA : DataW.TrodAll enc Try.prog W 0 (fun _ => true) true Try.f4.params.toList args.toList ds p := hA0
  rw [Try.params4] at hA
  obtain ⟨rfl, rfl, rfl⟩ := trodAll_none hA
  obtain ⟨rfl, rfl⟩ := trodVars_none hV
  clear hA0 hval0
  simp only [List.append_nil] at hW'
  refine (walk W).mono fun e W' ⟨he, bel⟩ => ?_
  subst he
  exact ⟨_, rfl, _, _, _, [], _, [], hW', (trodAll_cons_mk (shut_bool Try.underlying4 _) trodAll_mk0), rfl, rfl, bel.frame _, fun h => by cases h⟩

theorem over : Rows.areaFormsRow.holds Try.pinned (OpenSpec.ofChange Rows.areaFormsSpec) :=
  OpenClaim.holds_of_wide 4 Try.f4 rfl rfl rfl rfl rfl rfl rfl ⟨rfl, rfl, rfl, rfl, rfl⟩ rfl rfl rfl rfl rfl (by kernel_rfl) Try.func4 (by kernel_rfl)
    (of_decide_eq_true (by kernel_rfl)) (by unfold Func.isWrapper; first | (rw [if_pos (by decide +kernel)]; kernel_rfl) | (rw [if_neg (by decide +kernel)]; exact ⟨rfl, rfl⟩))
    (fun os started H enc _ => lifted os started H enc)

theorem proved : Rows.AreaFormsSaid :=
  over
#print axioms proved
end Go.Proofs.Ytfmpbofhaoijpaa.areaForms
