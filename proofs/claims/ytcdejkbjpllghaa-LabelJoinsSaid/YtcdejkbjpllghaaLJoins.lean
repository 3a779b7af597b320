/- The law LabelJoins answers true for every three bytes, and leaves its arguments alone. No condition. -/
import Derived.Test.YtcdejkbjpllghaaRows
import Derived.Test.YtcdejkbjpllghaaT10
import Derived.WalkKit
import Derived.ProofKit
import Derived.OpenShut
namespace Go.Proofs.Ytcdejkbjpllghaa.labelJoins
open Go.ChangeShapes Go.WideShapes Go.ChangeAt Go.RowKit
set_option linter.unusedVariables false      -- a walk need not use every 'w<i>' (that an integer argument fits its kind)

theorem own : ownKnob Try.prog.godebug = none := by kernel_rfl

open Fl
set_option maxRecDepth 100000 in
set_option maxHeartbeats 3200000 in
theorem walk (a0 : Int) (a1 : Int) (a2 : Int) (w0 : (Lit.int .u8 a0).wf = true) (w1 : (Lit.int .u8 a1).wf = true) (w2 : (Lit.int .u8 a2).wf = true) (w : World) :
    Calls Try.prog 8 #[.int .u8 a0, .int .u8 a1, .int .u8 a2] w fun e w' => e = .returned (.bool true) ∧ Below w.heap.size w w' := by
  have bd0 := bounds_u8 w0
  have bd1 := bounds_u8 w1
  have bd2 := bounds_u8 w2
  clear w0 w1 w2
  obtain ⟨l, c, e0, e1, hl, hc⟩ := of_nat a0 bd0
  obtain ⟨i, j, e2, e3, hi, hj⟩ := of_nat a1 bd1
  obtain ⟨m, n, e4, e5, hm, hn⟩ := of_nat a2 bd2
  have E0 := Lib.hid e0
  have E1 := Lib.hid e1
  have E2 := Lib.hid e2
  have E3 := Lib.hid e3
  have E4 := Lib.hid e4
  have E5 := Lib.hid e5
  clear e0 e1 e2 e3 e4 e5
  go_enter Try.func8, Try.ntmps8
  go_wp2_with fail
  refine (begun_any _).mono ?_; rintro e W1 ⟨rfl, hB⟩
  go_wp2_with fail
  refine (of_all _ _ (by omega)).mono ?_; rintro e W2 ⟨rfl, hb⟩
  replace hB := keepB hB hb
  clear hb
  go_wp2_with fail
  refine (of_all _ _ (by omega)).mono ?_; rintro e W3 ⟨rfl, hb⟩
  replace hB := keepB hB hb
  clear hb
  go_wp2_with fail
  refine (of_all _ _ (by omega)).mono ?_; rintro e W4 ⟨rfl, hb⟩
  replace hB := keepB hB hb
  clear hb
  rw [E0.out, E1.out, E2.out, E3.out, E4.out, E5.out]
  clear E0 E1 E2 E3 E4 E5 bd0 bd1 bd2
  go_wp2_with fail
  obtain ⟨W, hW⟩ : ∃ W, W = ((W4.alloc (Obj.cells #[.int .i64 l, .int .i64 c] 23)).alloc (Obj.cells #[.int .i64 i, .int .i64 j] 23)).alloc (Obj.cells #[.int .i64 m, .int .i64 n] 23) := ⟨_, rfl⟩
  have z0 : W.cell? ⟨W4.heap.size, 0, none⟩ = some (.int .i64 l) := by rw [hW]; simp [go_sem]
  have z1 : W.cell? ⟨W4.heap.size, 1, none⟩ = some (.int .i64 c) := by rw [hW]; simp [go_sem]
  have z2 : W.cell? ⟨W4.heap.size + 1, 0, none⟩ = some (.int .i64 i) := by rw [hW]; simp [go_sem]
  have z3 : W.cell? ⟨W4.heap.size + 1, 1, none⟩ = some (.int .i64 j) := by rw [hW]; simp [go_sem]
  have z4 : W.cell? ⟨W4.heap.size + 1 + 1, 0, none⟩ = some (.int .i64 m) := by rw [hW]; simp [go_sem]
  have z5 : W.cell? ⟨W4.heap.size + 1 + 1, 1, none⟩ = some (.int .i64 n) := by rw [hW]; simp [go_sem]
  have zB : Below w.heap.size w W := by
    have := hB.size
    rw [hW]
    exact ((hB.alloc this _).alloc (by simp; omega) _).alloc (by simp; omega) _
  rw [← hW]
  clear hW hB
  generalize W4.heap.size = p at *
  have o1 := or_le c j hc hj
  have o2 := or_le j n hj hn
  have o3 := or_le c n hc hn
  have o4 := and_le c j hc
  have o5 := and_le j n hj
  have o6 := and_le c n hc
  have f1 : (c ||| j) ||| n = c ||| (j ||| n) := or_as ⟨c, by omega⟩ ⟨j, by omega⟩ ⟨n, by omega⟩
  have f2 : (c &&& j) &&& n = c &&& (j &&& n) := and_as ⟨c, by omega⟩ ⟨j, by omega⟩ ⟨n, by omega⟩
  have f3 : max (max l i) m = max l (max i m) := by omega
  have f4 : min (min l i) m = min l (min i m) := by omega
  have k0 : ∀ g : Later _, g.w.cell? _ = _ := fun g => g.keep z0
  have k1 : ∀ g : Later _, g.w.cell? _ = _ := fun g => g.keep z1
  have k2 : ∀ g : Later _, g.w.cell? _ = _ := fun g => g.keep z2
  have k3 : ∀ g : Later _, g.w.cell? _ = _ := fun g => g.keep z3
  have k4 : ∀ g : Later _, g.w.cell? _ = _ := fun g => g.keep z4
  have k5 : ∀ g : Later _, g.w.cell? _ = _ := fun g => g.keep z5
  refine wp_region_later (by kernel_rfl) (by kernel_rfl) ?_
  repeat (first | go_big_quiet_step ((first | (go_at_call 16; exact quiet_laterB (above_yes _ _ _ _ _ (by first | assumption | omega) (by first | assumption | omega) (by first | assumption | omega) (by first | assumption | omega)) (by assumption)) | (go_at_call 18; exact quiet_later (Join_yes _ _ _ _ _ (by first | assumption | omega) (by first | assumption | omega) (by first | assumption | omega) (by first | assumption | omega))) | (go_at_call 20; exact quiet_later (Meet_yes _ _ _ _ _ (by first | assumption | omega) (by first | assumption | omega) (by first | assumption | omega) (by first | assumption | omega))) | (go_at_call 22; exact quiet_later (less_yes _ _ _ _ _ (by first | assumption | omega) (by first | assumption | omega) (by first | assumption | omega) (by first | assumption | omega))))) | (refine BigFrame.wpQuiet_skip (by rfl) ?_; simp only [Act.put, List.setIfInBounds_toArray, List.set_cons_zero, List.set_cons_succ]))
  refine wpQuiet_nil ?_
  intro _ hw'
  obtain ⟨nq, hw''⟩ := hw'
  subst hw''
  replace z0 := k0 nq
  replace z1 := k1 nq
  replace z2 := k2 nq
  replace z3 := k3 nq
  replace z4 := k4 nq
  replace z5 := k5 nq
  replace zB := keepB zB nq.below
  clear k0 k1 k2 k3 k4 k5
  generalize Later.w nq = V at *
  clear nq
  go_wp2_with fail
  cases hab : aboveN l c i j
  · have k0 : ∀ g : Later _, g.w.cell? _ = _ := fun g => g.keep z0
    have k1 : ∀ g : Later _, g.w.cell? _ = _ := fun g => g.keep z1
    have k2 : ∀ g : Later _, g.w.cell? _ = _ := fun g => g.keep z2
    have k3 : ∀ g : Later _, g.w.cell? _ = _ := fun g => g.keep z3
    have k4 : ∀ g : Later _, g.w.cell? _ = _ := fun g => g.keep z4
    have k5 : ∀ g : Later _, g.w.cell? _ = _ := fun g => g.keep z5
    refine wp_region_later (by kernel_rfl) (by kernel_rfl) ?_
    repeat (first | go_big_quiet_step ((first | (go_at_call 16; exact quiet_laterB (above_yes _ _ _ _ _ (by first | assumption | omega) (by first | assumption | omega) (by first | assumption | omega) (by first | assumption | omega)) (by assumption)) | (go_at_call 18; exact quiet_later (Join_yes _ _ _ _ _ (by first | assumption | omega) (by first | assumption | omega) (by first | assumption | omega) (by first | assumption | omega))) | (go_at_call 20; exact quiet_later (Meet_yes _ _ _ _ _ (by first | assumption | omega) (by first | assumption | omega) (by first | assumption | omega) (by first | assumption | omega))) | (go_at_call 22; exact quiet_later (less_yes _ _ _ _ _ (by first | assumption | omega) (by first | assumption | omega) (by first | assumption | omega) (by first | assumption | omega))))) | (refine BigFrame.wpQuiet_skip (by rfl) ?_; simp only [Act.put, List.setIfInBounds_toArray, List.set_cons_zero, List.set_cons_succ]))
    refine wpQuiet_nil ?_
    intro _ hw'
    obtain ⟨nq, hw''⟩ := hw'
    subst hw''
    replace z0 := k0 nq
    replace z1 := k1 nq
    replace z2 := k2 nq
    replace z3 := k3 nq
    replace z4 := k4 nq
    replace z5 := k5 nq
    replace zB := keepB zB nq.below
    clear k0 k1 k2 k3 k4 k5
    generalize Later.w nq = V at *
    clear nq
    go_wp2_with fail
    clear f1 f2 f3 f4
    have g1 : max l l = l := by omega
    have g2 : c ||| c = c := by simp
    have g3 : min l l = l := by omega
    have g4 : c &&& c = c := by simp
    have g5 : min i l = min l i := by omega
    have g6 : j &&& c = c &&& j := Nat.and_comm _ _
    have g7 : min l (max i m) = max (min l i) (min l m) := by omega
    have g8 : c &&& (j ||| n) = (c &&& j) ||| (c &&& n) := and_or_distrib ⟨c, by omega⟩ ⟨j, by omega⟩ ⟨n, by omega⟩
    have k0 : ∀ g : Later _, g.w.cell? _ = _ := fun g => g.keep z0
    have k1 : ∀ g : Later _, g.w.cell? _ = _ := fun g => g.keep z1
    have k2 : ∀ g : Later _, g.w.cell? _ = _ := fun g => g.keep z2
    have k3 : ∀ g : Later _, g.w.cell? _ = _ := fun g => g.keep z3
    have k4 : ∀ g : Later _, g.w.cell? _ = _ := fun g => g.keep z4
    have k5 : ∀ g : Later _, g.w.cell? _ = _ := fun g => g.keep z5
    refine wp_region_later (by kernel_rfl) (by kernel_rfl) ?_
    repeat (first | go_big_quiet_step ((first | (go_at_call 16; exact quiet_laterB (above_yes _ _ _ _ _ (by first | assumption | omega) (by first | assumption | omega) (by first | assumption | omega) (by first | assumption | omega)) (by assumption)) | (go_at_call 18; exact quiet_later (Join_yes _ _ _ _ _ (by first | assumption | omega) (by first | assumption | omega) (by first | assumption | omega) (by first | assumption | omega))) | (go_at_call 20; exact quiet_later (Meet_yes _ _ _ _ _ (by first | assumption | omega) (by first | assumption | omega) (by first | assumption | omega) (by first | assumption | omega))) | (go_at_call 22; exact quiet_later (less_yes _ _ _ _ _ (by first | assumption | omega) (by first | assumption | omega) (by first | assumption | omega) (by first | assumption | omega))))) | (refine BigFrame.wpQuiet_skip (by rfl) ?_; simp only [Act.put, List.setIfInBounds_toArray, List.set_cons_zero, List.set_cons_succ]))
    refine wpQuiet_nil ?_
    intro _ hw'
    obtain ⟨nq, hw''⟩ := hw'
    subst hw''
    replace z0 := k0 nq
    replace z1 := k1 nq
    replace z2 := k2 nq
    replace z3 := k3 nq
    replace z4 := k4 nq
    replace z5 := k5 nq
    replace zB := keepB zB nq.below
    clear k0 k1 k2 k3 k4 k5
    generalize Later.w nq = V at *
    clear nq
    go_wp2_with fail
    go_ret
    exact ⟨rfl, zB⟩
  · obtain ⟨h1, h2⟩ := above_eq hab
    have hmono := above_mono_or ⟨c, by omega⟩ ⟨j, by omega⟩ ⟨n, by omega⟩ h2
    have q1 : aboveN (max l m) (c ||| n) (max i m) (j ||| n) = true := above_mk (by omega) hmono.1
    have q2 : aboveN (min l m) (c &&& n) (min i m) (j &&& n) = true := above_mk (by omega) hmono.2
    clear hmono h2
    have k0 : ∀ g : Later _, g.w.cell? _ = _ := fun g => g.keep z0
    have k1 : ∀ g : Later _, g.w.cell? _ = _ := fun g => g.keep z1
    have k2 : ∀ g : Later _, g.w.cell? _ = _ := fun g => g.keep z2
    have k3 : ∀ g : Later _, g.w.cell? _ = _ := fun g => g.keep z3
    have k4 : ∀ g : Later _, g.w.cell? _ = _ := fun g => g.keep z4
    have k5 : ∀ g : Later _, g.w.cell? _ = _ := fun g => g.keep z5
    refine wp_region_later (by kernel_rfl) (by kernel_rfl) ?_
    repeat (first | go_big_quiet_step ((first | (go_at_call 16; exact quiet_laterB (above_yes _ _ _ _ _ (by first | assumption | omega) (by first | assumption | omega) (by first | assumption | omega) (by first | assumption | omega)) (by assumption)) | (go_at_call 18; exact quiet_later (Join_yes _ _ _ _ _ (by first | assumption | omega) (by first | assumption | omega) (by first | assumption | omega) (by first | assumption | omega))) | (go_at_call 20; exact quiet_later (Meet_yes _ _ _ _ _ (by first | assumption | omega) (by first | assumption | omega) (by first | assumption | omega) (by first | assumption | omega))) | (go_at_call 22; exact quiet_later (less_yes _ _ _ _ _ (by first | assumption | omega) (by first | assumption | omega) (by first | assumption | omega) (by first | assumption | omega))))) | (refine BigFrame.wpQuiet_skip (by rfl) ?_; simp only [Act.put, List.setIfInBounds_toArray, List.set_cons_zero, List.set_cons_succ]))
    refine wpQuiet_nil ?_
    intro _ hw'
    obtain ⟨nq, hw''⟩ := hw'
    subst hw''
    replace z0 := k0 nq
    replace z1 := k1 nq
    replace z2 := k2 nq
    replace z3 := k3 nq
    replace z4 := k4 nq
    replace z5 := k5 nq
    replace zB := keepB zB nq.below
    clear k0 k1 k2 k3 k4 k5
    generalize Later.w nq = V at *
    clear nq
    go_wp2_with fail
    clear q1 q2
    clear f1 f2 f3 f4
    have g1 : max l l = l := by omega
    have g2 : c ||| c = c := by simp
    have g3 : min l l = l := by omega
    have g4 : c &&& c = c := by simp
    have g5 : min i l = min l i := by omega
    have g6 : j &&& c = c &&& j := Nat.and_comm _ _
    have g7 : min l (max i m) = max (min l i) (min l m) := by omega
    have g8 : c &&& (j ||| n) = (c &&& j) ||| (c &&& n) := and_or_distrib ⟨c, by omega⟩ ⟨j, by omega⟩ ⟨n, by omega⟩
    have k0 : ∀ g : Later _, g.w.cell? _ = _ := fun g => g.keep z0
    have k1 : ∀ g : Later _, g.w.cell? _ = _ := fun g => g.keep z1
    have k2 : ∀ g : Later _, g.w.cell? _ = _ := fun g => g.keep z2
    have k3 : ∀ g : Later _, g.w.cell? _ = _ := fun g => g.keep z3
    have k4 : ∀ g : Later _, g.w.cell? _ = _ := fun g => g.keep z4
    have k5 : ∀ g : Later _, g.w.cell? _ = _ := fun g => g.keep z5
    refine wp_region_later (by kernel_rfl) (by kernel_rfl) ?_
    repeat (first | go_big_quiet_step ((first | (go_at_call 16; exact quiet_laterB (above_yes _ _ _ _ _ (by first | assumption | omega) (by first | assumption | omega) (by first | assumption | omega) (by first | assumption | omega)) (by assumption)) | (go_at_call 18; exact quiet_later (Join_yes _ _ _ _ _ (by first | assumption | omega) (by first | assumption | omega) (by first | assumption | omega) (by first | assumption | omega))) | (go_at_call 20; exact quiet_later (Meet_yes _ _ _ _ _ (by first | assumption | omega) (by first | assumption | omega) (by first | assumption | omega) (by first | assumption | omega))) | (go_at_call 22; exact quiet_later (less_yes _ _ _ _ _ (by first | assumption | omega) (by first | assumption | omega) (by first | assumption | omega) (by first | assumption | omega))))) | (refine BigFrame.wpQuiet_skip (by rfl) ?_; simp only [Act.put, List.setIfInBounds_toArray, List.set_cons_zero, List.set_cons_succ]))
    refine wpQuiet_nil ?_
    intro _ hw'
    obtain ⟨nq, hw''⟩ := hw'
    subst hw''
    replace z0 := k0 nq
    replace z1 := k1 nq
    replace z2 := k2 nq
    replace z3 := k3 nq
    replace z4 := k4 nq
    replace z5 := k5 nq
    replace zB := keepB zB nq.below
    clear k0 k1 k2 k3 k4 k5
    generalize Later.w nq = V at *
    clear nq
    go_wp2_with fail
    go_ret
    exact ⟨rfl, zB⟩

/-! ### THE ROW's STEP: WRITTEN OUT: LEAVE IT -/
set_option maxRecDepth 100000 in
theorem lifted (os : Os) (started : os.Started) (H : Type) (enc : TypeId × Value → H) :
    ReturnsInHanded {} Try.checked os 8 .any (Rows.labelJoinsSpec.pre6 enc Try.prog Try.f8 Rows.labelJoinsRow.domain false) (Rows.labelJoinsSpec.post enc Try.prog Try.f8 false true false false) := by
  refine returnsInHanded_of_change (C := Try.checked) own started (by kernel_rfl) Try.func8
    (ChangeSpec.witness6 (enc := enc) (C := Try.checked) false ⟨#[], #[.int .u8 0, .int .u8 0, .int .u8 0], []⟩ 8 (by kernel_rfl) (by kernel_rfl) (by kernel_rfl) (by kernel_rfl)) ?_
  intro W base args ds gs before hval0 hW hcnd _
  have hval : ∀ (j : Nat) t v, Try.f8.params[j]? = some t → args[j]? = some v → Value.okWide Try.prog W .any base t v := hval0
  have hW' := hW
  obtain ⟨p, q, hA0, hV, rfl, hfz, hnd⟩ := hW
  have hA : DataW.TrodAll enc Try.prog W 0 (fun _ => true) true Try.f8.params.toList args.toList ds p := hA0
  rw [Try.params8] at hA hval
  obtain ⟨v0, vs0, d0, ds0, p0, q0, hargs, rfl, rfl, h0, r0⟩ := trodAll_cons hA
  obtain ⟨v1, vs1, d1, ds1, p1, q1, rfl, rfl, rfl, h1, r1⟩ := trodAll_cons r0
  obtain ⟨v2, vs2, d2, ds2, p2, q2, rfl, rfl, rfl, h2, r2⟩ := trodAll_cons r1
  obtain ⟨rfl, rfl, rfl⟩ := trodAll_nil r2
  obtain rfl : args = #[v0, v1, v2] := by cases args; simp_all
  obtain ⟨rfl, rfl⟩ := trodVars_none hV
  obtain ⟨a0, rfl, rfl, rfl, w0⟩ := open_int Try.underlying5 (hval 0 5 v0 rfl rfl) h0
  obtain ⟨a1, rfl, rfl, rfl, w1⟩ := open_int Try.underlying5 (hval 1 5 v1 rfl rfl) h1
  obtain ⟨a2, rfl, rfl, rfl, w2⟩ := open_int Try.underlying5 (hval 2 5 v2 rfl rfl) h2
  clear hA0 hval0
  simp only [List.append_nil] at hW'
  refine (walk a0 a1 a2 w0 w1 w2 W).mono fun e W' ⟨he, bel⟩ => ?_
  subst he
  exact ⟨_, rfl, _, _, _, [], _, [], hW', (trodAll_cons_mk (shut_bool Try.underlying4 _) trodAll_mk0), (trodAll_cons_mk (shut_int Try.underlying5 w0) (trodAll_cons_mk (shut_int Try.underlying5 w1) (trodAll_cons_mk (shut_int Try.underlying5 w2) trodAll_mk0))), rfl, bel.frame _, fun h => by cases h⟩

theorem over : Rows.labelJoinsRow.holds Try.pinned (OpenSpec.ofChange Rows.labelJoinsSpec) :=
  OpenClaim.holds_of_wide 8 Try.f8 rfl rfl rfl rfl rfl rfl rfl ⟨rfl, rfl, rfl, rfl, rfl⟩ rfl rfl rfl rfl rfl (by kernel_rfl) Try.func8 (by kernel_rfl)
    (of_decide_eq_true (by kernel_rfl)) (by unfold Func.isWrapper; first | (rw [if_pos (by decide +kernel)]; kernel_rfl) | (rw [if_neg (by decide +kernel)]; exact ⟨rfl, rfl⟩))
    (fun os started H enc _ => lifted os started H enc)

/-- ████ THE STATEMENT ████ -/
theorem proved : Rows.LabelJoinsSaid :=
  over
#print axioms proved
end Go.Proofs.Ytcdejkbjpllghaa.labelJoins
