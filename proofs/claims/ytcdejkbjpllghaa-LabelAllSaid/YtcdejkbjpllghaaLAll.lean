/- The law LabelAll answers true for every two labels and every byte, and leaves its arguments alone. No condition. -/
import Derived.Test.YtcdejkbjpllghaaRows
import Derived.Test.YtcdejkbjpllghaaT10
import Derived.WalkKit
import Derived.ProofKit
import Derived.OpenShut
import Derived.Lib.SmallJoins
namespace Go.Proofs.Ytcdejkbjpllghaa.labelAll
open Go.ChangeShapes Go.WideShapes Go.ChangeAt Go.RowKit Go.Joins
open Fl
set_option linter.unusedVariables false
theorem own : ownKnob Try.prog.godebug = none := by kernel_rfl
theorem cells23 : Try.prog.cellsOf 23 = 2 := by kernel_rfl
theorem cells3 : Try.prog.cellsOf 3 = 1 := by kernel_rfl

theorem keepE {W W' : World} {o : Obj} (e : W' = W.alloc o) {a : Addr} {v : Value} (h : W.cell? a = some v) : W'.cell? a = some v := by rw [e]; exact keepA h o
theorem refMay_all (l c : Int) (w : World) :
    Calls Try.prog 15 #[.agg #[.int .i64 l, .int .i64 c]] w fun e w' => e = .returned (.bool (mayV l c)) ∧ Below w.heap.size w w' := by
  cases h : mayV l c
  · exact refMay_no l c w (may_f h)
  · obtain ⟨l', c', rfl, rfl, h1, h2⟩ := may_t h
    exact refMay_yes l' c' w h1 h2
theorem refPut_all (l c : Int) (w : World) :
    Calls Try.prog 11 #[.agg #[.int .i64 l, .int .i64 c]] w fun e w' => e = .returned (.tuple #[.int .u8 (putV l c), .bool (mayV l c)]) ∧ Below w.heap.size w w' := by
  unfold putV
  cases h : mayV l c
  · exact refPut_no l c w (may_f h)
  · obtain ⟨l', c', rfl, rfl, h1, h2⟩ := may_t h
    have e : (16 * (l' : Int) + c') = (((l' : Int).toNat * 16 + (c' : Int).toNat : Nat) : Int) := by omega
    rw [if_pos rfl, ← e]
    exact refPut_yes l' c' w h1 h2
theorem refTake_all (b : Int) (w : World) (h : 0 ≤ b ∧ b < 256) :
    Calls Try.prog 13 #[.int .u8 b] w fun e w' => e = .returned (.tuple #[.agg #[.int .i64 (takeL b), .int .i64 (takeC b)], .bool (takeOk b)]) ∧ Below w.heap.size w w' := by
  unfold takeL takeC
  obtain ⟨n, rfl⟩ : ∃ n : Nat, b = n := ⟨b.toNat, by omega⟩
  cases g : takeOk n
  · have := of_decide_eq_false g
    exact refTake_no n w (by omega) (by omega)
  · have := of_decide_eq_true g
    exact refTake_yes n w (by omega)

set_option maxRecDepth 100000 in
set_option maxHeartbeats 3200000 in
theorem walk (l c i j b : Int) (wl : (Lit.int .i64 l).wf = true) (wc : (Lit.int .i64 c).wf = true) (wi : (Lit.int .i64 i).wf = true) (wj : (Lit.int .i64 j).wf = true) (wb : (Lit.int .u8 b).wf = true) (w : World) :
    Calls Try.prog 3 #[.agg #[.int .i64 l, .int .i64 c], .agg #[.int .i64 i, .int .i64 j], .int .u8 b] w fun e w' => e = .returned (.bool true) ∧ Below w.heap.size w w' := by
  have bb := bounds_u8 wb
  have s0 : i64 l := by have := bounds_i64 wl; constructor <;> omega
  have s1 : i64 c := by have := bounds_i64 wc; constructor <;> omega
  have s2 : i64 i := by have := bounds_i64 wi; constructor <;> omega
  have s3 : i64 j := by have := bounds_i64 wj; constructor <;> omega
  clear wl wc wi wj wb
  go_enter Try.func3, Try.ntmps3
  go_wp2_with fail
  refine (begun_any _).mono ?_; rintro e W1 ⟨rfl, hb⟩
  have z0 := keep hb (b := w.heap.size) (o := 0) (v := .int .i64 l) (by simp [go_sem])
  have z1 := keep hb (b := w.heap.size) (o := 1) (v := .int .i64 c) (by simp [go_sem])
  have z2 := keep hb (b := w.heap.size + 1) (o := 0) (v := .int .i64 i) (by simp [go_sem])
  have z3 := keep hb (b := w.heap.size + 1) (o := 1) (v := .int .i64 j) (by simp [go_sem])
  have zB := ((((Below.refl w.heap.size w).alloc (Nat.le_refl _) _).alloc (by simp) _).trans (hb.mono (by simp; omega)))
  clear hb
  generalize hp : w.heap.size = p at *
  go_wp2_with fail
  refine (put_all _ _ _ s0 s1).mono ?_; rintro e W2 ⟨rfl, hb⟩
  replace z0 := keep hb z0
  replace z1 := keep hb z1
  replace z2 := keep hb z2
  replace z3 := keep hb z3
  subst hp
  replace zB := keepB zB hb
  clear hb
  generalize hp : w.heap.size = p at *
  go_wp2_with fail
  refine (refPut_all _ _ _).mono ?_; rintro e W3 ⟨rfl, hb⟩
  replace z0 := keep hb z0
  replace z1 := keep hb z1
  replace z2 := keep hb z2
  replace z3 := keep hb z3
  subst hp
  replace zB := keepB zB hb
  clear hb
  generalize hp : w.heap.size = p at *
  go_wp2_with fail
  refine (take_all _ _ (by omega)).mono ?_; rintro e W4 ⟨rfl, hb⟩
  replace z0 := keep hb z0
  replace z1 := keep hb z1
  replace z2 := keep hb z2
  replace z3 := keep hb z3
  subst hp
  replace zB := keepB zB hb
  clear hb
  generalize hp : w.heap.size = p at *
  go_wp2_with fail
  refine (refTake_all _ _ (by omega)).mono ?_; rintro e W5 ⟨rfl, hb⟩
  have z4 := keep hb (b := W4.heap.size) (o := 0) (v := .int .i64 (takeL b)) (by simp [go_sem])
  have z5 := keep hb (b := W4.heap.size) (o := 1) (v := .int .i64 (takeC b)) (by simp [go_sem])
  replace z0 := keep hb (keepA z0 _)
  replace z1 := keep hb (keepA z1 _)
  replace z2 := keep hb (keepA z2 _)
  replace z3 := keep hb (keepA z3 _)
  subst hp
  replace zB := keepB (zB.alloc zB.size _) hb
  clear hb
  generalize W4.heap.size = q at *
  go_wp2_with fail
  obtain ⟨W6, hW⟩ : ∃ W6, W6 = W5.alloc (Obj.cells #[.int .i64 (takeL b), .int .i64 (takeC b)] 23) := ⟨_, rfl⟩
  have z6 : W6.cell? ⟨W5.heap.size, 0, none⟩ = some (.int .i64 (takeL b)) := by rw [hW]; simp [go_sem]
  have z7 : W6.cell? ⟨W5.heap.size, 1, none⟩ = some (.int .i64 (takeC b)) := by rw [hW]; simp [go_sem]
  replace z0 := keepE hW z0
  replace z1 := keepE hW z1
  replace z2 := keepE hW z2
  replace z3 := keepE hW z3
  replace z4 := keepE hW z4
  replace z5 := keepE hW z5
  replace zB : Below w.heap.size w W6 := by rw [hW]; exact zB.alloc zB.size _
  rw [← hW]
  clear hW
  generalize W5.heap.size = q2 at *
  have k0 : ∀ g : Later W6, g.w.cell? _ = _ := fun g => g.keep z0
  have k1 : ∀ g : Later W6, g.w.cell? _ = _ := fun g => g.keep z1
  have k2 : ∀ g : Later W6, g.w.cell? _ = _ := fun g => g.keep z2
  have k3 : ∀ g : Later W6, g.w.cell? _ = _ := fun g => g.keep z3
  have k4 : ∀ g : Later W6, g.w.cell? _ = _ := fun g => g.keep z4
  have k5 : ∀ g : Later W6, g.w.cell? _ = _ := fun g => g.keep z5
  have k6 : ∀ g : Later W6, g.w.cell? _ = _ := fun g => g.keep z6
  have k7 : ∀ g : Later W6, g.w.cell? _ = _ := fun g => g.keep z7
  refine wp_region_later (by kernel_rfl) (by kernel_rfl) ?_
  repeat (first | go_big_quiet_step ((first | (go_at_call 14; exact quiet_later (may_all _ _ _ s0 s1)) | (go_at_call 15; exact quiet_later (refMay_all _ _ _)))) | (refine BigFrame.wpQuiet_skip (by rfl) ?_; simp only [Act.put, List.setIfInBounds_toArray, List.set_cons_zero, List.set_cons_succ]))
  refine wpQuiet_nil ?_
  intro _ hw'
  obtain ⟨nq, hw''⟩ := hw'
  subst hw''
  replace z0 := k0 nq
  replace z1 := k1 nq
  replace z2 := k2 nq
  replace z3 := k3 nq
  replace z4 := k4 nq
  replace z5 := k5 nq
  replace z6 := k6 nq
  replace z7 := k7 nq
  replace zB := keepB zB nq.below
  clear k0 k1 k2 k3 k4 k5 k6 k7
  generalize Later.w nq = V at *
  clear nq
  clear z4 z5 z6 z7
  cases m1 : mayV l c
  · go_wp2_with fail
    refine (refMay_no _ _ _ (may_f m1)).mono ?_; rintro e W7 ⟨rfl, hb⟩
    replace zB := keepB zB hb
    go_wp2_with fail
    go_ret
    exact ⟨rfl, zB⟩
  obtain ⟨l', c', rfl, rfl, hl, hc⟩ := may_t m1
  cases m2 : mayV i j
  · go_wp2_with fail
    refine (refMay_yes _ _ _ hl hc).mono ?_; rintro e W7 ⟨rfl, hb⟩
    replace z0 := keep hb z0; replace z1 := keep hb z1; replace z2 := keep hb z2; replace z3 := keep hb z3; replace zB := keepB zB hb; clear hb
    go_wp2_with fail
    refine (refMay_no _ _ _ (may_f m2)).mono ?_; rintro e W8 ⟨rfl, hb⟩
    replace zB := keepB zB hb
    go_wp2_with fail
    go_ret
    exact ⟨rfl, zB⟩
  obtain ⟨i', j', rfl, rfl, hi, hj⟩ := may_t m2
  go_wp2_with fail
  refine (refMay_yes _ _ _ hl hc).mono ?_; rintro e W7 ⟨rfl, hb⟩
  replace z0 := keep hb z0; replace z1 := keep hb z1; replace z2 := keep hb z2; replace z3 := keep hb z3; replace zB := keepB zB hb; clear hb
  go_wp2_with fail
  refine (refMay_yes _ _ _ hi hj).mono ?_; rintro e W8 ⟨rfl, hb⟩
  replace z0 := keep hb z0; replace z1 := keep hb z1; replace z2 := keep hb z2; replace z3 := keep hb z3; replace zB := keepB zB hb; clear hb
  go_wp2_with fail
  clear m1 m2 s0 s1 s2 s3
  have k0 : ∀ g : Later _, g.w.cell? _ = _ := fun g => g.keep z0
  have k1 : ∀ g : Later _, g.w.cell? _ = _ := fun g => g.keep z1
  have k2 : ∀ g : Later _, g.w.cell? _ = _ := fun g => g.keep z2
  have k3 : ∀ g : Later _, g.w.cell? _ = _ := fun g => g.keep z3
  refine wp_region_later (by kernel_rfl) (by kernel_rfl) ?_
  repeat (first | go_big_quiet_step ((first | (go_at_call 16; exact quiet_later (above_yes _ _ _ _ _ (by first | assumption | omega) (by first | assumption | omega) (by first | assumption | omega) (by first | assumption | omega))) | (go_at_call 17; exact quiet_later (refAbove_yes _ _ _ _ _ (by first | assumption | omega) (by first | assumption | omega) (by first | assumption | omega) (by first | assumption | omega))) | (go_at_call 18; exact quiet_later (Join_yes _ _ _ _ _ (by first | assumption | omega) (by first | assumption | omega) (by first | assumption | omega) (by first | assumption | omega))) | (go_at_call 19; exact quiet_later (refJoin_yes _ _ _ _ _ (by first | assumption | omega) (by first | assumption | omega) (by first | assumption | omega) (by first | assumption | omega))) | (go_at_call 20; exact quiet_later (Meet_yes _ _ _ _ _ (by first | assumption | omega) (by first | assumption | omega) (by first | assumption | omega) (by first | assumption | omega))) | (go_at_call 21; exact quiet_later (refMeet_yes _ _ _ _ _ (by first | assumption | omega) (by first | assumption | omega) (by first | assumption | omega) (by first | assumption | omega))) | (go_at_call 22; exact quiet_later (less_yes _ _ _ _ _ (by first | assumption | omega) (by first | assumption | omega) (by first | assumption | omega) (by first | assumption | omega))) | (go_at_call 23; exact quiet_later (refLess_yes _ _ _ _ _ (by first | assumption | omega) (by first | assumption | omega) (by first | assumption | omega) (by first | assumption | omega))))) | (refine BigFrame.wpQuiet_skip (by rfl) ?_; simp only [Act.put, List.setIfInBounds_toArray, List.set_cons_zero, List.set_cons_succ]))
  refine wpQuiet_nil ?_
  intro _ hw'
  obtain ⟨nq, hw''⟩ := hw'
  subst hw''
  replace z0 := k0 nq
  replace z1 := k1 nq
  replace z2 := k2 nq
  replace z3 := k3 nq
  replace zB := keepB zB nq.below
  clear k0 k1 k2 k3
  generalize Later.w nq = V at *
  clear nq
  go_wp2_with fail
  go_ret
  exact ⟨rfl, zB⟩

set_option maxRecDepth 100000 in
theorem lifted (os : Os) (started : os.Started) (H : Type) (enc : TypeId × Value → H) :
    ReturnsInHanded {} Try.checked os 3 .any (Rows.labelAllSpec.pre6 enc Try.prog Try.f3 Rows.labelAllRow.domain false) (Rows.labelAllSpec.post enc Try.prog Try.f3 false true false false) := by
  refine returnsInHanded_of_change (C := Try.checked) own started (by kernel_rfl) Try.func3
    (ChangeSpec.witness6 (enc := enc) (C := Try.checked) false ⟨#[], #[.agg #[.int .i64 0, .int .i64 0], .agg #[.int .i64 0, .int .i64 0], .int .u8 0], []⟩ 8 (by kernel_rfl) (by kernel_rfl) (by kernel_rfl) (by kernel_rfl)) ?_
  intro W base args ds gs before hval0 hW hcnd _
  have hval : ∀ (j : Nat) t v, Try.f3.params[j]? = some t → args[j]? = some v → Value.okWide Try.prog W .any base t v := hval0
  have hW' := hW
  obtain ⟨p, q, hA0, hV, rfl, hfz, hnd⟩ := hW
  have hA : DataW.TrodAll enc Try.prog W 0 (fun _ => true) true Try.f3.params.toList args.toList ds p := hA0
  rw [Try.params3] at hA hval
  obtain ⟨v0, vs0, d0, ds0, p0, q0, hargs, rfl, rfl, h0, r0⟩ := trodAll_cons hA
  obtain ⟨v1, vs1, d1, ds1, p1, q1, rfl, rfl, rfl, h1, r1⟩ := trodAll_cons r0
  obtain ⟨v2, vs2, d2, ds2, p2, q2, rfl, rfl, rfl, h2, r2⟩ := trodAll_cons r1
  obtain ⟨rfl, rfl, rfl⟩ := trodAll_nil r2
  obtain rfl : args = #[v0, v1, v2] := by cases args; simp_all
  obtain ⟨rfl, rfl⟩ := trodVars_none hV
  obtain ⟨c0, c1, y0, y1, m, rfl, rfl, rfl, hy0, hy1⟩ := open_agg2 Try.underlying23 (by kernel_rfl) cells23 (hval 0 23 v0 rfl rfl) h0
  obtain ⟨a, e0, rfl, wa⟩ := DataW.trod_int Try.underlying3 hy0
  obtain ⟨b, e1, rfl, wb⟩ := DataW.trod_int Try.underlying3 hy1
  simp at e0 e1
  subst e0 e1
  obtain ⟨c2, c3, y2, y3, m', rfl, rfl, rfl, hy2, hy3⟩ := open_agg2 Try.underlying23 (by kernel_rfl) cells23 (hval 1 23 v1 rfl rfl) h1
  obtain ⟨a', e2, rfl, wa'⟩ := DataW.trod_int Try.underlying3 hy2
  obtain ⟨b', e3, rfl, wb'⟩ := DataW.trod_int Try.underlying3 hy3
  simp at e2 e3
  subst e2 e3
  obtain ⟨x, rfl, rfl, rfl, wx⟩ := open_int Try.underlying5 (hval 2 5 v2 rfl rfl) h2
  clear hA0 hval0
  simp only [List.append_nil] at hW'
  have reads : ∀ (W' : World) (sp : Nat → Bool) (a b : Int) (wa : (Lit.int .i64 a).wf = true) (wb : (Lit.int .i64 b).wf = true), DataW.Trod enc Try.prog W' 0 sp true 23 (.agg #[.int .i64 a, .int .i64 b]) (.agg [.lit (.int .i64 a), .lit (.int .i64 b)]) [] := fun W' sp a b wa wb =>
    shut_agg2 (y0 := (.lit (.int .i64 a), [])) (y1 := (.lit (.int .i64 b), [])) Try.underlying23 (by kernel_rfl) cells23 ⟨1, by simp [DataW.trod, Try.underlying3, wa]⟩ ⟨1, by simp [DataW.trod, Try.underlying3, wb]⟩
  refine (walk a b a' b' x wa wb wa' wb' wx W).mono fun e W' ⟨he, bel⟩ => ?_
  subst he
  exact ⟨_, rfl, _, _, _, [], _, [], hW', (trodAll_cons_mk (shut_bool Try.underlying4 _) trodAll_mk0), (trodAll_cons_mk (reads _ _ a b wa wb) (trodAll_cons_mk (reads _ _ a' b' wa' wb') (trodAll_cons_mk (shut_int Try.underlying5 wx) trodAll_mk0))), rfl, bel.frame _, fun h => by cases h⟩

theorem over : Rows.labelAllRow.holds Try.pinned (OpenSpec.ofChange Rows.labelAllSpec) :=
  OpenClaim.holds_of_wide 3 Try.f3 rfl rfl rfl rfl rfl rfl rfl ⟨rfl, rfl, rfl, rfl, rfl⟩ rfl rfl rfl rfl rfl (by kernel_rfl) Try.func3 (by kernel_rfl)
    (of_decide_eq_true (by kernel_rfl)) (by unfold Func.isWrapper; first | (rw [if_pos (by decide +kernel)]; kernel_rfl) | (rw [if_neg (by decide +kernel)]; exact ⟨rfl, rfl⟩))
    (fun os started H enc _ => lifted os started H enc)

theorem proved : Rows.LabelAllSaid :=
  over
#print axioms proved
end Go.Proofs.Ytcdejkbjpllghaa.labelAll
