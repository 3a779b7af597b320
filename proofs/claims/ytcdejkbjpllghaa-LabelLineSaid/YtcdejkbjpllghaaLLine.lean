/- The law LabelLine answers true for every three bytes, and leaves its arguments alone. No condition. -/
import Derived.Test.YtcdejkbjpllghaaRows
import Derived.Test.YtcdejkbjpllghaaT9
import Derived.WalkKit
import Derived.ProofKit
import Derived.OpenShut
namespace Go.Proofs.Ytcdejkbjpllghaa.labelLine
open Go.ChangeShapes Go.WideShapes Go.ChangeAt Go.RowKit
set_option linter.unusedVariables false      -- a walk need not use every 'w<i>' (that an integer argument fits its kind)

theorem own : ownKnob Try.prog.godebug = none := by kernel_rfl

open Fl
set_option maxRecDepth 100000 in
set_option maxHeartbeats 1600000 in
theorem walk (a0 : Int) (a1 : Int) (a2 : Int) (w0 : (Lit.int .u8 a0).wf = true) (w1 : (Lit.int .u8 a1).wf = true) (w2 : (Lit.int .u8 a2).wf = true) (w : World) :
    Calls Try.prog 5 #[.int .u8 a0, .int .u8 a1, .int .u8 a2] w fun e w' => e = .returned (.bool true) ∧ Below w.heap.size w w' := by
  have bd0 := bounds_u8 w0
  have bd1 := bounds_u8 w1
  have bd2 := bounds_u8 w2
  clear w0 w1 w2
  have m0 := may_of a0 bd0
  have m1 := may_of a1 bd1
  have m2 := may_of a2 bd2
  go_enter Try.func5, Try.ntmps5
  go_wp2_with fail
  refine (begun_any _).mono ?_; rintro e W1 ⟨rfl, hB⟩
  go_wp2_with fail
  refine (of_all _ _ (by omega)).mono ?_; rintro e W2 ⟨rfl, hb⟩
  replace hB := keepB hB hb
  clear hb
  go_wp2_with fail
  refine (of_all _ _ (by omega)).mono ?_; rintro e W3 ⟨rfl, hb⟩
  replace hB := keepB hB hb
  clear hb
  go_wp2_with fail
  refine (of_all _ _ (by omega)).mono ?_; rintro e W4 ⟨rfl, hb⟩
  replace hB := keepB hB hb
  clear hb
  generalize a0 / 16 % 4 = l at *
  generalize a0 % 16 = c at *
  generalize a1 / 16 % 4 = i at *
  generalize a1 % 16 = j at *
  generalize a2 / 16 % 4 = m at *
  generalize a2 % 16 = n at *
  clear bd0 bd1 bd2
  go_wp2_with fail
  obtain ⟨W, hW⟩ : ∃ W, W = ((W4.alloc (Obj.cells #[.int .i64 l, .int .i64 c] 23)).alloc (Obj.cells #[.int .i64 i, .int .i64 j] 23)).alloc (Obj.cells #[.int .i64 m, .int .i64 n] 23) := ⟨_, rfl⟩
  have z0 : W.cell? ⟨W4.heap.size, 0, none⟩ = some (.int .i64 l) := by rw [hW]; simp [go_sem]
  have z1 : W.cell? ⟨W4.heap.size, 1, none⟩ = some (.int .i64 c) := by rw [hW]; simp [go_sem]
  have z2 : W.cell? ⟨W4.heap.size + 1, 0, none⟩ = some (.int .i64 i) := by rw [hW]; simp [go_sem]
  have z3 : W.cell? ⟨W4.heap.size + 1, 1, none⟩ = some (.int .i64 j) := by rw [hW]; simp [go_sem]
  have z4 : W.cell? ⟨W4.heap.size + 1 + 1, 0, none⟩ = some (.int .i64 m) := by rw [hW]; simp [go_sem]
  have z5 : W.cell? ⟨W4.heap.size + 1 + 1, 1, none⟩ = some (.int .i64 n) := by rw [hW]; simp [go_sem]
  have zB : Below w.heap.size w W := by
    have := hB.size
    rw [hW]
    exact ((hB.alloc this _).alloc (by simp; omega) _).alloc (by simp; omega) _
  rw [← hW]
  clear hW hB
  generalize W4.heap.size = p at *
  have s0 := (may_i64 m0).1
  have s1 := (may_i64 m0).2
  have s2 := (may_i64 m1).1
  have s3 := (may_i64 m1).2
  have s4 := (may_i64 m2).1
  have s5 := (may_i64 m2).2
  go_region_held3 (fun wx => wx.cell? ⟨p, 0, none⟩ = some (.int .i64 l) ∧ wx.cell? ⟨p, 1, none⟩ = some (.int .i64 c) ∧ wx.cell? ⟨p + 1, 0, none⟩ = some (.int .i64 i) ∧ wx.cell? ⟨p + 1, 1, none⟩ = some (.int .i64 j) ∧ wx.cell? ⟨p + 1 + 1, 0, none⟩ = some (.int .i64 m) ∧ wx.cell? ⟨p + 1 + 1, 1, none⟩ = some (.int .i64 n) ∧ Below w.heap.size w wx)
    (first | exact ⟨z0, z1, z2, z3, z4, z5, zB.drew⟩ | (go_split_ands; exact ⟨keep hb (by assumption), keep hb (by assumption), keep hb (by assumption), keep hb (by assumption), keep hb (by assumption), keep hb (by assumption), keepB (by assumption) hb⟩))
    (first | (go_at_call 22; refine (less_all _ _ _ _ _ (by assumption) (by assumption) (by assumption) (by assumption)).mono ?_; rintro e w' ⟨rfl, hb⟩))
  rename_i hH
  obtain ⟨y0, y1, y2, y3, y4, y5, yB⟩ := hH
  rename_i V _
  clear z0 z1 z2 z3 z4 z5 zB
  have L1 := less_key m0 m1
  have L2 := less_key m1 m0
  have L3 := less_key m1 m2
  have L4 := less_key m0 m2
  have L5 := less_key m0 m0
  have A1 := @above_key _ _ _ _ m0 m1
  by_cases e : l = i ∧ c = j
  · obtain ⟨rfl, rfl⟩ := e
    have l1 : lessV l c l c = false := by rw [L5]; simp
    clear L1 L2 L3 L4 L5 A1
    cases g : aboveV l c l c
    all_goals
      go_wp2_with (first | (go_at_call 22; refine (less_all _ _ _ _ _ (by assumption) (by assumption) (by assumption) (by assumption)).mono ?_; rintro e w' ⟨rfl, hb⟩; replace y0 := keep hb y0; replace y1 := keep hb y1; replace y2 := keep hb y2; replace y3 := keep hb y3; replace y4 := keep hb y4; replace y5 := keep hb y5; replace yB := keepB yB hb; clear hb) | (go_at_call 16; refine (above_all _ _ _ _ _ (by assumption) (by assumption) (by assumption) (by assumption)).mono ?_; rintro e w' ⟨rfl, hb⟩; replace y0 := keep hb y0; replace y1 := keep hb y1; replace y2 := keep hb y2; replace y3 := keep hb y3; replace y4 := keep hb y4; replace y5 := keep hb y5; replace yB := keepB yB hb; clear hb))
      go_ret
      exact ⟨rfl, yB⟩
  · have ne : (l == i) = false ∨ ((l == i) = true ∧ (c == j) = false) := by
      by_cases h : l = i
      · exact Or.inr ⟨beq_iff_eq.2 h, beq_eq_false_iff_ne.2 (fun h' => e ⟨h, h'⟩)⟩
      · exact Or.inl (beq_eq_false_iff_ne.2 h)
    have kne : key l c ≠ key i j := fun h => e (key_inj m0 m1 h)
    have l5 : lessV l c l c = false := by rw [L5]; simp
    clear e L5
    rcases ne with ne | ⟨ne1, ne⟩
    all_goals
      by_cases k : key l c < key i j
      · have l1 : lessV l c i j = true := by rw [L1]; simpa using k
        have l2 : lessV i j l c = false := by rw [L2]; simp; omega
        have g1 : aboveV l c i j = false := by
          cases g : aboveV l c i j
          · rfl
          · have := A1 g; omega
        clear L1 L2 A1
        by_cases k3 : key i j < key m n
        · have l3 : lessV i j m n = true := by rw [L3]; simpa using k3
          have l4 : lessV l c m n = true := by rw [L4]; simp; omega
          clear L3 L4 k k3 kne
          go_wp2_with (first | (go_at_call 22; refine (less_all _ _ _ _ _ (by assumption) (by assumption) (by assumption) (by assumption)).mono ?_; rintro e w' ⟨rfl, hb⟩; replace y0 := keep hb y0; replace y1 := keep hb y1; replace y2 := keep hb y2; replace y3 := keep hb y3; replace y4 := keep hb y4; replace y5 := keep hb y5; replace yB := keepB yB hb; clear hb) | (go_at_call 16; refine (above_all _ _ _ _ _ (by assumption) (by assumption) (by assumption) (by assumption)).mono ?_; rintro e w' ⟨rfl, hb⟩; replace y0 := keep hb y0; replace y1 := keep hb y1; replace y2 := keep hb y2; replace y3 := keep hb y3; replace y4 := keep hb y4; replace y5 := keep hb y5; replace yB := keepB yB hb; clear hb))
          go_ret
          exact ⟨rfl, yB⟩
        · have l3 : lessV i j m n = false := by rw [L3]; simpa using k3
          clear L3 L4 k k3 kne
          go_wp2_with (first | (go_at_call 22; refine (less_all _ _ _ _ _ (by assumption) (by assumption) (by assumption) (by assumption)).mono ?_; rintro e w' ⟨rfl, hb⟩; replace y0 := keep hb y0; replace y1 := keep hb y1; replace y2 := keep hb y2; replace y3 := keep hb y3; replace y4 := keep hb y4; replace y5 := keep hb y5; replace yB := keepB yB hb; clear hb) | (go_at_call 16; refine (above_all _ _ _ _ _ (by assumption) (by assumption) (by assumption) (by assumption)).mono ?_; rintro e w' ⟨rfl, hb⟩; replace y0 := keep hb y0; replace y1 := keep hb y1; replace y2 := keep hb y2; replace y3 := keep hb y3; replace y4 := keep hb y4; replace y5 := keep hb y5; replace yB := keepB yB hb; clear hb))
          go_ret
          exact ⟨rfl, yB⟩
      · have l1 : lessV l c i j = false := by rw [L1]; simpa using k
        have l2 : lessV i j l c = true := by rw [L2]; simp; omega
        clear L1 L2 L3 L4 A1 k kne
        cases g : aboveV l c i j
        all_goals
          go_wp2_with (first | (go_at_call 22; refine (less_all _ _ _ _ _ (by assumption) (by assumption) (by assumption) (by assumption)).mono ?_; rintro e w' ⟨rfl, hb⟩; replace y0 := keep hb y0; replace y1 := keep hb y1; replace y2 := keep hb y2; replace y3 := keep hb y3; replace y4 := keep hb y4; replace y5 := keep hb y5; replace yB := keepB yB hb; clear hb) | (go_at_call 16; refine (above_all _ _ _ _ _ (by assumption) (by assumption) (by assumption) (by assumption)).mono ?_; rintro e w' ⟨rfl, hb⟩; replace y0 := keep hb y0; replace y1 := keep hb y1; replace y2 := keep hb y2; replace y3 := keep hb y3; replace y4 := keep hb y4; replace y5 := keep hb y5; replace yB := keepB yB hb; clear hb))
          go_ret
          exact ⟨rfl, yB⟩

/-! ### THE ROW's STEP: WRITTEN OUT: LEAVE IT -/
set_option maxRecDepth 100000 in
theorem lifted (os : Os) (started : os.Started) (H : Type) (enc : TypeId × Value → H) :
    ReturnsInHanded {} Try.checked os 5 .any (Rows.labelLineSpec.pre6 enc Try.prog Try.f5 Rows.labelLineRow.domain false) (Rows.labelLineSpec.post enc Try.prog Try.f5 false true false false) := by
  refine returnsInHanded_of_change (C := Try.checked) own started (by kernel_rfl) Try.func5
    (ChangeSpec.witness6 (enc := enc) (C := Try.checked) false ⟨#[], #[.int .u8 0, .int .u8 0, .int .u8 0], []⟩ 8 (by kernel_rfl) (by kernel_rfl) (by kernel_rfl) (by kernel_rfl)) ?_
  intro W base args ds gs before hval0 hW hcnd _
  have hval : ∀ (j : Nat) t v, Try.f5.params[j]? = some t → args[j]? = some v → Value.okWide Try.prog W .any base t v := hval0
  have hW' := hW
  obtain ⟨p, q, hA0, hV, rfl, hfz, hnd⟩ := hW
  have hA : DataW.TrodAll enc Try.prog W 0 (fun _ => true) true Try.f5.params.toList args.toList ds p := hA0
  rw [Try.params5] at hA hval
  obtain ⟨v0, vs0, d0, ds0, p0, q0, hargs, rfl, rfl, h0, r0⟩ := trodAll_cons hA
  obtain ⟨v1, vs1, d1, ds1, p1, q1, rfl, rfl, rfl, h1, r1⟩ := trodAll_cons r0
  obtain ⟨v2, vs2, d2, ds2, p2, q2, rfl, rfl, rfl, h2, r2⟩ := trodAll_cons r1
  obtain ⟨rfl, rfl, rfl⟩ := trodAll_nil r2
  obtain rfl : args = #[v0, v1, v2] := by cases args; simp_all
  obtain ⟨rfl, rfl⟩ := trodVars_none hV
  obtain ⟨a0, rfl, rfl, rfl, w0⟩ := open_int Try.underlying5 (hval 0 5 v0 rfl rfl) h0
  obtain ⟨a1, rfl, rfl, rfl, w1⟩ := open_int Try.underlying5 (hval 1 5 v1 rfl rfl) h1
  obtain ⟨a2, rfl, rfl, rfl, w2⟩ := open_int Try.underlying5 (hval 2 5 v2 rfl rfl) h2
  clear hA0 hval0
  simp only [List.append_nil] at hW'
  refine (walk a0 a1 a2 w0 w1 w2 W).mono fun e W' ⟨he, bel⟩ => ?_
  subst he
  exact ⟨_, rfl, _, _, _, [], _, [], hW', (trodAll_cons_mk (shut_bool Try.underlying4 _) trodAll_mk0), (trodAll_cons_mk (shut_int Try.underlying5 w0) (trodAll_cons_mk (shut_int Try.underlying5 w1) (trodAll_cons_mk (shut_int Try.underlying5 w2) trodAll_mk0))), rfl, bel.frame _, fun h => by cases h⟩

theorem over : Rows.labelLineRow.holds Try.pinned (OpenSpec.ofChange Rows.labelLineSpec) :=
  OpenClaim.holds_of_wide 5 Try.f5 rfl rfl rfl rfl rfl rfl rfl ⟨rfl, rfl, rfl, rfl, rfl⟩ rfl rfl rfl rfl rfl (by kernel_rfl) Try.func5 (by kernel_rfl)
    (of_decide_eq_true (by kernel_rfl)) (by unfold Func.isWrapper; first | (rw [if_pos (by decide +kernel)]; kernel_rfl) | (rw [if_neg (by decide +kernel)]; exact ⟨rfl, rfl⟩))
    (fun os started H enc _ => lifted os started H enc)

/-- ████ THE STATEMENT ████ -/
theorem proved : Rows.LabelLineSaid :=
  over
#print axioms proved
end Go.Proofs.Ytcdejkbjpllghaa.labelLine
