/- The law LabelForms, which has no argument, answers true. No condition. -/
import Derived.Test.YtcdejkbjpllghaaRows
import Derived.Test.YtcdejkbjpllghaaT9
import Derived.WalkKit
import Derived.ProofKit
import Derived.OpenShut
namespace Go.Proofs.Ytcdejkbjpllghaa.labelForms
open Go.ChangeShapes Go.WideShapes Go.ChangeAt Go.RowKit
set_option linter.unusedVariables false      -- a walk need not use every 'w<i>' (that an integer argument fits its kind)

theorem own : ownKnob Try.prog.godebug = none := by kernel_rfl

open Fl
set_option maxRecDepth 100000 in
set_option maxHeartbeats 3200000 in
theorem walk  (w : World) :
    Calls Try.prog 7 #[] w fun e w' => e = .returned (.bool true) ∧ Below w.heap.size w w' := by
  go_enter Try.func7, Try.ntmps7
  go_wp2_with fail
  refine (begun_any _).mono ?_; rintro e W1 ⟨rfl, hB⟩
  go_wp2_with fail
  obtain ⟨W, hW⟩ : ∃ W, W = W1.alloc (Obj.cells #[.int .i64 (-1), .int .i64 0, .int .i64 4, .int .i64 0, .int .i64 0, .int .i64 (-1), .int .i64 0, .int .i64 16] 23) := ⟨_, rfl⟩
  have z0 : W.cell? ⟨W1.heap.size, 0, none⟩ = some (.int .i64 (-1)) := by rw [hW]; simp [go_sem]
  have z1 : W.cell? ⟨W1.heap.size, 1, none⟩ = some (.int .i64 0) := by rw [hW]; simp [go_sem]
  have z2 : W.cell? ⟨W1.heap.size, 2, none⟩ = some (.int .i64 4) := by rw [hW]; simp [go_sem]
  have z3 : W.cell? ⟨W1.heap.size, 3, none⟩ = some (.int .i64 0) := by rw [hW]; simp [go_sem]
  have z4 : W.cell? ⟨W1.heap.size, 4, none⟩ = some (.int .i64 0) := by rw [hW]; simp [go_sem]
  have z5 : W.cell? ⟨W1.heap.size, 5, none⟩ = some (.int .i64 (-1)) := by rw [hW]; simp [go_sem]
  have z6 : W.cell? ⟨W1.heap.size, 6, none⟩ = some (.int .i64 0) := by rw [hW]; simp [go_sem]
  have z7 : W.cell? ⟨W1.heap.size, 7, none⟩ = some (.int .i64 16) := by rw [hW]; simp [go_sem]
  have zB : Below w.heap.size w W := by rw [hW]; exact hB.alloc hB.size _
  rw [← hW]
  clear hW hB
  generalize W1.heap.size = p at *
  go_loopw [2] (fun i wr => ∃ n : Nat, n ≤ 4 ∧ i = .int .i64 n ∧ wr.cell? ⟨p, 0, none⟩ = some (.int .i64 (-1)) ∧ wr.cell? ⟨p, 1, none⟩ = some (.int .i64 0) ∧ wr.cell? ⟨p, 2, none⟩ = some (.int .i64 4) ∧ wr.cell? ⟨p, 3, none⟩ = some (.int .i64 0) ∧ wr.cell? ⟨p, 4, none⟩ = some (.int .i64 0) ∧ wr.cell? ⟨p, 5, none⟩ = some (.int .i64 (-1)) ∧ wr.cell? ⟨p, 6, none⟩ = some (.int .i64 0) ∧ wr.cell? ⟨p, 7, none⟩ = some (.int .i64 16) ∧ Below w.heap.size w wr) (fun i _ => 4 - (intOf i).toNat)
  case atStart => exact ⟨0, Nat.zero_le _, rfl, z0, z1, z2, z3, z4, z5, z6, z7, zB⟩
  case round =>
    obtain ⟨n, hn, rfl, y0, y1, y2, y3, y4, y5, y6, y7, yB⟩ := hrel
    clear z0 z1 z2 z3 z4 z5 z6 z7 zB
    have hc : n = 4 ∨ n = 0 ∨ n = 1 ∨ n = 2 ∨ n = 3 := by omega
    clear hn
    rcases hc with rfl | rfl | rfl | rfl | rfl
    · have v0 : aboveV 1 12 1 3 = false := by decide
      have v1 : aboveV 1 3 1 12 = false := by decide
      have v2 : lessV 1 3 1 12 = true := by decide
      have v3 : lessV 1 12 1 3 = false := by decide
      have v4 : lessV 1 8 1 3 = true := by decide
      have v5 : joinL 1 12 1 3 = 1 := by decide
      have v6 : joinC 1 12 1 3 = 15 := by decide
      have v7 : meetL 1 12 1 3 = 1 := by decide
      have v8 : meetC 1 12 1 3 = 0 := by decide
      go_wp2_with fail
      obtain ⟨V, hV⟩ : ∃ V, V = (wr.alloc (Obj.cells #[.int .i64 1, .int .i64 12] 23)).alloc (Obj.cells #[.int .i64 1, .int .i64 3] 23) := ⟨_, rfl⟩
      have x0 : V.cell? ⟨wr.heap.size, 0, none⟩ = some (.int .i64 1) := by rw [hV]; simp [go_sem]
      have x1 : V.cell? ⟨wr.heap.size, 1, none⟩ = some (.int .i64 12) := by rw [hV]; simp [go_sem]
      have x2 : V.cell? ⟨wr.heap.size + 1, 0, none⟩ = some (.int .i64 1) := by rw [hV]; simp [go_sem]
      have x3 : V.cell? ⟨wr.heap.size + 1, 1, none⟩ = some (.int .i64 3) := by rw [hV]; simp [go_sem]
      replace yB : Below w.heap.size w V := by
        have := yB.size
        rw [hV]
        exact (yB.alloc this _).alloc (by simp; omega) _
      rw [← hV]
      clear hV y0 y1 y2 y3 y4 y5 y6 y7
      generalize wr.heap.size = q at *
      go_wp2_with (first | (go_at_call 10; refine (put_all _ _ _ (by decide) (by decide)).mono ?_; rintro e w' ⟨rfl, hb⟩; replace x0 := keep hb x0; replace x1 := keep hb x1; replace x2 := keep hb x2; replace x3 := keep hb x3; replace yB := keepB yB hb; clear hb) | (go_at_call 14; refine (may_all _ _ _ (by decide) (by decide)).mono ?_; rintro e w' ⟨rfl, hb⟩; replace x0 := keep hb x0; replace x1 := keep hb x1; replace x2 := keep hb x2; replace x3 := keep hb x3; replace yB := keepB yB hb; clear hb) | (go_at_call 16; refine (above_all _ _ _ _ _ (by decide) (by decide) (by decide) (by decide)).mono ?_; rintro e w' ⟨rfl, hb⟩; replace x0 := keep hb x0; replace x1 := keep hb x1; replace x2 := keep hb x2; replace x3 := keep hb x3; replace yB := keepB yB hb; clear hb) | (go_at_call 18; refine (join_all _ _ _ _ _ (by decide) (by decide) (by decide) (by decide)).mono ?_; rintro e w' ⟨rfl, hb⟩; replace x0 := keep hb x0; replace x1 := keep hb x1; replace x2 := keep hb x2; replace x3 := keep hb x3; replace yB := keepB yB hb; clear hb) | (go_at_call 20; refine (meet_all _ _ _ _ _ (by decide) (by decide) (by decide) (by decide)).mono ?_; rintro e w' ⟨rfl, hb⟩; replace x0 := keep hb x0; replace x1 := keep hb x1; replace x2 := keep hb x2; replace x3 := keep hb x3; replace yB := keepB yB hb; clear hb) | (go_at_call 22; refine (less_all _ _ _ _ _ (by decide) (by decide) (by decide) (by decide)).mono ?_; rintro e w' ⟨rfl, hb⟩; replace x0 := keep hb x0; replace x1 := keep hb x1; replace x2 := keep hb x2; replace x3 := keep hb x3; replace yB := keepB yB hb; clear hb))
      go_ret
      exact ⟨rfl, yB⟩
    · have v0 : putV (-1) 0 = 0 := by decide
      have v1 : mayV (-1) 0 = false := by decide
      have v2 : aboveV (-1) 0 0 0 = false := by decide
      have v3 : aboveV 3 15 (-1) 0 = false := by decide
      have v4 : joinL (-1) 0 1 0 = 0 := by decide
      have v5 : joinC (-1) 0 1 0 = 0 := by decide
      have v6 : meetL 1 0 (-1) 0 = 0 := by decide
      have v7 : meetC 1 0 (-1) 0 = 0 := by decide
      have v8 : lessV 0 0 (-1) 0 = false := by decide
      go_wp2_with (first | (go_at_call 10; refine (put_all _ _ _ (by decide) (by decide)).mono ?_; rintro e w' ⟨rfl, hb⟩; replace y0 := keep hb y0; replace y1 := keep hb y1; replace y2 := keep hb y2; replace y3 := keep hb y3; replace y4 := keep hb y4; replace y5 := keep hb y5; replace y6 := keep hb y6; replace y7 := keep hb y7; replace yB := keepB yB hb; clear hb) | (go_at_call 14; refine (may_all _ _ _ (by decide) (by decide)).mono ?_; rintro e w' ⟨rfl, hb⟩; replace y0 := keep hb y0; replace y1 := keep hb y1; replace y2 := keep hb y2; replace y3 := keep hb y3; replace y4 := keep hb y4; replace y5 := keep hb y5; replace y6 := keep hb y6; replace y7 := keep hb y7; replace yB := keepB yB hb; clear hb) | (go_at_call 16; refine (above_all _ _ _ _ _ (by decide) (by decide) (by decide) (by decide)).mono ?_; rintro e w' ⟨rfl, hb⟩; replace y0 := keep hb y0; replace y1 := keep hb y1; replace y2 := keep hb y2; replace y3 := keep hb y3; replace y4 := keep hb y4; replace y5 := keep hb y5; replace y6 := keep hb y6; replace y7 := keep hb y7; replace yB := keepB yB hb; clear hb) | (go_at_call 18; refine (join_all _ _ _ _ _ (by decide) (by decide) (by decide) (by decide)).mono ?_; rintro e w' ⟨rfl, hb⟩; replace y0 := keep hb y0; replace y1 := keep hb y1; replace y2 := keep hb y2; replace y3 := keep hb y3; replace y4 := keep hb y4; replace y5 := keep hb y5; replace y6 := keep hb y6; replace y7 := keep hb y7; replace yB := keepB yB hb; clear hb) | (go_at_call 20; refine (meet_all _ _ _ _ _ (by decide) (by decide) (by decide) (by decide)).mono ?_; rintro e w' ⟨rfl, hb⟩; replace y0 := keep hb y0; replace y1 := keep hb y1; replace y2 := keep hb y2; replace y3 := keep hb y3; replace y4 := keep hb y4; replace y5 := keep hb y5; replace y6 := keep hb y6; replace y7 := keep hb y7; replace yB := keepB yB hb; clear hb) | (go_at_call 22; refine (less_all _ _ _ _ _ (by decide) (by decide) (by decide) (by decide)).mono ?_; rintro e w' ⟨rfl, hb⟩; replace y0 := keep hb y0; replace y1 := keep hb y1; replace y2 := keep hb y2; replace y3 := keep hb y3; replace y4 := keep hb y4; replace y5 := keep hb y5; replace y6 := keep hb y6; replace y7 := keep hb y7; replace yB := keepB yB hb; clear hb))
      go_roundw
      case rel => exact ⟨1, by omega, by go_num, y0, y1, y2, y3, y4, y5, y6, y7, yB⟩
      case measure => simp [intOf]
    · have v0 : putV 4 0 = 0 := by decide
      have v1 : mayV 4 0 = false := by decide
      have v2 : aboveV 4 0 0 0 = false := by decide
      have v3 : aboveV 3 15 4 0 = false := by decide
      have v4 : joinL 4 0 1 0 = 0 := by decide
      have v5 : joinC 4 0 1 0 = 0 := by decide
      have v6 : meetL 1 0 4 0 = 0 := by decide
      have v7 : meetC 1 0 4 0 = 0 := by decide
      have v8 : lessV 0 0 4 0 = false := by decide
      go_wp2_with (first | (go_at_call 10; refine (put_all _ _ _ (by decide) (by decide)).mono ?_; rintro e w' ⟨rfl, hb⟩; replace y0 := keep hb y0; replace y1 := keep hb y1; replace y2 := keep hb y2; replace y3 := keep hb y3; replace y4 := keep hb y4; replace y5 := keep hb y5; replace y6 := keep hb y6; replace y7 := keep hb y7; replace yB := keepB yB hb; clear hb) | (go_at_call 14; refine (may_all _ _ _ (by decide) (by decide)).mono ?_; rintro e w' ⟨rfl, hb⟩; replace y0 := keep hb y0; replace y1 := keep hb y1; replace y2 := keep hb y2; replace y3 := keep hb y3; replace y4 := keep hb y4; replace y5 := keep hb y5; replace y6 := keep hb y6; replace y7 := keep hb y7; replace yB := keepB yB hb; clear hb) | (go_at_call 16; refine (above_all _ _ _ _ _ (by decide) (by decide) (by decide) (by decide)).mono ?_; rintro e w' ⟨rfl, hb⟩; replace y0 := keep hb y0; replace y1 := keep hb y1; replace y2 := keep hb y2; replace y3 := keep hb y3; replace y4 := keep hb y4; replace y5 := keep hb y5; replace y6 := keep hb y6; replace y7 := keep hb y7; replace yB := keepB yB hb; clear hb) | (go_at_call 18; refine (join_all _ _ _ _ _ (by decide) (by decide) (by decide) (by decide)).mono ?_; rintro e w' ⟨rfl, hb⟩; replace y0 := keep hb y0; replace y1 := keep hb y1; replace y2 := keep hb y2; replace y3 := keep hb y3; replace y4 := keep hb y4; replace y5 := keep hb y5; replace y6 := keep hb y6; replace y7 := keep hb y7; replace yB := keepB yB hb; clear hb) | (go_at_call 20; refine (meet_all _ _ _ _ _ (by decide) (by decide) (by decide) (by decide)).mono ?_; rintro e w' ⟨rfl, hb⟩; replace y0 := keep hb y0; replace y1 := keep hb y1; replace y2 := keep hb y2; replace y3 := keep hb y3; replace y4 := keep hb y4; replace y5 := keep hb y5; replace y6 := keep hb y6; replace y7 := keep hb y7; replace yB := keepB yB hb; clear hb) | (go_at_call 22; refine (less_all _ _ _ _ _ (by decide) (by decide) (by decide) (by decide)).mono ?_; rintro e w' ⟨rfl, hb⟩; replace y0 := keep hb y0; replace y1 := keep hb y1; replace y2 := keep hb y2; replace y3 := keep hb y3; replace y4 := keep hb y4; replace y5 := keep hb y5; replace y6 := keep hb y6; replace y7 := keep hb y7; replace yB := keepB yB hb; clear hb))
      go_roundw
      case rel => exact ⟨2, by omega, by go_num, y0, y1, y2, y3, y4, y5, y6, y7, yB⟩
      case measure => simp [intOf]
    · have v0 : putV 0 (-1) = 0 := by decide
      have v1 : mayV 0 (-1) = false := by decide
      have v2 : aboveV 0 (-1) 0 0 = false := by decide
      have v3 : aboveV 3 15 0 (-1) = false := by decide
      have v4 : joinL 0 (-1) 1 0 = 0 := by decide
      have v5 : joinC 0 (-1) 1 0 = 0 := by decide
      have v6 : meetL 1 0 0 (-1) = 0 := by decide
      have v7 : meetC 1 0 0 (-1) = 0 := by decide
      have v8 : lessV 0 0 0 (-1) = false := by decide
      go_wp2_with (first | (go_at_call 10; refine (put_all _ _ _ (by decide) (by decide)).mono ?_; rintro e w' ⟨rfl, hb⟩; replace y0 := keep hb y0; replace y1 := keep hb y1; replace y2 := keep hb y2; replace y3 := keep hb y3; replace y4 := keep hb y4; replace y5 := keep hb y5; replace y6 := keep hb y6; replace y7 := keep hb y7; replace yB := keepB yB hb; clear hb) | (go_at_call 14; refine (may_all _ _ _ (by decide) (by decide)).mono ?_; rintro e w' ⟨rfl, hb⟩; replace y0 := keep hb y0; replace y1 := keep hb y1; replace y2 := keep hb y2; replace y3 := keep hb y3; replace y4 := keep hb y4; replace y5 := keep hb y5; replace y6 := keep hb y6; replace y7 := keep hb y7; replace yB := keepB yB hb; clear hb) | (go_at_call 16; refine (above_all _ _ _ _ _ (by decide) (by decide) (by decide) (by decide)).mono ?_; rintro e w' ⟨rfl, hb⟩; replace y0 := keep hb y0; replace y1 := keep hb y1; replace y2 := keep hb y2; replace y3 := keep hb y3; replace y4 := keep hb y4; replace y5 := keep hb y5; replace y6 := keep hb y6; replace y7 := keep hb y7; replace yB := keepB yB hb; clear hb) | (go_at_call 18; refine (join_all _ _ _ _ _ (by decide) (by decide) (by decide) (by decide)).mono ?_; rintro e w' ⟨rfl, hb⟩; replace y0 := keep hb y0; replace y1 := keep hb y1; replace y2 := keep hb y2; replace y3 := keep hb y3; replace y4 := keep hb y4; replace y5 := keep hb y5; replace y6 := keep hb y6; replace y7 := keep hb y7; replace yB := keepB yB hb; clear hb) | (go_at_call 20; refine (meet_all _ _ _ _ _ (by decide) (by decide) (by decide) (by decide)).mono ?_; rintro e w' ⟨rfl, hb⟩; replace y0 := keep hb y0; replace y1 := keep hb y1; replace y2 := keep hb y2; replace y3 := keep hb y3; replace y4 := keep hb y4; replace y5 := keep hb y5; replace y6 := keep hb y6; replace y7 := keep hb y7; replace yB := keepB yB hb; clear hb) | (go_at_call 22; refine (less_all _ _ _ _ _ (by decide) (by decide) (by decide) (by decide)).mono ?_; rintro e w' ⟨rfl, hb⟩; replace y0 := keep hb y0; replace y1 := keep hb y1; replace y2 := keep hb y2; replace y3 := keep hb y3; replace y4 := keep hb y4; replace y5 := keep hb y5; replace y6 := keep hb y6; replace y7 := keep hb y7; replace yB := keepB yB hb; clear hb))
      go_roundw
      case rel => exact ⟨3, by omega, by go_num, y0, y1, y2, y3, y4, y5, y6, y7, yB⟩
      case measure => simp [intOf]
    · have v0 : putV 0 16 = 0 := by decide
      have v1 : mayV 0 16 = false := by decide
      have v2 : aboveV 0 16 0 0 = false := by decide
      have v3 : aboveV 3 15 0 16 = false := by decide
      have v4 : joinL 0 16 1 0 = 0 := by decide
      have v5 : joinC 0 16 1 0 = 0 := by decide
      have v6 : meetL 1 0 0 16 = 0 := by decide
      have v7 : meetC 1 0 0 16 = 0 := by decide
      have v8 : lessV 0 0 0 16 = false := by decide
      go_wp2_with (first | (go_at_call 10; refine (put_all _ _ _ (by decide) (by decide)).mono ?_; rintro e w' ⟨rfl, hb⟩; replace y0 := keep hb y0; replace y1 := keep hb y1; replace y2 := keep hb y2; replace y3 := keep hb y3; replace y4 := keep hb y4; replace y5 := keep hb y5; replace y6 := keep hb y6; replace y7 := keep hb y7; replace yB := keepB yB hb; clear hb) | (go_at_call 14; refine (may_all _ _ _ (by decide) (by decide)).mono ?_; rintro e w' ⟨rfl, hb⟩; replace y0 := keep hb y0; replace y1 := keep hb y1; replace y2 := keep hb y2; replace y3 := keep hb y3; replace y4 := keep hb y4; replace y5 := keep hb y5; replace y6 := keep hb y6; replace y7 := keep hb y7; replace yB := keepB yB hb; clear hb) | (go_at_call 16; refine (above_all _ _ _ _ _ (by decide) (by decide) (by decide) (by decide)).mono ?_; rintro e w' ⟨rfl, hb⟩; replace y0 := keep hb y0; replace y1 := keep hb y1; replace y2 := keep hb y2; replace y3 := keep hb y3; replace y4 := keep hb y4; replace y5 := keep hb y5; replace y6 := keep hb y6; replace y7 := keep hb y7; replace yB := keepB yB hb; clear hb) | (go_at_call 18; refine (join_all _ _ _ _ _ (by decide) (by decide) (by decide) (by decide)).mono ?_; rintro e w' ⟨rfl, hb⟩; replace y0 := keep hb y0; replace y1 := keep hb y1; replace y2 := keep hb y2; replace y3 := keep hb y3; replace y4 := keep hb y4; replace y5 := keep hb y5; replace y6 := keep hb y6; replace y7 := keep hb y7; replace yB := keepB yB hb; clear hb) | (go_at_call 20; refine (meet_all _ _ _ _ _ (by decide) (by decide) (by decide) (by decide)).mono ?_; rintro e w' ⟨rfl, hb⟩; replace y0 := keep hb y0; replace y1 := keep hb y1; replace y2 := keep hb y2; replace y3 := keep hb y3; replace y4 := keep hb y4; replace y5 := keep hb y5; replace y6 := keep hb y6; replace y7 := keep hb y7; replace yB := keepB yB hb; clear hb) | (go_at_call 22; refine (less_all _ _ _ _ _ (by decide) (by decide) (by decide) (by decide)).mono ?_; rintro e w' ⟨rfl, hb⟩; replace y0 := keep hb y0; replace y1 := keep hb y1; replace y2 := keep hb y2; replace y3 := keep hb y3; replace y4 := keep hb y4; replace y5 := keep hb y5; replace y6 := keep hb y6; replace y7 := keep hb y7; replace yB := keepB yB hb; clear hb))
      go_roundw
      case rel => exact ⟨4, by omega, by go_num, y0, y1, y2, y3, y4, y5, y6, y7, yB⟩
      case measure => simp [intOf]

/-! ### THE ROW's STEP: WRITTEN OUT: LEAVE IT -/
set_option maxRecDepth 100000 in
theorem lifted (os : Os) (started : os.Started) (H : Type) (enc : TypeId × Value → H) :
    ReturnsInHanded {} Try.checked os 7 .any (Rows.labelFormsSpec.pre6 enc Try.prog Try.f7 Rows.labelFormsRow.domain false) (Rows.labelFormsSpec.post enc Try.prog Try.f7 false true false false) := by
  refine returnsInHanded_of_change (C := Try.checked) own started (by kernel_rfl) Try.func7
    (ChangeSpec.witness6 (enc := enc) (C := Try.checked) false ⟨#[], #[], []⟩ 8 (by kernel_rfl) (by kernel_rfl) (by kernel_rfl) (by kernel_rfl)) ?_
  intro W base args ds gs before hval0 hW hcnd _
  have hval : ∀ (j : Nat) t v, Try.f7.params[j]? = some t → args[j]? = some v → Value.okWide Try.prog W .any base t v := hval0
  have hW' := hW
  obtain ⟨p, q, hA0, hV, rfl, hfz, hnd⟩ := hW
  have hA : DataW.TrodAll enc Try.prog W 0 (fun _ => true) true Try.f7.params.toList args.toList ds p := hA0
  rw [Try.params7] at hA hval
  obtain ⟨rfl, rfl, rfl⟩ := trodAll_none hA
  obtain ⟨rfl, rfl⟩ := trodVars_none hV
  clear hA0 hval0
  simp only [List.append_nil] at hW'
  refine (walk  W).mono fun e W' ⟨he, bel⟩ => ?_
  subst he
  exact ⟨_, rfl, _, _, _, [], _, [], hW', (trodAll_cons_mk (shut_bool Try.underlying4 _) trodAll_mk0), rfl, rfl, bel.frame _, fun h => by cases h⟩

theorem over : Rows.labelFormsRow.holds Try.pinned (OpenSpec.ofChange Rows.labelFormsSpec) :=
  OpenClaim.holds_of_wide 7 Try.f7 rfl rfl rfl rfl rfl rfl rfl ⟨rfl, rfl, rfl, rfl, rfl⟩ rfl rfl rfl rfl rfl (by kernel_rfl) Try.func7 (by kernel_rfl)
    (of_decide_eq_true (by kernel_rfl)) (by unfold Func.isWrapper; first | (rw [if_pos (by decide +kernel)]; kernel_rfl) | (rw [if_neg (by decide +kernel)]; exact ⟨rfl, rfl⟩))
    (fun os started H enc _ => lifted os started H enc)

/-- ████ THE STATEMENT ████ -/
theorem proved : Rows.LabelFormsSaid :=
  over
#print axioms proved
end Go.Proofs.Ytcdejkbjpllghaa.labelForms
