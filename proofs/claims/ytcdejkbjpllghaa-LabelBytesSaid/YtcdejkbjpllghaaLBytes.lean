/- The law LabelBytes answers true for every byte, and leaves its argument alone. No condition. -/
import Derived.Test.YtcdejkbjpllghaaRows
import Derived.Test.YtcdejkbjpllghaaT8
import Derived.WalkKit
import Derived.ProofKit
import Derived.OpenShut
namespace Go.Proofs.Ytcdejkbjpllghaa.labelBytes
open Go.ChangeShapes Go.WideShapes Go.ChangeAt Go.RowKit
set_option linter.unusedVariables false      -- a walk need not use every 'w<i>' (that an integer argument fits its kind)

theorem own : ownKnob Try.prog.godebug = none := by kernel_rfl

open Fl
theorem walk (a0 : Int) (w0 : (Lit.int .u8 a0).wf = true) (w : World) :
    Calls Try.prog 6 #[.int .u8 a0] w fun e w' => e = .returned (.bool true) ∧ Below w.heap.size w w' := by
  have bd := bounds_u8 w0
  clear w0
  cases ht : takeOk a0
  · have t1 : takeL a0 = 0 := by unfold takeL; rw [ht]; rfl
    have t2 : takeC a0 = 0 := by unfold takeC; rw [ht]; rfl
    have lt := of_decide_eq_false ht
    go_enter Try.func6, Try.ntmps6
    go_wp2_with fail
    refine (begun_any _).mono ?_; rintro e w1 ⟨rfl, hb⟩
    go_wp2_with fail
    refine (take_all _ _ (by omega)).mono ?_; rintro e w2 ⟨rfl, hb2⟩
    have hB := keepB hb hb2
    go_wp2_with fail
    go_ret
    exact ⟨rfl, hB.alloc hB.size _⟩
  · have t1 : takeL a0 = a0 / 16 := by unfold takeL; rw [ht]; rfl
    have t2 : takeC a0 = a0 % 16 := by unfold takeC; rw [ht]; rfl
    have lt := of_decide_eq_true ht
    have m : mayV (a0 / 16) (a0 % 16) = true := by unfold mayV; simp; omega
    have pv : putV (a0 / 16) (a0 % 16) = a0 := by unfold putV; rw [if_pos m]; omega
    have T1 := Lib.hid t1
    have T2 := Lib.hid t2
    have PV := Lib.hid pv
    clear t1 t2 pv
    go_enter Try.func6, Try.ntmps6
    go_wp2_with fail
    refine (begun_any _).mono ?_; rintro e w1 ⟨rfl, hb⟩
    go_wp2_with fail
    refine (take_all _ _ (by omega)).mono ?_; rintro e w2 ⟨rfl, hb2⟩
    rw [T1.out, T2.out]
    have q1 : i64 (a0 / 16) := by constructor <;> omega
    have r1 : i64 (a0 % 16) := by constructor <;> omega
    generalize a0 / 16 = q at *
    generalize a0 % 16 = r at *
    have hB := keepB hb hb2
    clear hb hb2
    go_wp2_with fail
    refine (put_all _ _ _ q1 r1).mono ?_; rintro e w3 ⟨rfl, hb⟩
    have c0 := keep hb (b := w2.heap.size) (o := 0) (v := .int .i64 q) (by simp [go_sem])
    have c1 := keep hb (b := w2.heap.size) (o := 1) (v := .int .i64 r) (by simp [go_sem])
    replace hB := keepB (hB.alloc hB.size _) hb
    clear hb
    rw [PV.out]
    go_wp2_with fail
    refine (may_all _ _ _ q1 r1).mono ?_; rintro e w4 ⟨rfl, hb⟩
    replace hB := keepB hB hb
    clear q1 r1
    go_wp2_with fail
    go_ret
    exact ⟨rfl, hB⟩

/-! ### THE ROW's STEP: WRITTEN OUT: LEAVE IT -/
set_option maxRecDepth 100000 in
theorem lifted (os : Os) (started : os.Started) (H : Type) (enc : TypeId × Value → H) :
    ReturnsInHanded {} Try.checked os 6 .any (Rows.labelBytesSpec.pre6 enc Try.prog Try.f6 Rows.labelBytesRow.domain false) (Rows.labelBytesSpec.post enc Try.prog Try.f6 false true false false) := by
  refine returnsInHanded_of_change (C := Try.checked) own started (by kernel_rfl) Try.func6
    (ChangeSpec.witness6 (enc := enc) (C := Try.checked) false ⟨#[], #[.int .u8 0], []⟩ 8 (by kernel_rfl) (by kernel_rfl) (by kernel_rfl) (by kernel_rfl)) ?_
  intro W base args ds gs before hval0 hW hcnd _
  have hval : ∀ (j : Nat) t v, Try.f6.params[j]? = some t → args[j]? = some v → Value.okWide Try.prog W .any base t v := hval0
  have hW' := hW
  obtain ⟨p, q, hA0, hV, rfl, hfz, hnd⟩ := hW
  have hA : DataW.TrodAll enc Try.prog W 0 (fun _ => true) true Try.f6.params.toList args.toList ds p := hA0
  rw [Try.params6] at hA hval
  obtain ⟨v0, vs0, d0, ds0, p0, q0, hargs, rfl, rfl, h0, r0⟩ := trodAll_cons hA
  obtain ⟨rfl, rfl, rfl⟩ := trodAll_nil r0
  obtain rfl : args = #[v0] := by cases args; simp_all
  obtain ⟨rfl, rfl⟩ := trodVars_none hV
  obtain ⟨a0, rfl, rfl, rfl, w0⟩ := open_int Try.underlying5 (hval 0 5 v0 rfl rfl) h0
  clear hA0 hval0
  simp only [List.append_nil] at hW'
  refine (walk a0 w0 W).mono fun e W' ⟨he, bel⟩ => ?_
  subst he
  exact ⟨_, rfl, _, _, _, [], _, [], hW', (trodAll_cons_mk (shut_bool Try.underlying4 _) trodAll_mk0), (trodAll_cons_mk (shut_int Try.underlying5 w0) trodAll_mk0), rfl, bel.frame _, fun h => by cases h⟩

theorem over : Rows.labelBytesRow.holds Try.pinned (OpenSpec.ofChange Rows.labelBytesSpec) :=
  OpenClaim.holds_of_wide 6 Try.f6 rfl rfl rfl rfl rfl rfl rfl ⟨rfl, rfl, rfl, rfl, rfl⟩ rfl rfl rfl rfl rfl (by kernel_rfl) Try.func6 (by kernel_rfl)
    (of_decide_eq_true (by kernel_rfl)) (by unfold Func.isWrapper; first | (rw [if_pos (by decide +kernel)]; kernel_rfl) | (rw [if_neg (by decide +kernel)]; exact ⟨rfl, rfl⟩))
    (fun os started H enc _ => lifted os started H enc)

/-- ████ THE STATEMENT ████ -/
theorem proved : Rows.LabelBytesSaid :=
  over
#print axioms proved
end Go.Proofs.Ytcdejkbjpllghaa.labelBytes
