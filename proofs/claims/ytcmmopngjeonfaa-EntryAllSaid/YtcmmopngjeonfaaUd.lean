/- Contract: the reference's MayID. -/
import Derived.Test.YtcmmopngjeonfaaUc
import Derived.Test.YtcmmopngjeonfaaQ
import Derived.Deep.DeepCutAuto
namespace Go.Proofs.Ytcmmopngjeonfaa
open Go.ChangeShapes Go.WideShapes Go.ChangeAt Go.RowKit
set_option linter.unusedVariables false
set_option maxHeartbeats 3200000 in
theorem maych_any (q0 q1 q2 q3 q4 q5 : Bool) (l a g : Int) (w : World) (h0 : decide (l = -1 ∧ a = 0 ∧ g = 0) = q0) (h1 : decide (0 ≤ l) = q1) (h2 : decide (l < 8) = q2) (h3 : decide (1 ≤ a) = q3) (h4 : decide (a < 200) = q4) (h5 : decide (1 ≤ g) = q5) :
    Calls Try.prog 26 #[idV l a g] w fun e w' => e = .returned (.bool (q0 || ((((q1 && q2) && q3) && q4) && q5))) ∧ Below w.heap.size w w' := by
  have HR := Lib.hid rroot_any
  have hq := eqlI l a g (-1) 0 0
  rw [h0] at hq
  unfold idV at HR ⊢
  go_enter Try.func26, Try.ntmps26
  go_upto_region 1 with fail
  obtain ⟨W, hW⟩ : ∃ W, W = w.alloc (Obj.cells #[.int .i64 l, .int .i64 a, .int .u32 g] 24) := ⟨_, rfl⟩
  rw [← hW]
  have z0 : W.cell? ⟨w.heap.size, 0, none⟩ = some (.int .i64 l) := by rw [hW]; simp [go_sem]
  have z1 : W.cell? ⟨w.heap.size, 1, none⟩ = some (.int .i64 a) := by rw [hW]; simp [go_sem]
  have z2 : W.cell? ⟨w.heap.size, 2, none⟩ = some (.int .u32 g) := by rw [hW]; simp [go_sem]
  have hBW : Below w.heap.size w W := by rw [hW]; exact (Below.refl _ _).alloc (Nat.le_refl _) _
  clear hW
  have hsz : w.heap.size ≤ W.heap.size := hBW.size
  have HB := Lib.hid hBW
  clear hBW
  generalize w.heap.size = r at z0 z1 z2 ⊢
  have k0 : ∀ g : Later W, g.w.cell? _ = _ := fun g => g.keep z0
  have k1 : ∀ g : Later W, g.w.cell? _ = _ := fun g => g.keep z1
  have k2 : ∀ g : Later W, g.w.cell? _ = _ := fun g => g.keep z2
  clear z0 z1 z2 h0
  have hc : q0 = true ∨ (q0 = false ∧ q1 = false) ∨ (q0 = false ∧ q1 = true ∧ q2 = false) ∨ (q0 = false ∧ q1 = true ∧ q2 = true ∧ q3 = false) ∨ (q0 = false ∧ q1 = true ∧ q2 = true ∧ q3 = true ∧ q4 = false) ∨ (q0 = false ∧ q1 = true ∧ q2 = true ∧ q3 = true ∧ q4 = true) := by
    cases q0 <;> cases q1 <;> cases q2 <;> cases q3 <;> cases q4 <;> simp
  rcases hc with rfl | ⟨rfl, rfl⟩ | ⟨rfl, rfl, rfl⟩ | ⟨rfl, rfl, rfl, rfl⟩ | ⟨rfl, rfl, rfl, rfl, rfl⟩ | ⟨rfl, rfl, rfl, rfl, rfl⟩
  all_goals
    refine wp_region_later (by kernel_rfl) (by kernel_rfl) ?_
    repeat (go_big_quiet_step ((first | (go_at_call 15; exact quiet_later (HR.out _)))))
    refine wpQuiet_nil ?_
    intro _ hw'
    obtain ⟨nq, hw''⟩ := hw'
    subst hw''
    have hBW2 := Lib.hid (HB.out.trans (nq.below.mono hsz))
    clear k0 k1 k2
    generalize Later.w nq = V at *
    clear nq
    go_wp2
    go_ret
    exact ⟨rfl, hBW2.out⟩
theorem irmay_any (l a g : Int) (w : World) : Calls Try.prog 26 #[idV l a g] w fun e w' => e = .returned (.bool (decide (MayI l a g))) ∧ Below w.heap.size w w' := by
  have h := maych_any _ _ _ _ _ _ l a g w rfl rfl rfl rfl rfl rfl
  have hd : decide (MayI l a g) = (decide (l = -1 ∧ a = 0 ∧ g = 0) || ((((decide (0 ≤ l) && decide (l < 8)) && decide (1 ≤ a)) && decide (a < 200)) && decide (1 ≤ g))) := by
    rw [Bool.eq_iff_iff]
    simp only [Bool.or_eq_true, Bool.and_eq_true, decide_eq_true_eq]
    unfold MayI Within
    constructor <;> (intro h; omega)
  rw [hd]
  exact h
end Go.Proofs.Ytcmmopngjeonfaa
