/- Contracts: area: Size, Log, Home, Anchor; the reference's SizeOf. -/
import Derived.Test.YtfmpbofhaoijpaaA1
import Derived.Test.YtfmpbofhaoijpaaQ
import Derived.Deep.DeepCutAuto
namespace Go.Proofs.Ytfmpbofhaoijpaa
open Go.ChangeShapes Go.WideShapes Go.ChangeAt Go.RowKit
open Fx
set_option linter.unusedVariables false
theorem homes_any (l c : Int) (b g : Nat) (f : Int) (hg : g ≤ 1000) (w : World) :
    Calls Try.prog 17 #[shQ l c b g f] w fun e w' => e = .returned (areaC (2 + g) b) ∧ Below w.heap.size w w' := by
  have H := Lib.hid (behind_any 2 g b (by omega))
  have HL := Lib.hid (log_any l c b g f)
  unfold shQ at HL ⊢
  go_enter Try.func17, Try.ntmps17
  go_upto_region 1 with fail
  obtain ⟨W, hW⟩ : ∃ W, W = w.alloc (Obj.cells #[.int .i64 l, .int .i64 c, .int .i64 b, .int .i64 g, .int .i64 f] 35) := ⟨_, rfl⟩
  rw [← hW]
  have z0 : W.cell? ⟨w.heap.size, 0, none⟩ = some (.int .i64 l) := by rw [hW]; simp [go_sem]
  have z1 : W.cell? ⟨w.heap.size, 1, none⟩ = some (.int .i64 c) := by rw [hW]; simp [go_sem]
  have z2 : W.cell? ⟨w.heap.size, 2, none⟩ = some (.int .i64 b) := by rw [hW]; simp [go_sem]
  have z3 : W.cell? ⟨w.heap.size, 3, none⟩ = some (.int .i64 g) := by rw [hW]; simp [go_sem]
  have z4 : W.cell? ⟨w.heap.size, 4, none⟩ = some (.int .i64 f) := by rw [hW]; simp [go_sem]
  have hBW : Below w.heap.size w W := by rw [hW]; exact (Below.refl _ _).alloc (Nat.le_refl _) _
  clear hW
  have hsz : w.heap.size ≤ W.heap.size := hBW.size
  have HB := Lib.hid hBW
  clear hBW
  generalize w.heap.size = r at z0 z1 z2 z3 z4 ⊢
  have k0 : ∀ g : Later W, g.w.cell? _ = _ := fun g => g.keep z0
  have k1 : ∀ g : Later W, g.w.cell? _ = _ := fun g => g.keep z1
  have k2 : ∀ g : Later W, g.w.cell? _ = _ := fun g => g.keep z2
  have k3 : ∀ g : Later W, g.w.cell? _ = _ := fun g => g.keep z3
  have k4 : ∀ g : Later W, g.w.cell? _ = _ := fun g => g.keep z4
  clear z0 z1 z2 z3 z4
  refine wp_region_later (by kernel_rfl) (by kernel_rfl) ?_
  repeat (go_big_quiet_step ((first | (go_at_call 19; exact quiet_later (HL.out _)) | (go_at_call 22; exact quiet_later_same (H.out _)))))
  refine wpQuiet_nil ?_
  intro _ hw'
  obtain ⟨nq, hw''⟩ := hw'
  subst hw''
  have hBW2 := Lib.hid (HB.out.trans (nq.below.mono hsz))
  clear k0 k1 k2 k3 k4
  generalize Later.w nq = V at *
  clear nq
  go_wp2
  go_ret
  exact ⟨rfl, hBW2.out⟩
theorem size_any (l c : Int) (b g : Nat) (f : Int) (hb : b ≤ 1000) (hg : g ≤ 1000) (w : World) :
    Calls Try.prog 10 #[shQ l c b g f] w fun e w' => e = .returned (.int .i64 ((2 + g + b : Nat) : Int)) ∧ Below w.heap.size w w' := by
  have H := Lib.hid (homes_any l c b g f hg)
  have HE := Lib.hid (end_any (2 + g) b (by omega))
  have v := fun w : World => run_convert_float_int w 45 3 .f64 .i64 _ _ (P := Try.prog) (by kernel_rfl) Try.underlying3 (int_fb64 (2 + g + b) (by omega))
  generalize 2 + g + b = m at *
  unfold shQ at H ⊢
  go_enter Try.func10, Try.ntmps10
  go_wp2_with fail
  refine (H.out _).mono ?_; rintro e w' ⟨rfl, hB⟩
  have hB2 := ((Below.refl w.heap.size w).alloc (Nat.le_refl _) _).trans (hB.mono (by simp))
  have HB := Lib.hid hB2
  clear hB hB2
  go_wp2_with fail
  refine (HE.out _).mono ?_; rintro e w' ⟨rfl, rfl⟩
  go_wp2_with fail
  go_ret
  exact ⟨rfl, HB.out⟩
theorem Log_any (l c : Int) (b g : Nat) (f i : Int) (hg : g ≤ 1000) (hi : -9223372036854775808 ≤ i ∧ i ≤ 100000) (w : World) :
    Calls Try.prog 11 #[shQ l c b g f, .int .i64 i] w fun e w' => e = .returned (.int .i64 (blockV 2 g i)) ∧ Below w.heap.size w w' := by
  have H := Lib.hid (log_any l c b g f)
  have HE := Lib.hid (block_any 2 g i (by omega) hi)
  generalize blockV 2 g i = m at *
  unfold shQ at H ⊢
  go_enter Try.func11, Try.ntmps11
  go_wp2_with fail
  refine (H.out _).mono ?_; rintro e w' ⟨rfl, hB⟩
  have hB2 := ((Below.refl w.heap.size w).alloc (Nat.le_refl _) _).trans (hB.mono (by simp))
  have HB := Lib.hid hB2
  clear hB hB2
  go_wp2_with fail
  refine (HE.out _).mono ?_; rintro e w' ⟨rfl, rfl⟩
  go_wp2_with fail
  go_ret
  exact ⟨rfl, HB.out⟩
theorem Home_any (l c : Int) (b g : Nat) (f i : Int) (hb : b ≤ 1000) (hg : g ≤ 1000) (hi : -9223372036854775808 ≤ i ∧ i ≤ 100000) (w : World) :
    Calls Try.prog 12 #[shQ l c b g f, .int .i64 i] w fun e w' => e = .returned (.int .i64 (blockV (2 + g) b i)) ∧ Below w.heap.size w w' := by
  have H := Lib.hid (homes_any l c b g f hg)
  have HE := Lib.hid (block_any (2 + g) b i (by omega) hi)
  generalize blockV (2 + g) b i = m at *
  unfold shQ at H ⊢
  go_enter Try.func12, Try.ntmps12
  go_wp2_with fail
  refine (H.out _).mono ?_; rintro e w' ⟨rfl, hB⟩
  have hB2 := ((Below.refl w.heap.size w).alloc (Nat.le_refl _) _).trans (hB.mono (by simp))
  have HB := Lib.hid hB2
  clear hB hB2
  go_wp2_with fail
  refine (HE.out _).mono ?_; rintro e w' ⟨rfl, rfl⟩
  go_wp2_with fail
  go_ret
  exact ⟨rfl, HB.out⟩
theorem anchor_any (x : Int) (h0 : 0 ≤ x) (w : World) :
    Calls Try.prog 13 #[.int .u32 x] w fun e w' => e = .returned (.int .i64 (x % 2)) ∧ w = w' := by
  have HE := fun w => block_any 0 2 (x % 2) (by omega) (by omega) w
  rw [areaC_an, show blockV 0 2 (x % 2) = x % 2 by unfold blockV; rw [if_pos (by omega)]; omega] at HE
  have u := IntWalk.u32_in (x % 2) (by omega)
  have e : x.tmod 2 = x % 2 := Int.tmod_eq_emod_of_nonneg h0
  have HE' := Lib.hid HE
  clear HE
  go_enter Try.func13, Try.ntmps13
  go_wp2_with fail
  refine (HE'.out _).mono ?_; rintro e w' ⟨rfl, rfl⟩
  go_wp2_with fail
  go_ret
  exact ⟨rfl, rfl⟩
theorem sizeOf_any (l c : Int) (b g : Nat) (f : Int) (hb : b ≤ 1000) (hg : g ≤ 1000) (w : World) :
    Calls Try.prog 9 #[shQ l c b g f] w fun e w' => e = .returned (.int .i64 ((2 + g + b : Nat) : Int)) ∧ Below w.heap.size w w' := by
  have u1 : IntKind.i64.wrap (2 + (g : Int)) = 2 + (g : Int) := IntWalk.i64_in _ (by omega)
  have u2 : IntKind.i64.wrap (2 + (g : Int) + b) = 2 + (g : Int) + b := IntWalk.i64_in _ (by omega)
  unfold shQ
  go_enter Try.func9, Try.ntmps9
  go_wp2
  go_ret
  exact ⟨ret_int (by omega), (Below.refl _ _).alloc (Nat.le_refl _) _⟩
end Go.Proofs.Ytfmpbofhaoijpaa
