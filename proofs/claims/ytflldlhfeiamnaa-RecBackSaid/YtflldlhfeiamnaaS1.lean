/- Contracts: sum.Sum and the functions that it calls. -/
import Derived.Test.YtflldlhfeiamnaaK1
import Derived.Test.YtflldlhfeiamnaaFx
namespace Go.Proofs.Ytflldlhfeiamnaa
open Go.ChangeShapes Go.WideShapes Go.ChangeAt Go.RowKit
open Fx
set_option linter.unusedVariables false
/-- The sum that is being made: a, c. -/
def sumStep (s : Nat × Nat) (x : Int) : Nat × Nat := ((s.1 + x.toNat) % 65521, (s.2 + (s.1 + x.toNat) % 65521) % 65521)
def sumAC (bs : List Int) : Nat × Nat := bs.foldl sumStep (1, 0)
def sumV (bs : List Int) : Nat := (sumAC bs).2 * 65536 + (sumAC bs).1
theorem sumStep_lt (s : Nat × Nat) (x : Int) : (sumStep s x).1 < 65521 ∧ (sumStep s x).2 < 65521 := by
  unfold sumStep; exact ⟨Nat.mod_lt _ (by omega), Nat.mod_lt _ (by omega)⟩
theorem sumAC_snoc (bs : List Int) (x : Int) : sumAC (bs ++ [x]) = sumStep (sumAC bs) x := by unfold sumAC; rw [List.foldl_append]; rfl
theorem sumAC_lt (bs : List Int) : (sumAC bs).1 < 65521 ∧ (sumAC bs).2 < 65521 := by
  rcases List.eq_nil_or_concat bs with rfl | ⟨l, x, rfl⟩
  · unfold sumAC; simp
  · rw [List.concat_eq_append, sumAC_snoc]; exact sumStep_lt _ _
theorem sumV_lt (bs : List Int) : sumV bs < 4294967296 := by have := sumAC_lt bs; unfold sumV; omega
theorem fold_any (n : Nat) (h : n < 131042) (w : World) :
    Calls Try.prog 37 #[.float .f64 (fb n)] w fun e w' => e = .returned (.float .f64 (fb (n % 65521))) ∧ w = w' := by
  have g := ge_fb n 65521 (by omega) (by omega)
  rw [fb_mod] at g
  by_cases h1 : 65521 ≤ n
  · have s := fun w : World => run_float_arith (P := Try.prog) w .sub 66 .f64 _ _ _ (sub_fb n 65521 (by omega) h1)
    rw [fb_mod] at s
    have e : n - 65521 = n % 65521 := by omega
    rw [e] at s
    rw [decide_eq_true h1] at g
    clear e h1
    generalize hm : n % 65521 = m at *
    clear hm
    go_enter Try.func37, Try.ntmps37
    go_wp2
    go_ret
    exact ⟨rfl, rfl⟩
  · have e : n % 65521 = n := Nat.mod_eq_of_lt (by omega)
    rw [e]
    rw [decide_eq_false h1] at g
    clear e h1
    go_enter Try.func37, Try.ntmps37
    go_wp2
    go_ret
    exact ⟨rfl, rfl⟩
theorem sadd_any (a c x : Nat) (ha : a < 65521) (hc : c < 65521) (hx : x < 256) (w : World) :
    Calls Try.prog 36 #[.complex .f64 (fb a) (fb c), .int .u8 x] w fun e w' => e = .returned (.complex .f64 (fb ((a + x) % 65521)) (fb ((c + (a + x) % 65521) % 65521))) ∧ w = w' := by
  have s1 : ∀ w : World, (binOp .add 66 (.float .f64 (fb a)) (.float .f64 (floatOfInt .f64 (x : Int)))).run Try.prog w = _ := fun w : World => run_float_arith (P := Try.prog) w .add 66 .f64 _ _ _ (add_fb a x (by omega))
  have f1 := fun w : World => fold_any (a + x) (by omega) w
  generalize hm : (a + x) % 65521 = m at *
  have hm' : m < 65521 := by omega
  have s2 := fun w : World => run_float_arith (P := Try.prog) w .add 66 .f64 _ _ _ (add_fb c m (by omega))
  have f2 := fun w : World => fold_any (c + m) (by omega) w
  generalize hm : (c + m) % 65521 = m2 at *
  clear hm
  generalize hy : a + x = y at *
  clear hy
  have F1 := Lib.hid f1
  have F2 := Lib.hid f2
  clear f1 f2
  go_enter Try.func36, Try.ntmps36
  go_wp2_with fail
  refine (F1.out _).mono ?_; rintro e w' ⟨rfl, rfl⟩
  go_wp2_with fail
  refine (F2.out _).mono ?_; rintro e w' ⟨rfl, rfl⟩
  go_wp2_with fail
  go_ret
  exact ⟨rfl, rfl⟩
theorem sum_any (A : Option Addr) (bs : List Int) (n d : Nat) (w : World) (hn : bs.length = n) (hl : n ≤ 1000000) (hB : AllB bs) (hy : Byt w A bs) :
    Calls Try.prog 35 #[.slice A n d] w fun e w' => e = .returned (.int .u32 (sumV bs)) ∧ w = w' := by
  have HY := Lib.hid hy
  have HN := Lib.hid hn
  have HB := Lib.hid hB
  clear hn hB hy
  go_enter Try.func35, Try.ntmps35
  go_wp2
  go_loop [3, 8] (fun z i => ∃ k : Nat, k ≤ n ∧ i = .int .i64 k ∧ z = .complex .f64 (fb (sumAC (bs.take k)).1) (fb (sumAC (bs.take k)).2)) (fun _ i => n - (intOf i).toNat)
  case atStart => exact ⟨0, Nat.zero_le _, rfl, by rw [show sumAC (bs.take 0) = (1, 0) from rfl, fb_one, fb_zero]⟩
  case round =>
    obtain ⟨k, hk, rfl, rfl⟩ := hrel
    have hlt2 := sumAC_lt (bs.take k)
    by_cases hlt : k < n
    · obtain ⟨x, hx⟩ : ∃ x, bs[k]? = some x := ⟨_, List.getElem?_eq_getElem (by rw [HN.out]; exact hlt)⟩
      obtain ⟨ad, rfl, hc0⟩ := HY.out k x hx
      have hxb := HB.out x (List.mem_of_getElem? hx)
      obtain ⟨y, rfl⟩ : ∃ y : Nat, x = (y : Int) := ⟨x.toNat, by omega⟩
      have hyb : y < 256 := by omega
      have HS : Hid (sumAC (bs.take (k + 1)) = (((sumAC (bs.take k)).1 + y) % 65521, ((sumAC (bs.take k)).2 + ((sumAC (bs.take k)).1 + y) % 65521) % 65521)) := by
        rw [take_snoc' hx, sumAC_snoc]; unfold sumStep; rw [Int.toNat_natCast]; exact rfl
      have HF : Hid (∀ w, _) := fun w : World => sadd_any _ _ y hlt2.1 hlt2.2 hyb w
      clear hx hxb hlt2
      generalize (sumAC (bs.take k)).1 = a at *
      generalize (sumAC (bs.take k)).2 = c at *
      go_wp2_with fail
      refine (HF.out _).mono ?_; rintro e w' ⟨rfl, rfl⟩
      go_wp2_with fail
      go_round
      case rel => exact ⟨k + 1, by omega, by go_num, by rw [HS.out]; simp only [Nat.add_mod_mod]⟩
      case measure => simp [intOf]; omega
    · have e : bs.take k = bs := List.take_of_length_le (by rw [HN.out]; omega)
      rw [e] at hlt2 ⊢
      have v1 := fun w : World => run_convert_float_int w 66 22 .f64 .u32 _ _ (P := Try.prog) (by kernel_rfl) Try.underlying22 (int_fb (sumAC bs).1 (by omega))
      have v2 := fun w : World => run_convert_float_int w 66 22 .f64 .u32 _ _ (P := Try.prog) (by kernel_rfl) Try.underlying22 (int_fb (sumAC bs).2 (by omega))
      have HV : Hid (sumV bs = (sumAC bs).2 * 65536 + (sumAC bs).1) := Lib.hid rfl
      have b1 := hlt2.1
      have b2 := hlt2.2
      clear hlt2 e
      generalize (sumAC bs).1 = a at *
      generalize (sumAC bs).2 = c at *
      have u1 : IntKind.u32.wrap ((c : Int) * 65536) = (c : Int) * 65536 := IntWalk.u32_in _ (by omega)
      have u2 : IntKind.u32.wrap ((c : Int) * 65536 + a) = (c : Int) * 65536 + a := IntWalk.u32_in _ (by omega)
      go_wp2
      go_ret
      exact ⟨ret_int (by rw [HV.out]; omega), rfl⟩
/-- The same, as quiet regions ask for it. -/
theorem sum_q (A : Option Addr) (bs : List Int) (n d : Nat) (w : World) (hn : bs.length = n) (hl : n ≤ 1000000) (hB : AllB bs) (hy : Byt w A bs) :
    Calls Try.prog 35 #[.slice A n d] w fun e w' => e = .returned (.int .u32 (sumV bs)) ∧ w' = w :=
  (sum_any A bs n d w hn hl hB hy).mono fun e w' ⟨he, hw⟩ => ⟨he, hw.symm⟩
end Go.Proofs.Ytflldlhfeiamnaa
