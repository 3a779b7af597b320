/- Contracts: ino.toID, Root, takeNumber, takeGen; the reference's MayID; two IDs compared. -/
import Derived.Test.YtcmmopngjeonfaaUb
import Derived.Laws.StructEq
import Derived.Test.YtcmmopngjeonfaaRk
namespace Go.Proofs.Ytcmmopngjeonfaa
open Go.ChangeShapes Go.WideShapes Go.ChangeAt Go.RowKit
open Fx
set_option linter.unusedVariables false
theorem add_pos (a : Addr) (i : Nat) (h : i ≠ 0) : a.add i = ⟨a.block, a.off + i, none⟩ := by unfold Addr.add; rw [if_neg h]
theorem add_zero' (a : Addr) : a.add 0 = a := by unfold Addr.add; simp
theorem eqlI (l a g l' a' g' : Int) (w : World) : (binOp .eql 24 (.agg #[.int .i64 l, .int .i64 a, .int .u32 g]) (.agg #[.int .i64 l', .int .i64 a', .int .u32 g'])).run Try.prog w = .ok (.bool (decide (l = l' ∧ a = a' ∧ g = g'))) w := by
  have u3 := Try.underlying3
  have a3 := Try.isAgg3
  have z3 := Try.sizeOf3
  have u22 := Try.underlying22
  have a22 := Try.isAgg22
  have z22 := Try.sizeOf22
  have hS : Try.prog.underlying 24 = some (.struct (Try.prog.fieldsOf 24)) := by kernel_rfl
  have hp : Try.prog.stoodInHeld 24 = false := by kernel_rfl
  rw [run_eql_struct, show (10000 : Nat) = 9998 + 1 + 1 from rfl, run_equalIn_agg w (9998 + 1) 24 _ _ hS hp]
  clear hS hp
  simp only [Program.fieldsOf, Try.underlying24]
  go_simp
  by_cases h1 : l = l' <;> by_cases h2 : a = a' <;> by_cases h3 : g = g' <;> simp [h1, h2, h3]
theorem neqI (l a g l' a' g' : Int) (w : World) : (binOp .neq 24 (.agg #[.int .i64 l, .int .i64 a, .int .u32 g]) (.agg #[.int .i64 l', .int .i64 a', .int .u32 g'])).run Try.prog w = .ok (.bool (!(decide (l = l' ∧ a = a' ∧ g = g')))) w := by
  have u3 := Try.underlying3
  have a3 := Try.isAgg3
  have z3 := Try.sizeOf3
  have u22 := Try.underlying22
  have a22 := Try.isAgg22
  have z22 := Try.sizeOf22
  have hS : Try.prog.underlying 24 = some (.struct (Try.prog.fieldsOf 24)) := by kernel_rfl
  have hp : Try.prog.stoodInHeld 24 = false := by kernel_rfl
  rw [run_neq_struct', show (10000 : Nat) = 9998 + 1 + 1 from rfl, run_equalIn_agg w (9998 + 1) 24 _ _ hS hp]
  clear hS hp
  simp only [Program.fieldsOf, Try.underlying24]
  go_simp
  by_cases h1 : l = l' <;> by_cases h2 : a = a' <;> by_cases h3 : g = g' <;> simp [h1, h2, h3]
theorem builtI (l a : Value) (g : Value) (h : True) : True := h
theorem toid_any (l a g : Int) (w : World) (hl : l.natAbs ≤ 100000) (ha : a.natAbs ≤ 100000) : Calls Try.prog 31 #[.complex .f64 (fi l) (fi a), .int .u32 g] w fun e w' => e = .returned (idV l a g) ∧ Below w.heap.size w w' := by
  have v1 := fun w : World => run_convert_float_int w 63 3 .f64 .i64 _ _ (P := Try.prog) (by kernel_rfl) Try.underlying3 (int_fi .i64 l (by omega) (by rw [show IntKind.i64.min = -9223372036854775808 from rfl]; omega) (by rw [show IntKind.i64.max = 9223372036854775807 from rfl]; omega))
  have v2 := fun w : World => run_convert_float_int w 63 3 .f64 .i64 _ _ (P := Try.prog) (by kernel_rfl) Try.underlying3 (int_fi .i64 a (by omega) (by rw [show IntKind.i64.min = -9223372036854775808 from rfl]; omega) (by rw [show IntKind.i64.max = 9223372036854775807 from rfl]; omega))
  have H0 := Lib.hid (IdAt.new w 0 0 0)
  have HB := Lib.hid (bel1 (w := w) (Obj.cells #[.int .i64 0, .int .i64 0, .int .u32 0] 24))
  generalize fi l = x at *
  generalize fi a = y at *
  go_enter Try.func31, Try.ntmps31
  go_wp2_with (refine wpList_storeI rfl (.tmp 4) (.tmp 12) rfl w.heap.size rfl l a g rfl 0 0 0 H0.out ?_)
  refine bodyPost_ret (results_id rfl _ _ w.heap.size l a g rfl (H0.out.set _ _ _)) rfl ?_
  exact ⟨rfl, below_setRow HB.out (Nat.le_refl _) _⟩
/-- A byte with a sign. -/
def labI (b : Int) : Int := if b < 128 then b else b - 256
theorem labI_wrap (b : Int) (h : 0 ≤ b ∧ b < 256) : IntKind.i8.wrap b = labI b := by
  unfold labI
  simp [IntKind.wrap, IntKind.bits, IntKind.signed]
  split <;> split <;> omega
theorem or16 (a y : Nat) (ha : a < 256) (hy : y < 256) : bits .or .u16 ((a : Int) * 256) (y : Int) = ((a * 256 + y : Nat) : Int) := by
  have h := u16_or_nat (a * 256) y (by omega) (by omega)
  have h2 := Nat.two_pow_add_eq_or_of_lt (i := 8) (b := y) (by omega) a
  rw [show (2 ^ 8 * a : Nat) = a * 256 by omega] at h2
  rw [← h2] at h
  rw [← h, Int.natCast_mul]; rfl
theorem or32 (a y q m : Nat) (i : Nat) (hi : 2 ^ i = m) (hm : m ≤ 4294967296) (ha : a * m < 4294967296) (hy : y < m) (hq : q = a * m) : bits .or .u32 (q : Int) (y : Int) = ((q + y : Nat) : Int) := by
  subst hq
  have h := u32_or_nat (a * m) y ha (Nat.lt_of_lt_of_le hy hm)
  have h2 := Nat.two_pow_add_eq_or_of_lt (i := i) (b := y) (by rw [hi]; exact hy) a
  rw [hi, Nat.mul_comm m a] at h2
  rw [← h2] at h
  exact h
theorem itakenum_any (ad : Addr) (b0 b1 b2 c : Nat) (w : World) (h0 : b0 < 256) (h1 : b1 < 256) (h2 : b2 < 256) (c0 : w.cell? ad = some (.int .u8 b0)) (c1 : w.cell? ⟨ad.block, ad.off + 1, none⟩ = some (.int .u8 b1)) (c2 : w.cell? ⟨ad.block, ad.off + 2, none⟩ = some (.int .u8 b2)) :
    Calls Try.prog 32 #[.slice (some ad) 3 c] w fun e w' => e = .returned (.complex .f64 (fi (labI b0)) (fi ((b1 * 256 + b2 : Nat) : Int))) ∧ ∃ n, w' = w.drewN n := by
  have e0 := labI_wrap b0 (by omega)
  have e1 : IntKind.u16.wrap (b1 : Int) = b1 := IntWalk.u16_in _ (by omega)
  have e2 : IntKind.u16.wrap (b2 : Int) = b2 := IntWalk.u16_in _ (by omega)
  have e3 : IntKind.u16.wrap ((b1 : Int) * 256) = (b1 : Int) * 256 := IntWalk.u16_in _ (by omega)
  have e4 := or16 b1 b2 h1 h2
  have k1 : ∀ q, (w.drewN q).cell? ⟨ad.block, ad.off + 1, none⟩ = some (.int .u8 b1) := fun q => c1
  have k2 : ∀ q, (w.drewN q).cell? ⟨ad.block, ad.off + 2, none⟩ = some (.int .u8 b2) := fun q => c2
  unfold fi
  generalize labI b0 = lb at *
  generalize ((b1 * 256 + b2 : Nat) : Int) = pl at *
  go_enter Try.func32, Try.ntmps32
  go_upto_region 2 with fail
  go_quiet (fail)
  go_wp2
  go_ret
  exact ⟨rfl, _, rfl⟩
theorem takegen_at (ad : Addr) (b0 b1 b2 b3 x0 x1 x2 r1 r2 r c : Nat) (w : World) (c0 : w.cell? ad = some (.int .u8 b0)) (c1 : w.cell? ⟨ad.block, ad.off + 1, none⟩ = some (.int .u8 b1)) (c2 : w.cell? ⟨ad.block, ad.off + 2, none⟩ = some (.int .u8 b2)) (c3 : w.cell? ⟨ad.block, ad.off + 3, none⟩ = some (.int .u8 b3))
    (a0 : IntKind.u32.wrap (b0 : Int) = b0) (a1 : IntKind.u32.wrap (b1 : Int) = b1) (a2 : IntKind.u32.wrap (b2 : Int) = b2) (a3 : IntKind.u32.wrap (b3 : Int) = b3)
    (s0 : IntKind.u32.wrap ((b0 : Int) * 16777216) = (x0 : Int)) (s1 : IntKind.u32.wrap ((b1 : Int) * 65536) = (x1 : Int)) (s2 : IntKind.u32.wrap ((b2 : Int) * 256) = (x2 : Int))
    (o1 : bits .or .u32 (x0 : Int) (x1 : Int) = (r1 : Int)) (o2 : bits .or .u32 (r1 : Int) (x2 : Int) = (r2 : Int)) (o3 : bits .or .u32 (r2 : Int) (b3 : Int) = (r : Int)) :
    Calls Try.prog 33 #[.slice (some ad) 4 c] w fun e w' => e = .returned (.int .u32 (r : Int)) ∧ ∃ n, w' = w.drewN n := by
  have k0 : ∀ q, (w.drewN q).cell? ad = some (.int .u8 b0) := fun q => c0
  have k1 : ∀ q, (w.drewN q).cell? ⟨ad.block, ad.off + 1, none⟩ = some (.int .u8 b1) := fun q => c1
  have k2 : ∀ q, (w.drewN q).cell? ⟨ad.block, ad.off + 2, none⟩ = some (.int .u8 b2) := fun q => c2
  have k3 : ∀ q, (w.drewN q).cell? ⟨ad.block, ad.off + 3, none⟩ = some (.int .u8 b3) := fun q => c3
  go_enter Try.func33, Try.ntmps33
  go_upto_region 1 with fail
  go_quiet (fail)
  go_wp2
  go_ret
  exact ⟨rfl, _, rfl⟩
theorem itakegen_any (ad : Addr) (b0 b1 b2 b3 c : Nat) (w : World) (h0 : b0 < 256) (h1 : b1 < 256) (h2 : b2 < 256) (h3 : b3 < 256) (c0 : w.cell? ad = some (.int .u8 b0)) (c1 : w.cell? ⟨ad.block, ad.off + 1, none⟩ = some (.int .u8 b1)) (c2 : w.cell? ⟨ad.block, ad.off + 2, none⟩ = some (.int .u8 b2)) (c3 : w.cell? ⟨ad.block, ad.off + 3, none⟩ = some (.int .u8 b3)) :
    Calls Try.prog 33 #[.slice (some ad) 4 c] w fun e w' => e = .returned (.int .u32 ((b0 * 16777216 + b1 * 65536 + b2 * 256 + b3 : Nat) : Int)) ∧ ∃ n, w' = w.drewN n := by
  refine takegen_at ad b0 b1 b2 b3 (b0 * 16777216) (b1 * 65536) (b2 * 256) _ _ _ c w c0 c1 c2 c3 (IntWalk.u32_in _ (by omega)) (IntWalk.u32_in _ (by omega)) (IntWalk.u32_in _ (by omega)) (IntWalk.u32_in _ (by omega)) ?_ ?_ ?_
    (or32 b0 (b1 * 65536) _ 16777216 24 (by decide) (by decide) (by omega) (by omega) rfl)
    (or32 (b0 * 256 + b1) (b2 * 256) _ 65536 16 (by decide) (by decide) (by omega) (by omega) (by omega))
    (or32 (b0 * 65536 + b1 * 256 + b2) b3 _ 256 8 (by decide) (by decide) (by omega) (by omega) (by omega))
  · rw [IntWalk.u32_in _ (by omega)]; omega
  · rw [IntWalk.u32_in _ (by omega)]; omega
  · rw [IntWalk.u32_in _ (by omega)]; omega
end Go.Proofs.Ytcmmopngjeonfaa
