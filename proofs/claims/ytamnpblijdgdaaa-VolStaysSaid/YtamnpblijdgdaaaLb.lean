/- Contracts: label.Put. -/
import Derived.Laws.FloatArith
import Derived.Laws.Cover3
import Derived.Test.YtamnpblijdgdaaaRows
import Derived.Test.YtamnpblijdgdaaaK4
import Derived.WalkKit
import Derived.ProofKit
import Derived.OpenShut
import Derived.Outline
import Derived.WalkLawsBesides
import Derived.Laws.Bits64b
import Derived.Deep.RegionHeld3
import Derived.Lib.Hide
/- Facts on whole numbers as 64-bit floats: which whole number is ahead of which, sums and products of small ones, and back again. No program. -/
namespace Go.Proofs.Ytamnpblijdgdaaa.Fl
open Go
set_option maxRecDepth 20000

abbrev F (n : Int) : Nat := floatOfInt .f64 n

theorem cut_even_bounds (neg : Bool) (n drop : Nat) :
    n / 2 ^ (min drop (n.log2 + 2)) ≤ Ieee.Toward.even.cut neg n drop ∧ Ieee.Toward.even.cut neg n drop ≤ n / 2 ^ (min drop (n.log2 + 2)) + 1 := by
  unfold Ieee.Toward.cut
  simp only [Nat.one_shiftLeft]
  constructor
  · omega
  · have : ∀ b : Bool, b.toNat ≤ 1 := by decide
    have := this (decide (2 ^ (min drop (n.log2 + 2)) < 2 * (n % 2 ^ (min drop (n.log2 + 2)))) || (2 ^ (min drop (n.log2 + 2)) == 2 * (n % 2 ^ (min drop (n.log2 + 2))) && n / 2 ^ (min drop (n.log2 + 2)) % 2 == 1))
    omega

theorem log2_lt {n k : Nat} (h0 : n ≠ 0) (h : n < 2 ^ k) : n.log2 < k := (Nat.log2_lt h0).2 h
theorem le_log2 {n k : Nat} (h : 2 ^ k ≤ n) : k ≤ n.log2 := by
  have h0 : n ≠ 0 := by have := Nat.two_pow_pos k; omega
  exact (Nat.le_log2 h0).2 h

/-- The rung of a whole number between 1 and 2^63. -/
theorem rung_bounds (m : Nat) (h0 : 1 ≤ m) (h : m ≤ 2 ^ 63) :
    ∃ r, (∀ neg, Ieee.double.nearest neg m 0 = Ieee.double.word neg r) ∧ (m.log2 + 1023) * 2 ^ 52 ≤ r ∧ r ≤ (m.log2 + 1024) * 2 ^ 52 := by
  have hm : m ≠ 0 := by omega
  have hL : m.log2 < 64 := log2_lt hm (by omega)
  have hlo : 2 ^ m.log2 ≤ m := Nat.log2_self_le hm
  have hhi : m < 2 ^ (m.log2 + 1) := Nat.lt_log2_self
  generalize hg : m.log2 = L at *
  have key : ∀ neg, Ieee.double.nearest neg m 0 = Ieee.double.word neg (min ((L + 1022) * 2 ^ 52 + Ieee.Toward.even.cut neg (m <<< (52 - L)) (L - 52)) Ieee.double.infRung) := by
    intro neg
    unfold Ieee.Format.nearest
    rw [if_neg hm, hg]
    have hl : (max ((0 : Int) + (L : Int) - (Ieee.double.fractionBits : Nat)) Ieee.double.leastPlace) = (L : Int) - 52 := by
      have : Ieee.double.leastPlace = -1074 := by decide
      have h2 : (Ieee.double.fractionBits : Int) = 52 := rfl
      rw [this, h2]; omega
    simp only [hl]
    have a1 : ((L : Int) - 52 - Ieee.double.leastPlace).toNat = L + 1022 := by
      have : Ieee.double.leastPlace = -1074 := by decide
      rw [this]; omega
    have a2 : ((0 : Int) - ((L : Int) - 52)).toNat = 52 - L := by omega
    have a3 : (((L : Int) - 52) - 0).toNat = L - 52 := by omega
    have a4 : Ieee.double.binade = 2 ^ 52 := rfl
    rw [a1, a2, a3, a4]
  -- what is kept does not hang on the sign
  have hneg : ∀ n d neg, Ieee.Toward.even.cut neg n d = Ieee.Toward.even.cut false n d := fun n d neg => rfl
  have hkept : 2 ^ 52 ≤ Ieee.Toward.even.cut false (m <<< (52 - L)) (L - 52) ∧ Ieee.Toward.even.cut false (m <<< (52 - L)) (L - 52) ≤ 2 ^ 53 := by
    by_cases hc : L ≤ 52
    · have hd : L - 52 = 0 := by omega
      rw [hd]
      have e : Ieee.Toward.even.cut false (m <<< (52 - L)) 0 = m <<< (52 - L) := by
        unfold Ieee.Toward.cut
        simp [Nat.mod_one]
      rw [e, Nat.shiftLeft_eq]
      have p1 : 2 ^ L * 2 ^ (52 - L) = 2 ^ 52 := by rw [← Nat.pow_add]; congr 1; omega
      have p2 : 2 ^ (L + 1) * 2 ^ (52 - L) = 2 ^ 53 := by rw [← Nat.pow_add]; congr 1; omega
      have q1 := Nat.mul_le_mul_right (2 ^ (52 - L)) hlo
      have q2 := Nat.mul_le_mul_right (2 ^ (52 - L)) (Nat.le_of_lt hhi)
      omega
    · have hd : 52 - L = 0 := by omega
      rw [hd, Nat.shiftLeft_zero]
      obtain ⟨b1, b2⟩ := cut_even_bounds false m (L - 52)
      have hmin : min (L - 52) (m.log2 + 2) = L - 52 := by omega
      rw [hmin] at b1 b2
      have p1 : 2 ^ 52 * 2 ^ (L - 52) = 2 ^ L := by rw [← Nat.pow_add]; congr 1; omega
      have p2 : 2 ^ 53 * 2 ^ (L - 52) = 2 ^ (L + 1) := by rw [← Nat.pow_add]; congr 1; omega
      have q1 : 2 ^ 52 ≤ m / 2 ^ (L - 52) := (Nat.le_div_iff_mul_le (Nat.two_pow_pos _)).2 (by omega)
      have q2 : m / 2 ^ (L - 52) < 2 ^ 53 := (Nat.div_lt_iff_lt_mul (Nat.two_pow_pos _)).2 (by omega)
      omega
  refine ⟨(L + 1022) * 2 ^ 52 + Ieee.Toward.even.cut false (m <<< (52 - L)) (L - 52), ?_, ?_, ?_⟩
  · intro neg
    rw [key neg, hneg _ _ neg]
    congr 1
    have : Ieee.double.infRung = 2047 * 2 ^ 52 := by decide
    rw [this]
    have : (L + 1022) * 2 ^ 52 ≤ (63 + 1022) * 2 ^ 52 := Nat.mul_le_mul_right _ (by omega)
    omega
  · have := hkept.1; omega
  · have := hkept.2; omega

theorem read_word (neg : Bool) (r : Nat) (h1 : 2 ^ 52 ≤ r) (h2 : r < 2047 * 2 ^ 52) :
    Ieee.double.read (Ieee.double.word neg r) = .number neg (2 ^ 52 + r % 2 ^ 52) (-1074 + (r / 2 ^ 52 - 1 : Nat)) := by
  unfold Ieee.Format.read Ieee.Format.word
  have s : Ieee.double.signWeight = 2 ^ 63 := rfl
  have b : Ieee.double.binade = 2 ^ 52 := rfl
  have i : Ieee.double.infRung = 2047 * 2 ^ 52 := by decide
  have l : Ieee.double.leastPlace = -1074 := by decide
  rw [s, b, i, l]
  have e1 : (if neg = true then 2 ^ 63 + r else r) % 2 ^ 63 = r := by split <;> omega
  have e2 : ((if neg = true then 2 ^ 63 + r else r) / 2 ^ 63 % 2 == 1) = neg := by
    cases neg
    · simp; omega
    · simp; omega
  simp only [e1, e2]
  rw [if_neg (by omega), if_pos h2]

theorem F_pos (n : Int) (h : 1 ≤ n) (h2 : n ≤ 2 ^ 63) : ∃ r, F n = r ∧ (n.toNat.log2 + 1023) * 2 ^ 52 ≤ r ∧ r ≤ (n.toNat.log2 + 1024) * 2 ^ 52 := by
  obtain ⟨r, hr, h3, h4⟩ := rung_bounds n.toNat (by omega) (by omega)
  refine ⟨r, ?_, h3, h4⟩
  have : F n = Ieee.double.nearest (decide (n < 0)) n.natAbs 0 := rfl
  rw [this, show n.natAbs = n.toNat by omega, hr, show decide (n < 0) = false by simp; omega]
  rfl
theorem F_neg (n : Int) (h : n < 0) (h2 : -2 ^ 63 ≤ n) : ∃ r, F n = Ieee.double.word true r ∧ 2 ^ 52 ≤ r ∧ r < 2047 * 2 ^ 52 := by
  obtain ⟨r, hr, h3, h4⟩ := rung_bounds n.natAbs (by omega) (by omega)
  have hL : n.natAbs.log2 < 64 := log2_lt (by omega) (by omega)
  refine ⟨r, ?_, by omega, by omega⟩
  have : F n = Ieee.double.nearest (decide (n < 0)) n.natAbs 0 := rfl
  rw [this, hr, show decide (n < 0) = true by simp; omega]

theorem order_neg (n : Int) (h : n < 0) (h2 : -2 ^ 63 ≤ n) (y m : Nat) (p : Int) (hy : Ieee.double.read y = .number false m p) :
    FloatKind.f64.format.order (F n) y = some .lt := by
  obtain ⟨r, e, h3, h4⟩ := F_neg n h h2
  show Ieee.double.order (F n) y = _
  unfold Ieee.Format.order
  rw [e, read_word true r h3 h4, hy]
  simp only [Ieee.Datum.order, Option.some.injEq]
  generalize hb : min (-1074 + ((r / 2 ^ 52 - 1 : Nat) : Int)) p = base
  have : compare (Ieee.signed true (2 ^ 52 + r % 2 ^ 52) (-1074 + ((r / 2 ^ 52 - 1 : Nat) : Int) - base).toNat) (Ieee.signed false m (p - base).toNat) = .lt := by
    rw [Int.compare_eq_lt]
    unfold Ieee.signed
    simp only [if_true, Nat.shiftLeft_eq]
    have : 0 < (2 ^ 52 + r % 2 ^ 52) * 2 ^ (-1074 + ((r / 2 ^ 52 - 1 : Nat) : Int) - base).toNat := Nat.mul_pos (by omega) (Nat.two_pow_pos _)
    simp only [Bool.false_eq_true, if_false]
    omega
  exact this

theorem order_big (n : Int) (h : 16 ≤ n) (h2 : n ≤ 2 ^ 63) (y : Nat) (m : Nat) (p : Int) (hy : Ieee.double.read y = .number false m p) (hm : m < 2 ^ 53) (hp : p ≤ -49) :
    FloatKind.f64.format.order (F n) y = some .gt := by
  obtain ⟨r, e, h3, h4⟩ := F_pos n (by omega) h2
  have hL : n.toNat.log2 < 64 := log2_lt (by omega) (by omega)
  have hL4 : 4 ≤ n.toNat.log2 := le_log2 (by omega)
  show Ieee.double.order (F n) y = _
  unfold Ieee.Format.order
  have ew : r = Ieee.double.word false r := rfl
  rw [e, ew, read_word false r (by omega) (by omega), hy]
  simp only [Ieee.Datum.order, Option.some.injEq]
  have hq : n.toNat.log2 + 1023 ≤ r / 2 ^ 52 := (Nat.le_div_iff_mul_le (by omega)).2 h3
  generalize hplace : (-1074 + ((r / 2 ^ 52 - 1 : Nat) : Int)) = place at *
  have hplace2 : p + 1 ≤ place := by omega
  have hb : min place p = p := by omega
  rw [hb]
  have : compare (Ieee.signed false (2 ^ 52 + r % 2 ^ 52) (place - p).toNat) (Ieee.signed false m (p - p).toNat) = .gt := by
    rw [Int.compare_eq_gt]
    unfold Ieee.signed
    simp only [Bool.false_eq_true, if_false, Nat.shiftLeft_eq]
    have e1 : (p - p).toNat = 0 := by omega
    rw [e1]
    have e2 : 2 ^ 1 ≤ 2 ^ (place - p).toNat := Nat.pow_le_pow_right (by omega) (by omega)
    have e3 := Nat.mul_le_mul (show 2 ^ 52 ≤ 2 ^ 52 + r % 2 ^ 52 by omega) e2
    omega
  exact this

abbrev ordF (i j : Int) : Option Ordering := FloatKind.f64.format.order (F i) (F j)
theorem small_order : ∀ i : Fin 80, ∀ j : Fin 80, FloatKind.f64.format.order (F (i.val : Int)) (F (j.val : Int)) = some (compare i.val j.val) := by decide +kernel
theorem small_int : ∀ i : Fin 80, floatToIntVal .f64 (F (i.val : Int)) .i64 = some (i.val : Int) ∧ floatToIntVal .f64 (F (i.val : Int)) .u64 = some (i.val : Int) ∧ floatToIntVal .f64 (F (i.val : Int)) .u8 = some (i.val : Int) := by decide +kernel
theorem small_mul : ∀ i : Fin 5, FloatKind.f64.format.mul (F (i.val : Int)) (F 16) = some (F ((i.val : Int) * 16)) := by decide +kernel
theorem small_add : ∀ i : Fin 5, ∀ j : Fin 16, FloatKind.f64.format.add (F ((i.val : Int) * 16)) (F (j.val : Int)) = some (F ((i.val : Int) * 16 + j.val)) := by decide +kernel

theorem small_ge0 : ∀ i : Fin 80, (FloatKind.f64.format.order (F (i.val : Int)) 0 == some .gt || FloatKind.f64.format.order (F (i.val : Int)) 0 == some .eq) = true := by decide +kernel
theorem small_le3 : ∀ i : Fin 80, (FloatKind.f64.format.order (F (i.val : Int)) 4613937818241073152 == some .lt || FloatKind.f64.format.order (F (i.val : Int)) 4613937818241073152 == some .eq) = decide (i.val ≤ 3) := by decide +kernel
theorem small_le15 : ∀ i : Fin 80, (FloatKind.f64.format.order (F (i.val : Int)) 4624633867356078080 == some .lt || FloatKind.f64.format.order (F (i.val : Int)) 4624633867356078080 == some .eq) = decide (i.val ≤ 15) := by decide +kernel
theorem ge0_f (n : Int) (h : n < 0) (h2 : -2 ^ 63 ≤ n) : (FloatKind.f64.format.order (F n) 0 == some .gt || FloatKind.f64.format.order (F n) 0 == some .eq) = false := by
  rw [order_neg n h h2 0 0 (-1074) (by decide +kernel)]; rfl
theorem ge0_t (n : Int) (h : 0 ≤ n) (h2 : n ≤ 2 ^ 63) : (FloatKind.f64.format.order (F n) 0 == some .gt || FloatKind.f64.format.order (F n) 0 == some .eq) = true := by
  by_cases hs : n < 16
  · have := small_ge0 ⟨n.toNat, by omega⟩
    rwa [show ((n.toNat : Nat) : Int) = n by omega] at this
  · rw [order_big n (by omega) h2 0 0 (-1074) (by decide +kernel) (by omega) (by omega)]; rfl
theorem le3_t (n : Int) (h : 0 ≤ n) (h3 : n ≤ 3) : (FloatKind.f64.format.order (F n) 4613937818241073152 == some .lt || FloatKind.f64.format.order (F n) 4613937818241073152 == some .eq) = true := by
  have := small_le3 ⟨n.toNat, by omega⟩
  simp only [show ((n.toNat : Nat) : Int) = n by omega] at this
  rw [this]; simp; omega
theorem le15_t (n : Int) (h : 0 ≤ n) (h3 : n ≤ 15) : (FloatKind.f64.format.order (F n) 4624633867356078080 == some .lt || FloatKind.f64.format.order (F n) 4624633867356078080 == some .eq) = true := by
  have := small_le15 ⟨n.toNat, by omega⟩
  simp only [show ((n.toNat : Nat) : Int) = n by omega] at this
  rw [this]; simp; omega
theorem le3_f (n : Int) (h : 3 < n) (h2 : n ≤ 2 ^ 63) : (FloatKind.f64.format.order (F n) 4613937818241073152 == some .lt || FloatKind.f64.format.order (F n) 4613937818241073152 == some .eq) = false := by
  by_cases hs : n < 16
  · have := small_le3 ⟨n.toNat, by omega⟩
    simp only [show ((n.toNat : Nat) : Int) = n by omega] at this
    rw [this]; simp; omega
  · rw [order_big n (by omega) h2 4613937818241073152 6755399441055744 (-51) (by decide +kernel) (by omega) (by omega)]; rfl
theorem le15_f (n : Int) (h : 15 < n) (h2 : n ≤ 2 ^ 63) : (FloatKind.f64.format.order (F n) 4624633867356078080 == some .lt || FloatKind.f64.format.order (F n) 4624633867356078080 == some .eq) = false := by
  rw [order_big n (by omega) h2 4624633867356078080 8444249301319680 (-49) (by decide +kernel) (by omega) (by omega)]; rfl
theorem order_small (i j : Int) (h : 0 ≤ i ∧ i < 80) (h2 : 0 ≤ j ∧ j < 80) : FloatKind.f64.format.order (F i) (F j) = some (compare i j) := by
  have := small_order ⟨i.toNat, by omega⟩ ⟨j.toNat, by omega⟩
  simp only [show ((i.toNat : Nat) : Int) = i by omega, show ((j.toNat : Nat) : Int) = j by omega] at this
  rw [this]
  congr 1
  have e1 : (i.toNat : Int) = i := by omega
  have e2 : (j.toNat : Int) = j := by omega
  rcases Nat.lt_trichotomy i.toNat j.toNat with h | h | h
  · rw [Nat.compare_eq_lt.2 h, Int.compare_eq_lt.2 (by omega)]
  · rw [Nat.compare_eq_eq.2 h, Int.compare_eq_eq.2 (by omega)]
  · rw [Nat.compare_eq_gt.2 h, Int.compare_eq_gt.2 (by omega)]
theorem int_small (i : Int) (h : 0 ≤ i ∧ i < 80) : floatToIntVal .f64 (F i) .i64 = some i ∧ floatToIntVal .f64 (F i) .u64 = some i ∧ floatToIntVal .f64 (F i) .u8 = some i := by
  have := small_int ⟨i.toNat, by omega⟩
  simp only [show ((i.toNat : Nat) : Int) = i by omega] at this
  exact this

theorem run_max_small {P : Program} {ts : Array TypeId} {t : TypeId} (i j : Nat) (h : i < 80) (h2 : j < 80) (w : World) :
    (Builtin.max_ ts t #[.float .f64 (F i), .float .f64 (F j)]).run P w = .ok (.float .f64 (F ((max i j : Nat) : Int))) w := by
  have o := small_order ⟨i, h⟩ ⟨j, h2⟩
  dsimp only at o
  rcases Nat.lt_trichotomy i j with g | g | g
  · rw [Nat.compare_eq_lt.2 g] at o
    simp [Builtin.max_, Builtin.max2, o, Nat.max_eq_right (Nat.le_of_lt g)]
  · rw [Nat.compare_eq_eq.2 g] at o
    subst g
    simp [Builtin.max_, Builtin.max2, o]
  · rw [Nat.compare_eq_gt.2 g] at o
    simp [Builtin.max_, Builtin.max2, o, Nat.max_eq_left (Nat.le_of_lt g)]
theorem run_min_small {P : Program} {ts : Array TypeId} {t : TypeId} (i j : Nat) (h : i < 80) (h2 : j < 80) (w : World) :
    (Builtin.min_ ts t #[.float .f64 (F i), .float .f64 (F j)]).run P w = .ok (.float .f64 (F ((min i j : Nat) : Int))) w := by
  have o := small_order ⟨i, h⟩ ⟨j, h2⟩
  dsimp only at o
  rcases Nat.lt_trichotomy i j with g | g | g
  · rw [Nat.compare_eq_lt.2 g] at o
    simp [Builtin.min_, Builtin.min2, o, Nat.min_eq_left (Nat.le_of_lt g)]
  · rw [Nat.compare_eq_eq.2 g] at o
    subst g
    simp [Builtin.min_, Builtin.min2, o]
  · rw [Nat.compare_eq_gt.2 g] at o
    simp [Builtin.min_, Builtin.min2, o, Nat.min_eq_right (Nat.le_of_lt g)]
theorem ord_nat (i j : Nat) (h : i < 80) (h2 : j < 80) : FloatKind.f64.format.order (F i) (F j) = some (compare i j) := small_order ⟨i, h⟩ ⟨j, h2⟩
theorem mul_nat (i : Nat) (h : i < 5) : FloatKind.f64.format.mul (F i) (F 16) = some (F (i * 16)) := small_mul ⟨i, h⟩
theorem add_nat (i j : Nat) (h : i < 5) (h2 : j < 16) : FloatKind.f64.format.add (F (i * 16)) (F j) = some (F (i * 16 + j)) := small_add ⟨i, h⟩ ⟨j, h2⟩
theorem ci64 {P : Program} (s d : TypeId) (hs : (P.underlying s).isSome = true) (hd : P.underlying d = some (.int .i64)) (i : Nat) (h : i < 80) (w : World) :
    (convert s d (.float .f64 (F i))).run P w = .ok (.int .i64 i) w := run_convert_float_int w s d .f64 .i64 _ _ hs hd (int_small i (by omega)).1
theorem cu64 {P : Program} (s d : TypeId) (hs : (P.underlying s).isSome = true) (hd : P.underlying d = some (.int .u64)) (i : Nat) (h : i < 80) (w : World) :
    (convert s d (.float .f64 (F i))).run P w = .ok (.int .u64 i) w := run_convert_float_int w s d .f64 .u64 _ _ hs hd (int_small i (by omega)).2.1
theorem cu8 {P : Program} (s d : TypeId) (hs : (P.underlying s).isSome = true) (hd : P.underlying d = some (.int .u8)) (i : Nat) (h : i < 80) (w : World) :
    (convert s d (.float .f64 (F i))).run P w = .ok (.int .u8 i) w := run_convert_float_int w s d .f64 .u8 _ _ hs hd (int_small i (by omega)).2.2
/-- How many bits of four a number has. -/
def pop (c : Nat) : Nat := c % 2 + c / 2 % 2 + c / 4 % 2 + c / 8 % 2
theorem pop_le (c : Nat) : pop c ≤ 4 := by unfold pop; omega
end Go.Proofs.Ytamnpblijdgdaaa.Fl

/- Contracts of the functions of package label, one by one. -/
namespace Go.Proofs.Ytamnpblijdgdaaa
open Go.ChangeShapes Go.WideShapes Go.ChangeAt Go.RowKit
open Fl
theorem toNumber_any (l c : Int) (w : World) :
    Calls Try.prog 76 #[.agg #[.int .i64 l, .int .i64 c]] w fun e w' => e = .returned (.complex .f64 (F l) (F c)) ∧ Below w.heap.size w w' := by
  go_enter Try.func76, Try.ntmps76
  go_wp2
  go_ret
  exact ⟨rfl, (Below.refl _ _).alloc (Nat.le_refl _) _⟩
theorem within_yes (l c : Nat) (w : World) (h : l ≤ 3) (h' : c ≤ 15) :
    Calls Try.prog 77 #[.complex .f64 (F l) (F c)] w fun e w' => e = .returned (.bool true) ∧ w = w' := by
  have h1 := ge0_t l (by omega) (by omega)
  have h2 := le3_t l (by omega) (by omega)
  have h3 := ge0_t c (by omega) (by omega)
  have h4 := le15_t c (by omega) (by omega)
  go_enter Try.func77, Try.ntmps77
  go_wp2
  go_ret
  exact ⟨rfl, rfl⟩
theorem within_no (l c : Int) (w : World) (hl : -2 ^ 63 ≤ l ∧ l ≤ 2 ^ 63) (hc : -2 ^ 63 ≤ c ∧ c ≤ 2 ^ 63) (h : l < 0 ∨ 3 < l ∨ c < 0 ∨ 15 < c) :
    Calls Try.prog 77 #[.complex .f64 (F l) (F c)] w fun e w' => e = .returned (.bool false) ∧ w = w' := by
  by_cases a1 : l < 0
  · have h1 := ge0_f l a1 hl.1
    clear hl hc h a1
    go_enter Try.func77, Try.ntmps77
    go_wp2
    go_ret
    exact ⟨rfl, rfl⟩
  · have h1 := ge0_t l (by omega) hl.2
    by_cases a2 : 3 < l
    · have h2 := le3_f l a2 hl.2
      clear hl hc h a1 a2
      go_enter Try.func77, Try.ntmps77
      go_wp2
      go_ret
      exact ⟨rfl, rfl⟩
    · have h2 := le3_t l (by omega) (by omega)
      by_cases a3 : c < 0
      · have h3 := ge0_f c a3 hc.1
        clear hl hc h a1 a2 a3
        go_enter Try.func77, Try.ntmps77
        go_wp2
        go_ret
        exact ⟨rfl, rfl⟩
      · have h3 := ge0_t c (by omega) hc.2
        have h4 := le15_f c (by omega) hc.2
        clear hl hc h a1 a2 a3
        go_enter Try.func77, Try.ntmps77
        go_wp2
        go_ret
        exact ⟨rfl, rfl⟩
def aheadB (l c i j : Nat) : Bool := if l = i then decide (c < j) else decide (l < i)
abbrev bad (l c : Int) : Prop := l < 0 ∨ 3 < l ∨ c < 0 ∨ 15 < c
end Go.Proofs.Ytamnpblijdgdaaa

/- Contracts: Above, Less, Join. -/
namespace Go.Proofs.Ytamnpblijdgdaaa
open Go.ChangeShapes Go.WideShapes Go.ChangeAt Go.RowKit
open Fl
set_option linter.unusedVariables false
def aboveN (l c i j : Nat) : Bool := decide (i ≤ l) && (c ||| j == c)
theorem or_le (c j : Nat) (h : c ≤ 15) (h' : j ≤ 15) : c ||| j ≤ 15 := by
  have := Nat.or_lt_two_pow (x := c) (y := j) (n := 4) (by omega) (by omega); omega
theorem and_le (c j : Nat) (h : c ≤ 15) : c &&& j ≤ 15 := by
  have := Nat.and_le_left (n := c) (m := j); omega
def lessN (l c i j : Nat) : Bool := aheadB l (pop c * 16 + c) i (pop j * 16 + j)
end Go.Proofs.Ytamnpblijdgdaaa

/- Contracts: Meet, Put, Take, and of the answer by the document: may, put, take. -/
namespace Go.Proofs.Ytamnpblijdgdaaa
open Go.ChangeShapes Go.WideShapes Go.ChangeAt Go.RowKit
open Fl
set_option linter.unusedVariables false
theorem Put_yes (l c : Nat) (w : World) (h : l ≤ 3) (h' : c ≤ 15) :
    Calls Try.prog 58 #[.agg #[.int .i64 l, .int .i64 c]] w fun e w' => e = .returned (.tuple #[.int .u8 ((l * 16 + c : Nat) : Int), .bool true]) ∧ Below w.heap.size w w' := by
  have m : ∀ w : World, (binOp .mul 77 (.float .f64 (F l)) (.float .f64 4625196817309499392)).run Try.prog w = .ok (.float .f64 (F (l * 16))) w := fun w => run_float_arith w .mul 77 .f64 _ _ _ (mul_nat l (by omega))
  have a : ∀ w : World, (binOp .add 77 (.float .f64 (F (l * 16))) (.float .f64 (F c))).run Try.prog w = .ok (.float .f64 (F (l * 16 + c))) w := fun w => run_float_arith w .add 77 .f64 _ _ _ (add_nat l c (by omega) (by omega))
  have k2 : ∀ w : World, (convert 77 5 (.float .f64 (F (l * 16 + c)))).run Try.prog w = .ok (.int .u8 (l * 16 + c)) w := fun w => cu8 (P := Try.prog) 77 5 (by kernel_rfl) (by kernel_rfl) (l * 16 + c) (by omega) w
  go_enter Try.func58, Try.ntmps58
  go_wp2_with (first | (go_at_call 76; refine (toNumber_any _ _ _).mono ?_; rintro e w' ⟨rfl, hb⟩) | (go_at_call 77; refine (within_yes _ _ _ (by omega) (by omega)).mono ?_; rintro e w' ⟨rfl, rfl⟩))
  go_ret2
  exact ⟨by simp, ((Below.refl _ _).alloc (Nat.le_refl _) _).trans (hb.mono (by simp))⟩
theorem Put_no (l c : Int) (w : World) (hl : i64 l) (hc : i64 c) (h : bad l c) :
    Calls Try.prog 58 #[.agg #[.int .i64 l, .int .i64 c]] w fun e w' => e = .returned (.tuple #[.int .u8 0, .bool false]) ∧ Below w.heap.size w w' := by
  go_enter Try.func58, Try.ntmps58
  go_wp2_with (first | (go_at_call 76; refine (toNumber_any _ _ _).mono ?_; rintro e w' ⟨rfl, hb⟩) | (go_at_call 77; refine (within_no _ _ _ hl hc h).mono ?_; rintro e w' ⟨rfl, rfl⟩))
  go_ret2
  exact ⟨rfl, ((Below.refl _ _).alloc (Nat.le_refl _) _).trans (hb.mono (by simp))⟩
end Go.Proofs.Ytamnpblijdgdaaa
