/- Whole numbers below 2^53 as 64-bit floats: sums, differences, which is greater, and back again, exactly. No program. -/
import Derived.Laws.FloatArith
import Derived.Laws.Cover3
namespace Go.Proofs.Ytcmmopngjeonfaa.Fx
open Go
set_option maxRecDepth 20000
set_option linter.unusedVariables false
/-- A whole number as a float. -/
def fb (n : Nat) : Nat := floatOfInt .f64 (n : Int)
/-- Its rung. -/
def rungOf (n : Nat) : Nat := if n = 0 then 0 else (n.log2 + 1022) * 2 ^ 52 + n * 2 ^ (52 - n.log2)
theorem lp : Ieee.double.leastPlace = -1074 := by decide
theorem log2_mul_pow (n k : Nat) (h : n ≠ 0) : (n * 2 ^ k).log2 = n.log2 + k := by
  have h1 := Nat.log2_self_le h
  have h2 := Nat.lt_log2_self (n := n)
  have hne : n * 2 ^ k ≠ 0 := by
    have := Nat.two_pow_pos k
    exact Nat.mul_ne_zero h (by omega)
  refine (Nat.log2_eq_iff hne).2 ⟨?_, ?_⟩
  · rw [Nat.pow_add]; exact Nat.mul_le_mul_right _ h1
  · rw [show n.log2 + k + 1 = (n.log2 + 1) + k by omega, Nat.pow_add]
    exact Nat.mul_lt_mul_of_pos_right h2 (Nat.two_pow_pos k)
theorem cut_exact (way : Ieee.Toward) (m d : Nat) (hd : 2 ^ d * m ≠ 0 ∨ d = 0) : Ieee.Toward.cut way false (m * 2 ^ d) d = m := by
  have hmin : min d ((m * 2 ^ d).log2 + 2) = d := by
    by_cases h0 : d = 0
    · omega
    · have hm : m ≠ 0 := by rcases hd with h | h
                            · intro e; rw [e] at h; simp at h
                            · omega
      rw [log2_mul_pow m d hm]; omega
  unfold Ieee.Toward.cut
  simp only [hmin, Nat.one_shiftLeft]
  have p := Nat.two_pow_pos d
  have a : m * 2 ^ d / 2 ^ d = m := Nat.mul_div_cancel _ p
  have b : m * 2 ^ d % 2 ^ d = 0 := Nat.mul_mod_left _ _
  rw [a, b]
  have c2 : (2 ^ d == 2 * 0) = false := by simp
  cases way <;> simp [c2]
theorem nearest_eq (n k : Nat) (h : n < 2 ^ 53) (hk : k ≤ 1074) : Ieee.double.nearest false (n * 2 ^ k) (-(k : Int)) = rungOf n := by
  unfold Ieee.Format.nearest rungOf
  by_cases h0 : n = 0
  · subst h0; simp [Ieee.Format.word]
  · have hne : n * 2 ^ k ≠ 0 := Nat.mul_ne_zero h0 (by have := Nat.two_pow_pos k; omega)
    have hL : n.log2 ≤ 52 := by have := (Nat.log2_lt h0).2 h; omega
    rw [if_neg hne, if_neg h0, log2_mul_pow n k h0]
    have hl : max (-(k : Int) + ((n.log2 + k : Nat) : Int) - (Ieee.double.fractionBits : Nat)) Ieee.double.leastPlace = (n.log2 : Int) - 52 := by
      rw [lp, show (Ieee.double.fractionBits : Int) = 52 from rfl]; omega
    simp only [hl]
    have a1 : ((n.log2 : Int) - 52 - Ieee.double.leastPlace).toNat = n.log2 + 1022 := by rw [lp]; omega
    have a4 : Ieee.double.binade = 2 ^ 52 := rfl
    rw [a1, a4]
    have hcut : Ieee.Toward.even.cut false ((n * 2 ^ k) <<< (-(k : Int) - ((n.log2 : Int) - 52)).toNat) (((n.log2 : Int) - 52) - -(k : Int)).toNat = n * 2 ^ (52 - n.log2) := by
      by_cases hc : k + n.log2 ≤ 52
      · have e1 : (-(k : Int) - ((n.log2 : Int) - 52)).toNat = 52 - n.log2 - k := by omega
        have e2 : (((n.log2 : Int) - 52) - -(k : Int)).toNat = 0 := by omega
        rw [e1, e2, Nat.shiftLeft_eq]
        have e3 : n * 2 ^ k * 2 ^ (52 - n.log2 - k) = n * 2 ^ (52 - n.log2) := by
          rw [Nat.mul_assoc, ← Nat.pow_add]; congr 2; omega
        rw [e3]
        have := cut_exact .even (n * 2 ^ (52 - n.log2)) 0 (Or.inr rfl)
        simpa using this
      · have e1 : (-(k : Int) - ((n.log2 : Int) - 52)).toNat = 0 := by omega
        have e2 : (((n.log2 : Int) - 52) - -(k : Int)).toNat = k - (52 - n.log2) := by omega
        rw [e1, e2, Nat.shiftLeft_eq, Nat.pow_zero, Nat.mul_one]
        have e3 : n * 2 ^ k = n * 2 ^ (52 - n.log2) * 2 ^ (k - (52 - n.log2)) := by
          rw [Nat.mul_assoc, ← Nat.pow_add]; congr 2; omega
        rw [e3]
        refine cut_exact .even _ _ (Or.inl (Nat.mul_ne_zero ?_ (Nat.mul_ne_zero h0 ?_)))
        · have := Nat.two_pow_pos (k - (52 - n.log2)); omega
        · have := Nat.two_pow_pos (52 - n.log2); omega
    rw [hcut]
    have hinf : Ieee.double.infRung = 2047 * 2 ^ 52 := by decide
    have hb : n * 2 ^ (52 - n.log2) < 2 ^ 53 := by
      have h2 := Nat.lt_log2_self (n := n)
      have : n * 2 ^ (52 - n.log2) < 2 ^ (n.log2 + 1) * 2 ^ (52 - n.log2) := Nat.mul_lt_mul_of_pos_right h2 (Nat.two_pow_pos _)
      rwa [← Nat.pow_add, show n.log2 + 1 + (52 - n.log2) = 53 by omega] at this
    rw [hinf, Nat.min_eq_left (by omega)]
    simp [Ieee.Format.word]
theorem fb_eq (n : Nat) (h : n < 2 ^ 53) : fb n = rungOf n := by
  have := nearest_eq n 0 h (by omega)
  rw [← this]
  show Ieee.double.nearest (decide ((n : Int) < 0)) (n : Int).natAbs 0 = _
  rw [show decide ((n : Int) < 0) = false by simp]
  simp
theorem read_fb (n : Nat) (h : n < 2 ^ 53) : ∃ k : Nat, k ≤ 1074 ∧ Ieee.double.read (fb n) = .number false (n * 2 ^ k) (-(k : Int)) := by
  rw [fb_eq n h]
  unfold rungOf
  by_cases h0 : n = 0
  · subst h0
    have hr : Ieee.double.read 0 = .number false 0 (-1074) := by decide
    obtain ⟨k, hk⟩ : ∃ k : Nat, k = 1074 := ⟨_, rfl⟩
    refine ⟨k, by omega, ?_⟩
    rw [if_pos rfl, Nat.zero_mul, hr, hk]
    rfl
  · rw [if_neg h0]
    have hL : n.log2 ≤ 52 := by have := (Nat.log2_lt h0).2 h; omega
    refine ⟨52 - n.log2, by omega, ?_⟩
    have hb : n * 2 ^ (52 - n.log2) < 2 ^ 53 := by
      have h2 := Nat.lt_log2_self (n := n)
      have : n * 2 ^ (52 - n.log2) < 2 ^ (n.log2 + 1) * 2 ^ (52 - n.log2) := Nat.mul_lt_mul_of_pos_right h2 (Nat.two_pow_pos _)
      rwa [← Nat.pow_add, show n.log2 + 1 + (52 - n.log2) = 53 by omega] at this
    have ha : 2 ^ 52 ≤ n * 2 ^ (52 - n.log2) := by
      have h2 := Nat.log2_self_le h0
      have : 2 ^ n.log2 * 2 ^ (52 - n.log2) ≤ n * 2 ^ (52 - n.log2) := Nat.mul_le_mul_right _ h2
      rwa [← Nat.pow_add, show n.log2 + (52 - n.log2) = 52 by omega] at this
    generalize n * 2 ^ (52 - n.log2) = m at *
    generalize n.log2 = L at *
    unfold Ieee.Format.read
    have s : Ieee.double.signWeight = 2 ^ 63 := rfl
    have b : Ieee.double.binade = 2 ^ 52 := rfl
    have i : Ieee.double.infRung = 2047 * 2 ^ 52 := by decide
    simp only [s, b, i, lp]
    have q1 : ((L + 1022) * 2 ^ 52 + m) / 2 ^ 63 = 0 := by omega
    have q2 : ((L + 1022) * 2 ^ 52 + m) % 2 ^ 63 = (L + 1022) * 2 ^ 52 + m := by omega
    rw [q1, q2]
    rw [if_neg (by omega), if_pos (by omega)]
    have q3 : ((L + 1022) * 2 ^ 52 + m) % 2 ^ 52 = m - 2 ^ 52 := by omega
    have q4 : ((L + 1022) * 2 ^ 52 + m) / 2 ^ 52 = L + 1023 := by omega
    rw [q3, q4]
    have q5 : 2 ^ 52 + (m - 2 ^ 52) = m := by omega
    rw [q5]
    have q6 : (-1074 : Int) + ((L + 1023 - 1 : Nat) : Int) = -((52 - L : Nat) : Int) := by omega
    rw [q6]; rfl
theorem scale (a k m : Nat) (h : k ≤ m) : a * 2 ^ k * 2 ^ (m - k) = a * 2 ^ m := by
  rw [Nat.mul_assoc, ← Nat.pow_add]; congr 2; omega
theorem signed_f (m u : Nat) : Ieee.signed false m u = ((m * 2 ^ u : Nat) : Int) := by unfold Ieee.signed; rw [if_neg (by decide), Nat.shiftLeft_eq]
theorem signed_t (m u : Nat) : Ieee.signed true m u = -((m * 2 ^ u : Nat) : Int) := by unfold Ieee.signed; rw [if_pos rfl, Nat.shiftLeft_eq]
theorem minNeg (k j : Nat) : min (-(k : Int)) (-(j : Int)) = -((max k j : Nat) : Int) := by omega
theorem up1 (k j : Nat) : (-(k : Int) - -((max k j : Nat) : Int)).toNat = max k j - k := by omega
theorem up2 (k j : Nat) : (-(j : Int) - -((max k j : Nat) : Int)).toNat = max k j - j := by omega
theorem add_fb (a b : Nat) (h : a + b < 2 ^ 53) : FloatKind.f64.format.add (fb a) (fb b) = some (fb (a + b)) := by
  obtain ⟨k, hk, ha⟩ := read_fb a (by omega)
  obtain ⟨j, hj, hb⟩ := read_fb b (by omega)
  show Ieee.Format.add Ieee.double _ _ = _
  unfold Ieee.Format.add
  rw [ha, hb]
  unfold Ieee.Datum.sum
  simp only [minNeg, up1, up2, signed_f, scale a k _ (Nat.le_max_left k j), scale b j _ (Nat.le_max_right k j)]
  have e : ((a * 2 ^ (max k j) : Nat) : Int) + ((b * 2 ^ (max k j) : Nat) : Int) = (((a + b) * 2 ^ (max k j) : Nat) : Int) := by rw [Nat.add_mul]; omega
  rw [e]
  have s : (if (((a + b) * 2 ^ (max k j) : Nat) : Int) = 0 then (false && false) else decide ((((a + b) * 2 ^ (max k j) : Nat) : Int) < 0)) = false := by
    split
    · rfl
    · simp only [decide_eq_false_iff_not]; omega
  rw [s, Int.natAbs_natCast]
  show some (Ieee.double.nearest false _ _) = _
  rw [nearest_eq _ _ h (by omega), fb_eq _ h]
theorem sub_fb (a b : Nat) (h : a < 2 ^ 53) (hb' : b ≤ a) : FloatKind.f64.format.sub (fb a) (fb b) = some (fb (a - b)) := by
  obtain ⟨k, hk, ha⟩ := read_fb a (by omega)
  obtain ⟨j, hj, hb⟩ := read_fb b (by omega)
  show Ieee.Format.sub Ieee.double _ _ = _
  unfold Ieee.Format.sub
  rw [ha, hb]
  unfold Ieee.Datum.opposite Ieee.Datum.sum
  simp only [Bool.not_false, minNeg, up1, up2, signed_f, signed_t, scale a k _ (Nat.le_max_left k j), scale b j _ (Nat.le_max_right k j)]
  have e : ((a * 2 ^ (max k j) : Nat) : Int) + -((b * 2 ^ (max k j) : Nat) : Int) = (((a - b) * 2 ^ (max k j) : Nat) : Int) := by
    rw [Nat.sub_mul]
    have := Nat.mul_le_mul_right (2 ^ (max k j)) hb'
    omega
  rw [e]
  have s : (if (((a - b) * 2 ^ (max k j) : Nat) : Int) = 0 then (false && true) else decide ((((a - b) * 2 ^ (max k j) : Nat) : Int) < 0)) = false := by
    split
    · rfl
    · simp only [decide_eq_false_iff_not]; omega
  rw [s, Int.natAbs_natCast]
  show some (Ieee.double.nearest false _ _) = _
  rw [nearest_eq _ _ (by omega) (by omega), fb_eq _ (by omega)]
theorem order_fb (a b : Nat) (h : a < 2 ^ 53) (h' : b < 2 ^ 53) : FloatKind.f64.format.order (fb a) (fb b) = some (compare a b) := by
  obtain ⟨k, hk, ha⟩ := read_fb a (by omega)
  obtain ⟨j, hj, hb⟩ := read_fb b (by omega)
  show Ieee.Format.order Ieee.double _ _ = _
  unfold Ieee.Format.order
  rw [ha, hb]
  unfold Ieee.Datum.order
  simp only [minNeg, up1, up2, signed_f, scale a k _ (Nat.le_max_left k j), scale b j _ (Nat.le_max_right k j)]
  congr 1
  have p := Nat.two_pow_pos (max k j)
  have h1 : ∀ x y : Nat, compare ((x * 2 ^ (max k j) : Nat) : Int) ((y * 2 ^ (max k j) : Nat) : Int) = compare x y := by
    intro x y
    rcases Nat.lt_trichotomy x y with g | g | g
    · have g1 : x * 2 ^ (max k j) < y * 2 ^ (max k j) := Nat.mul_lt_mul_of_pos_right g p
      rw [Nat.compare_eq_lt.2 g]
      show compareOfLessAndEq _ _ = _
      unfold compareOfLessAndEq
      rw [if_pos (by omega)]
    · subst g; simp
    · have g1 : y * 2 ^ (max k j) < x * 2 ^ (max k j) := Nat.mul_lt_mul_of_pos_right g p
      rw [Nat.compare_eq_gt.2 g]
      show compareOfLessAndEq _ _ = _
      unfold compareOfLessAndEq
      rw [if_neg (by omega), if_neg (by omega)]
  exact h1 a b
theorem toInt_fb (n : Nat) (h : n < 2 ^ 53) : (FloatKind.f64.decode (fb n)).toInt .zero = some (n : Int) := by
  obtain ⟨k, hk, ha⟩ := read_fb n h
  show (Ieee.double.read (fb n)).toInt .zero = _
  rw [ha]
  unfold Ieee.Datum.toInt Ieee.Datum.integral
  have e1 : (-(k : Int)).toNat = 0 := by omega
  have e2 : (- -(k : Int)).toNat = k := by omega
  simp only [e1, e2, Nat.shiftLeft_eq, Nat.pow_zero, Nat.mul_one]
  have hc : Ieee.Toward.zero.cut false (n * 2 ^ k) k = n := by
    by_cases h0 : n = 0
    · subst h0
      unfold Ieee.Toward.cut
      simp
    · exact cut_exact .zero n k (Or.inl (Nat.mul_ne_zero (by have := Nat.two_pow_pos k; omega) h0))
  rw [hc, signed_f]; simp
theorem int_fb (n : Nat) (h : n < 2 ^ 32) : floatToIntVal .f64 (fb n) .u32 = some (n : Int) := by
  unfold floatToIntVal
  rw [toInt_fb n (by omega)]
  dsimp only
  rw [if_pos ⟨by have : IntKind.u32.min = 0 := rfl
                 omega, by have : IntKind.u32.max = 4294967295 := rfl
                           omega⟩]
theorem ge_fb (a b : Nat) (h : a < 2 ^ 53) (h' : b < 2 ^ 53) : (FloatKind.f64.format.order (fb a) (fb b) == some .gt || FloatKind.f64.format.order (fb a) (fb b) == some .eq) = decide (b ≤ a) := by
  rw [order_fb a b h h']
  rcases Nat.lt_trichotomy a b with g | g | g
  · rw [Nat.compare_eq_lt.2 g]; simp; omega
  · subst g; simp
  · rw [Nat.compare_eq_gt.2 g]; simp; omega
theorem fb_zero : fb 0 = 0 := by rw [fb_eq 0 (by omega)]; rfl
theorem fb_one : fb 1 = 4607182418800017408 := by rw [fb_eq 1 (by omega)]; decide
theorem fb_mod : fb 65521 = 4679237951253643264 := by rw [fb_eq 65521 (by omega)]; decide
end Go.Proofs.Ytcmmopngjeonfaa.Fx
