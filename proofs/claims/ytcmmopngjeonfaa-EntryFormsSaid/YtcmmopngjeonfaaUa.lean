/- Whole numbers of 64 bits, with a sign, as 64-bit floats: compared with small ones exactly, small ones back again exactly. No program. -/
import Derived.Test.YtcmmopngjeonfaaFx
namespace Go.Proofs.Ytcmmopngjeonfaa.Fx
open Go
set_option maxRecDepth 20000
set_option linter.unusedVariables false
/-- A whole number as a float. -/
def fi (x : Int) : Nat := floatOfInt .f64 x
theorem fi_def (x : Int) : fi x = Ieee.double.nearest (decide (x < 0)) x.natAbs 0 := rfl
theorem word_tf (r : Nat) : Ieee.double.word true r = r + 2 ^ 63 := by unfold Ieee.Format.word; simp [show Ieee.double.signWeight = 2 ^ 63 from rfl]; try omega
theorem word_ff (r : Nat) : Ieee.double.word false r = r := by unfold Ieee.Format.word; simp
/-- The nearest of either sign: the same but for the sign. -/
theorem nearest_sign (neg : Bool) (n : Nat) (p : Int) : Ieee.double.nearest neg n p = Ieee.double.word neg (Ieee.double.nearest false n p) := by
  unfold Ieee.Format.nearest
  by_cases h : n = 0
  · rw [if_pos h, if_pos h, word_ff]
  · rw [if_neg h, if_neg h, word_ff]
    have : ∀ a b, Ieee.Toward.even.cut neg a b = Ieee.Toward.even.cut false a b := fun a b => rfl
    simp only [this]
theorem read_sign (neg : Bool) (r m : Nat) (p : Int) (hr : r < 2 ^ 63) (h : Ieee.double.read r = .number false m p) : Ieee.double.read (Ieee.double.word neg r) = .number neg m p := by
  cases neg with
  | false => rw [word_ff]; exact h
  | true =>
    rw [word_tf]
    unfold Ieee.Format.read at h ⊢
    have s : Ieee.double.signWeight = 2 ^ 63 := rfl
    simp only [s] at h ⊢
    have q1 : (r + 2 ^ 63) / 2 ^ 63 = 1 := by omega
    have q2 : (r + 2 ^ 63) % 2 ^ 63 = r := by omega
    have q3 : r / 2 ^ 63 = 0 := by omega
    have q4 : r % 2 ^ 63 = r := by omega
    rw [q1, q2]
    rw [q3, q4] at h
    split
    · rename_i h1; rw [if_pos h1] at h; simp only [Ieee.Datum.number.injEq] at h; rw [h.2.1, h.2.2]; rfl
    · rename_i h1; rw [if_neg h1] at h
      split
      · rename_i h2; rw [if_pos h2] at h; simp only [Ieee.Datum.number.injEq] at h; rw [h.2.1, h.2.2]; rfl
      · rename_i h2; rw [if_neg h2] at h; split at h <;> cases h
theorem fb_lt63 (n : Nat) (h : n < 2 ^ 53) : fb n < 2 ^ 63 := by
  rw [fb_eq n h]
  unfold rungOf
  split
  · omega
  · rename_i h0
    have hL : n.log2 ≤ 52 := by have := (Nat.log2_lt h0).2 h; omega
    have hb : n * 2 ^ (52 - n.log2) < 2 ^ 53 := by
      have h2 := Nat.lt_log2_self (n := n)
      have : n * 2 ^ (52 - n.log2) < 2 ^ (n.log2 + 1) * 2 ^ (52 - n.log2) := Nat.mul_lt_mul_of_pos_right h2 (Nat.two_pow_pos _)
      rwa [← Nat.pow_add, show n.log2 + 1 + (52 - n.log2) = 53 by omega] at this
    have : (n.log2 + 1022) * 2 ^ 52 ≤ 1074 * 2 ^ 52 := Nat.mul_le_mul_right _ (by omega)
    omega
/-- A small one is read exactly. -/
theorem read_small (x : Int) (h : x.natAbs < 2 ^ 53) : ∃ k : Nat, Ieee.double.read (fi x) = .number (decide (x < 0)) (x.natAbs * 2 ^ k) (-(k : Int)) := by
  obtain ⟨k, _, hk⟩ := read_fb x.natAbs h
  refine ⟨k, ?_⟩
  rw [fi_def, nearest_sign]
  refine read_sign _ _ _ _ ?_ ?_
  · have := fb_lt63 x.natAbs h
    rw [fb_eq _ h] at this
    have e := nearest_eq x.natAbs 0 h (by omega)
    simp only [Nat.pow_zero, Nat.mul_one] at e
    rw [show (-((0 : Nat) : Int)) = 0 from rfl] at e
    rw [e]; exact this
  · have e : fb x.natAbs = Ieee.double.nearest false x.natAbs 0 := by
      show Ieee.double.nearest (decide ((x.natAbs : Int) < 0)) ((x.natAbs : Int)).natAbs 0 = _
      rw [show decide ((x.natAbs : Int) < 0) = false by simp, Int.natAbs_natCast]
    rw [← e]; exact hk
/-- A great one is read as something great. -/
theorem read_great (x : Int) (h : 2 ^ 53 ≤ x.natAbs) (h2 : x.natAbs ≤ 2 ^ 63) : ∃ m e : Nat, 2 ^ 52 ≤ m ∧ Ieee.double.read (fi x) = .number (decide (x < 0)) m (e : Int) := by
  generalize hn : x.natAbs = n at *
  have h0 : n ≠ 0 := by omega
  have hL1 : 53 ≤ n.log2 := by
    have := (Nat.le_log2 h0 (k := 53)).2 h; exact this
  have hL2 : n.log2 ≤ 63 := by
    have h3 := Nat.log2_self_le h0
    have : 2 ^ n.log2 < 2 ^ 64 := by omega
    have := (Nat.pow_lt_pow_iff_right (a := 2) (by omega)).1 this
    omega
  have hlo := Nat.log2_self_le h0
  have hhi := Nat.lt_log2_self (n := n)
  obtain ⟨q, hq⟩ : ∃ q, q = Ieee.Toward.even.cut false n (n.log2 - 52) := ⟨_, rfl⟩
  have hqlo : 2 ^ 52 ≤ q ∧ q ≤ 2 ^ 53 := by
    have hlow : 2 ^ 52 ≤ n / 2 ^ (n.log2 - 52) ∧ n / 2 ^ (n.log2 - 52) < 2 ^ 53 := by
      constructor
      · rw [Nat.le_div_iff_mul_le (Nat.two_pow_pos _), ← Nat.pow_add, show 52 + (n.log2 - 52) = n.log2 by omega]; exact hlo
      · rw [Nat.div_lt_iff_lt_mul (Nat.two_pow_pos _), ← Nat.pow_add, show 53 + (n.log2 - 52) = n.log2 + 1 by omega]; exact hhi
    rw [hq]
    unfold Ieee.Toward.cut
    have hmin : min (n.log2 - 52) (n.log2 + 2) = n.log2 - 52 := by omega
    simp only [hmin, Nat.one_shiftLeft]
    generalize n / 2 ^ (n.log2 - 52) = lo at *
    have := Bool.toNat_le (c := (decide (2 ^ (n.log2 - 52) < 2 * (n % 2 ^ (n.log2 - 52))) || (2 ^ (n.log2 - 52) == 2 * (n % 2 ^ (n.log2 - 52)) && lo % 2 == 1)))
    omega
  have hrung : Ieee.double.nearest false n 0 = (n.log2 + 1022) * 2 ^ 52 + q := by
    unfold Ieee.Format.nearest
    rw [if_neg h0]
    have hl : max ((0 : Int) + (n.log2 : Nat) - (Ieee.double.fractionBits : Nat)) Ieee.double.leastPlace = (n.log2 : Int) - 52 := by
      rw [lp, show (Ieee.double.fractionBits : Int) = 52 from rfl]; omega
    simp only [hl]
    have a1 : ((n.log2 : Int) - 52 - Ieee.double.leastPlace).toNat = n.log2 + 1022 := by rw [lp]; omega
    have a4 : Ieee.double.binade = 2 ^ 52 := rfl
    have e1 : ((0 : Int) - ((n.log2 : Int) - 52)).toNat = 0 := by omega
    have e2 : (((n.log2 : Int) - 52) - 0).toNat = n.log2 - 52 := by omega
    rw [a1, a4, e1, e2, Nat.shiftLeft_eq, Nat.pow_zero, Nat.mul_one, ← hq]
    have hinf : Ieee.double.infRung = 2047 * 2 ^ 52 := by decide
    have : (n.log2 + 1022) * 2 ^ 52 ≤ 1085 * 2 ^ 52 := Nat.mul_le_mul_right _ (by omega)
    rw [hinf, Nat.min_eq_left (Nat.le_trans (Nat.add_le_add this hqlo.2) (by decide)), word_ff]
  have hread : ∃ m e : Nat, 2 ^ 52 ≤ m ∧ Ieee.double.read ((n.log2 + 1022) * 2 ^ 52 + q) = .number false m (e : Int) := by
    generalize n.log2 = L at *
    unfold Ieee.Format.read
    have s : Ieee.double.signWeight = 2 ^ 63 := rfl
    have b : Ieee.double.binade = 2 ^ 52 := rfl
    have i : Ieee.double.infRung = 2047 * 2 ^ 52 := by decide
    simp only [s, b, i, lp]
    have hm : (L + 1022) * 2 ^ 52 ≤ 1085 * 2 ^ 52 := Nat.mul_le_mul_right _ (by omega)
    have hm2 : 1075 * 2 ^ 52 ≤ (L + 1022) * 2 ^ 52 := Nat.mul_le_mul_right _ (by omega)
    have q1 : ((L + 1022) * 2 ^ 52 + q) / 2 ^ 63 = 0 := by omega
    have q2 : ((L + 1022) * 2 ^ 52 + q) % 2 ^ 63 = (L + 1022) * 2 ^ 52 + q := by omega
    rw [q1, q2, if_neg (by omega), if_pos (by omega)]
    by_cases hq2 : q = 2 ^ 53
    · have q4 : ((L + 1022) * 2 ^ 52 + q) / 2 ^ 52 = L + 1024 := by omega
      have q3 : ((L + 1022) * 2 ^ 52 + q) % 2 ^ 52 = 0 := by omega
      rw [q3, q4]
      refine ⟨2 ^ 52 + 0, L - 51, by omega, ?_⟩
      have q6 : (-1074 : Int) + ((L + 1024 - 1 : Nat) : Int) = ((L - 51 : Nat) : Int) := by omega
      rw [q6]; rfl
    · have q4 : ((L + 1022) * 2 ^ 52 + q) / 2 ^ 52 = L + 1023 := by omega
      rw [q4]
      refine ⟨2 ^ 52 + ((L + 1022) * 2 ^ 52 + q) % 2 ^ 52, L - 52, Nat.le_add_right _ _, ?_⟩
      have q6 : (-1074 : Int) + ((L + 1023 - 1 : Nat) : Int) = ((L - 52 : Nat) : Int) := by omega
      rw [q6]; rfl
  obtain ⟨m, e, hm, hr⟩ := hread
  refine ⟨m, e, hm, ?_⟩
  rw [fi_def, nearest_sign, hn, hrung]
  refine read_sign _ _ _ _ ?_ hr
  have : (n.log2 + 1022) * 2 ^ 52 ≤ 1085 * 2 ^ 52 := Nat.mul_le_mul_right _ (by omega)
  omega
theorem cmp_same {a b c d : Int} (h : a < b ↔ c < d) (h2 : a = b ↔ c = d) : compare a b = compare c d := by
  show compareOfLessAndEq a b = compareOfLessAndEq c d
  unfold compareOfLessAndEq
  by_cases e1 : c < d
  · rw [if_pos e1, if_pos (h.2 e1)]
  · rw [if_neg e1, if_neg (fun q => e1 (h.1 q))]
    by_cases e2 : c = d
    · rw [if_pos e2, if_pos (h2.2 e2)]
    · rw [if_neg e2, if_neg (fun q => e2 (h2.1 q))]
theorem signed_of (x : Int) (u : Nat) (m : Nat) : Ieee.signed (decide (x < 0)) m u = if x < 0 then -((m * 2 ^ u : Nat) : Int) else ((m * 2 ^ u : Nat) : Int) := by
  by_cases h : x < 0
  · rw [decide_eq_true h, if_pos h, signed_t]
  · rw [decide_eq_false h, if_neg h, signed_f]
theorem abs_back (x : Int) (t : Nat) : (if x < 0 then -((x.natAbs * t : Nat) : Int) else ((x.natAbs * t : Nat) : Int)) = x * (t : Int) := by
  split
  · rw [Int.natCast_mul, ← Int.neg_mul]; congr 1; omega
  · rw [Int.natCast_mul]; congr 1; omega
theorem order_fi (x y : Int) (hx : x.natAbs ≤ 2 ^ 63) (hy : y.natAbs ≤ 100000) : FloatKind.f64.format.order (fi x) (fi y) = some (compare x y) := by
  obtain ⟨j, hj⟩ := read_small y (by omega)
  show Ieee.Format.order Ieee.double _ _ = _
  unfold Ieee.Format.order
  by_cases hs : x.natAbs < 2 ^ 53
  · obtain ⟨k, hk⟩ := read_small x hs
    rw [hk, hj]
    unfold Ieee.Datum.order
    simp only [minNeg, up1, up2, signed_of, scale _ k _ (Nat.le_max_left k j), scale _ j _ (Nat.le_max_right k j), abs_back]
    congr 1
    have p : (0 : Int) < ((2 ^ (max k j) : Nat) : Int) := by have := Nat.two_pow_pos (max k j); omega
    generalize ((2 ^ (max k j) : Nat) : Int) = t at *
    refine cmp_same ⟨fun h => Int.lt_of_mul_lt_mul_right h (by omega), fun h => Int.mul_lt_mul_of_pos_right h p⟩ ⟨fun h => Int.eq_of_mul_eq_mul_right (by omega) h, fun h => by rw [h]⟩
  · obtain ⟨m, e, hm, hk⟩ := read_great x (by omega) hx
    rw [hk, hj]
    unfold Ieee.Datum.order
    have e0 : min (e : Int) (-(j : Int)) = -(j : Int) := by omega
    have e1 : ((e : Int) - -(j : Int)).toNat = e + j := by omega
    have e2 : (-(j : Int) - -(j : Int)).toNat = 0 := by omega
    simp only [e0, e1, e2, signed_of, Nat.pow_zero, Nat.mul_one, abs_back]
    congr 1
    have p : (0 : Int) < ((2 ^ j : Nat) : Int) := by have := Nat.two_pow_pos j; omega
    have hM : (100001 : Int) * ((2 ^ j : Nat) : Int) ≤ ((m * 2 ^ (e + j) : Nat) : Int) := by
      have h1 : 100001 * 2 ^ j ≤ m * 2 ^ (e + j) := by
        have h2 : 2 ^ j ≤ 2 ^ (e + j) := Nat.pow_le_pow_right (by omega) (by omega)
        exact Nat.mul_le_mul (by omega) h2
      have h3 := Int.ofNat_le.2 h1
      rw [Int.natCast_mul] at h3
      exact h3
    have hyl : y * ((2 ^ j : Nat) : Int) ≤ 100000 * ((2 ^ j : Nat) : Int) := Int.mul_le_mul_of_nonneg_right (by omega) (by omega)
    have hyg : (-100000) * ((2 ^ j : Nat) : Int) ≤ y * ((2 ^ j : Nat) : Int) := Int.mul_le_mul_of_nonneg_right (by omega) (by omega)
    generalize ((2 ^ j : Nat) : Int) = t at *
    generalize y * t = yt at *
    generalize ((m * 2 ^ (e + j) : Nat) : Int) = M at *
    by_cases h : x < 0
    · rw [if_pos h]
      exact cmp_same ⟨fun _ => by omega, fun _ => by omega⟩ ⟨fun _ => by omega, fun _ => by omega⟩
    · rw [if_neg h]
      exact cmp_same ⟨fun _ => by omega, fun _ => by omega⟩ ⟨fun _ => by omega, fun _ => by omega⟩
theorem cmp_int (x y : Int) : compare x y = if x < y then .lt else if x = y then .eq else .gt := rfl
theorem eq_fi (x y : Int) (hx : x.natAbs ≤ 2 ^ 63) (hy : y.natAbs ≤ 100000) : (FloatKind.f64.format.order (fi x) (fi y) == some .eq) = decide (x = y) := by
  rw [order_fi x y hx hy, cmp_int]
  by_cases h : x < y
  · rw [if_pos h, decide_eq_false (by omega)]; rfl
  · rw [if_neg h]
    by_cases h2 : x = y
    · rw [if_pos h2, decide_eq_true h2]; rfl
    · rw [if_neg h2, decide_eq_false h2]; rfl
theorem lt_fi (x y : Int) (hx : x.natAbs ≤ 2 ^ 63) (hy : y.natAbs ≤ 100000) : (FloatKind.f64.format.order (fi x) (fi y) == some .lt) = decide (x < y) := by
  rw [order_fi x y hx hy, cmp_int]
  by_cases h : x < y
  · rw [if_pos h, decide_eq_true h]; rfl
  · rw [if_neg h, decide_eq_false h]
    by_cases h2 : x = y
    · rw [if_pos h2]; rfl
    · rw [if_neg h2]; rfl
theorem ge_fi (x y : Int) (hx : x.natAbs ≤ 2 ^ 63) (hy : y.natAbs ≤ 100000) : (FloatKind.f64.format.order (fi x) (fi y) == some .gt || FloatKind.f64.format.order (fi x) (fi y) == some .eq) = decide (y ≤ x) := by
  rw [order_fi x y hx hy, cmp_int]
  by_cases h : x < y
  · rw [if_pos h, decide_eq_false (by omega)]; rfl
  · rw [if_neg h, decide_eq_true (show y ≤ x by omega)]
    by_cases h2 : x = y
    · rw [if_pos h2]; rfl
    · rw [if_neg h2]; rfl
theorem toInt_fi (x : Int) (h : x.natAbs < 2 ^ 53) : (FloatKind.f64.decode (fi x)).toInt .zero = some x := by
  obtain ⟨k, ha⟩ := read_small x h
  show (Ieee.double.read (fi x)).toInt .zero = _
  rw [ha]
  unfold Ieee.Datum.toInt Ieee.Datum.integral
  have e1 : (-(k : Int)).toNat = 0 := by omega
  have e2 : (- -(k : Int)).toNat = k := by omega
  simp only [e1, e2, Nat.shiftLeft_eq, Nat.pow_zero, Nat.mul_one]
  have hcz : ∀ n : Bool, Ieee.Toward.zero.cut n (x.natAbs * 2 ^ k) k = x.natAbs := by
    intro n
    have hh : Ieee.Toward.zero.cut n (x.natAbs * 2 ^ k) k = Ieee.Toward.zero.cut false (x.natAbs * 2 ^ k) k := rfl
    rw [hh]
    by_cases h0 : x.natAbs = 0
    · rw [h0]
      unfold Ieee.Toward.cut
      simp
    · exact cut_exact .zero x.natAbs k (Or.inl (Nat.mul_ne_zero (by have := Nat.two_pow_pos k; omega) h0))
  rw [hcz, signed_of]
  have := abs_back x 1
  simp only [Nat.pow_zero, Nat.mul_one] at this ⊢
  rw [this]; simp
/-- Back again, as a kind that has it. -/
theorem int_fi (q : IntKind) (x : Int) (h : x.natAbs < 2 ^ 53) (h1 : q.min ≤ x) (h2 : x ≤ q.max) : floatToIntVal .f64 (fi x) q = some x := by
  unfold floatToIntVal
  rw [toInt_fi x h]
  dsimp only
  rw [if_pos ⟨h1, h2⟩]
theorem fi_fb (n : Nat) : fi n = fb n := rfl
theorem fi_zero : fi 0 = 0 := (fi_fb 0).trans fb_zero
theorem fi_one : fi 1 = 4607182418800017408 := (fi_fb 1).trans fb_one
theorem fi_8 : fi 8 = 4620693217682128896 := by rw [show (8 : Int) = ((8 : Nat) : Int) from rfl, fi_fb, fb_eq 8 (by omega)]; decide
theorem fi_200 : fi 200 = 4641240890982006784 := by rw [show (200 : Int) = ((200 : Nat) : Int) from rfl, fi_fb, fb_eq 200 (by omega)]; decide
theorem fi_m1 : fi (-1) = 13830554455654793216 := by
  rw [fi_def, nearest_sign]
  have h := nearest_eq 1 0 (by omega) (by omega)
  have h2 : Ieee.double.nearest false (-1 : Int).natAbs 0 = rungOf 1 := h
  rw [h2, show decide ((-1 : Int) < 0) = true by decide, word_tf]; decide
end Go.Proofs.Ytcmmopngjeonfaa.Fx
