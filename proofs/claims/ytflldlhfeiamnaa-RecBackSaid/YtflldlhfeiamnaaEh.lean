/- Contract: the reference's MayWrites. -/
import Derived.Test.YtflldlhfeiamnaaEg
import Derived.Deep.QuietTactic
namespace Go.Proofs.Ytflldlhfeiamnaa
open Go.ChangeShapes Go.WideShapes Go.ChangeAt Go.RowKit
set_option linter.unusedVariables false
theorem part_nd {l : List Wr} {k j : Nat} {x : Wr} (hx : l[k]? = some x) (h : ∀ i y, i < j → l[i]? = some y → y.t ≠ x.t) (hj : k ≤ j) : ¬ ∃ y ∈ l.take k, y.t = x.t := by
  rintro ⟨y, hy, e⟩
  obtain ⟨i, hi⟩ := List.mem_iff_getElem?.1 hy
  rw [List.getElem?_take] at hi
  split at hi
  · exact h i y (by omega) hi e
  · cases hi
set_option maxRecDepth 100000 in
set_option maxHeartbeats 3200000 in
theorem rmay_any (A : Option Addr) (l : List Wr) (n d : Nat) (w : World) (hn : l.length = n) (hl : n ≤ d) (hd : d ≤ 9223372036854775807) (hok : WrsOk l) (hy : Wrs w A l) :
    Calls Try.prog 20 #[.slice A n d] w fun e w' => e = .returned (.bool (decide (MayL l))) ∧ Below w.heap.size w w' := by
  have HY := Lib.hid hy
  have HN := Lib.hid hn
  have HO := Lib.hid hok
  clear hn hok hy
  go_enter Try.func20, Try.ntmps20
  go_wp2
  go_loopw [3] (fun i wr => ∃ k : Nat, i = .int .i64 k ∧ k ≤ n ∧ Part l k ∧ Below w.heap.size w wr) (fun i _ => n - (intOf i).toNat)
  case atStart => exact ⟨0, rfl, Nat.zero_le _, Part.none l, Below.refl _ _⟩
  case round =>
    obtain ⟨k, rfl, hk, hpart, hbel⟩ := hrel
    have HP := Lib.hid hpart
    clear hpart
    by_cases hlt : k < n
    · obtain ⟨x, hx⟩ : ∃ x, l[k]? = some x := ⟨_, List.getElem?_eq_getElem (by rw [HN.out]; exact hlt)⟩
      have hxo := HO.out x (List.mem_of_getElem? hx)
      obtain ⟨ad, rfl, hat⟩ := HY.out.keep hbel k x hx
      have HX := Lib.hid hx
      have hxt := hxo.t
      have hxk := hxo.k
      have c0 := hat.c0
      have c1 := hat.c1
      clear hx hxo hat
      have hk63 : k * 58 + 1 < 2 ^ 63 * 100 := by omega
      by_cases q1 : x.k < 0
      · have HNO := Lib.hid (not_may_kind HX.out (fun h => by have := h.1; omega))
        have e1 : decide (x.k < 0) = true := decide_eq_true q1
        go_wp2
        go_ret
        exact ⟨ret_bool (decide_eq_false HNO.out).symm, hbel⟩
      have e1 : decide (x.k < 0) = false := decide_eq_false q1
      by_cases q2 : 7 < x.k
      · have HNO := Lib.hid (not_may_kind HX.out (fun h => by have := h.1; omega))
        have e2 : decide (7 < x.k) = true := decide_eq_true q2
        go_wp2
        go_ret
        exact ⟨ret_bool (decide_eq_false HNO.out).symm, hbel⟩
      have e2 : decide (7 < x.k) = false := decide_eq_false q2
      by_cases q3 : x.t < 0
      · have HNO := Lib.hid (not_may_kind HX.out (fun h => by have := h.2; omega))
        have e3 : decide (x.t < 0) = true := decide_eq_true q3
        go_wp2
        go_ret
        exact ⟨ret_bool (decide_eq_false HNO.out).symm, hbel⟩
      have e3 : decide (x.t < 0) = false := decide_eq_false q3
      by_cases q4 : 200 ≤ x.t
      · have HNO := Lib.hid (not_may_kind HX.out (fun h => by have := h.2; omega))
        have e4 : decide (200 ≤ x.t) = true := decide_eq_true q4
        go_wp2
        go_ret
        exact ⟨ret_bool (decide_eq_false HNO.out).symm, hbel⟩
      have e4 : decide (200 ≤ x.t) = false := decide_eq_false q4
      have HMAY : Hid (MayB x.k x.t) := ⟨by omega, by omega⟩
      clear q3 q4 q1 q2 hk63
      go_wp2
      go_loopw [4] (fun i wq => ∃ j : Nat, i = .int .i64 j ∧ j ≤ k ∧ (∀ i y, i < j → l[i]? = some y → y.t ≠ x.t) ∧ Below w.heap.size w wq) (fun i _ => k - (intOf i).toNat)
      case atStart => exact ⟨0, rfl, Nat.zero_le _, fun i y h => by omega, hbel⟩
      case round =>
        obtain ⟨j, rfl, hj, hall, hbel2⟩ := hrel
        have HA := Lib.hid hall
        clear hall
        by_cases hlt2 : j < k
        · obtain ⟨y, hy⟩ : ∃ y, l[j]? = some y := ⟨_, List.getElem?_eq_getElem (by rw [HN.out]; omega)⟩
          obtain ⟨ad', e', haty⟩ := HY.out.keep hbel2 j y hy
          injection e' with e'; subst e'
          obtain ⟨ad', e', hatx⟩ := HY.out.keep hbel2 k x HX.out
          injection e' with e'; subst e'
          have hyt := (HO.out y (List.mem_of_getElem? hy)).t
          obtain ⟨w5, rfl⟩ : ∃ w5, w5 = wr := ⟨wr, rfl⟩
          have d0 := fun q => (show (w5.drewN q).cell? _ = _ from hatx.c0)
          have d1 := fun q => (show (w5.drewN q).cell? _ = _ from haty.c0)
          have HYY := Lib.hid hy
          clear hatx haty hy c0 c1
          have hj1 : (j : Int) < n := by omega
          have hj0 : (0 : Int) ≤ j := by omega
          have hk1 : (k : Int) < n := by omega
          have hjN : j < n := by omega
          cases heq : (y.t == x.t)
          · have hne : ¬ y.t = x.t := by simpa using heq
            go_upto_region 9 with fail
            go_quiet (fail)
            have hb5 := keepB hbel2 (bdn (Below.refl w5.heap.size w5) nq)
            clear d0 d1
            generalize w5.drewN nq = w6 at *
            go_wp2
            go_roundw
            case rel =>
              refine ⟨j + 1, by go_num, by omega, fun i z hi hz => ?_, hb5⟩
              by_cases e : i = j
              · subst e; rw [HYY.out] at hz; injection hz with hz; subst hz; exact hne
              · exact HA.out i z (by omega) hz
            case measure => simp [intOf]; omega
          · have HNO := Lib.hid (not_may_seen HX.out ⟨y, List.mem_iff_getElem?.2 ⟨j, by rw [List.getElem?_take, if_pos hlt2]; exact HYY.out⟩, by simpa using heq⟩)
            go_upto_region 9 with fail
            go_quiet (fail)
            have hb5 := keepB hbel2 (bdn (Below.refl w5.heap.size w5) nq)
            clear d0 d1
            generalize w5.drewN nq = w6 at *
            go_wp2
            go_ret
            exact ⟨ret_bool (decide_eq_false HNO.out).symm, hb5⟩
        · obtain rfl : j = k := by omega
          go_wp2
          go_roundw
          case rel => exact ⟨j + 1, by go_num, by omega, HP.out.next HX.out HMAY.out (part_nd HX.out HA.out (Nat.le_refl _)), hbel2⟩
          case measure => simp [intOf]; omega
    · obtain rfl : k = n := by omega
      by_cases h1 : 1 ≤ k
      · have d1 : decide (1 ≤ (k : Int)) = true := decide_eq_true (by omega)
        by_cases h2 : k ≤ 12
        · have HYES := Lib.hid (HP.out.all (by rw [HN.out]; omega) (by rw [HN.out]; omega))
          have d2 : decide ((k : Int) ≤ 12) = true := decide_eq_true (by omega)
          go_wp2
          go_ret
          exact ⟨ret_bool (decide_eq_true HYES.out).symm, hbel⟩
        · have HNO : Hid (¬ MayL l) := fun h => by have := h.1.2; rw [HN.out] at this; omega
          have d2 : decide ((k : Int) ≤ 12) = false := decide_eq_false (by omega)
          go_wp2
          go_ret
          exact ⟨ret_bool (decide_eq_false HNO.out).symm, hbel⟩
      · have HNO : Hid (¬ MayL l) := fun h => by have := h.1.1; rw [HN.out] at this; omega
        have d1 : decide (1 ≤ (k : Int)) = false := decide_eq_false (by omega)
        go_wp2
        go_ret
        exact ⟨ret_bool (decide_eq_false HNO.out).symm, hbel⟩
end Go.Proofs.Ytflldlhfeiamnaa
