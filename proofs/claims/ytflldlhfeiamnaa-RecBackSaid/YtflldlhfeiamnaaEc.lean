/- Contracts: rec.numberOf, the reference's Num. -/
import Derived.Test.YtflldlhfeiamnaaEb
import Derived.Laws.BitsAllLaws
namespace Go.Proofs.Ytflldlhfeiamnaa
open Go.ChangeShapes Go.WideShapes Go.ChangeAt Go.RowKit
set_option linter.unusedVariables false
theorem or_byte (a y : Nat) (ha : a < 16777216) (hy : y < 256) : bits .or .u32 ((a : Int) * 256) (y : Int) = ((a * 256 + y : Nat) : Int) := by
  have h := u32_or_nat (a * 256) y (by omega) (by omega)
  have h2 := Nat.two_pow_add_eq_or_of_lt (i := 8) (b := y) (by omega) a
  rw [show (2 ^ 8 * a : Nat) = a * 256 by omega] at h2
  rw [← h2] at h
  rw [← h, Int.natCast_mul]; rfl
theorem numof_any (A : Option Addr) (xs : List Int) (n d : Nat) (w : World) (hn : xs.length = n) (hl : n ≤ 4) (hB : AllB xs) (hy : Byt w A xs) :
    Calls Try.prog 30 #[.slice A n d] w fun e w' => e = .returned (.int .u32 (numV xs)) ∧ w = w' := by
  have HY := Lib.hid hy
  have HN := Lib.hid hn
  have HB := Lib.hid hB
  clear hn hB hy
  go_enter Try.func30, Try.ntmps30
  go_wp2
  go_loop [3, 8] (fun z i => ∃ k : Nat, k ≤ n ∧ i = .int .i64 k ∧ z = .int .u32 (numV (xs.take k) : Nat)) (fun _ i => n - (intOf i).toNat)
  case atStart => exact ⟨0, Nat.zero_le _, rfl, rfl⟩
  case round =>
    obtain ⟨k, hk, rfl, rfl⟩ := hrel
    by_cases hlt : k < n
    · obtain ⟨x, hx⟩ : ∃ x, xs[k]? = some x := ⟨_, List.getElem?_eq_getElem (by rw [HN.out]; exact hlt)⟩
      obtain ⟨ad, rfl, hc0⟩ := HY.out k x hx
      have hxb := HB.out x (List.mem_of_getElem? hx)
      obtain ⟨y, rfl⟩ : ∃ y : Nat, x = (y : Int) := ⟨x.toNat, by omega⟩
      have hyb : y < 256 := by omega
      have HS : Hid (numV (xs.take (k + 1)) = numV (xs.take k) * 256 + y) := by
        unfold Hid; rw [take_snoc' hx, numV_snoc, Int.toNat_natCast]
      have hv := numV_lt k (xs.take k) (by rw [List.length_take, HN.out]; omega) (fun z hz => HB.out z (List.mem_of_mem_take hz))
      have hv2 : 256 ^ k ≤ 256 ^ 3 := Nat.pow_le_pow_right (by omega) (by omega)
      have hv3 : numV (xs.take k) < 16777216 := by omega
      clear hx hxb hv hv2
      generalize numV (xs.take k) = a at *
      have wy : IntKind.u32.wrap (y : Int) = y := IntWalk.u32_in _ (by omega)
      go_wp2
      go_round
      case rel => exact ⟨k + 1, by omega, by go_num, by rw [HS.out, or_byte a y hv3 hyb]⟩
      case measure => simp [intOf]; omega
    · have e : xs.take k = xs := List.take_of_length_le (by rw [HN.out]; omega)
      rw [e]
      go_wp2
      go_ret
      exact ⟨rfl, rfl⟩
theorem rnum_any (A : Option Addr) (xs : List Int) (n d : Nat) (w : World) (hn : xs.length = n) (hl : n ≤ 4) (hB : AllB xs) (hy : Byt w A xs) :
    Calls Try.prog 29 #[.slice A n d] w fun e w' => e = .returned (.int .u64 (numV xs)) ∧ w = w' := by
  have HY := Lib.hid hy
  have HN := Lib.hid hn
  have HB := Lib.hid hB
  clear hn hB hy
  go_enter Try.func29, Try.ntmps29
  go_wp2
  go_loop [3, 4] (fun z i => ∃ k : Nat, k ≤ n ∧ i = .int .i64 k ∧ z = .int .u64 (numV (xs.take k) : Nat)) (fun _ i => n - (intOf i).toNat)
  case atStart => exact ⟨0, Nat.zero_le _, rfl, rfl⟩
  case round =>
    obtain ⟨k, hk, rfl, rfl⟩ := hrel
    by_cases hlt : k < n
    · obtain ⟨x, hx⟩ : ∃ x, xs[k]? = some x := ⟨_, List.getElem?_eq_getElem (by rw [HN.out]; exact hlt)⟩
      obtain ⟨ad, rfl, hc0⟩ := HY.out k x hx
      have hxb := HB.out x (List.mem_of_getElem? hx)
      obtain ⟨y, rfl⟩ : ∃ y : Nat, x = (y : Int) := ⟨x.toNat, by omega⟩
      have hyb : y < 256 := by omega
      have HS : Hid (numV (xs.take (k + 1)) = numV (xs.take k) * 256 + y) := by
        unfold Hid; rw [take_snoc' hx, numV_snoc, Int.toNat_natCast]
      have hv := numV_lt k (xs.take k) (by rw [List.length_take, HN.out]; omega) (fun z hz => HB.out z (List.mem_of_mem_take hz))
      have hv2 : 256 ^ k ≤ 256 ^ 3 := Nat.pow_le_pow_right (by omega) (by omega)
      have hv3 : numV (xs.take k) < 16777216 := by omega
      clear hx hxb hv hv2
      generalize numV (xs.take k) = a at *
      have wy : IntKind.u64.wrap (y : Int) = y := IntWalk.u64_in _ (by omega)
      have wa : IntKind.u64.wrap ((a : Int) * 256) = (a : Int) * 256 := IntWalk.u64_in _ (by omega)
      have wb : IntKind.u64.wrap ((a : Int) * 256 + y) = (a : Int) * 256 + y := IntWalk.u64_in _ (by omega)
      go_wp2
      go_round
      case rel => exact ⟨k + 1, by omega, by go_num, by rw [HS.out]; go_num⟩
      case measure => simp [intOf]; omega
    · have e : xs.take k = xs := List.take_of_length_le (by rw [HN.out]; omega)
      rw [e]
      go_wp2
      go_ret
      exact ⟨rfl, rfl⟩
end Go.Proofs.Ytflldlhfeiamnaa
