/- Contract: the reference's Sum. -/
import Derived.Test.YtflldlhfeiamnaaS1
namespace Go.Proofs.Ytflldlhfeiamnaa
open Go.ChangeShapes Go.WideShapes Go.ChangeAt Go.RowKit
set_option linter.unusedVariables false
theorem rsum_any (A : Option Addr) (bs : List Int) (n d : Nat) (w : World) (hn : bs.length = n) (hl : n ≤ 1000000) (hB : AllB bs) (hy : Byt w A bs) :
    Calls Try.prog 33 #[.slice A n d] w fun e w' => e = .returned (.int .u32 (sumV bs)) ∧ w = w' := by
  have HY := Lib.hid hy
  have HN := Lib.hid hn
  have HB := Lib.hid hB
  clear hn hB hy
  go_enter Try.func33, Try.ntmps33
  go_wp2
  go_loop [3, 4, 5] (fun za zc i => ∃ k : Nat, k ≤ n ∧ i = .int .i64 k ∧ za = .int .u64 ((sumAC (bs.take k)).1 : Nat) ∧ zc = .int .u64 ((sumAC (bs.take k)).2 : Nat)) (fun _ _ i => n - (intOf i).toNat)
  case atStart => exact ⟨0, Nat.zero_le _, rfl, rfl, rfl⟩
  case round =>
    obtain ⟨k, hk, rfl, rfl, rfl⟩ := hrel
    have hlt2 := sumAC_lt (bs.take k)
    by_cases hlt : k < n
    · obtain ⟨x, hx⟩ : ∃ x, bs[k]? = some x := ⟨_, List.getElem?_eq_getElem (by rw [HN.out]; exact hlt)⟩
      obtain ⟨ad, rfl, hc0⟩ := HY.out k x hx
      have hxb := HB.out x (List.mem_of_getElem? hx)
      obtain ⟨y, rfl⟩ : ∃ y : Nat, x = (y : Int) := ⟨x.toNat, by omega⟩
      have hyb : y < 256 := by omega
      have HS : Hid (sumAC (bs.take (k + 1)) = (((sumAC (bs.take k)).1 + y) % 65521, ((sumAC (bs.take k)).2 + ((sumAC (bs.take k)).1 + y) % 65521) % 65521)) := by
        rw [take_snoc' hx, sumAC_snoc]; unfold sumStep; rw [Int.toNat_natCast]; exact rfl
      have b1 := hlt2.1
      have b2 := hlt2.2
      clear hx hxb hlt2
      generalize (sumAC (bs.take k)).1 = a at *
      generalize (sumAC (bs.take k)).2 = c at *
      go_wp2
      go_round
      case rel => exact ⟨k + 1, by omega, by go_num, by rw [HS.out]; go_num, by rw [HS.out]; simp only [Nat.add_mod_mod]; go_num⟩
      case measure => simp [intOf]; omega
    · have e : bs.take k = bs := List.take_of_length_le (by rw [HN.out]; omega)
      rw [e] at hlt2 ⊢
      have HV : Hid (sumV bs = (sumAC bs).2 * 65536 + (sumAC bs).1) := Lib.hid rfl
      have b1 := hlt2.1
      have b2 := hlt2.2
      clear hlt2 e
      generalize (sumAC bs).1 = a at *
      generalize (sumAC bs).2 = c at *
      have u2 : IntKind.u32.wrap ((c : Int) * 65536 + a) = (c : Int) * 65536 + a := IntWalk.u32_in _ (by omega)
      go_wp2
      go_ret
      exact ⟨ret_int (by rw [HV.out]; omega), rfl⟩
end Go.Proofs.Ytflldlhfeiamnaa
