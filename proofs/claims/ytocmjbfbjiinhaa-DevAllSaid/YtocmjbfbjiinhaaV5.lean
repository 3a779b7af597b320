/- Contracts: is a bit set; closures; is there a wrong size. -/
import Derived.Test.YtocmjbfbjiinhaaV4
import Derived.Laws.BitsLemmas
import Derived.Laws.ShiftsVar
namespace Go.Proofs.Ytocmjbfbjiinhaa
open Go.ChangeShapes Go.WideShapes Go.ChangeAt Go.RowKit
set_option linter.unusedVariables false
def bitAt (bs : List Int) (k : Nat) : Bool := match bs[k / 8]? with | some x => (x / 2 ^ (k % 8)) % 2 == 1 | none => false
theorem u8_and1 (x : Int) (h0 : 0 ≤ x) (h1 : x < 256) : bits .and .u8 x 1 = x % 2 := bits_mask .u8 8 (by decide) wraps_u8 1 (by decide) x h0 h1
theorem shr_lt (x : Int) (j : Nat) (h : 0 ≤ x ∧ x < 256) : 0 ≤ x / 2 ^ j ∧ x / 2 ^ j < 256 := by
  have h2 : (0 : Int) < 2 ^ j := by have := Nat.two_pow_pos j; exact_mod_cast this
  refine ⟨Int.ediv_nonneg h.1 (by omega), ?_⟩
  have := Int.ediv_le_self (2 ^ j : Int) h.1
  omega
theorem isSet_any (A : Option Addr) (bs : List Int) (c k : Nat) (w : World) (hB : AllB bs) (hy : Byt w A bs) (hl : bs.length ≤ 9223372036854775807) (hk : k ≤ 1000000) :
    Calls Try.prog 37 #[.slice A bs.length c, .int .i64 k] w fun e w' => e = .returned (.bool (bitAt bs k)) ∧ w = w' := by
  have g1 : IntKind.i64.wrap ((k : Int).tdiv 8) = ((k / 8 : Nat) : Int) := by
    rw [show (k : Int).tdiv 8 = ((k / 8 : Nat) : Int) from by rw [Int.ofNat_tdiv]; rfl]; exact IntWalk.i64_in _ (by omega)
  by_cases h : k / 8 < bs.length
  · obtain ⟨x, hx⟩ : ∃ x, bs[k / 8]? = some x := ⟨_, List.getElem?_eq_getElem h⟩
    obtain ⟨a, rfl, hc⟩ := hy _ _ hx
    have hb := hB x (List.mem_of_getElem? hx)
    have e : bitAt bs k = (bits .and .u8 (x / 2 ^ (k % 8)) 1 == 1) := by
      unfold bitAt
      rw [hx]
      have := shr_lt x (k % 8) hb
      rw [u8_and1 _ this.1 this.2]
    rw [e]
    clear e hx hy hB
    generalize bs.length = n at *
    go_enter Try.func37, Try.ntmps37
    go_wp2
    go_ret
    exact ⟨rfl, rfl⟩
  · have e : bitAt bs k = false := by unfold bitAt; rw [List.getElem?_eq_none (by omega)]
    rw [e]
    clear e hy hB
    generalize bs.length = n at *
    go_enter Try.func37, Try.ntmps37
    go_wp2
    go_ret
    exact ⟨rfl, rfl⟩
/-- Ints lie behind a slice. -/
def Nts (w : World) (A : Option Addr) (xs : List Int) : Prop := ∀ i x, xs[i]? = some x → ∃ a, A = some a ∧ w.cell? (a.add i) = some (.int .i64 x)
theorem Nts.keep {w w' : World} {A : Option Addr} {xs : List Int} (h : Nts w A xs) (hb : Below w.heap.size w w') : Nts w' A xs := fun i x hi =>
  let ⟨a, e, hs⟩ := h i x hi; ⟨a, e, keepC hb hs⟩
def AllI (xs : List Int) : Prop := ∀ x ∈ xs, i64 x
def badSize (n : Int) : Bool := decide (n < 1) || decide (1000 < n)
set_option maxRecDepth 100000 in
theorem indexFunc_any (A : Option Addr) (zs : List Int) (c : Nat) (w : World) (hB : AllI zs) (hy : Nts w A zs) (hl : zs.length ≤ 1000000) :
    Calls Try.prog 50 #[.slice A zs.length c, .func (.func 48) #[] #[]] w fun e w' => (∃ k : Int, (0 ≤ k ↔ zs.any badSize = true) ∧ i64 k ∧ e = .returned (.int .i64 k)) ∧ w = w' := by
  have HY := Lib.hid hy
  have HB := Lib.hid hB
  clear hy hB
  generalize hn : zs.length = n at *
  have HN := Lib.hid hn
  clear hn
  go_enter Try.func50, Try.ntmps50
  go_wp2
  go_loop [8] (fun i => ∃ k : Nat, k ≤ n ∧ i = .int .i64 k ∧ Hid ((zs.take k).any badSize = false)) (fun i => n - (intOf i).toNat)
  case atStart => exact ⟨0, Nat.zero_le _, rfl, Lib.hid (by simp)⟩
  case round =>
    obtain ⟨k, hk, rfl, HK⟩ := hrel
    by_cases hlt : k < n
    · obtain ⟨x, hx⟩ : ∃ x, zs[k]? = some x := ⟨_, List.getElem?_eq_getElem (by rw [HN.out]; exact hlt)⟩
      obtain ⟨a, rfl, hc⟩ := HY.out _ _ hx
      have hxi := HB.out x (List.mem_of_getElem? hx)
      have HX := Lib.hid hx
      have HM := Lib.hid (mayOne_any w x hxi)
      clear hx
      have e : (decide (x < 1) || decide (1000 < x)) = badSize x := rfl
      rw [e] at HM
      clear e
      cases hq : badSize x
      · have HQ := Lib.hid hq
        rw [hq] at HM
        clear hq
        go_wp2_with fail
        refine HM.out.mono ?_
        rintro e w' ⟨rfl, rfl⟩
        go_wp2
        go_round
        case rel => exact ⟨k + 1, by omega, by go_num, Lib.hid (by rw [take_snoc' HX.out, List.any_append, HK.out]; simp [HQ.out])⟩
        case measure => simp [intOf]; omega
      · have HQ := Lib.hid hq
        rw [hq] at HM
        clear hq
        go_wp2_with fail
        refine HM.out.mono ?_
        rintro e w' ⟨rfl, rfl⟩
        go_wp2
        go_ret
        refine ⟨⟨k, ?_, by constructor <;> omega, rfl⟩, rfl⟩
        constructor
        · intro _; exact List.any_eq_true.2 ⟨x, List.mem_of_getElem? HX.out, HQ.out⟩
        · intro _; omega
    · obtain rfl : k = n := by omega
      go_wp2
      go_ret
      refine ⟨⟨-1, ?_, by constructor <;> omega, rfl⟩, rfl⟩
      have := HK.out
      rw [List.take_of_length_le (by rw [HN.out]; exact Nat.le_refl _)] at this
      constructor
      · intro h; omega
      · rintro ⟨x, h1, h2⟩
        rw [List.any_eq_true.2 ⟨x, h1, h2⟩] at this; cases this
theorem containsFunc_any (A : Option Addr) (zs : List Int) (c : Nat) (w : World) (hB : AllI zs) (hy : Nts w A zs) (hl : zs.length ≤ 1000000) :
    Calls Try.prog 47 #[.slice A zs.length c, .func (.func 48) #[] #[]] w fun e w' => e = .returned (.bool (zs.any badSize)) ∧ w = w' := by
  have HF := Lib.hid (indexFunc_any A zs c w hB hy hl)
  clear hB hy
  generalize zs.length = n at *
  generalize zs.any badSize = b at *
  go_enter Try.func47, Try.ntmps47
  go_wp2_with fail
  refine HF.out.mono ?_
  rintro e w' ⟨⟨k, hk, hi, rfl⟩, rfl⟩
  have HK := Lib.hid hk
  clear hk
  go_wp2
  go_ret
  refine ⟨ret_bool ?_, rfl⟩
  rw [Bool.eq_iff_iff, decide_eq_true_eq]
  exact HK.out
def mayV (zs : List Int) : Bool := decide (0 < zs.length) && (decide (zs.length ≤ 8) && !zs.any badSize)
theorem may_any (A : Option Addr) (zs : List Int) (c : Nat) (w : World) (hB : AllI zs) (hy : Nts w A zs) (hl : zs.length ≤ 1000000) :
    Calls Try.prog 31 #[.slice A zs.length c] w fun e w' => e = .returned (.bool (mayV zs)) ∧ w = w' := by
  have HF := Lib.hid (containsFunc_any A zs c w hB hy hl)
  unfold mayV
  clear hB hy
  generalize zs.length = n at *
  generalize zs.any badSize = b at *
  by_cases h0 : n < 1
  · go_enter Try.func31, Try.ntmps31
    go_wp2
    go_ret
    exact ⟨ret_bool (by simp; omega), rfl⟩
  · have d0 : decide ((n : Int) < 1) = false := by simp; omega
    by_cases h8 : 8 < n
    · have d8 : decide (8 < (n : Int)) = true := by simp; omega
      go_enter Try.func31, Try.ntmps31
      go_wp2
      go_ret
      exact ⟨ret_bool (by simp; omega), rfl⟩
    · have d8 : decide (8 < (n : Int)) = false := by simp; omega
      go_enter Try.func31, Try.ntmps31
      go_wp2_with fail
      refine HF.out.mono ?_
      rintro e w' ⟨rfl, rfl⟩
      go_wp2
      go_ret
      exact ⟨ret_bool (by cases b <;> simp <;> omega), rfl⟩
end Go.Proofs.Ytocmjbfbjiinhaa
