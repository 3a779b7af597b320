/- Contracts of the functions of package label, one by one. -/
import Derived.Test.YtlmbkfdpgmmacaaRows
import Derived.Test.YtlmbkfdpgmmacaaFl
import Derived.WalkKit
import Derived.ProofKit
import Derived.OpenShut
import Derived.Outline
import Derived.WalkLawsBesides
import Derived.Laws.Bits64b
import Derived.Deep.RegionHeld3
import Derived.Lib.Hide
namespace Go.Proofs.Ytlmbkfdpgmmacaa
open Go.ChangeShapes Go.WideShapes Go.ChangeAt Go.RowKit
open Fl
theorem bcell {W w1 : World} (hb : Below W.heap.size W w1) : (∀ b o, b < W.heap.size → w1.cell? ⟨b, o, none⟩ = W.cell? ⟨b, o, none⟩) ∧ (∀ b o, b < W.heap.size → w1.frozen? ⟨b, o, none⟩ = W.frozen? ⟨b, o, none⟩) :=
  ⟨fun b o h => hb.cell (p := ⟨b, o, none⟩) h, fun b o h => hb.frozen (p := ⟨b, o, none⟩) h⟩

theorem toNumber_any (l c : Int) (w : World) :
    Calls Try.prog 47 #[.agg #[.int .i64 l, .int .i64 c]] w fun e w' => e = .returned (.complex .f64 (F l) (F c)) ∧ Below w.heap.size w w' := by
  go_enter Try.func47, Try.ntmps47
  go_wp2
  go_ret
  exact ⟨rfl, (Below.refl _ _).alloc (Nat.le_refl _) _⟩
theorem within_yes (l c : Nat) (w : World) (h : l ≤ 3) (h' : c ≤ 15) :
    Calls Try.prog 37 #[.complex .f64 (F l) (F c)] w fun e w' => e = .returned (.bool true) ∧ w = w' := by
  have h1 := ge0_t l (by omega) (by omega)
  have h2 := le3_t l (by omega) (by omega)
  have h3 := ge0_t c (by omega) (by omega)
  have h4 := le15_t c (by omega) (by omega)
  go_enter Try.func37, Try.ntmps37
  go_wp2
  go_ret
  exact ⟨rfl, rfl⟩
theorem within_no (l c : Int) (w : World) (hl : -2 ^ 63 ≤ l ∧ l ≤ 2 ^ 63) (hc : -2 ^ 63 ≤ c ∧ c ≤ 2 ^ 63) (h : l < 0 ∨ 3 < l ∨ c < 0 ∨ 15 < c) :
    Calls Try.prog 37 #[.complex .f64 (F l) (F c)] w fun e w' => e = .returned (.bool false) ∧ w = w' := by
  by_cases a1 : l < 0
  · have h1 := ge0_f l a1 hl.1
    clear hl hc h a1
    go_enter Try.func37, Try.ntmps37
    go_wp2
    go_ret
    exact ⟨rfl, rfl⟩
  · have h1 := ge0_t l (by omega) hl.2
    by_cases a2 : 3 < l
    · have h2 := le3_f l a2 hl.2
      clear hl hc h a1 a2
      go_enter Try.func37, Try.ntmps37
      go_wp2
      go_ret
      exact ⟨rfl, rfl⟩
    · have h2 := le3_t l (by omega) (by omega)
      by_cases a3 : c < 0
      · have h3 := ge0_f c a3 hc.1
        clear hl hc h a1 a2 a3
        go_enter Try.func37, Try.ntmps37
        go_wp2
        go_ret
        exact ⟨rfl, rfl⟩
      · have h3 := ge0_t c (by omega) hc.2
        have h4 := le15_f c (by omega) hc.2
        clear hl hc h a1 a2 a3
        go_enter Try.func37, Try.ntmps37
        go_wp2
        go_ret
        exact ⟨rfl, rfl⟩
theorem set_any (l c : Nat) (w : World) (h : c ≤ 15) :
    Calls Try.prog 48 #[.complex .f64 (F l) (F c)] w fun e w' => e = .returned (.int .u64 c) ∧ w = w' := by
  have k2 := fun w : World => cu64 (P := Try.prog) 64 72 (by kernel_rfl) (by kernel_rfl) c (by omega) w
  go_enter Try.func48, Try.ntmps48
  go_wp2
  go_ret
  exact ⟨rfl, rfl⟩
theorem join_any (l c i j : Nat) (w : World) (h : l ≤ 3) (h' : c ≤ 15) (g : i ≤ 3) (g' : j ≤ 15) :
    Calls Try.prog 40 #[.complex .f64 (F l) (F c), .complex .f64 (F i) (F j)] w fun e w' => e = .returned (.complex .f64 (F ((max l i : Nat) : Int)) (F ((c ||| j : Nat) : Int))) ∧ w = w' := by
  have o := fun w : World => run_max_small (P := Try.prog) (ts := #[64, 64]) (t := 64) l i (by omega) (by omega) w
  have b := bits_or_u64_nat c j (by omega) (by omega)
  go_enter Try.func40, Try.ntmps40
  go_wp2_with (go_at_call 48; refine (set_any _ _ _ (by omega)).mono ?_; rintro e w' ⟨rfl, rfl⟩)
  go_ret
  exact ⟨rfl, rfl⟩
theorem ones_any (c : Nat) (h : c ≤ 15) (w : World) :
    Calls Try.prog 67 #[.int .u64 c] w fun e w' => e = .returned (.int .i64 (pop c)) ∧ w = w' := by
  have : c = 0 ∨ c = 1 ∨ c = 2 ∨ c = 3 ∨ c = 4 ∨ c = 5 ∨ c = 6 ∨ c = 7 ∨ c = 8 ∨ c = 9 ∨ c = 10 ∨ c = 11 ∨ c = 12 ∨ c = 13 ∨ c = 14 ∨ c = 15 := by omega
  rcases this with rfl | rfl | rfl | rfl | rfl | rfl | rfl | rfl | rfl | rfl | rfl | rfl | rfl | rfl | rfl | rfl
  all_goals
    go_enter Try.func67, Try.ntmps67
    go_wp2
    go_ret
    exact ⟨by kernel_rfl, rfl⟩
theorem rank_any (l c : Nat) (h' : c ≤ 15) (w : World) :
    Calls Try.prog 60 #[.complex .f64 (F l) (F c)] w fun e w' => e = .returned (.complex .f64 (F l) (F (pop c * 16 + c))) ∧ w = w' := by
  have p := pop_le c
  have m : ∀ w : World, (binOp .mul 64 (.float .f64 (F (pop c))) (.float .f64 4625196817309499392)).run Try.prog w = .ok (.float .f64 (F (pop c * 16))) w := fun w => run_float_arith w .mul 64 .f64 _ _ _ (mul_nat (pop c) (by omega))
  have a : ∀ w : World, (binOp .add 64 (.float .f64 (F (pop c * 16))) (.float .f64 (F c))).run Try.prog w = .ok (.float .f64 (F (pop c * 16 + c))) w := fun w => run_float_arith w .add 64 .f64 _ _ _ (add_nat (pop c) c (by omega) (by omega))
  go_enter Try.func60, Try.ntmps60
  go_wp2_with (first | (go_at_call 48; refine (set_any _ _ _ (by omega)).mono ?_; rintro e w' ⟨rfl, rfl⟩) | (go_at_call 67; refine (ones_any _ (by omega) _).mono ?_; rintro e w' ⟨rfl, rfl⟩))
  go_ret
  exact ⟨rfl, rfl⟩

def aheadB (l c i j : Nat) : Bool := if l = i then decide (c < j) else decide (l < i)
theorem ahead_any (l c i j : Nat) (h : l ≤ 3) (h' : c < 80) (g : i ≤ 3) (g' : j < 80) (w : World) :
    Calls Try.prog 59 #[.complex .f64 (F l) (F c), .complex .f64 (F i) (F j)] w fun e w' => e = .returned (.bool (aheadB l c i j)) ∧ w = w' := by
  have o1 := ord_nat l i (by omega) (by omega)
  have o2 := ord_nat c j (by omega) (by omega)
  have e1 : compare c j = .lt ↔ c < j := Nat.compare_eq_lt
  have e3 : compare l i = .lt ↔ l < i := Nat.compare_eq_lt
  have e2 : compare l i = .eq ↔ l = i := Nat.compare_eq_eq
  have B : (.bool (aheadB l c i j)) = if compare l i = .eq then Value.bool (compare c j == .lt) else .bool (compare l i == .lt) := by
    unfold aheadB
    by_cases e : l = i
    · rw [if_pos e, if_pos (e2.2 e)]; congr 1; rw [Bool.eq_iff_iff]; simp [e1]
    · rw [if_neg e, if_neg (mt e2.1 e)]; congr 1; rw [Bool.eq_iff_iff]; simp [e3]
  rw [B]
  clear B e1 e2 e3
  by_cases e : compare l i = .eq
  · rw [if_pos e]
    rw [e] at o1
    clear e
    go_enter Try.func59, Try.ntmps59
    go_wp2
    go_ret
    exact ⟨rfl, rfl⟩
  · rw [if_neg e]
    have o3 : (some (compare l i) != some Ordering.eq) = true := by simpa using e
    clear e
    go_enter Try.func59, Try.ntmps59
    go_wp2
    go_ret
    exact ⟨rfl, rfl⟩
theorem toLabel_any (l c : Nat) (w : World) (h1 : l < 80) (h2 : c < 80) :
    Calls Try.prog 38 #[.complex .f64 (F l) (F c)] w fun e w' => e = .returned (.agg #[.int .i64 l, .int .i64 c]) ∧ Below w.heap.size w w' := by
  have k1 := fun w : World => ci64 (P := Try.prog) 64 3 (by kernel_rfl) (by kernel_rfl) l h1 w
  have k2 := fun w : World => ci64 (P := Try.prog) 64 3 (by kernel_rfl) (by kernel_rfl) c h2 w
  go_enter Try.func38, Try.ntmps38
  go_wp2
  exact bodyPost_ret (v := .agg #[.int .i64 l, .int .i64 c]) (by simp [results, Try.results38, go_sem]) rfl ⟨rfl, (Below.refl _ _).alloc (Nat.le_refl _) _⟩
theorem both_yes (l c i j : Nat) (w : World) (h : l ≤ 3) (h' : c ≤ 15) (g : i ≤ 3) (g' : j ≤ 15) :
    Calls Try.prog 39 #[.agg #[.int .i64 l, .int .i64 c], .agg #[.int .i64 i, .int .i64 j]] w fun e w' => e = .returned (.tuple #[.complex .f64 (F l) (F c), .complex .f64 (F i) (F j), .bool true]) ∧ Below w.heap.size w w' := by
  go_enter Try.func39, Try.ntmps39
  go_wp2_with fail
  have hB : Below w.heap.size w ((w.alloc (Obj.cells #[.int .i64 l, .int .i64 c] 45)).alloc (Obj.cells #[.int .i64 i, .int .i64 j] 45)) := ((Below.refl _ _).alloc (Nat.le_refl _) _).alloc (by simp) _
  go_region_held3 (fun wx => wx.cell? ⟨w.heap.size, 0, none⟩ = some (.int .i64 l) ∧ wx.cell? ⟨w.heap.size, 1, none⟩ = some (.int .i64 c) ∧ wx.cell? ⟨w.heap.size + 1, 0, none⟩ = some (.int .i64 i) ∧ wx.cell? ⟨w.heap.size + 1, 1, none⟩ = some (.int .i64 j) ∧ w.heap.size + 2 ≤ wx.heap.size ∧ Below w.heap.size w wx)
    (first | (go_keep; done) | (refine ⟨?_, ?_, ?_, ?_, ?_, ?_⟩; go_keep; go_keep; go_keep; go_keep; go_keep; exact hB.drew) | (go_split_ands; obtain ⟨hc, hf⟩ := bcell hb; have hz := hb.size; refine ⟨?_, ?_, ?_, ?_, ?_, ?_⟩; (rw [hc _ _ (by omega)]; assumption); (rw [hc _ _ (by omega)]; assumption); (rw [hc _ _ (by omega)]; assumption); (rw [hc _ _ (by omega)]; assumption); omega; (refine Below.trans (by assumption) (hb.mono (by omega)))))
    (first | (go_at_call 47; refine (toNumber_any _ _ _).mono ?_; rintro e w' ⟨rfl, hb⟩))
  go_wp2_with (go_at_call 37; refine (within_yes _ _ _ (by omega) (by omega)).mono ?_; rintro e w' ⟨rfl, rfl⟩)
  go_ret3
  rename_i hH
  exact ⟨rfl, hH.2.2.2.2.2⟩

abbrev bad (l c : Int) : Prop := l < 0 ∨ 3 < l ∨ c < 0 ∨ 15 < c
abbrev i64 (l : Int) : Prop := -2 ^ 63 ≤ l ∧ l ≤ 2 ^ 63
theorem both_no (l c i j : Int) (w : World) (hl : i64 l) (hc : i64 c) (hi : i64 i) (hj : i64 j) (h : bad l c ∨ bad i j) :
    Calls Try.prog 39 #[.agg #[.int .i64 l, .int .i64 c], .agg #[.int .i64 i, .int .i64 j]] w fun e w' => e = .returned (.tuple #[.complex .f64 0 0, .complex .f64 0 0, .bool false]) ∧ Below w.heap.size w w' := by
  have H := Lib.hid h
  clear h
  go_enter Try.func39, Try.ntmps39
  go_wp2_with fail
  have hB : Below w.heap.size w ((w.alloc (Obj.cells #[.int .i64 l, .int .i64 c] 45)).alloc (Obj.cells #[.int .i64 i, .int .i64 j] 45)) := ((Below.refl _ _).alloc (Nat.le_refl _) _).alloc (by simp) _
  go_region_held3 (fun wx => wx.cell? ⟨w.heap.size, 0, none⟩ = some (.int .i64 l) ∧ wx.cell? ⟨w.heap.size, 1, none⟩ = some (.int .i64 c) ∧ wx.cell? ⟨w.heap.size + 1, 0, none⟩ = some (.int .i64 i) ∧ wx.cell? ⟨w.heap.size + 1, 1, none⟩ = some (.int .i64 j) ∧ w.heap.size + 2 ≤ wx.heap.size ∧ Below w.heap.size w wx)
    (first | (go_keep; done) | (refine ⟨?_, ?_, ?_, ?_, ?_, ?_⟩; go_keep; go_keep; go_keep; go_keep; go_keep; exact hB.drew) | (go_split_ands; obtain ⟨hc, hf⟩ := bcell hb; have hz := hb.size; refine ⟨?_, ?_, ?_, ?_, ?_, ?_⟩; (rw [hc _ _ (by omega)]; assumption); (rw [hc _ _ (by omega)]; assumption); (rw [hc _ _ (by omega)]; assumption); (rw [hc _ _ (by omega)]; assumption); omega; (refine Below.trans (by assumption) (hb.mono (by omega)))))
    (first | (go_at_call 47; refine (toNumber_any _ _ _).mono ?_; rintro e w' ⟨rfl, hb⟩))
  rename_i hH
  have hH2 := Lib.hid hH
  clear hH
  by_cases h1 : bad l c
  · go_wp2_with (go_at_call 37; refine (within_no _ _ _ hl hc h1).mono ?_; rintro e w' ⟨rfl, rfl⟩)
    go_ret3
    exact ⟨rfl, hH2.out.2.2.2.2.2⟩
  · have h2 := H.out.resolve_left h1
    obtain ⟨l', rfl⟩ : ∃ l' : Nat, (l' : Int) = l := ⟨l.toNat, by omega⟩
    obtain ⟨c', rfl⟩ : ∃ l' : Nat, (l' : Int) = c := ⟨c.toNat, by omega⟩
    go_wp2_with fail
    refine (within_yes _ _ _ (by omega) (by omega)).mono ?_; rintro e w' ⟨rfl, rfl⟩
    go_wp2_with fail
    refine (within_no _ _ _ hi hj h2).mono ?_; rintro e w' ⟨rfl, rfl⟩
    go_wp2_with fail
    go_ret3
    exact ⟨rfl, hH2.out.2.2.2.2.2⟩
theorem may_yes (l c : Nat) (w : World) (h : l ≤ 3) (h' : c ≤ 15) :
    Calls Try.prog 44 #[.agg #[.int .i64 l, .int .i64 c]] w fun e w' => e = .returned (.bool true) ∧ Below w.heap.size w w' := by
  go_enter Try.func44, Try.ntmps44
  go_wp2_with (first | (go_at_call 47; refine (toNumber_any _ _ _).mono ?_; rintro e w' ⟨rfl, hb⟩) | (go_at_call 37; refine (within_yes _ _ _ (by omega) (by omega)).mono ?_; rintro e w' ⟨rfl, rfl⟩))
  go_ret
  exact ⟨rfl, ((Below.refl _ _).alloc (Nat.le_refl _) _).trans (hb.mono (by simp))⟩
theorem may_no (l c : Int) (w : World) (hl : i64 l) (hc : i64 c) (h : bad l c) :
    Calls Try.prog 44 #[.agg #[.int .i64 l, .int .i64 c]] w fun e w' => e = .returned (.bool false) ∧ Below w.heap.size w w' := by
  go_enter Try.func44, Try.ntmps44
  go_wp2_with (first | (go_at_call 47; refine (toNumber_any _ _ _).mono ?_; rintro e w' ⟨rfl, hb⟩) | (go_at_call 37; refine (within_no _ _ _ hl hc h).mono ?_; rintro e w' ⟨rfl, rfl⟩))
  go_ret
  exact ⟨rfl, ((Below.refl _ _).alloc (Nat.le_refl _) _).trans (hb.mono (by simp))⟩
end Go.Proofs.Ytlmbkfdpgmmacaa
