/- Contract: index.Pieces. -/
import Derived.Test.YthkohckofodmnaaIb
namespace Go.Proofs.Ythkohckofodmnaa
open Go.ChangeShapes Go.WideShapes Go.ChangeAt Go.RowKit
set_option linter.unusedVariables false
/-- Which pieces the bytes from o on are, n of them. -/
def pcM (o n : Int) : List Pc := if 0 ≤ o ∧ 0 ≤ n ∧ n ≤ 1120 - o then pL o.toNat (o + n).toNat else []
theorem pcM_none (w : World) (E : TypeId) (B : Nat) : w.ownsRow B E 3 (.slice none 0 0) 0 (rowL encP []) := ⟨rfl, .inl ⟨rfl, rfl⟩⟩
set_option maxRecDepth 100000 in
set_option maxHeartbeats 3200000 in
theorem pieces_any (o n : Int) (w : World) (ho : -9223372036854775808 ≤ o ∧ o ≤ 9223372036854775807) (hn : -9223372036854775808 ≤ n ∧ n ≤ 9223372036854775807) : Calls Try.prog 14 #[.int .i64 o, .int .i64 n] w fun e w' =>
    ∃ v, e = .returned v ∧ w'.ownsRow w.heap.size 38 3 v (pcM o n).length (rowL encP (pcM o n)) ∧ Below w.heap.size w w' := by
  by_cases h1 : o < 0
  · have hm : pcM o n = [] := by unfold pcM; rw [if_neg (by omega)]
    rw [hm]
    have HX := pcM_none w 38 w.heap.size
    clear hm
    go_enter Try.func14, Try.ntmps14
    go_wp2
    go_ret
    exact ⟨_, rfl, HX, Below.refl _ _⟩
  by_cases h2 : n < 0
  · have hm : pcM o n = [] := by unfold pcM; rw [if_neg (by omega)]
    rw [hm]
    have HX := pcM_none w 38 w.heap.size
    clear hm
    go_enter Try.func14, Try.ntmps14
    go_wp2
    go_ret
    exact ⟨_, rfl, HX, Below.refl _ _⟩
  have e1 : IntKind.i64.wrap (1120 - o) = 1120 - o := IntWalk.i64_in _ (by omega)
  by_cases h3 : n > 1120 - o
  · have hm : pcM o n = [] := by unfold pcM; rw [if_neg (by omega)]
    rw [hm]
    have HX := pcM_none w 38 w.heap.size
    clear hm
    go_enter Try.func14, Try.ntmps14
    go_wp2
    go_ret
    exact ⟨_, rfl, HX, Below.refl _ _⟩
  obtain ⟨x, rfl⟩ : ∃ x : Nat, o = x := ⟨o.toNat, by omega⟩
  obtain ⟨y, hy⟩ : ∃ y : Nat, (x : Int) + n = y := ⟨((x : Int) + n).toNat, by omega⟩
  have hm : pcM x n = pL x y := by unfold pcM; rw [if_pos (by omega), hy]; rfl
  rw [hm]
  have hxy : x ≤ y := by omega
  have hy2 : y ≤ 1120 := by omega
  have e2 : IntKind.i64.wrap ((x : Int) + n) = y := by rw [hy]; exact IntWalk.i64_in _ (by omega)
  have HR := Lib.hid (fun W => torow_any x y W)
  have HX : Hid (w.ownsRow w.heap.size 38 3 (.slice none 0 0) ([] : List Pc).length (rowL encP [])) := pcM_none w _ _
  clear hm hy
  go_enter Try.func14, Try.ntmps14
  go_wp2_with fail
  refine (HR.out _).mono ?_; rintro e w' ⟨rfl, rfl⟩
  clear HR h1 h2 h3 e1 e2
  go_wp2_with fail
  go_loopw [5, 6, 26] (fun v z i wr => ∃ k : Nat, ∃ l : List Pc, k ≤ 20 ∧ i = .int .i64 k ∧ (∃ a b : Int, z = rowC a b ∧ Hid (a = (x : Int) - 56 * k) ∧ Hid (b = (y : Int) - 56 * k)) ∧ Hid (l = (pL x y).take (k - x / 56)) ∧ Hid (wr.ownsRow w.heap.size 38 3 v l.length (rowL encP l)) ∧ Hid (Below w.heap.size w wr)) (fun _ _ i _ => (20 - intOf i).toNat)
  case atStart => exact ⟨0, [], by omega, rfl, ⟨_, _, rfl, by unfold Hid; omega, by unfold Hid; omega⟩, (by unfold Hid; rw [Nat.zero_sub]; rfl), HX, Below.refl _ _⟩
  case round =>
    obtain ⟨k, l, hk, rfl, ⟨a, b, rfl, HA, HB⟩, HL, HO, HW⟩ := hrel
    clear HX
    have hxs : x / 56 ≤ 20 := by omega
    have hab : (-1150 ≤ a ∧ a ≤ 1150) ∧ (-1150 ≤ b ∧ b ≤ 1150) := by
      have h1 := HA.out
      have h2 := HB.out
      unfold Hid at *
      omega
    by_cases hlt : k < 20
    · have H1 := Lib.hid (fun W => one_any a b (by omega) (by omega) W)
      have HN := Lib.hid (fun W => next_any a b (by omega) (by omega) W)
      have HNx := Lib.hid (show a - 56 = (x : Int) - 56 * (k + 1 : Nat) by have := HA.out; unfold Hid at *; omega)
      have HNy := Lib.hid (show b - 56 = (y : Int) - 56 * (k + 1 : Nat) by have := HB.out; unfold Hid at *; omega)
      by_cases hc : (if a < 0 then 0 else a) < (if b < 56 then b else 56)
      · obtain ⟨p, q, hp, hq, hl, hll⟩ := pL_some x y k a b hxy hy2 HA.out HB.out hc
        have H2 := Lib.hid (fun W => some_any (p : Int) (q : Int) (by omega) (by split at hq <;> omega) W)
        have H3 := Lib.hid (fun W => topiece_any k (p : Int) (q : Int) (by omega) (by split at hq <;> omega) W)
        rw [hp, hq] at hc H1
        rw [decide_eq_true hc] at H2
        rw [← HL.out] at hl hll
        have HLN := Lib.hid hl
        have HLL : Hid (l.length ≤ 20) := by unfold Hid; omega
        clear hp hq hc hl hll HA HB hab
        go_wp2_with fail
        refine (H1.out _).mono ?_; rintro e w' ⟨rfl, rfl⟩
        go_wp2_with fail
        refine (H2.out _).mono ?_; rintro e w' ⟨rfl, rfl⟩
        go_wp2_with fail
        refine (H3.out _).mono ?_; rintro e w2 ⟨rfl, hb2⟩
        have HO2 := Lib.hid (ownB HO.out hb2)
        have HW2 := Lib.hid (keepB HW.out hb2)
        have HB3 := Lib.hid (bel1 (w := w2) (.cells (pcA k p q) 38))
        have HO3 := Lib.hid (ownB HO2.out HB3.out)
        have HW3 := Lib.hid (keepB HW2.out HB3.out)
        have HG3 := Lib.hid (heap_alloc_new w2 (.cells (pcA k p q) 38))
        have HS3 : Hid (w.heap.size ≤ (w2.alloc (.cells (pcA k p q) 38)).heap.size) := HW3.out.size
        clear hb2 HO HW HO2 HW2 HB3 H1 H2 H3 HL
        obtain ⟨m, hlm⟩ : ∃ m, m = l.length := ⟨_, rfl⟩
        rw [← hlm] at HO3 HLL
        have HLM := Lib.hid hlm.symm
        clear hlm
        go_wp2_with (first
          | (refine wpList_oneP rfl (.tmp 36) rfl k p q rfl ?_)
          | (at_builtin
             go_loud (refine wpList_appP (w2.alloc (.cells (pcA k p q) 38)) rfl (.tmp 33) (.tmp 37) rfl w.heap.size u5 m l rfl HO3.out w2.heap.size 1 (k, p, q) rfl HG3.out (by have := HLL.out; omega) HS3.out ?_)
             intro v4 w4 h4 hg4
             have HO4 := Lib.hid h4
             have HW4 := Lib.hid (grownB HW3.out HO3.out hg4)
             clear h4 hg4 HO3 HW3 HG3 HS3))
        refine (HN.out _).mono ?_; rintro e w' ⟨rfl, rfl⟩
        go_wp2_with fail
        go_roundw
        case rel =>
          refine ⟨k + 1, l ++ [(k, p, q)], by omega, by go_num, ⟨_, _, rfl, HNx.out, HNy.out⟩, HLN.out.symm, ?_, HW4.out⟩
          unfold Hid
          rw [List.length_append, List.length_singleton, HLM.out]; exact HO4.out
        case measure => simp [intOf]; omega
      · have H2 := Lib.hid (fun W => some_any (if a < 0 then 0 else a) (if b < 56 then b else 56) (by split <;> omega) (by split <;> omega) W)
        have hl := pL_none x y k a b hxy hy2 HA.out HB.out hc
        rw [decide_eq_false hc] at H2
        rw [← HL.out] at hl
        have HLN := Lib.hid hl
        clear hl hc HA HB hab
        generalize (if a < 0 then 0 else a) = p at *
        generalize (if b < 56 then b else 56) = q at *
        go_wp2_with fail
        refine (H1.out _).mono ?_; rintro e w' ⟨rfl, rfl⟩
        go_wp2_with fail
        refine (H2.out _).mono ?_; rintro e w' ⟨rfl, rfl⟩
        go_wp2_with fail
        refine (HN.out _).mono ?_; rintro e w' ⟨rfl, rfl⟩
        go_wp2_with fail
        go_roundw
        case rel => exact ⟨k + 1, l, by omega, by go_num, ⟨_, _, rfl, HNx.out, HNy.out⟩, HLN.out.symm, HO.out, HW.out⟩
        case measure => simp [intOf]; omega
    · obtain rfl : k = 20 := by omega
      have hl := HL.out
      unfold Hid at hl
      rw [pL_all x y hy2] at hl
      subst hl
      clear HA HB hab HL
      go_wp2_with fail
      go_ret
      exact ⟨_, rfl, HO.out, HW.out⟩
end Go.Proofs.Ythkohckofodmnaa
