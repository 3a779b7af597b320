/- Contract: the reference's Pieces. -/
import Derived.Test.YthkohckofodmnaaIc
namespace Go.Proofs.Ythkohckofodmnaa
open Go.ChangeShapes Go.WideShapes Go.ChangeAt Go.RowKit
set_option linter.unusedVariables false
/-- The last piece has one byte more. -/
theorem last_grow {w : World} {B g n cap m : Nat} {l : List Pc} {a b c : Nat} (h : w.ownsRow B 39 3 (.slice (some ⟨g, 0, none⟩) n cap) n (rowL encP l)) (hl : l[m]? = some (a, b, c)) :
    (w.setCell ⟨g, m * 3 + 2, none⟩ (.int .i64 ((c : Int) + 1))).ownsRow B 39 3 (.slice (some ⟨g, 0, none⟩) n cap) n (rowL encP (l.set m (a, b, c + 1))) := by
  have hn : l.length = n := by have := h.1; rw [rowL_length (encP_fits l)] at this; omega
  have hm := (List.getElem?_eq_some_iff.1 hl).1
  have h1 := own_set_in h (k := m * 3 + 2) (by omega) (.int .i64 ((c : Int) + 1))
  rwa [rowL_set (encP_fits l) hl (y := (a, b, c + 1)) (by omega) (by simp [encP])] at h1
theorem own_slice {w : World} {B n : Nat} {v : Value} {xs : List Value} (h : w.ownsRow B 39 3 v n xs) (hn : 0 < n) : ∃ g cap, v = .slice (some ⟨g, 0, none⟩) n cap ∧ B ≤ g ∧ n ≤ cap := by
  rcases h.2 with ⟨_, h0⟩ | ⟨g, cap, cur, rfl, hb, _, hc, _⟩
  · omega
  · exact ⟨g, cap, rfl, hb, hc⟩
theorem own_val {w : World} {B n : Nat} {v : Value} {xs : List Value} (h : w.ownsRow B 39 3 v n xs) : ∃ A cap, v = .slice A n cap := by
  rcases h.2 with ⟨rfl, rfl⟩ | ⟨g, cap, cur, rfl, _⟩
  · exact ⟨_, _, rfl⟩
  · exact ⟨_, _, rfl⟩
set_option maxRecDepth 100000 in
set_option maxHeartbeats 3200000 in
theorem rpieces_any (o n : Int) (w : World) (ho : -9223372036854775808 ≤ o ∧ o ≤ 9223372036854775807) (hn : -9223372036854775808 ≤ n ∧ n ≤ 9223372036854775807) : Calls Try.prog 15 #[.int .i64 o, .int .i64 n] w fun e w' =>
    ∃ v, e = .returned v ∧ w'.ownsRow w.heap.size 39 3 v (pcM o n).length (rowL encP (pcM o n)) ∧ Below w.heap.size w w' := by
  by_cases h1 : o < 0
  · have hm : pcM o n = [] := by unfold pcM; rw [if_neg (by omega)]
    rw [hm]
    have HX := pcM_none w 39 w.heap.size
    clear hm
    go_enter Try.func15, Try.ntmps15
    go_wp2
    go_ret
    exact ⟨_, rfl, HX, Below.refl _ _⟩
  by_cases h2 : n < 0
  · have hm : pcM o n = [] := by unfold pcM; rw [if_neg (by omega)]
    rw [hm]
    have HX := pcM_none w 39 w.heap.size
    clear hm
    go_enter Try.func15, Try.ntmps15
    go_wp2
    go_ret
    exact ⟨_, rfl, HX, Below.refl _ _⟩
  by_cases h4 : o > 1120
  · have hm : pcM o n = [] := by unfold pcM; rw [if_neg (by omega)]
    rw [hm]
    have HX := pcM_none w 39 w.heap.size
    clear hm
    go_enter Try.func15, Try.ntmps15
    go_wp2
    go_ret
    exact ⟨_, rfl, HX, Below.refl _ _⟩
  have e1 : IntKind.i64.wrap (1120 - o) = 1120 - o := IntWalk.i64_in _ (by omega)
  by_cases h3 : n > 1120 - o
  · have hm : pcM o n = [] := by unfold pcM; rw [if_neg (by omega)]
    rw [hm]
    have HX := pcM_none w 39 w.heap.size
    clear hm
    go_enter Try.func15, Try.ntmps15
    go_wp2
    go_ret
    exact ⟨_, rfl, HX, Below.refl _ _⟩
  obtain ⟨x, rfl⟩ : ∃ x : Nat, o = x := ⟨o.toNat, by omega⟩
  obtain ⟨y, hy⟩ : ∃ y : Nat, (x : Int) + n = y := ⟨((x : Int) + n).toNat, by omega⟩
  have hm : pcM x n = pL x y := by unfold pcM; rw [if_pos (by omega), hy]; rfl
  rw [hm]
  have hxy : x ≤ y := by omega
  have hy2 : y ≤ 1120 := by omega
  have e2 : IntKind.i64.wrap ((x : Int) + n) = y := by rw [hy]; exact IntWalk.i64_in _ (by omega)
  have HX : Hid (w.ownsRow w.heap.size 39 3 (.slice none 0 0) (pL x x).length (rowL encP (pL x x))) := by rw [pL_self]; exact pcM_none w _ _
  clear hm hy
  go_enter Try.func15, Try.ntmps15
  go_wp2_with fail
  clear h1 h2 h3 e1
  go_loopw [5, 6] (fun v i wr => ∃ t : Nat, ∃ l : List Pc, x ≤ t ∧ t ≤ y ∧ i = .int .i64 t ∧ l = pL x t ∧ Hid (wr.ownsRow w.heap.size 39 3 v l.length (rowL encP l)) ∧ Hid (Below w.heap.size w wr)) (fun _ i _ => (y - intOf i).toNat)
  case atStart => exact ⟨x, _, Nat.le_refl _, hxy, rfl, rfl, HX, Below.refl _ _⟩
  case round =>
    obtain ⟨t, l, hxt, hty, rfl, hl, HO, HW⟩ := hrel
    clear HX
    by_cases hlt : t < y
    · obtain ⟨kq, hq⟩ : ∃ kq, kq = t / 56 := ⟨_, rfl⟩
      obtain ⟨kr, hr⟩ : ∃ kr, kr = t % 56 := ⟨_, rfl⟩
      have dq : (t : Int).tdiv 56 = kq := by rw [Int.tdiv_eq_ediv_of_nonneg (by omega)]; omega
      have dr : (t : Int).tmod 56 = kr := by rw [Int.tmod_eq_emod_of_nonneg (by omega)]; omega
      have wq : IntKind.i64.wrap (kq : Int) = kq := IntWalk.i64_in _ (by omega)
      have wr1 : IntKind.i64.wrap (kr : Int) = kr := IntWalk.i64_in _ (by omega)
      have wr2 : IntKind.i64.wrap ((kr : Int) + 1) = (kr : Int) + 1 := IntWalk.i64_in _ (by omega)
      have wt : IntKind.i64.wrap ((t : Int) + 1) = (t : Int) + 1 := IntWalk.i64_in _ (by omega)
      have hkr : kr < 56 := by omega
      have hkq : kq ≤ 20 := by omega
      have hlN : l.length ≤ 20 := by rw [hl, pL_length]; exact pN_le x t (by omega)
      by_cases hnew : t = x ∨ t % 56 = 0
      · have hs := pL_new x t hxt hnew
        rw [← hl, ← hq, ← hr] at hs
        obtain ⟨m, hlm⟩ : ∃ m, m = l.length := ⟨_, rfl⟩
        obtain ⟨M, hM⟩ : ∃ M, m + 1 = M := ⟨_, rfl⟩
        have HM := Lib.hid hM
        have HAT : Hid ((l ++ [(kq, kr, kr)])[m]? = some (kq, kr, kr)) := by unfold Hid; rw [hlm, List.getElem?_append_right (Nat.le_refl _)]; simp
        have HNX : Hid (pL x (t + 1) = (l ++ [(kq, kr, kr)]).set m (kq, kr, kr + 1)) := by unfold Hid; rw [hs, hlm, List.set_append_right _ _ (Nat.le_refl _)]; simp
        have HLEN : Hid ((l ++ [(kq, kr, kr)]).length = M) := by unfold Hid; rw [← hM, hlm]; simp
        rw [← hlm] at HO hlN
        have wm : IntKind.i64.wrap ((M : Int) - 1) = m := by rw [show (M : Int) - 1 = m by omega]; exact IntWalk.i64_in _ (by omega)
        have hmM : m < M := by omega
        have hM21 : M ≤ 21 := by omega
        have HLB := Lib.hid hlN
        by_cases hx0 : t = x
        · have hm0 : m = 0 := by rw [hlm, hl, hx0, pL_self]; rfl
          obtain ⟨A, cap0, hv0⟩ := own_val HO.out
          rw [hm0] at hv0
          subst hv0
          clear hl hs hlm hM hnew hq hr hx0 hlN
          have hz := Lib.hid hm0
          clear hm0
          have HG3 := Lib.hid (heap_alloc_new wr (.cells (pcA kq kr kr) 39))
          have HB3 := Lib.hid (bel1 (w := wr) (.cells (pcA kq kr kr) 39))
          have HO3 := Lib.hid (ownB HO.out HB3.out)
          have HW3 := Lib.hid (keepB HW.out HB3.out)
          have HS3 : Hid (w.heap.size ≤ (wr.alloc (.cells (pcA kq kr kr) 39)).heap.size) := HW3.out.size
          clear HO HW HB3
          go_upto_region 10 with (first
            | (at_builtin
               go_loud (refine wpList_appR (wr.alloc (.cells (pcA kq kr kr) 39)) rfl (.tmp 48) (.tmp 55) rfl w.heap.size (.slice A 0 cap0) m l rfl HO3.out wr.heap.size 1 (kq, kr, kr) rfl HG3.out (by have := HLB.out; omega) HS3.out ?_)
               intro v4 w4 h4 hg4
               have h4' := h4
               rw [HM.out] at h4'
               have HO4 := Lib.hid h4'
               have HW4 := Lib.hid (grownB HW3.out HO3.out hg4)
               clear h4 h4' hg4 HO3 HW3 HG3 HS3))
          obtain ⟨g, cap, hv, hgb, hcap⟩ := own_slice HO4.out (by omega)
          subst hv
          have HS := Lib.hid (last_grow HO4.out HAT.out)
          have HWS : Hid (Below w.heap.size w (w4.setCell ⟨g, m * 3 + 2, none⟩ (.int .i64 ((kr : Int) + 1)))) := HW4.out.setCell hgb _
          have c2 : w4.cell? ⟨g, m * 3 + 2, none⟩ = some (.int .i64 kr) := own_cell HO4.out (rowL_at (encP_fits _) HAT.out rfl)
          have f2 : w4.frozen? ⟨g, m * 3 + 2, none⟩ = false := own_free HO4.out _
          go_wp2_with fail
          go_roundw
          case rel =>
            refine ⟨t + 1, _, by omega, by omega, by go_num, rfl, ?_, HWS.out⟩
            unfold Hid
            rw [HNX.out, List.length_set, HLEN.out]; exact HS.out
          case measure => simp [intOf]; omega
        · obtain ⟨m1, f, b, h1, h2⟩ := pL_last x t (by omega)
          rw [← hl] at h1 h2
          have hne : ¬ ((((t - 1) / 56 : Nat) : Int) = (kq : Int)) := by omega
          generalize (t - 1) / 56 = q0 at h2 hne
          obtain ⟨g0, cap0, hv0, hgb0, hcap0⟩ := own_slice HO.out (by omega)
          subst hv0
          have c0 : wr.cell? ⟨g0, m1 * 3, none⟩ = some (.int .i64 q0) := own_cell HO.out (rowL_at (encP_fits _) h2 (j := 0) rfl)
          have wm1 : IntKind.i64.wrap ((m : Int) - 1) = m1 := by rw [show (m : Int) - 1 = m1 by omega]; exact IntWalk.i64_in _ (by omega)
          have hm1 : m1 < m := by omega
          have hm0 : ((m : Int) == 0) = false := by simp; omega
          have hne2 : ((q0 : Int) != (kq : Int)) = true := by simp; omega
          clear hl hs hlm hM hnew hq hr hx0 hlN h1 h2
          have HG3 := Lib.hid (heap_alloc_new wr (.cells (pcA kq kr kr) 39))
          have HB3 := Lib.hid (bel1 (w := wr) (.cells (pcA kq kr kr) 39))
          have HO3 := Lib.hid (ownB HO.out HB3.out)
          have HW3 := Lib.hid (keepB HW.out HB3.out)
          have HS3 : Hid (w.heap.size ≤ (wr.alloc (.cells (pcA kq kr kr) 39)).heap.size) := HW3.out.size
          clear HO HW HB3
          go_upto_region 10 with (first
            | (at_builtin
               go_loud (refine wpList_appR (wr.alloc (.cells (pcA kq kr kr) 39)) rfl (.tmp 48) (.tmp 55) rfl w.heap.size (.slice (some ⟨g0, 0, none⟩) m cap0) m l rfl HO3.out wr.heap.size 1 (kq, kr, kr) rfl HG3.out (by have := HLB.out; omega) HS3.out ?_)
               intro v4 w4 h4 hg4
               have h4' := h4
               rw [HM.out] at h4'
               have HO4 := Lib.hid h4'
               have HW4 := Lib.hid (grownB HW3.out HO3.out hg4)
               clear h4 h4' hg4 HO3 HW3 HG3 HS3))
          obtain ⟨g, cap, hv, hgb, hcap⟩ := own_slice HO4.out (by omega)
          subst hv
          have HS := Lib.hid (last_grow HO4.out HAT.out)
          have HWS : Hid (Below w.heap.size w (w4.setCell ⟨g, m * 3 + 2, none⟩ (.int .i64 ((kr : Int) + 1)))) := HW4.out.setCell hgb _
          have c2 : w4.cell? ⟨g, m * 3 + 2, none⟩ = some (.int .i64 kr) := own_cell HO4.out (rowL_at (encP_fits _) HAT.out rfl)
          have f2 : w4.frozen? ⟨g, m * 3 + 2, none⟩ = false := own_free HO4.out _
          go_wp2_with fail
          go_roundw
          case rel =>
            refine ⟨t + 1, _, by omega, by omega, by go_num, rfl, ?_, HWS.out⟩
            unfold Hid
            rw [HNX.out, List.length_set, HLEN.out]; exact HS.out
          case measure => simp [intOf]; omega
      · obtain ⟨m, f, h1, h2, h3⟩ := pL_old x t (by omega) (by omega)
        rw [← hl, ← hq, ← hr] at h2
        rw [← hl, ← hq, ← hr] at h3
        rw [← hl] at h1
        obtain ⟨M, hM⟩ : ∃ M, M = l.length := ⟨_, rfl⟩
        have HAT := Lib.hid h2
        have HNX := Lib.hid h3
        have HLEN := Lib.hid hM.symm
        rw [← hM] at HO hlN
        have wm : IntKind.i64.wrap ((M : Int) - 1) = m := by rw [show (M : Int) - 1 = m by omega]; exact IntWalk.i64_in _ (by omega)
        have hmM : m < M := by omega
        have hm0 : ((M : Int) == 0) = false := by simp; omega
        have hne2 : ((kq : Int) != (kq : Int)) = false := by simp
        clear hl hM hnew hq hr h1 h2 h3
        have HO2 := HO
        clear HO
        obtain ⟨g, cap, hv, hgb, hcap⟩ := own_slice HO2.out (by omega)
        subst hv
        have HS := Lib.hid (last_grow HO2.out HAT.out)
        have HWS : Hid (Below w.heap.size w (wr.setCell ⟨g, m * 3 + 2, none⟩ (.int .i64 ((kr : Int) + 1)))) := HW.out.setCell hgb _
        have c2 : wr.cell? ⟨g, m * 3 + 2, none⟩ = some (.int .i64 kr) := own_cell HO2.out (rowL_at (encP_fits _) HAT.out rfl)
        have f2 : wr.frozen? ⟨g, m * 3 + 2, none⟩ = false := own_free HO2.out _
        have c0 : wr.cell? ⟨g, m * 3, none⟩ = some (.int .i64 kq) := own_cell HO2.out (rowL_at (encP_fits _) HAT.out (j := 0) rfl)
        go_wp2_with fail
        go_roundw
        case rel =>
          refine ⟨t + 1, _, by omega, by omega, by go_num, rfl, ?_, HWS.out⟩
          unfold Hid
          rw [HNX.out, List.length_set, HLEN.out]; exact HS.out
        case measure => simp [intOf]; omega
    · obtain rfl : t = y := by omega
      subst hl
      go_wp2_with fail
      go_ret
      exact ⟨_, rfl, HO.out, HW.out⟩
end Go.Proofs.Ythkohckofodmnaa
