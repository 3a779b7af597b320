/- The law IndexPieces answers true for every input, and leaves its arguments alone. No condition. -/
import Derived.Test.YthkohckofodmnaaRows
import Derived.Test.YthkohckofodmnaaIl
import Derived.WalkKit
import Derived.ProofKit
import Derived.OpenShut
namespace Go.Proofs.Ythkohckofodmnaa.indexPieces
open Go.ChangeShapes Go.WideShapes Go.ChangeAt Go.RowKit Go.Joins
set_option linter.unusedVariables false
theorem own : ownKnob Try.prog.godebug = none := by kernel_rfl
theorem laidOut : laidOutB Try.prog = true := by kernel_rfl
set_option maxRecDepth 100000 in
set_option maxHeartbeats 6400000 in
theorem walk (x0 : Int) (x1 : Int) (w : World) (hx0 : 0 ≤ x0 ∧ x0 ≤ 65535) (hx1 : 0 ≤ x1 ∧ x1 ≤ 65535) :
    Calls Try.prog 4 #[.int .u16 x0, .int .u16 x1] w fun e w' => e = .returned (.bool true) ∧ Below w.heap.size w w' := by
  have e0 : x0.tmod 1200 = x0 % 1200 := Int.tmod_eq_emod_of_nonneg (by omega)
  have e1 : x1.tmod 1200 = x1 % 1200 := Int.tmod_eq_emod_of_nonneg (by omega)
  have v0 : IntKind.i64.wrap x0 = x0 := IntWalk.i64_in _ (by omega)
  have v1 : IntKind.i64.wrap x1 = x1 := IntWalk.i64_in _ (by omega)
  have v2 : IntKind.i64.wrap (x0 % 1200) = x0 % 1200 := IntWalk.i64_in _ (by omega)
  have v3 : IntKind.i64.wrap (x1 % 1200) = x1 % 1200 := IntWalk.i64_in _ (by omega)
  obtain ⟨o, ho⟩ : ∃ o : Nat, x0 % 1200 = o := ⟨(x0 % 1200).toNat, by omega⟩
  obtain ⟨m, hm⟩ : ∃ m : Nat, x1 % 1200 = m := ⟨(x1 % 1200).toNat, by omega⟩
  have ho2 : o < 1200 := by omega
  have hm2 : m < 1200 := by omega
  rw [ho] at e0 v2
  rw [hm] at e1 v3
  have v4 : IntKind.i64.wrap ((o : Int) + m) = (o : Int) + m := IntWalk.i64_in _ (by omega)
  have HP := Lib.hid (fun W => pieces_any (o : Int) (m : Int) W (by omega) (by omega))
  clear ho hm hx0 hx1
  go_enter Try.func4, Try.ntmps4
  go_wp2_with fail
  refine (begun_any _).mono ?_
  rintro e W1 ⟨rfl, hb1⟩
  have HB1 := Lib.hid hb1
  clear hb1
  go_wp2_with fail
  refine (HP.out _).mono ?_
  rintro e W2 ⟨v, rfl, hown, hb2⟩
  have HB2 := Lib.hid (keepB HB1.out hb2)
  have HO0 := Lib.hid (hown.mono (Nat.zero_le _))
  clear HB1 hb2 HP hown
  by_cases hbig : o + m > 1120
  · have hp : pcM (o : Int) (m : Int) = [] := by unfold pcM; rw [if_neg (by omega)]
    rw [hp] at HO0
    obtain ⟨A, cap, rfl⟩ := own_val2 HO0.out
    have hbig2 : ¬ ((o : Int) + m ≤ 1120) := by omega
    clear hp
    go_wp2_with fail
    go_ret
    exact ⟨rfl, HB2.out⟩
  · obtain ⟨y, hy⟩ : ∃ y : Nat, o + m = y := ⟨_, rfl⟩
    have hy2 : (o : Int) + m = y := by omega
    have hp : pcM (o : Int) (m : Int) = pL o y := by unfold pcM; rw [if_pos (by omega), hy2]; rfl
    rw [hp] at HO0
    obtain ⟨N, hN⟩ : ∃ N, N = (pL o y).length := ⟨_, rfl⟩
    rw [← hN] at HO0
    have hN20 : N ≤ 20 := by rw [hN, pL_length]; exact pN_le _ _ (by omega)
    obtain ⟨A, cap, rfl⟩ := own_val2 HO0.out
    have HPC := Lib.hid (fun i (h : i < N) => pc_at (o := o) (e := y) (i := i) (by omega) (by omega) (by rw [← pL_length, ← hN]; exact h))
    rw [← pL_length, ← hN] at HPC
    have HEND : Hid (atM o y N N = y) := by
      unfold Hid
      rw [hN, pL_length]; exact atM_end (by omega)
    have v4' := v4.trans hy2
    clear v4
    have hoy : o ≤ y := by omega
    have hy1120 : y ≤ 1120 := by omega
    have v5 : ¬ ((y : Int) > 1120) := by omega
    clear hp hy hy2 hN hbig hm2 e0 e1 v0 v1 v2 v3
    generalize pL o y = P at *
    go_wp2_with fail
    go_loopw [8, 9] (fun a i wr => ∃ i' t : Nat, i' ≤ N ∧ i = .int .i64 i' ∧ a = .int .i64 t ∧ Hid (t = atM o y N i') ∧ Hid (wr.ownsRow 0 38 3 (.slice A N cap) N (rowL encP P)) ∧ Hid (Below w.heap.size w wr)) (fun _ i _ => (N - intOf i).toNat)
    case atStart => exact ⟨0, o, by omega, rfl, rfl, rfl, HO0, HB2⟩
    case round =>
      obtain ⟨i, t, hi, rfl, rfl, HT, HO, HW⟩ := hrel
      clear HO0 HB2
      by_cases hlt : i < N
      · obtain ⟨K, F, T, h0, h1, h2, h3, h4, h5, h6, h7⟩ := HPC.out i hlt
        obtain ⟨g, cap2, hv, _, _⟩ := own_pos HO.out (by omega)
        injection hv with hv1 _ hv3
        subst hv1; subst hv3
        rw [← HT.out] at h1
        obtain ⟨t2, ht2⟩ : ∃ t2, t2 = K * 56 + T := ⟨_, rfl⟩
        have HT2 : Hid (t2 = atM o y N (i + 1)) := by unfold Hid; rw [ht2]; exact h2
        have c0 : wr.cell? ⟨g, i * 3, none⟩ = some (.int .i64 K) := own_cell HO.out (rowL_at (encP_fits _) h0 (j := 0) rfl)
        have c1 : wr.cell? ⟨g, i * 3 + 1, none⟩ = some (.int .i64 F) := own_cell HO.out (rowL_at (encP_fits _) h0 (j := 1) rfl)
        have c2 : wr.cell? ⟨g, i * 3 + 2, none⟩ = some (.int .i64 T) := own_cell HO.out (rowL_at (encP_fits _) h0 (j := 2) rfl)
        have w1 : IntKind.i64.wrap ((K : Int) * 56) = (K : Int) * 56 := IntWalk.i64_in _ (by omega)
        have w2 : IntKind.i64.wrap ((K : Int) * 56 + F) = t := by rw [show (K : Int) * 56 + F = t by omega]; exact IntWalk.i64_in _ (by omega)
        have w3 : IntKind.i64.wrap ((K : Int) * 56 + T) = t2 := by rw [show (K : Int) * 56 + T = t2 by omega]; exact IntWalk.i64_in _ (by omega)
        have w4 : IntKind.i64.wrap ((i : Int) + 1) = (i : Int) + 1 := IntWalk.i64_in _ (by omega)
        have b1 : decide ((F : Int) < 0) = false := by simp
        have b2 : decide ((T : Int) > 56) = false := by simp; omega
        have b3 : decide ((F : Int) ≥ T) = false := by simp; omega
        have b3' : decide ((T : Int) ≤ F) = false := by simp; omega
        have b2' : decide (56 < (T : Int)) = false := by simp; omega
        have n1 : decide (56 < T) = false := by simp; omega
        have n2 : decide (T ≤ F) = false := by simp; omega
        clear h0 h1 h2 ht2 HT
        by_cases hi0 : i = 0
        · have b4 : decide ((i : Int) > 0) = false := by simp; omega
          have b4' : decide (0 < (i : Int)) = false := by simp; omega
          have n3 : decide (0 < i) = false := by simp; omega
          have hiH := Lib.hid hi0
          clear h6 hi0
          by_cases hl : i + 1 < N
          · have hT : T = 56 := h7 hl
            have b5 : decide ((i : Int) + 1 < N) = true := by simp; omega
            have n4 : decide (i + 1 < N) = true := by simp; omega
            have b6 : ((T : Int) != 56) = false := by rw [hT]; rfl
            clear h3 h4 h5 h7 hT
            have HW2 := Lib.hid (keepB HW.out (bel1 (.cells #[.int .i64 K, .int .i64 F, .int .i64 T] 38)))
            have HO2 := Lib.hid (ownB HO.out (bel1 (.cells #[.int .i64 K, .int .i64 F, .int .i64 T] 38)))
            have hnew := heap_alloc_new wr (.cells #[.int .i64 K, .int .i64 F, .int .i64 T] 38)
            go_upto_region 12 with fail
            have d0 : (wr.alloc (.cells #[.int .i64 K, .int .i64 F, .int .i64 T] 38)).cell? ⟨wr.heap.size, 0, none⟩ = some (.int .i64 K) := (blk_cell hnew 0).trans rfl
            have d1 : (wr.alloc (.cells #[.int .i64 K, .int .i64 F, .int .i64 T] 38)).cell? ⟨wr.heap.size, 1, none⟩ = some (.int .i64 F) := (blk_cell hnew 1).trans rfl
            have d2 : (wr.alloc (.cells #[.int .i64 K, .int .i64 F, .int .i64 T] 38)).cell? ⟨wr.heap.size, 2, none⟩ = some (.int .i64 T) := (blk_cell hnew 2).trans rfl
            clear hnew HO HW
            generalize wr.alloc (.cells #[.int .i64 K, .int .i64 F, .int .i64 T] 38) = w5 at *
            generalize wr.heap.size = r at *
            go_wp2_with fail
            go_roundw
            case rel => exact ⟨i + 1, t2, by omega, by go_num, rfl, HT2.out, HO2.out, HW2.out⟩
            case measure => simp [intOf]; omega
          · have b5 : decide ((i : Int) + 1 < N) = false := by simp; omega
            have n4 : decide (i + 1 < N) = false := by simp; omega
            clear h3 h4 h5 h7
            have HW2 := Lib.hid (keepB HW.out (bel1 (.cells #[.int .i64 K, .int .i64 F, .int .i64 T] 38)))
            have HO2 := Lib.hid (ownB HO.out (bel1 (.cells #[.int .i64 K, .int .i64 F, .int .i64 T] 38)))
            have hnew := heap_alloc_new wr (.cells #[.int .i64 K, .int .i64 F, .int .i64 T] 38)
            go_upto_region 12 with fail
            have d0 : (wr.alloc (.cells #[.int .i64 K, .int .i64 F, .int .i64 T] 38)).cell? ⟨wr.heap.size, 0, none⟩ = some (.int .i64 K) := (blk_cell hnew 0).trans rfl
            have d1 : (wr.alloc (.cells #[.int .i64 K, .int .i64 F, .int .i64 T] 38)).cell? ⟨wr.heap.size, 1, none⟩ = some (.int .i64 F) := (blk_cell hnew 1).trans rfl
            have d2 : (wr.alloc (.cells #[.int .i64 K, .int .i64 F, .int .i64 T] 38)).cell? ⟨wr.heap.size, 2, none⟩ = some (.int .i64 T) := (blk_cell hnew 2).trans rfl
            clear hnew HO HW
            generalize wr.alloc (.cells #[.int .i64 K, .int .i64 F, .int .i64 T] 38) = w5 at *
            generalize wr.heap.size = r at *
            go_wp2_with fail
            go_roundw
            case rel => exact ⟨i + 1, t2, by omega, by go_num, rfl, HT2.out, HO2.out, HW2.out⟩
            case measure => simp [intOf]; omega
        · have b4 : decide ((i : Int) > 0) = true := by simp; omega
          have b4' : decide (0 < (i : Int)) = true := by simp; omega
          have n3 : decide (0 < i) = true := by simp; omega
          have hF : F = 0 := h6 hi0
          have b7 : ((F : Int) != 0) = false := by rw [hF]; rfl
          have hFH := Lib.hid hF
          clear h6 hi0 hF
          by_cases hl : i + 1 < N
          · have hT : T = 56 := h7 hl
            have b5 : decide ((i : Int) + 1 < N) = true := by simp; omega
            have n4 : decide (i + 1 < N) = true := by simp; omega
            have b6 : ((T : Int) != 56) = false := by rw [hT]; rfl
            clear h3 h4 h5 h7 hT
            have HW2 := Lib.hid (keepB HW.out (bel1 (.cells #[.int .i64 K, .int .i64 F, .int .i64 T] 38)))
            have HO2 := Lib.hid (ownB HO.out (bel1 (.cells #[.int .i64 K, .int .i64 F, .int .i64 T] 38)))
            have hnew := heap_alloc_new wr (.cells #[.int .i64 K, .int .i64 F, .int .i64 T] 38)
            go_upto_region 12 with fail
            have d0 : (wr.alloc (.cells #[.int .i64 K, .int .i64 F, .int .i64 T] 38)).cell? ⟨wr.heap.size, 0, none⟩ = some (.int .i64 K) := (blk_cell hnew 0).trans rfl
            have d1 : (wr.alloc (.cells #[.int .i64 K, .int .i64 F, .int .i64 T] 38)).cell? ⟨wr.heap.size, 1, none⟩ = some (.int .i64 F) := (blk_cell hnew 1).trans rfl
            have d2 : (wr.alloc (.cells #[.int .i64 K, .int .i64 F, .int .i64 T] 38)).cell? ⟨wr.heap.size, 2, none⟩ = some (.int .i64 T) := (blk_cell hnew 2).trans rfl
            clear hnew HO HW
            generalize wr.alloc (.cells #[.int .i64 K, .int .i64 F, .int .i64 T] 38) = w5 at *
            generalize wr.heap.size = r at *
            go_wp2_with fail
            go_roundw
            case rel => exact ⟨i + 1, t2, by omega, by go_num, rfl, HT2.out, HO2.out, HW2.out⟩
            case measure => simp [intOf]; omega
          · have b5 : decide ((i : Int) + 1 < N) = false := by simp; omega
            have n4 : decide (i + 1 < N) = false := by simp; omega
            clear h3 h4 h5 h7
            have HW2 := Lib.hid (keepB HW.out (bel1 (.cells #[.int .i64 K, .int .i64 F, .int .i64 T] 38)))
            have HO2 := Lib.hid (ownB HO.out (bel1 (.cells #[.int .i64 K, .int .i64 F, .int .i64 T] 38)))
            have hnew := heap_alloc_new wr (.cells #[.int .i64 K, .int .i64 F, .int .i64 T] 38)
            go_upto_region 12 with fail
            have d0 : (wr.alloc (.cells #[.int .i64 K, .int .i64 F, .int .i64 T] 38)).cell? ⟨wr.heap.size, 0, none⟩ = some (.int .i64 K) := (blk_cell hnew 0).trans rfl
            have d1 : (wr.alloc (.cells #[.int .i64 K, .int .i64 F, .int .i64 T] 38)).cell? ⟨wr.heap.size, 1, none⟩ = some (.int .i64 F) := (blk_cell hnew 1).trans rfl
            have d2 : (wr.alloc (.cells #[.int .i64 K, .int .i64 F, .int .i64 T] 38)).cell? ⟨wr.heap.size, 2, none⟩ = some (.int .i64 T) := (blk_cell hnew 2).trans rfl
            clear hnew HO HW
            generalize wr.alloc (.cells #[.int .i64 K, .int .i64 F, .int .i64 T] 38) = w5 at *
            generalize wr.heap.size = r at *
            go_wp2_with fail
            go_roundw
            case rel => exact ⟨i + 1, t2, by omega, by go_num, rfl, HT2.out, HO2.out, HW2.out⟩
            case measure => simp [intOf]; omega
      · obtain rfl : N = i := by omega
        have ht : t = y := by rw [HT.out]; exact HEND.out
        subst ht
        clear HT HEND HPC
        go_wp2_with fail
        go_ret
        exact ⟨rfl, HW.out⟩

set_option maxRecDepth 100000 in
theorem lifted (os : Os) (started : os.Started) (H : Type) (enc : TypeId × Value → H) :
    ReturnsInHanded {} Try.checked os 4 .any (Rows.indexPiecesSpec.pre6 enc Try.prog Try.f4 Rows.indexPiecesRow.domain false) (Rows.indexPiecesSpec.post enc Try.prog Try.f4 false true false false) := by
  refine returnsInHanded_of_change (C := Try.checked) own started (by kernel_rfl) Try.func4
    (ChangeSpec.witness6 (enc := enc) (C := Try.checked) false ⟨#[], #[.int .u16 0, .int .u16 0], []⟩ 8 (by kernel_rfl) (by kernel_rfl) (by kernel_rfl) (by kernel_rfl)) ?_
  intro W base args ds gs before hval0 hW hcnd _
  have hval : ∀ (j : Nat) t v, Try.f4.params[j]? = some t → args[j]? = some v → Value.okWide Try.prog W .any base t v := hval0
  have hW' := hW
  obtain ⟨p, q, hA0, hV, rfl, hfz, hnd⟩ := hW
  have hA : DataW.TrodAll enc Try.prog W 0 (fun _ => true) true Try.f4.params.toList args.toList ds p := hA0
  rw [Try.params4] at hA hval
  obtain ⟨v0, vs0, d0, ds0, p0, q0, hargs, rfl, rfl, h0, r0⟩ := trodAll_cons hA
  obtain ⟨v1, vs1, d1, ds1, p1, q1, rfl, rfl, rfl, h1, r1⟩ := trodAll_cons r0
  obtain ⟨rfl, rfl, rfl⟩ := trodAll_nil r1
  obtain rfl : args = #[v0, v1] := by cases args; simp_all
  obtain ⟨rfl, rfl⟩ := trodVars_none hV
  obtain ⟨x0, rfl, rfl, rfl, wx0⟩ := open_int Try.underlying41 (hval 0 41 v0 rfl rfl) h0
  obtain ⟨x1, rfl, rfl, rfl, wx1⟩ := open_int Try.underlying41 (hval 1 41 v1 rfl rfl) h1
  clear hA0 hval0
  simp only [List.append_nil] at hW'
  refine (walk x0 x1 W (by have := bounds_u16 wx0; omega) (by have := bounds_u16 wx1; omega)).mono fun e W' ⟨he, bel⟩ => ?_
  subst he
  exact ⟨_, rfl, _, _, _, [], _, [], hW', (trodAll_cons_mk (shut_bool Try.underlying4 _) trodAll_mk0), (trodAll_cons_mk (shut_int Try.underlying41 wx0) (trodAll_cons_mk (shut_int Try.underlying41 wx1) trodAll_mk0)), rfl, bel.frame _, fun h => by cases h⟩

theorem over : Rows.indexPiecesRow.holds Try.pinned (OpenSpec.ofChange Rows.indexPiecesSpec) :=
  OpenClaim.holds_of_wide 4 Try.f4 rfl rfl rfl rfl rfl rfl rfl ⟨rfl, rfl, rfl, rfl, rfl⟩ rfl rfl rfl rfl rfl (by kernel_rfl) Try.func4 (by kernel_rfl)
    (of_decide_eq_true (by kernel_rfl)) (by unfold Func.isWrapper; first | (rw [if_pos (by decide +kernel)]; kernel_rfl) | (rw [if_neg (by decide +kernel)]; exact ⟨rfl, rfl⟩))
    (fun os started H enc _ => lifted os started H enc)

theorem proved : Rows.IndexPiecesSaid :=
  over
#print axioms proved
end Go.Proofs.Ythkohckofodmnaa.indexPieces
