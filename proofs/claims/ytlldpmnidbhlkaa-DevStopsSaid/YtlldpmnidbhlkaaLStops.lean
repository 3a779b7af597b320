/- The law DevStops answers true for every input, and leaves its arguments alone. No condition. -/
import Derived.Test.YtlldpmnidbhlkaaRows
import Derived.Test.YtlldpmnidbhlkaaV29
import Derived.WalkKit
import Derived.ProofKit
import Derived.OpenShut
namespace Go.Proofs.Ytlldpmnidbhlkaa.devStops
open Go.ChangeShapes Go.WideShapes Go.ChangeAt Go.RowKit Go.Joins
set_option linter.unusedVariables false
theorem own : ownKnob Try.prog.godebug = none := by kernel_rfl
theorem laidOut : laidOutB Try.prog = true := by kernel_rfl
theorem full_one (W : World) (x : Int) (hx : 0 ≤ x ∧ x < 256) : Calls Try.prog 22 #[.slice (some ⟨W.heap.size, 0, none⟩) 1 1] (W.alloc (.cells #[.int .u8 x] 5)) fun e w' => (∃ g, e = .returned (.slice (some ⟨g, 0, none⟩) 64 64) ∧ W.heap.size ≤ g ∧ Blk64 w' g (fullV [x])) ∧ Below W.heap.size W w' := by
  refine (full_any (some ⟨W.heap.size, 0, none⟩) [x] 1 _ (AllB_one x hx) (byt_blk (heap_alloc_new W _) rfl) (by simp)).mono ?_
  rintro e w' ⟨⟨g, rfl, hg, hb⟩, hbel⟩
  exact ⟨⟨g, rfl, by simp at hg; omega, hb⟩, ((Below.refl _ _).alloc (Nat.le_refl _) _).trans (hbel.mono (by simp))⟩
def PF : Nat → Prop := fun _ => False
set_option maxRecDepth 100000 in
set_option maxHeartbeats 3200000 in
theorem walk (x0 : Int) (x1 : Int) (w : World) (hx0 : 0 ≤ x0 ∧ x0 ≤ 255) (hx1 : 0 ≤ x1 ∧ x1 ≤ 255) :
    Calls Try.prog 5 #[.int .u8 x0, .int .u8 x1] w fun e w' => e = .returned (.bool true) ∧ Below w.heap.size w w' := by
  obtain ⟨a, rfl⟩ : ∃ a : Nat, x0 = (a : Int) := ⟨x0.toNat, by omega⟩
  obtain ⟨b, rfl⟩ : ∃ b : Nat, x1 = (b : Int) := ⟨x1.toNat, by omega⟩
  obtain ⟨s, hs⟩ : ∃ s, s = a % 50 := ⟨_, rfl⟩
  obtain ⟨tr, htr⟩ : ∃ t, t = b % 50 := ⟨_, rfl⟩
  have hs1 : ((a : Int) % 50) = (s : Int) := by rw [hs]; omega
  have ht1 : ((b : Int) % 50) = (tr : Int) := by rw [htr]; omega
  have hs2 : s < 50 := by omega
  have ht2 : tr < 50 := by omega
  have HI := Lib.hid (stp_inv s (by omega))
  clear hs htr
  go_enter Try.func5, Try.ntmps5
  go_wp2_with fail
  refine (begun_any _).mono ?_
  rintro e w1 ⟨rfl, hb1⟩
  have HB1 := Lib.hid hb1
  clear hb1
  go_wp2_with fail
  refine (new_at _ w1.heap.size [60] 1 rfl (by decide) (fun x hx => by simp at hx; subst hx; constructor <;> omega) _ (heap_alloc_new w1 _)).mono ?_
  rintro e w2 ⟨⟨q, F, rfl, hd, hF⟩, hb⟩
  have hds := DS.made (HB1.out.alloc HB1.out.size _) hd hF hb
  have HD : Hid (DS w w2 PF q (DM.make [60])) := hds.below (Below.refl _ _) (fun k hk => hk.elim)
  clear hd hF hb hds
  go_wp2_with fail
  clear hs1 ht1
  refine (HD.out.stop s (by constructor <;> omega) (by omega)).mono ?_
  rintro e w3 ⟨rfl, hd3, _⟩
  have HD3 : Hid (DS w w3 PF q (stp s 0)) := hd3
  clear hd3 HD HB1
  go_wp2_with fail
  go_loopw [9] (fun i wr => ∃ k : Nat, i = .int .i64 k ∧ k ≤ tr ∧ DS w wr PF q (stp s k)) (fun i _ => tr - (intOf i).toNat)
  case atStart => exact ⟨0, rfl, Nat.zero_le _, HD3.out⟩
  case round =>
    obtain ⟨k, rfl, hk, hd⟩ := hrel
    have HD := Lib.hid hd
    clear hd HD3
    by_cases hlt : k < tr
    · have hinv := HI.out k (by omega)
      have hst := HD.out.stopped
      rw [hinv.stopped] at hst
      have HST := Lib.hid hst
      have HINV := Lib.hid hinv
      have hkk : (k : Int) < tr := by omega
      clear hst hinv
      by_cases hsk : s ≤ k
      · have d1 : decide (s ≤ k) = true := by simp; omega
        have d2 : decide ((s : Int) ≤ k) = true := by simp; omega
        rw [d1] at HST
        go_wp2_with fail
        refine HST.out.mono ?_
        rintro e w' ⟨rfl, rfl⟩
        go_wp2_with fail
        refine (full_one _ 1 (by omega)).mono ?_
        rintro e w4 ⟨⟨g, rfl, hg, hblk⟩, hb4⟩
        have hd4 : DS w w4 PF q (stp s k) := HD.out.below hb4 (fun k hk => hk.elim)
        have hcall := hd4.write64 0 k (by constructor <;> omega) (by constructor <;> omega) g f1 f1_ok hblk (by have := HINV.out.dn; omega)
        rw [HINV.out.hasB k (by omega)] at hcall
        have HCALL := Lib.hid hcall
        clear hd4 hcall hg hblk hb4
        go_wp2_with fail
        refine HCALL.out.mono ?_
        rintro e w5 ⟨rfl, hd5, _⟩
        have hR : hasR ((stp s k).doWrite 0 k f1) 0 = true := by rw [hasR_dims (dims_doWrite _ _ _ _)]; exact HINV.out.hasR
        have hbar := hd5.barrier 0 (by constructor <;> omega) (by have := done_doWrite (stp s k) 0 k f1; have := HINV.out.dn; omega)
        rw [hR] at hbar
        have HBAR := Lib.hid hbar
        clear hd5 hR hbar HCALL
        go_wp2_with fail
        refine HBAR.out.mono ?_
        rintro e w6 ⟨rfl, hd6, _⟩
        have HD6 : Hid (DS w w6 PF q (stp s (k + 1))) := hd6
        clear hd6 HBAR
        go_wp2
        go_roundw
        case rel => exact ⟨k + 1, by go_num, by omega, HD6.out⟩
        case measure => simp [intOf]; omega
      · have d1 : decide (s ≤ k) = false := by simp; omega
        have d2 : decide ((s : Int) ≤ k) = false := by simp; omega
        rw [d1] at HST
        go_wp2_with fail
        refine HST.out.mono ?_
        rintro e w' ⟨rfl, rfl⟩
        go_wp2_with fail
        refine (full_one _ 1 (by omega)).mono ?_
        rintro e w4 ⟨⟨g, rfl, hg, hblk⟩, hb4⟩
        have hd4 : DS w w4 PF q (stp s k) := HD.out.below hb4 (fun k hk => hk.elim)
        have hcall := hd4.write64 0 k (by constructor <;> omega) (by constructor <;> omega) g f1 f1_ok hblk (by have := HINV.out.dn; omega)
        rw [HINV.out.hasB k (by omega)] at hcall
        have HCALL := Lib.hid hcall
        clear hd4 hcall hg hblk hb4
        go_wp2_with fail
        refine HCALL.out.mono ?_
        rintro e w5 ⟨rfl, hd5, _⟩
        have hR : hasR ((stp s k).doWrite 0 k f1) 0 = true := by rw [hasR_dims (dims_doWrite _ _ _ _)]; exact HINV.out.hasR
        have hbar := hd5.barrier 0 (by constructor <;> omega) (by have := done_doWrite (stp s k) 0 k f1; have := HINV.out.dn; omega)
        rw [hR] at hbar
        have HBAR := Lib.hid hbar
        clear hd5 hR hbar HCALL
        go_wp2_with fail
        refine HBAR.out.mono ?_
        rintro e w6 ⟨rfl, hd6, _⟩
        have HD6 : Hid (DS w w6 PF q (stp s (k + 1))) := hd6
        clear hd6 HBAR
        go_wp2
        go_roundw
        case rel => exact ⟨k + 1, by go_num, by omega, HD6.out⟩
        case measure => simp [intOf]; omega
    · obtain rfl : k = tr := by omega
      have HINV := Lib.hid (HI.out k (by omega))
      have HOKK := Lib.hid HD.out.ok
      have hge : ¬ ((k : Int) < k) := by omega
      go_wp2_with fail
      go_loopw [10, 11] (fun d i wx => ∃ j : Nat, i = .int .i64 j ∧ j ≤ 60 ∧ d = .int .i64 ((min j (min k s) : Nat) : Int) ∧ DS w wx PF q (stp s k)) (fun _ i _ => 60 - (intOf i).toNat)
      case atStart => exact ⟨0, rfl, Nat.zero_le _, by simp, HD.out⟩
      case round =>
        obtain ⟨j, rfl, hj, rfl, hd⟩ := hrel
        have HDJ := Lib.hid hd
        clear hd HD
        by_cases hj60 : j < 60
        · have hrd := HDJ.out.readAt 0 j (by constructor <;> omega) (by constructor <;> omega) (HINV.out.hasB j hj60) (stp_get HINV.out j hj60)
          have HRD := Lib.hid hrd
          have hjj : (j : Int) < 60 := by omega
          clear hrd
          generalize hv : min j (min k s) = v at *
          have HV := Lib.hid hv
          have hv50 : v ≤ 60 := by omega
          clear hv
          go_wp2_with fail
          refine HRD.out.mono ?_
          rintro e w4 ⟨⟨g, rfl, hg1, hg2, hgc⟩, hd4, _⟩
          have HD4 := Lib.hid hd4
          by_cases hlt2 : j < min k s
          · rw [if_pos hlt2] at hgc
            have c0 : w4.cell? ⟨g, 0, none⟩ = some (.int .u8 1) := by rw [blk_cell hgc 0]; rfl
            clear hgc hd4 hg1 hg2 HRD
            go_wp2
            go_roundw
            case rel => exact ⟨j + 1, by go_num, by omega, by rw [show ((min (j + 1) (min k s) : Nat) : Int) = (v : Int) + 1 by have := HV.out; omega], HD4.out⟩
            case measure => simp [intOf]; omega
          · rw [if_neg hlt2] at hgc
            have c0 : w4.cell? ⟨g, 0, none⟩ = some (.int .u8 0) := by rw [blk_cell hgc 0]; rfl
            clear hgc hd4 hg1 hg2 HRD
            go_wp2
            go_roundw
            case rel => exact ⟨j + 1, by go_num, by omega, by rw [show min (j + 1) (min k s) = v by have := HV.out; omega], HD4.out⟩
            case measure => simp [intOf]; omega
        · obtain rfl : j = 60 := by omega
          have hv0 : min 60 (min k s) = min k s := by omega
          rw [hv0]
          have htr := HDJ.out.trace 0 (by have := congrArg List.length HINV.out.now; rw [this]; exact Nat.zero_lt_one) (by have := HINV.out.dn; omega)
          have HTR := Lib.hid htr
          clear htr hv0
          generalize htl : (traceL (stp s k) 0).length = tl at *
          have HTL := Lib.hid htl
          have htl1 : min k s ≤ tl := by rw [← HTL.out]; exact HINV.out.tr
          have htl2 : tl ≤ 100 := by
            rw [← HTL.out]
            unfold traceL
            rw [List.length_map]
            have h1 := List.length_filter_le (fun x : Wr => x.r == 0) (stp s k).done
            have h2 := HINV.out.dn
            omega
          clear htl
          go_wp2_with fail
          refine HTR.out.mono ?_
          rintro e w4 ⟨⟨v, rfl, htx⟩, hb4⟩
          obtain ⟨A, cap, hv, _, _⟩ := htx.val
          rw [HTL.out] at hv
          subst hv
          have HD4 := Lib.hid (HDJ.out.below hb4 (fun k hk => hk.elim) : DS w w4 PF q (stp s k))
          clear htx hb4 HTR HDJ
          go_wp2_with fail
          have hcr := HD4.out.crash0 (by have := HINV.out.dn; omega)
          have HCR := Lib.hid hcr
          clear hcr
          refine HCR.out.mono ?_
          rintro e w5 ⟨rfl, hd5, _⟩
          have HD5 := Lib.hid hd5
          clear hd5 HCR HD4
          obtain ⟨mn, hmn⟩ : ∃ mn : Nat, mn = min k s := ⟨_, rfl⟩
          have hmn1 : ((min k s : Nat) : Int) = (mn : Int) := by rw [hmn]
          rw [hmn1]
          have e1 : min (s : Int) (k : Int) = (mn : Int) := by omega
          have e2 : ((mn : Int) == mn) = true := by simp
          have e3 : decide ((mn : Int) ≤ tl) = true := by simp; omega
          have HMN := Lib.hid hmn
          clear hmn hmn1
          have htot : (traceL ((stp s k).crash []) 0).length = tl := by rw [traceL_crash]; exact HTL.out
          have hst := HD5.out.stopped
          rw [crash_stops] at hst
          have HST := Lib.hid hst
          have HTOT := Lib.hid htot
          clear hst htot
          go_wp2_with fail
          all_goals (
            refine HST.out.mono ?_
            rintro e w' ⟨rfl, rfl⟩
            go_wp2_with fail
            refine (full_one _ 5 (by omega)).mono ?_
            rintro e w6 ⟨⟨g, rfl, hg, hblk⟩, hb6⟩
            have hd6 : DS w w6 PF q ((stp s k).crash []) := HD5.out.below hb6 (fun k hk => hk.elim)
            have hok6 := fullV_ok (AllB_one 5 (by omega))
            have hB59 : hasB ((stp s k).crash []) 0 59 = true := by rw [hasB_dims (dims_crash ((HOKK.out)) [])]; exact HINV.out.hasB 59 (by omega)
            have hcall := hd6.write64 0 59 (by constructor <;> omega) (by constructor <;> omega) g _ hok6 hblk (by rw [crash_done]; have := HINV.out.dn; omega)
            rw [hB59] at hcall
            have HCALL := Lib.hid hcall
            have HB59 := Lib.hid hB59
            have HOK6 := Lib.hid hok6
            clear hd6 hcall hg hblk hb6 hB59 hok6 HST
            go_wp2_with fail
            refine HCALL.out.mono ?_
            rintro e w7 ⟨rfl, hd7, _⟩
            have hdo : ((stp s k).crash []).doWrite 0 59 (fullV [5]) = ((stp s k).crash []).write 0 59 (fullV [5]) := by
              unfold DM.doWrite; rw [if_pos ⟨HB59.out, HOK6.out.1, crash_stops _ _⟩]; rfl
            rw [hdo] at hd7
            have htl3 : (traceL (((stp s k).crash []).write 0 59 (fullV [5])) 0).length = tl + 1 := by
              rw [traceL_write, if_pos rfl, List.length_append, HTOT.out]; rfl
            have htr := hd7.trace 0 (by have h1 := congrArg List.length (dims_write ((stp s k).crash []) 0 59 (fullV [5])); have h2 := congrArg List.length (dims_crash ((HOKK.out)) []); have h3 := congrArg List.length HINV.out.dims; unfold dims at h1 h2 h3; simp only [List.length_map] at h1 h2 h3; rw [h1, h2, h3]; exact Nat.zero_lt_one) (by
              show (((stp s k).crash []).done ++ [_]).length < _
              rw [List.length_append, crash_done]; have := HINV.out.dn; simp; omega)
            have HTR2 := Lib.hid htr
            have HD7 := Lib.hid hd7
            have HT3 := Lib.hid htl3
            clear htr hd7 htl3 hdo HCALL
            go_wp2_with fail
            refine HTR2.out.mono ?_
            rintro e w8 ⟨⟨v, rfl, htx⟩, hb8⟩
            obtain ⟨A2, cap2, hv, _, _⟩ := htx.val
            rw [HT3.out] at hv
            subst hv
            have HBE := Lib.hid (keepB HD7.out.bel hb8)
            clear htx hb8 HTR2
            go_wp2
            go_ret
            exact ⟨ret_bool (by simp), HBE.out⟩)

set_option maxRecDepth 100000 in
theorem lifted (os : Os) (started : os.Started) (H : Type) (enc : TypeId × Value → H) :
    ReturnsInHanded {} Try.checked os 5 .any (Rows.devStopsSpec.pre6 enc Try.prog Try.f5 Rows.devStopsRow.domain false) (Rows.devStopsSpec.post enc Try.prog Try.f5 false true false false) := by
  refine returnsInHanded_of_change (C := Try.checked) own started (by kernel_rfl) Try.func5
    (ChangeSpec.witness6 (enc := enc) (C := Try.checked) false ⟨#[], #[.int .u8 0, .int .u8 0], []⟩ 8 (by kernel_rfl) (by kernel_rfl) (by kernel_rfl) (by kernel_rfl)) ?_
  intro W base args ds gs before hval0 hW hcnd _
  have hval : ∀ (j : Nat) t v, Try.f5.params[j]? = some t → args[j]? = some v → Value.okWide Try.prog W .any base t v := hval0
  have hW' := hW
  obtain ⟨p, q, hA0, hV, rfl, hfz, hnd⟩ := hW
  have hA : DataW.TrodAll enc Try.prog W 0 (fun _ => true) true Try.f5.params.toList args.toList ds p := hA0
  rw [Try.params5] at hA hval
  obtain ⟨v0, vs0, d0, ds0, p0, q0, hargs, rfl, rfl, h0, r0⟩ := trodAll_cons hA
  obtain ⟨v1, vs1, d1, ds1, p1, q1, rfl, rfl, rfl, h1, r1⟩ := trodAll_cons r0
  obtain ⟨rfl, rfl, rfl⟩ := trodAll_nil r1
  obtain rfl : args = #[v0, v1] := by cases args; simp_all
  obtain ⟨rfl, rfl⟩ := trodVars_none hV
  obtain ⟨x0, rfl, rfl, rfl, wx0⟩ := open_int Try.underlying5 (hval 0 5 v0 rfl rfl) h0
  obtain ⟨x1, rfl, rfl, rfl, wx1⟩ := open_int Try.underlying5 (hval 1 5 v1 rfl rfl) h1
  clear hA0 hval0
  simp only [List.append_nil] at hW'
  refine (walk x0 x1 W (by have := bounds_u8 wx0; omega) (by have := bounds_u8 wx1; omega)).mono fun e W' ⟨he, bel⟩ => ?_
  subst he
  exact ⟨_, rfl, _, _, _, [], _, [], hW', (trodAll_cons_mk (shut_bool Try.underlying4 _) trodAll_mk0), (trodAll_cons_mk (shut_int Try.underlying5 wx0) (trodAll_cons_mk (shut_int Try.underlying5 wx1) trodAll_mk0)), rfl, bel.frame _, fun h => by cases h⟩

theorem over : Rows.devStopsRow.holds Try.pinned (OpenSpec.ofChange Rows.devStopsSpec) :=
  OpenClaim.holds_of_wide 5 Try.f5 rfl rfl rfl rfl rfl rfl rfl ⟨rfl, rfl, rfl, rfl, rfl⟩ rfl rfl rfl rfl rfl (by kernel_rfl) Try.func5 (by kernel_rfl)
    (of_decide_eq_true (by kernel_rfl)) (by unfold Func.isWrapper; first | (rw [if_pos (by decide +kernel)]; kernel_rfl) | (rw [if_neg (by decide +kernel)]; exact ⟨rfl, rfl⟩))
    (fun os started H enc _ => lifted os started H enc)

theorem proved : Rows.DevStopsSaid :=
  over
#print axioms proved
end Go.Proofs.Ytlldpmnidbhlkaa.devStops
