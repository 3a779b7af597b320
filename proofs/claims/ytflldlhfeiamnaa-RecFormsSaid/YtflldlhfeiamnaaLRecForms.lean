/- The law RecForms answers true and leaves its arguments alone. No condition. -/
import Derived.Test.YtflldlhfeiamnaaRows
import Derived.Test.YtflldlhfeiamnaaEy
import Derived.Test.YtflldlhfeiamnaaEu
import Derived.Test.YtflldlhfeiamnaaEs
import Derived.Test.YtflldlhfeiamnaaEk
import Derived.Test.YtflldlhfeiamnaaBi
import Derived.Test.YtflldlhfeiamnaaBf
import Derived.WalkKit
import Derived.ProofKit
import Derived.OpenShut
namespace Go.Proofs.Ytflldlhfeiamnaa.recForms
open Go.ChangeShapes Go.WideShapes Go.ChangeAt Go.RowKit Go.Joins
set_option linter.unusedVariables false
theorem own : ownKnob Try.prog.godebug = none := by kernel_rfl
theorem laidOut : laidOutB Try.prog = true := by kernel_rfl
set_option maxRecDepth 100000 in
set_option maxHeartbeats 12800000 in
theorem walk (w : World) :
    Calls Try.prog 7 #[] w fun e w' => e = .returned (.bool true) ∧ Below w.heap.size w w' := by
  go_enter Try.func7, Try.ntmps7
  go_wp2_with fail
  refine (begun7_any _).mono ?_
  rintro e W1 ⟨rfl, hb1⟩
  have HBL1 := Lib.hid hb1
  have HZ1 := Lib.hid (heap_alloc_new W1 (Obj.cells (wrA zW) 46))
  have HM2 := Lib.hid (new_wr W1 ⟨199, 7, zBs⟩)
  have HBL2 := Lib.hid (keepB hb1 (new_wr_below W1 ⟨199, 7, zBs⟩))
  clear hb1
  go_upto_region 4 with (first
    | (refine wpList_allocW rfl rfl ?_)
    | (refine wpList_buildBk rfl (.const (.int .i64 7)) 7 rfl rfl ?_)
    | (refine wpList_buildW1 rfl (.const (.int .i64 199)) (.tmp 23) 199 7 rfl rfl rfl ?_)
    | (refine wpList_storeW rfl (.tmp 1) (.tmp 24) rfl W1.heap.size rfl ⟨199, 7, zBs⟩ zW rfl zBs_len zW_len HZ1.out ?_))
  generalize (W1.alloc (Obj.cells (wrA zW) 46)).setRow W1.heap.size (wrA ⟨199, 7, zBs⟩) = W2 at *
  have hgl : w.heap.size ≤ W1.heap.size := HBL1.out.size
  generalize W1.heap.size = g at *
  clear HZ1 HBL1
  have c0 : W2.cell? ⟨g, 2, none⟩ = some (.int .u8 0) := by rw [blk_cell HM2.out]; rfl
  have f0 : W2.frozen? ⟨g, 2, none⟩ = false := blk_free HM2.out 2
  have hm3 : (W2.setCell ⟨g, 2, none⟩ (.int .u8 9)).heap[g]? = some (.cells (wrA w9) 46 (0, 0)) := by
    rw [heap_setCell_same' HM2.out]; exact congrArg some (congrArg (fun a => Obj.cells a _ _) (wrA_setB 199 7 zBs 0 9))
  have HM3 := Lib.hid hm3
  have HBL3 : Hid (Below w.heap.size w (W2.setCell ⟨g, 2, none⟩ (.int .u8 9))) := HBL2.out.setCell hgl _
  clear hm3
  go_upto_region 5 with fail
  clear c0 f0 HM2 HBL2
  generalize W2.setCell ⟨g, 2, none⟩ (.int .u8 9) = W3 at *
  have bel4 : Below W3.heap.size W3 (W3.alloc (Obj.cells (wrA w9) 46)) := (Below.refl _ _).alloc (Nat.le_refl _) _
  have HP := Lib.hid (put_any 33 16909060 84281096 _ [w9] 1 1 _ (by omega) (by omega) (by omega) rfl (by omega) (by omega) (fun x hx => by rw [List.mem_singleton.1 hx]; exact w9_ok) (wrs_new (heap_alloc_new W3 (Obj.cells (wrA w9) 46))))
  rw [decide_eq_true may9, putX_may may9] at HP
  go_wp2_with (first
    | (refine wpList_loadW rfl (.tmp 1) rfl g rfl w9 w9_ok.len HM3.out ?_)
    | (refine wpList_oneW rfl (.tmp 29) rfl w9 w9_ok.len rfl ?_))
  refine HP.out.mono ?_
  rintro en W5 ⟨v5, rfl, ot5, hb5⟩
  have HBL5 := Lib.hid (keepB (keepB HBL3.out bel4) hb5)
  have h2 : (putL 33 16909060 84281096 [w9]).length = 2 := putL_length _ _ _ _
  obtain ⟨gb, cb, ys, rfl, hcb, hcmb, _, _, nmb, clb, _⟩ := ot5.parts (by rw [h2]; omega)
  obtain ⟨g0, d0, hy0, hr0⟩ := nmb.at64 (k := 0) (b := sumd (headR 33 16909060 84281096 [w9])) rfl len9h
  obtain ⟨g1, d1, hy1, hr1⟩ := nmb.at64 (k := 1) (b := sumd (bearB 16909060 84281096 w9.bs)) rfl len9b
  have cb0 := clb 0 _ hy0
  have cb1 := clb 1 _ hy1
  obtain ⟨hB0, hd0⟩ := own64 hr0 len9h
  obtain ⟨hB1, hd1⟩ := own64 hr1 len9b
  have cv0 := conv_any (c := d0) (n := 14) (hB0.take 14) (by rw [head9]; rfl)
  rw [head9, str9h] at cv0
  have cv1 := conv_any (c := d1 - 56) (n := 4) (byt_cut hB1 56 4) (by rw [body9b]; rfl)
  rw [body9b, str9b, add_at] at cv1
  have cx := byt_cells hB1 0 (.int .u8 9) (by exact Bs_at body9a)
  rw [add_at] at cx
  have hd56 : ¬ d1 = 56 := by omega
  rw [h2] at hcb ⊢
  clear ot5 hb5 HP bel4 nmb clb hy0 hy1 hr0 hr1 hB0 hB1 HM3 HBL3 h2
  go_upto_region 8 with fail
  clear cb0 cb1 cv0 cv1 cx
  have HM6 := Lib.hid (heap_alloc_new W5 (Obj.cells (manyA 0) 46))
  have HBL6 := Lib.hid (HBL5.out.alloc HBL5.out.size (Obj.cells (manyA 0) 46))
  have hg4 : w.heap.size ≤ W5.heap.size := HBL5.out.size
  go_upto_region 10 with (first
    | (refine wpList_makeW rfl (.const (.int .i64 13)) (.const (.int .i64 13)) rfl rfl rfl ?_))
  generalize W5.alloc (Obj.cells (manyA 0) 46) = W6 at *
  generalize W5.heap.size = g4 at *
  clear HBL5
  go_loopw [5] (fun i wr => ∃ k : Nat, i = .int .i64 k ∧ k ≤ 13 ∧ wr.heap[g4]? = some (.cells (manyA k) 46 (0, 0)) ∧ Below w.heap.size w wr) (fun i _ => 13 - (intOf i).toNat)
  case atStart => exact ⟨0, rfl, Nat.zero_le _, HM6.out, HBL6.out⟩
  case round =>
    clear HM6 HBL6
    obtain ⟨k, rfl, hk, hm, hbel⟩ := hrel
    obtain ⟨W7, rfl⟩ : ∃ W7, W7 = wr := ⟨wr, rfl⟩
    have HM := Lib.hid hm
    have HBL := Lib.hid hbel
    clear hm hbel
    by_cases hlt : k < 13
    · have ck : W7.cell? ⟨g4, k * 58, none⟩ = some (.int .i64 0) := by rw [blk_cell HM.out]; exact many_at hlt
      have fk : W7.frozen? ⟨g4, k * 58, none⟩ = false := blk_free HM.out _
      have hm2 : (W7.setCell ⟨g4, k * 58, none⟩ (.int .i64 (k : Int))).heap[g4]? = some (.cells (manyA (k + 1)) 46 (0, 0)) := by rw [heap_setCell_same' HM.out, many_set hlt]
      have HM2 := Lib.hid hm2
      have HBL2 : Hid (Below w.heap.size w (W7.setCell ⟨g4, k * 58, none⟩ (.int .i64 (k : Int)))) := HBL.out.setCell hg4 _
      clear hm2
      go_wp2
      go_roundw
      case rel => exact ⟨k + 1, by go_num, by omega, HM2.out, HBL2.out⟩
      case measure => simp [intOf]; omega
    · obtain rfl : k = 13 := by omega
      clear hlt hk
      have HP7 := Lib.hid (put_any 0 1 0 _ (manyL 13) 13 13 W7 (by omega) (by omega) (by omega) (many_length 13) (by omega) (by omega) (many_ok 13) (wrs_row HM.out (many_ok 13).len))
      rw [may13] at HP7
      go_wp2_with fail
      refine HP7.out.mono ?_
      rintro en W8 ⟨v8, rfl, _, hb8⟩
      have HM8 := Lib.hid (kbW hb8 HM.out)
      have HBL8 := Lib.hid (keepB HBL.out hb8)
      clear hb8 HM HBL HP7
      have hl12 : ((manyL 13).take 12).length = 12 := by rw [List.length_take, many_length]; rfl
      have hok12 : WrsOk ((manyL 13).take 12) := fun x hx => many_ok 13 x (List.mem_of_mem_take hx)
      have HP8 := Lib.hid (put_any 0 1 0 _ ((manyL 13).take 12) 12 13 W8 (by omega) (by omega) (by omega) hl12 (by omega) (by omega) hok12 ((wrs_row HM8.out (many_ok 13).len).take 12))
      rw [may12, putX_may (of_decide_eq_true may12)] at HP8
      have hl13 : (putL 0 1 0 ((manyL 13).take 12)).length = 13 := by rw [putL_length, hl12]
      generalize putL 0 1 0 ((manyL 13).take 12) = pl at *
      clear hl12 hok12
      go_wp2_with fail
      refine HP8.out.mono ?_
      rintro en W9 ⟨v9, rfl, ot9, hb9⟩
      obtain ⟨A9, d9, rfl, _, _, _⟩ := ot9.tx
      rw [hl13]
      have HBL9 := Lib.hid (keepB HBL8.out hb9)
      clear ot9 hb9 HM8 HBL8 HP8 hl13
      have HP9 := Lib.hid (put_any 0 1 0 none [] 0 0 W9 (by omega) (by omega) (by omega) rfl (by omega) (by omega) (fun x hx => by cases hx) (fun i x hx => by cases hx))
      rw [may0] at HP9
      go_wp2_with fail
      refine HP9.out.mono ?_
      rintro en W10 ⟨v10, rfl, _, hb10⟩
      have HBL10 := Lib.hid (keepB HBL9.out hb10)
      clear hb10 HBL9 HP9
      have HP10 := Lib.hid (put_any 0 1 0 _ [⟨200, 0, zBs⟩] 1 1 _ (by omega) (by omega) (by omega) rfl (by omega) (by omega) (fun x hx => by rw [List.mem_singleton.1 hx]; exact zw_ok (by omega) (by omega)) (wrs_new (heap_alloc_new W10 (Obj.cells (wrA ⟨200, 0, zBs⟩) 46))))
      rw [may200] at HP10
      have bel11 : Below W10.heap.size W10 (W10.alloc (Obj.cells (wrA ⟨200, 0, zBs⟩) 46)) := (Below.refl _ _).alloc (Nat.le_refl _) _
      have HBL11 := Lib.hid (keepB HBL10.out bel11)
      clear bel11 HBL10
      go_wp2_with (first
        | (refine wpList_buildWt rfl (.const (.int .i64 200)) 200 rfl rfl ?_)
        | (refine wpList_oneW rfl (.tmp 107) rfl ⟨200, 0, zBs⟩ zBs_len rfl ?_))
      refine HP10.out.mono ?_
      rintro en W12 ⟨v12, rfl, _, hb12⟩
      have HBL12 := Lib.hid (keepB HBL11.out hb12)
      clear hb12 HBL11 HP10
      have HP12 := Lib.hid (put_any 0 1 0 _ [⟨-1, 0, zBs⟩] 1 1 _ (by omega) (by omega) (by omega) rfl (by omega) (by omega) (fun x hx => by rw [List.mem_singleton.1 hx]; exact zw_ok (by omega) (by omega)) (wrs_new (heap_alloc_new W12 (Obj.cells (wrA ⟨-1, 0, zBs⟩) 46))))
      rw [mayneg] at HP12
      have bel13 : Below W12.heap.size W12 (W12.alloc (Obj.cells (wrA ⟨-1, 0, zBs⟩) 46)) := (Below.refl _ _).alloc (Nat.le_refl _) _
      have HBL13 := Lib.hid (keepB HBL12.out bel13)
      clear bel13 HBL12
      go_wp2_with (first
        | (refine wpList_buildWt rfl (.const (.int .i64 (-1))) (-1) rfl rfl ?_)
        | (refine wpList_oneW rfl (.tmp 113) rfl ⟨-1, 0, zBs⟩ zBs_len rfl ?_))
      refine HP12.out.mono ?_
      rintro en W14 ⟨v14, rfl, _, hb14⟩
      have HBL14 := Lib.hid (keepB HBL13.out hb14)
      clear hb14 HBL13 HP12
      have h33 : WrsOk [w3, w3] := fun x hx => by
        have : x = w3 := by simpa using hx
        rw [this]; exact zw_ok (by omega) (by omega)
      have HP14 := Lib.hid (put_any 0 1 0 _ [w3, w3] 2 2 _ (by omega) (by omega) (by omega) rfl (by omega) (by omega) h33 (wrs_row (heap_alloc_new W14 (Obj.cells (wrsL [w3, w3]).toArray 46)) h33.len))
      rw [may33] at HP14
      have bel15 : Below W14.heap.size W14 (W14.alloc (Obj.cells (wrsL [w3, w3]).toArray 46)) := (Below.refl _ _).alloc (Nat.le_refl _) _
      have HBL15 := Lib.hid (keepB HBL14.out bel15)
      clear bel15 HBL14 h33
      go_wp2_with (first
        | (refine wpList_buildWt rfl (.const (.int .i64 3)) 3 rfl rfl ?_)
        | (refine wpList_twoW rfl (.tmp 119) (.tmp 120) rfl rfl rfl ?_))
      refine HP14.out.mono ?_
      rintro en W16 ⟨v16, rfl, _, hb16⟩
      have HBL16 := Lib.hid (keepB HBL15.out hb16)
      clear hb16 HBL15 HP14
      have HP16 := Lib.hid (put_any 0 1 0 _ [⟨0, 8, zBs⟩] 1 1 _ (by omega) (by omega) (by omega) rfl (by omega) (by omega) (fun x hx => by rw [List.mem_singleton.1 hx]; exact zw_ok (by omega) (by omega)) (wrs_new (heap_alloc_new W16 (Obj.cells (wrA ⟨0, 8, zBs⟩) 46))))
      rw [mayk8] at HP16
      have bel17 : Below W16.heap.size W16 (W16.alloc (Obj.cells (wrA ⟨0, 8, zBs⟩) 46)) := (Below.refl _ _).alloc (Nat.le_refl _) _
      have HBL17 := Lib.hid (keepB HBL16.out bel17)
      clear bel17 HBL16
      go_wp2_with (first
        | (refine wpList_buildBk rfl (.const (.int .i64 8)) 8 rfl rfl ?_)
        | (refine wpList_buildWk rfl (.tmp 126) 8 rfl rfl ?_)
        | (refine wpList_oneW rfl (.tmp 127) rfl ⟨0, 8, zBs⟩ zBs_len rfl ?_))
      refine HP16.out.mono ?_
      rintro en W18 ⟨v18, rfl, _, hb18⟩
      have HBL18 := Lib.hid (keepB HBL17.out hb18)
      clear hb18 HBL17 HP16
      go_wp2_with fail
      refine (anchor_any 33 258 W18 (by omega) (by omega)).mono ?_
      rintro en W19 ⟨v19, rfl, own19, hb19⟩
      obtain ⟨A19, d19, rfl, hl19, hm19, hy19⟩ := byt_own own19 (anchorB_length _ _)
      have HBL19 := Lib.hid (keepB HBL18.out hb19)
      have cva := conv_any (c := d19) (n := 8) (hy19.take 8) (by rw [anch9]; rfl)
      rw [anch9, str9a] at cva
      clear own19 hb19 hy19 HBL18
      go_wp2_with fail
      go_ret
      exact ⟨rfl, HBL19.out⟩

set_option maxRecDepth 100000 in
theorem lifted (os : Os) (started : os.Started) (H : Type) (enc : TypeId × Value → H) :
    ReturnsInHanded {} Try.checked os 7 .any (Rows.recFormsSpec.pre6 enc Try.prog Try.f7 Rows.recFormsRow.domain false) (Rows.recFormsSpec.post enc Try.prog Try.f7 false true false false) := by
  refine returnsInHanded_of_change (C := Try.checked) own started (by kernel_rfl) Try.func7
    (ChangeSpec.witness6 (enc := enc) (C := Try.checked) false ⟨#[], #[], []⟩ 8 (by kernel_rfl) (by kernel_rfl) (by kernel_rfl) (by kernel_rfl)) ?_
  intro W base args ds gs before hval0 hW hcnd _
  have hW' := hW
  obtain ⟨p, q, hA0, hV, rfl, hfz, hnd⟩ := hW
  have hA : DataW.TrodAll enc Try.prog W 0 (fun _ => true) true Try.f7.params.toList args.toList ds p := hA0
  rw [Try.params7] at hA
  obtain ⟨rfl, rfl, rfl⟩ := trodAll_none hA
  obtain ⟨rfl, rfl⟩ := trodVars_none hV
  clear hA0 hval0
  simp only [List.append_nil] at hW'
  refine (walk W).mono fun e W' ⟨he, bel⟩ => ?_
  subst he
  exact ⟨_, rfl, _, _, _, [], _, [], hW', (trodAll_cons_mk (shut_bool Try.underlying4 _) trodAll_mk0), rfl, rfl, bel.frame _, fun h => by cases h⟩

theorem over : Rows.recFormsRow.holds Try.pinned (OpenSpec.ofChange Rows.recFormsSpec) :=
  OpenClaim.holds_of_wide 7 Try.f7 rfl rfl rfl rfl rfl rfl rfl ⟨rfl, rfl, rfl, rfl, rfl⟩ rfl rfl rfl rfl rfl (by kernel_rfl) Try.func7 (by kernel_rfl)
    (of_decide_eq_true (by kernel_rfl)) (by unfold Func.isWrapper; first | (rw [if_pos (by decide +kernel)]; kernel_rfl) | (rw [if_neg (by decide +kernel)]; exact ⟨rfl, rfl⟩))
    (fun os started H enc _ => lifted os started H enc)

theorem proved : Rows.RecFormsSaid :=
  over
#print axioms proved
end Go.Proofs.Ytflldlhfeiamnaa.recForms
