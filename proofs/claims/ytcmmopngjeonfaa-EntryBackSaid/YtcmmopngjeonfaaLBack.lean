/- The law EntryBack answers true for every input, and leaves its arguments alone. No condition. -/
import Derived.Test.YtcmmopngjeonfaaRows
import Derived.Test.YtcmmopngjeonfaaYj
import Derived.WalkKit
import Derived.ProofKit
import Derived.OpenShut
namespace Go.Proofs.Ytcmmopngjeonfaa.entryBack
open Go.ChangeShapes Go.WideShapes Go.ChangeAt Go.RowKit Go.Joins
set_option linter.unusedVariables false
theorem own : ownKnob Try.prog.godebug = none := by kernel_rfl
theorem laidOut : laidOutB Try.prog = true := by kernel_rfl
theorem wpList_buildB0w {ops : Array Oper} {rest : List Oper} {o : Oper} {a : Act} {w : World} {Q : Exit → Act → World → Prop} (hw : Region.wanted o (yielded ops a.tmps) = true) (ho : o.op = .build 29 #[])
    (h : wpList Try.prog ops Q rest (a.put o.dst (.agg (blkA 0 zBs))) w) : wpList Try.prog ops Q (o :: rest) a w :=
  BigFrame.wpList_want hw fun _ hK => by
    unfold Oper.wp execOp
    have hb := run_build (P := Try.prog) w 29 #[] _ built24
    simp only [ho, List.map_toArray, List.map_nil, Sem.run_bind, hb, Result.andThen_ok]
    exact hK _ _ h
set_option maxRecDepth 100000 in
set_option maxHeartbeats 6400000 in
theorem walk (n0 : En) (x1 : Int) (x2 : Int) (w : World) (hn0 : EnOk n0) (hx1 : 0 ≤ x1 ∧ x1 ≤ 255) (hx2 : 0 ≤ x2 ∧ x2 ≤ 255) :
    Calls Try.prog 4 #[.agg (enA n0), .int .u8 x1, .int .u8 x2] w fun e w' => e = .returned (.bool true) ∧ Below w.heap.size w w' := by
  obtain ⟨n, rfl⟩ : ∃ n, n = n0 := ⟨_, rfl⟩
  have HNO := Lib.hid hn0
  have HN0 : Hid (EnAt (w.alloc (Obj.cells (enA n) 26)) w.heap.size n) := EnAt.new w n
  have HB0 : Hid (Below w.heap.size w (w.alloc (Obj.cells (enA n) 26))) := bel1 _
  have HSZ := Lib.hid (strOfNums_size n.t)
  have HI : Hid (i64 6) := ⟨by decide, by decide⟩
  go_enter Try.func4, Try.ntmps4
  go_upto_region 1 with fail
  generalize w.alloc (Obj.cells (enA n) 26) = W0 at *
  go_wp2_with fail
  refine (ebegun_any _).mono ?_; rintro e W1 ⟨rfl, hb1⟩
  have HN1 := Lib.hid (HN0.out.below hb1)
  have HB1 := Lib.hid (HB0.out.trans (hb1.mono HB0.out.size))
  clear hb1 HN0 HB0
  go_upto_region 3 with fail
  have c8 := HN1.out.cells.1
  by_cases h60 : 30 < n.t.length
  · have h60' : (30 : Int) < ((strOfNums n.t).size : Int) := by rw [HSZ.out]; omega
    clear h60
    go_wp2_with fail
    go_ret
    exact ⟨rfl, HB1.out⟩
  have h60' : ¬ (30 : Int) < ((strOfNums n.t).size : Int) := by rw [HSZ.out]; omega
  have HPUT := Lib.hid (fun W => enput_any n W HNO.out)
  have HM := Lib.hid (fun W => enmay_any n W HNO.out)
  have HL : Hid ((putEB n).length = 56) := putEB_len
  have HLB : Hid (AllB (putEB n)) := putEB_allB HNO.out.t
  clear h60
  by_cases hm : MayE n
  · have hpb := putEB_may hm
    have hpk := putEK_may hm
    have hD := decide_eq_true hm
    have HTP : Hid (ETaken 6 (putEB n) ∧ takeE 6 (putEB n) = n) := by unfold Hid; rw [hpb]; exact etaken_pad hm HNO.out
    have HPB := Lib.hid hpb
    rw [hpk, hD] at HPUT
    rw [hD] at HM
    have HMY := Lib.hid hm
    clear hm hpb hpk hD
    have HTAKE := Lib.hid (fun W => entake_any 6 (putEB n) W HI.out HL.out HLB.out)
    rw [decide_eq_true HTP.out.1, HTP.out.2] at HTAKE
    obtain ⟨v2, rfl⟩ : ∃ v2 : Nat, x1 = (v2 : Int) := ⟨x1.toNat, by omega⟩
    have hv56 : v2 % 56 < 56 := Nat.mod_lt _ (by omega)
    obtain ⟨x, hx⟩ : ∃ x, (putEB n)[v2 % 56]? = some x := ⟨_, List.getElem?_eq_getElem (by rw [HL.out]; exact hv56)⟩
    have hxb := HLB.out x (List.mem_of_getElem? hx)
    have HXOR := Lib.hid (xor_byte hxb hx2)
    have HX := Lib.hid hx
    have HCL : Hid (((putEB n).set (v2 % 56) (bits .xor .u8 x x2)).length = 56) := by unfold Hid; rw [List.length_set]; exact HL.out
    have HCB : Hid (AllB ((putEB n).set (v2 % 56) (bits .xor .u8 x x2))) := set_allB HLB.out _ HXOR.out.1
    have HCE : Hid ((putEB n).set (v2 % 56) (bits .xor .u8 x x2) = putEB n ↔ x2 = 0) := by
      constructor
      · intro h
        have h1 : ((putEB n).set (v2 % 56) (bits .xor .u8 x x2))[v2 % 56]? = (putEB n)[v2 % 56]? := by rw [h]
        rw [List.getElem?_set_self (by rw [HL.out]; exact hv56), HX.out] at h1
        injection h1 with h1
        exact HXOR.out.2.1 h1
      · intro h
        rw [HXOR.out.2.2 h]
        apply List.ext_getElem?
        intro i
        rw [List.getElem?_set]
        split
        · rename_i e; subst e; rw [if_pos (by rw [HL.out]; exact hv56), HX.out]
        · rfl
    clear hx hxb
    generalize putEB n = pb at *
    have HTC := Lib.hid (fun W => entake_any 6 (pb.set (v2 % 56) (bits .xor .u8 x x2)) W HI.out HCL.out HCB.out)
    have HTO : Hid (EnOk (takeE 6 (pb.set (v2 % 56) (bits .xor .u8 x x2)))) := takeE_ok HCL.out HCB.out
    have HPT := Lib.hid (fun W => enput_any (takeE 6 (pb.set (v2 % 56) (bits .xor .u8 x x2))) W HTO.out)
    have HFIN : Hid (ETaken 6 (pb.set (v2 % 56) (bits .xor .u8 x x2)) → MayE (takeE 6 (pb.set (v2 % 56) (bits .xor .u8 x x2))) ∧ putEB (takeE 6 (pb.set (v2 % 56) (bits .xor .u8 x x2))) = pb.set (v2 % 56) (bits .xor .u8 x x2) ∧ putEK (takeE 6 (pb.set (v2 % 56) (bits .xor .u8 x x2))) = 6 ∧ (takeE 6 (pb.set (v2 % 56) (bits .xor .u8 x x2)) = n ↔ x2 = 0)) := fun h => by
      have e : takeE 6 (pb.set (v2 % 56) (bits .xor .u8 x x2)) = rdE (pb.set (v2 % 56) (bits .xor .u8 x x2)) := by unfold takeE; rw [if_pos h]
      have h1 : MayE (takeE 6 (pb.set (v2 % 56) (bits .xor .u8 x x2))) := by rw [e]; exact h.2.1
      have h2 : putEB (takeE 6 (pb.set (v2 % 56) (bits .xor .u8 x x2))) = pb.set (v2 % 56) (bits .xor .u8 x x2) := by rw [putEB_may h1, e]; exact h.2.2.2
      refine ⟨h1, h2, putEK_may h1, ?_⟩
      rw [← HCE.out]
      constructor
      · intro h3
        rw [h3, putEB_may HMY.out, ← HPB.out] at h2
        exact h2.symm
      · intro h3
        rw [h3]; exact HTP.out.2
    clear HTP HPB HMY HCE HXOR
    go_wp2_with (refine wpList_loadE rfl (.tmp 3) rfl w.heap.size rfl n HN1.out ?_)
    clear c8 h60'
    refine (HPUT.out _).mono ?_; rintro e X2 ⟨rfl, hb⟩
    have hz := heap_alloc_new X2 (Obj.cells (blkA 0 zBs) 29)
    have b2 : Below X2.heap.size X2 ((X2.alloc (Obj.cells (blkA 0 zBs) 29)).setRow X2.heap.size (blkA 6 pb)) := below_setRow (bel1 _) (Nat.le_refl _) _
    have HQ7 := Lib.hid (setRow_blk (D := blkA 6 pb) hz)
    have HS := HB1.out.size
    have HN2 := Lib.hid ((HN1.out.below hb).below b2)
    have HB2 := Lib.hid ((HB1.out.trans (hb.mono HS)).trans (b2.mono (Nat.le_trans HS hb.size)))
    clear hb b2 HS HN1 HB1 
    go_upto_region 6 with (first
      | (refine wpList_allocB rfl rfl ?_)
      | (refine wpList_storeB rfl (.tmp 7) (.tmp 25) rfl X2.heap.size rfl 6 0 pb zBs rfl HL.out zBs_len hz ?_))
    clear hz
    generalize (X2.alloc (Obj.cells (blkA 0 zBs) 29)).setRow X2.heap.size (blkA 6 pb) = Y2 at *
    generalize X2.heap.size = q7 at *
    go_wp2_with (refine wpList_loadB rfl (.tmp 7) rfl q7 rfl 6 pb HL.out HQ7.out ?_)
    refine (HTAKE.out _).mono ?_; rintro e X4 ⟨rfl, hb⟩
    have hz := EnAt.new X4 en0
    have b2 : Below X4.heap.size X4 ((X4.alloc (Obj.cells (enA en0) 26)).setRow X4.heap.size (enA n)) := below_setRow (bel1 _) (Nat.le_refl _) _
    have HQ9 := Lib.hid (hz.set n)
    have HS := HB2.out.size
    have HN4 := Lib.hid ((HN2.out.below hb).below b2)
    have HB4 := Lib.hid ((HB2.out.trans (hb.mono HS)).trans (b2.mono (Nat.le_trans HS hb.size)))
    have HQ7' := Lib.hid (kb b2 (kb hb HQ7.out))
    clear hb b2 HS HN2 HB2 HQ7
    have HQ7 := HQ7'
    clear HQ7'
    go_upto_region 9 with (first
      | (refine wpList_allocE rfl rfl ?_)
      | (refine wpList_storeE rfl (.tmp 9) (.tmp 40) rfl X4.heap.size rfl n en0 rfl hz ?_))
    clear hz
    generalize (X4.alloc (Obj.cells (enA en0) 26)).setRow X4.heap.size (enA n) = Y4 at *
    generalize X4.heap.size = q9 at *
    have hz := heap_alloc_new Y4 (Obj.cells (blkA 0 zBs) 29)
    have b2 : Below Y4.heap.size Y4 ((Y4.alloc (Obj.cells (blkA 0 zBs) 29)).setRow Y4.heap.size (blkA 6 pb)) := below_setRow (bel1 _) (Nat.le_refl _) _
    have HQ11 := Lib.hid (setRow_blk (D := blkA 6 pb) hz)
    have HN5 := Lib.hid (HN4.out.below b2)
    have HB5 := Lib.hid (HB4.out.trans (b2.mono HB4.out.size))
    have HQ7' := Lib.hid (kb b2 HQ7.out)
    have HQ9' := Lib.hid (EnAt.below HQ9.out b2)
    have HP13 := Lib.hid (room_lt HQ7.out)
    have HP14 := Lib.hid (room_lt HQ9.out)
    have HP15 := Lib.hid (room_lt HN4.out)
    clear b2 HN4 HB4 HQ9
    go_upto_region 10 with (first
      | (refine wpList_loadB rfl (.tmp 7) rfl q7 rfl 6 pb HL.out HQ7.out ?_)
      | (refine wpList_allocB rfl rfl ?_)
      | (refine wpList_storeB rfl (.tmp 11) (.tmp 42) rfl Y4.heap.size rfl 6 0 pb zBs rfl HL.out zBs_len hz ?_))
    clear hz HQ7
    have HQ7 := HQ7'
    have HQ9 := HQ9'
    clear HQ7' HQ9'
    generalize (Y4.alloc (Obj.cells (blkA 0 zBs) 29)).setRow Y4.heap.size (blkA 6 pb) = Y5 at *
    generalize Y4.heap.size = q11 at *
    have c0 : Y5.cell? ⟨q11, 1 + v2 % 56, none⟩ = some (.int .u8 x) := by
      rw [blk_cell HQ11.out, ← Array.getElem?_toList, blkA_list]
      unfold blkL
      rw [Nat.add_comm]
      exact Bs_at HX.out
    have f0 : Y5.frozen? ⟨q11, 1 + v2 % 56, none⟩ = false := blk_free HQ11.out _
    have HQ11' : Hid ((Y5.setCell ⟨q11, 1 + v2 % 56, none⟩ (.int .u8 (bits .xor .u8 x x2))).heap[q11]? = some (.cells (blkA 6 (pb.set (v2 % 56) (bits .xor .u8 x x2))) 29 (0, 0))) := by
      unfold Hid; rw [heap_setCell_same' HQ11.out, blkA_setB]
    have HQ7' : Hid ((Y5.setCell ⟨q11, 1 + v2 % 56, none⟩ (.int .u8 (bits .xor .u8 x x2))).heap[q7]? = some (.cells (blkA 6 pb) 29 (0, 0))) := by
      unfold Hid; rw [heap_setCell_other Y5 _ _ _ (show q7 ≠ q11 by have := HP13.out; omega)]; exact HQ7.out
    have HQ9' : Hid (EnAt (Y5.setCell ⟨q11, 1 + v2 % 56, none⟩ (.int .u8 (bits .xor .u8 x x2))) q9 n) := by
      unfold Hid EnAt; rw [heap_setCell_other Y5 _ _ _ (show q9 ≠ q11 by have := HP14.out; omega)]; exact HQ9.out
    have HN6 : Hid (EnAt (Y5.setCell ⟨q11, 1 + v2 % 56, none⟩ (.int .u8 (bits .xor .u8 x x2))) w.heap.size n) := by
      unfold Hid EnAt; rw [heap_setCell_other Y5 _ _ _ (show w.heap.size ≠ q11 by have := HP15.out; omega)]; exact HN5.out
    have HB6 : Hid (Below w.heap.size w (Y5.setCell ⟨q11, 1 + v2 % 56, none⟩ (.int .u8 (bits .xor .u8 x x2)))) := HB5.out.setCell (show w.heap.size ≤ q11 from Nat.le_of_lt HP15.out) _
    go_upto_region 11 with fail
    clear c0 f0 HQ7 HQ9 HQ11 HN5 HB5 HP13 HP14 HP15
    have HQ7 := HQ7'
    have HQ9 := HQ9'
    have HQ11 := HQ11'
    clear HQ7' HQ9' HQ11'
    generalize Y5.setCell ⟨q11, 1 + v2 % 56, none⟩ (.int .u8 (bits .xor .u8 x x2)) = Y6 at *
    generalize pb.set (v2 % 56) (bits .xor .u8 x x2) = cs at *
    go_wp2_with (refine wpList_loadB rfl (.tmp 11) rfl q11 rfl 6 cs HCL.out HQ11.out ?_)
    have HYO := HTO
    generalize hdT : decide (ETaken 6 cs) = tk at *
    have HDT : Hid (tk = true → ETaken 6 cs) := fun h => by rw [h] at hdT; exact of_decide_eq_true hdT
    clear hdT
    generalize takeE 6 cs = y at *
    refine (HTC.out _).mono ?_; rintro e X7 ⟨rfl, hb⟩
    have hz := EnAt.new X7 en0
    have b2 : Below X7.heap.size X7 ((X7.alloc (Obj.cells (enA en0) 26)).setRow X7.heap.size (enA y)) := below_setRow (bel1 _) (Nat.le_refl _) _
    have HQ12 := Lib.hid (hz.set y)
    have HS := HB6.out.size
    have HN7 := Lib.hid ((HN6.out.below hb).below b2)
    have HB7 := Lib.hid ((HB6.out.trans (hb.mono HS)).trans (b2.mono (Nat.le_trans HS hb.size)))
    have HQ7' := Lib.hid (kb b2 (kb hb HQ7.out))
    have HQ9' := Lib.hid ((EnAt.below HQ9.out hb).below b2)
    have HQ11' := Lib.hid (kb b2 (kb hb HQ11.out))
    clear hb b2 HS HN6 HB6 HQ7 HQ9 HQ11
    have HQ7 := HQ7'
    clear HQ7'
    have HQ9 := HQ9'
    clear HQ9'
    have HQ11 := HQ11'
    clear HQ11'
    go_upto_region 12 with (first
      | (refine wpList_allocE rfl rfl ?_)
      | (refine wpList_storeE rfl (.tmp 12) (.tmp 55) rfl X7.heap.size rfl y en0 rfl hz ?_))
    clear hz
    generalize (X7.alloc (Obj.cells (enA en0) 26)).setRow X7.heap.size (enA y) = Y7 at *
    generalize X7.heap.size = q12 at *
    go_wp2_with (refine wpList_loadE rfl (.tmp 12) rfl q12 rfl y HQ12.out ?_)
    have HYL : Hid ((putEB y).length = 56) := putEB_len
    have HYB : Hid (AllB (putEB y)) := putEB_allB HYO.out.t
    generalize hdM : decide (MayE y) = dm at *
    have HDM : Hid (MayE y → dm = true) := fun h => by rw [← hdM]; exact decide_eq_true h
    clear hdM
    generalize putEB y = yb at *
    generalize putEK y = yk at *
    refine (HPT.out _).mono ?_; rintro e X8 ⟨rfl, hb⟩
    have hz := heap_alloc_new X8 (Obj.cells (blkA 0 zBs) 29)
    have b2 : Below X8.heap.size X8 ((X8.alloc (Obj.cells (blkA 0 zBs) 29)).setRow X8.heap.size (blkA yk yb)) := below_setRow (bel1 _) (Nat.le_refl _) _
    have HQ14 := Lib.hid (setRow_blk (D := blkA yk yb) hz)
    have HS := HB7.out.size
    have HN8 := Lib.hid ((HN7.out.below hb).below b2)
    have HB8 := Lib.hid ((HB7.out.trans (hb.mono HS)).trans (b2.mono (Nat.le_trans HS hb.size)))
    have HQ7' := Lib.hid (kb b2 (kb hb HQ7.out))
    have HQ9' := Lib.hid ((EnAt.below HQ9.out hb).below b2)
    have HQ11' := Lib.hid (kb b2 (kb hb HQ11.out))
    have HQ12' := Lib.hid ((EnAt.below HQ12.out hb).below b2)
    clear hb b2 HS HN7 HB7 HQ7 HQ9 HQ11 HQ12
    have HQ7 := HQ7'
    clear HQ7'
    have HQ9 := HQ9'
    clear HQ9'
    have HQ11 := HQ11'
    clear HQ11'
    have HQ12 := HQ12'
    clear HQ12'
    go_upto_region 13 with (first
      | (refine wpList_allocB rfl rfl ?_)
      | (refine wpList_storeB rfl (.tmp 14) (.tmp 60) rfl X8.heap.size rfl yk 0 yb zBs rfl HYL.out zBs_len hz ?_))
    clear hz
    generalize (X8.alloc (Obj.cells (blkA 0 zBs) 29)).setRow X8.heap.size (blkA yk yb) = Y8 at *
    generalize X8.heap.size = q14 at *
    go_wp2_with (refine wpList_loadE rfl (.tmp 3) rfl w.heap.size rfl n HN8.out ?_)
    refine (HM.out _).mono ?_; rintro e X9 ⟨rfl, hb⟩
    have HN9 := Lib.hid (HN8.out.below hb)
    have HB9 := Lib.hid (HB8.out.trans (hb.mono HB8.out.size))
    have HR9 := Lib.hid (EnAt.below HQ9.out hb)
    have HR11 := Lib.hid (kb hb HQ11.out)
    have HR12 := Lib.hid (EnAt.below HQ12.out hb)
    have HR14 := Lib.hid (kb hb HQ14.out)
    clear hb HN8 HB8 HQ7 HQ9 HQ11 HQ12 HQ14
    cases tk
    · go_wp2_with (first
        | (refine wpList_loadEw (by rfl) (.tmp 9) rfl q9 rfl n HR9.out ?_)
        | (refine wpList_loadEw (by rfl) (.tmp 3) rfl w.heap.size rfl n HN9.out ?_)
        | (refine wpList_eqlEw (by rfl) (.tmp 68) (.tmp 69) _ rfl n n rfl rfl HNO.out HNO.out ?_; rw [show decide (n = n) = true by simp]))
      go_ret
      exact ⟨rfl, HB9.out⟩
    · obtain ⟨hmy, hyb, hyk, hiff⟩ := HFIN.out (HDT.out rfl)
      have hdm := HDM.out hmy
      subst hdm
      subst hyb
      subst hyk
      have HIF := Lib.hid hiff
      clear hmy hiff
      by_cases h3 : x2 = 0
      · have HEY := Lib.hid (decide_eq_true (HIF.out.2 h3))
        go_wp2_with (first
          | (refine wpList_loadEw (by rfl) (.tmp 9) rfl q9 rfl n HR9.out ?_)
          | (refine wpList_loadEw (by rfl) (.tmp 3) rfl w.heap.size rfl n HN9.out ?_)
          | (refine wpList_eqlEw (by rfl) (.tmp 68) (.tmp 69) _ rfl n n rfl rfl HNO.out HNO.out ?_; rw [show decide (n = n) = true by simp])
          | (refine wpList_loadBw (by rfl) (.tmp 14) rfl q14 rfl 6 yb HCL.out HR14.out ?_)
          | (refine wpList_loadBw (by rfl) (.tmp 11) rfl q11 rfl 6 yb HCL.out HR11.out ?_)
          | (refine wpList_eqlBw (by rfl) (.tmp 78) (.tmp 79) _ rfl 6 6 yb yb rfl rfl HCL.out HCL.out HCB.out HCB.out ?_; rw [show decide ((6 : Int) = 6 ∧ yb = yb) = true by simp])
          | (refine wpList_loadEw (by rfl) (.tmp 12) rfl q12 rfl y HR12.out ?_)
          | (refine wpList_eqlEw (by rfl) (.tmp 83) (.tmp 84) _ rfl y n rfl rfl HYO.out HNO.out ?_; rw [HEY.out]))
        go_ret
        exact ⟨rfl, HB9.out⟩
      · have HEY := Lib.hid (decide_eq_false (fun e => h3 (HIF.out.1 e)))
        have h3b : (x2 == 0) = false := by simpa using h3
        have h3c : decide (x2 = 0) = false := decide_eq_false h3
        clear h3
        go_wp2_with (first
          | (refine wpList_loadEw (by rfl) (.tmp 9) rfl q9 rfl n HR9.out ?_)
          | (refine wpList_loadEw (by rfl) (.tmp 3) rfl w.heap.size rfl n HN9.out ?_)
          | (refine wpList_eqlEw (by rfl) (.tmp 68) (.tmp 69) _ rfl n n rfl rfl HNO.out HNO.out ?_; rw [show decide (n = n) = true by simp])
          | (refine wpList_loadBw (by rfl) (.tmp 14) rfl q14 rfl 6 yb HCL.out HR14.out ?_)
          | (refine wpList_loadBw (by rfl) (.tmp 11) rfl q11 rfl 6 yb HCL.out HR11.out ?_)
          | (refine wpList_eqlBw (by rfl) (.tmp 78) (.tmp 79) _ rfl 6 6 yb yb rfl rfl HCL.out HCL.out HCB.out HCB.out ?_; rw [show decide ((6 : Int) = 6 ∧ yb = yb) = true by simp])
          | (refine wpList_loadEw (by rfl) (.tmp 12) rfl q12 rfl y HR12.out ?_)
          | (refine wpList_eqlEw (by rfl) (.tmp 83) (.tmp 84) _ rfl y n rfl rfl HYO.out HNO.out ?_; rw [HEY.out]))
        go_ret
        exact ⟨rfl, HB9.out⟩
  · have hpb : putEB n = zBs := by unfold putEB; rw [if_neg hm]
    have hpk : putEK n = 0 := by unfold putEK; rw [if_neg hm]
    have hD := decide_eq_false hm
    rw [hpk, hpb, hD] at HPUT
    rw [hD] at HM
    clear hm hpb hpk hD HL HLB
    go_wp2_with (refine wpList_loadE rfl (.tmp 3) rfl w.heap.size rfl n HN1.out ?_)
    clear c8 h60'
    refine (HPUT.out _).mono ?_; rintro e X2 ⟨rfl, hb⟩
    have hz := heap_alloc_new X2 (Obj.cells (blkA 0 zBs) 29)
    have b2 : Below X2.heap.size X2 ((X2.alloc (Obj.cells (blkA 0 zBs) 29)).setRow X2.heap.size (blkA 0 zBs)) := below_setRow (bel1 _) (Nat.le_refl _) _
    have HQ7 := Lib.hid (setRow_blk (D := blkA 0 zBs) hz)
    have HS := HB1.out.size
    have HN2 := Lib.hid ((HN1.out.below hb).below b2)
    have HB2 := Lib.hid ((HB1.out.trans (hb.mono HS)).trans (b2.mono (Nat.le_trans HS hb.size)))
    clear hb b2 HS HN1 HB1 
    go_upto_region 6 with (first
      | (refine wpList_allocB rfl rfl ?_)
      | (refine wpList_storeB rfl (.tmp 7) (.tmp 25) rfl X2.heap.size rfl 0 0 zBs zBs rfl zBs_len zBs_len hz ?_))
    clear hz
    generalize (X2.alloc (Obj.cells (blkA 0 zBs) 29)).setRow X2.heap.size (blkA 0 zBs) = Y2 at *
    generalize X2.heap.size = q7 at *
    go_wp2_with (refine wpList_loadE rfl (.tmp 3) rfl w.heap.size rfl n HN2.out ?_)
    refine (HM.out _).mono ?_; rintro e X3 ⟨rfl, hb⟩
    have HB3 := Lib.hid (HB2.out.trans (hb.mono HB2.out.size))
    have HQ7' := Lib.hid (kb hb HQ7.out)
    clear hb HN2 HB2 HQ7
    go_wp2_with (first
      | (refine wpList_loadBw (by rfl) (.tmp 7) rfl q7 rfl 0 zBs zBs_len HQ7'.out ?_)
      | (refine wpList_buildB0w (by rfl) rfl ?_)
      | (refine wpList_eqlBw (by rfl) (.tmp 33) (.tmp 34) _ rfl 0 0 zBs zBs rfl rfl zBs_len zBs_len zBs_allB zBs_allB ?_; rw [show decide ((0 : Int) = 0 ∧ zBs = zBs) = true by simp]))
    go_ret
    exact ⟨rfl, HB3.out⟩

set_option maxRecDepth 100000 in
theorem lifted (os : Os) (started : os.Started) (H : Type) (enc : TypeId × Value → H) :
    ReturnsInHanded {} Try.checked os 4 .any (Rows.entryBackSpec.pre6 enc Try.prog Try.f4 Rows.entryBackRow.domain false) (Rows.entryBackSpec.post enc Try.prog Try.f4 false true false false) := by
  refine returnsInHanded_of_change (C := Try.checked) own started (by kernel_rfl) Try.func4
    (ChangeSpec.witness6 (enc := enc) (C := Try.checked) false ⟨#[], #[.agg (enA en0), .int .u8 0, .int .u8 0], []⟩ 8 (by kernel_rfl) (by kernel_rfl) (by kernel_rfl) (by kernel_rfl)) ?_
  intro W base args ds gs before hval0 hW hcnd _
  have hval : ∀ (j : Nat) t v, Try.f4.params[j]? = some t → args[j]? = some v → Value.okWide Try.prog W .any base t v := hval0
  have hW' := hW
  obtain ⟨p, q, hA0, hV, rfl, hfz, hnd⟩ := hW
  have hA : DataW.TrodAll enc Try.prog W 0 (fun _ => true) true Try.f4.params.toList args.toList ds p := hA0
  rw [Try.params4] at hA hval
  obtain ⟨v0, vs0, d0, ds0, p0, q0, hargs, rfl, rfl, h0, r0⟩ := trodAll_cons hA
  obtain ⟨v1, vs1, d1, ds1, p1, q1, rfl, rfl, rfl, h1, r1⟩ := trodAll_cons r0
  obtain ⟨v2, vs2, d2, ds2, p2, q2, rfl, rfl, rfl, h2, r2⟩ := trodAll_cons r1
  obtain ⟨rfl, rfl, rfl⟩ := trodAll_nil r2
  obtain rfl : args = #[v0, v1, v2] := by cases args; simp_all
  obtain ⟨rfl, rfl⟩ := trodVars_none hV
  obtain ⟨cs0, rfl, _⟩ := okWide_struct Try.underlying26 (hval 0 26 v0 rfl rfl)
  obtain ⟨x1, rfl, rfl, rfl, wx1⟩ := open_int Try.underlying5 (hval 1 5 v1 rfl rfl) h1
  obtain ⟨x2, rfl, rfl, rfl, wx2⟩ := open_int Try.underlying5 (hval 2 5 v2 rfl rfl) h2
  clear hA0 hval0
  simp only [List.append_nil] at hW'
  have hlt0 : ∀ y ∈ p0, y.block < W.heap.size := fun y hy => by simpa using hW'.lt y (by simp [hy])
  have harg0 : ∀ W' : World, Below W.heap.size W W' → DataW.Trod enc Try.prog W' 0 (fun b => decide (b < W.heap.size)) true 26 (.agg cs0) d0 p0 :=
    fun W' hn => Below.trod laidOut (by kernel_rfl) (of_decide_eq_true (by kernel_rfl)) h0 hn (fun y hy => hlt0 y hy)
  obtain ⟨fu0, hf0⟩ := h0
  obtain ⟨n0, e0, hn0⟩ := open_en hf0
  obtain rfl : cs0 = enA n0 := by
    apply Array.ext'; rw [← e0]; simp [Value.cells]
  refine (walk n0 x1 x2 W hn0 (by have := bounds_u8 wx1; omega) (by have := bounds_u8 wx2; omega)).mono fun e W' ⟨he, bel⟩ => ?_
  subst he
  exact ⟨_, rfl, _, _, _, [], _, [], hW', (trodAll_cons_mk (shut_bool Try.underlying4 _) trodAll_mk0), (trodAll_cons_mk (harg0 _ bel) (trodAll_cons_mk (shut_int Try.underlying5 wx1) (trodAll_cons_mk (shut_int Try.underlying5 wx2) trodAll_mk0))), rfl, bel.frame _, fun h => by cases h⟩

theorem over : Rows.entryBackRow.holds Try.pinned (OpenSpec.ofChange Rows.entryBackSpec) :=
  OpenClaim.holds_of_wide 4 Try.f4 rfl rfl rfl rfl rfl rfl rfl ⟨rfl, rfl, rfl, rfl, rfl⟩ rfl rfl rfl rfl rfl (by kernel_rfl) Try.func4 (by kernel_rfl)
    (of_decide_eq_true (by kernel_rfl)) (by unfold Func.isWrapper; first | (rw [if_pos (by decide +kernel)]; kernel_rfl) | (rw [if_neg (by decide +kernel)]; exact ⟨rfl, rfl⟩))
    (fun os started H enc _ => lifted os started H enc)

theorem proved : Rows.EntryBackSaid :=
  over
#print axioms proved
end Go.Proofs.Ytcmmopngjeonfaa.entryBack
