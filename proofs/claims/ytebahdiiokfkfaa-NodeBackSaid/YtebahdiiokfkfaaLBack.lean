/- The law NodeBack answers true for every input, and leaves its arguments alone. No condition. -/
import Derived.Test.YtebahdiiokfkfaaRows
import Derived.Test.YtebahdiiokfkfaaGq
import Derived.WalkKit
import Derived.ProofKit
import Derived.OpenShut
namespace Go.Proofs.Ytebahdiiokfkfaa.nodeBack
open Go.ChangeShapes Go.WideShapes Go.ChangeAt Go.RowKit Go.Joins
set_option linter.unusedVariables false
theorem own : ownKnob Try.prog.godebug = none := by kernel_rfl
theorem laidOut : laidOutB Try.prog = true := by kernel_rfl
theorem wpList_buildB0w {ops : Array Oper} {rest : List Oper} {o : Oper} {a : Act} {w : World} {Q : Exit → Act → World → Prop} (hw : Region.wanted o (yielded ops a.tmps) = true) (ho : o.op = .build 28 #[])
    (h : wpList Try.prog ops Q rest (a.put o.dst (.agg (blkA 0 zBs))) w) : wpList Try.prog ops Q (o :: rest) a w :=
  BigFrame.wpList_want hw fun _ hK => by
    unfold Oper.wp execOp
    have hb := run_build (P := Try.prog) w 28 #[] _ built24
    simp only [ho, List.map_toArray, List.map_nil, Sem.run_bind, hb, Result.andThen_ok]
    exact hK _ _ h
theorem putBs_may {k : Int} {n : Nd} (h : MayN k n) : putBs k n = pad (bytesN n) := by unfold putBs; rw [if_pos h]
theorem putK_may {k : Int} {n : Nd} (h : MayN k n) : putK k n = k := by unfold putK; rw [if_pos h]
set_option maxRecDepth 100000 in
set_option maxHeartbeats 6400000 in
theorem walk (x0 : Int) (n1 : Nd) (x2 : Int) (x3 : Int) (w : World) (hx0 : -9223372036854775808 ≤ x0 ∧ x0 ≤ 9223372036854775807) (hn1 : NdOk n1) (hx2 : 0 ≤ x2 ∧ x2 ≤ 255) (hx3 : 0 ≤ x3 ∧ x3 ≤ 255) :
    Calls Try.prog 4 #[.int .i64 x0, .agg (ndA n1), .int .u8 x2, .int .u8 x3] w fun e w' => e = .returned (.bool true) ∧ Below w.heap.size w w' := by
  obtain ⟨n, rfl⟩ : ∃ n, n = n1 := ⟨_, rfl⟩
  have HNO := Lib.hid hn1
  have HN0 : Hid (NdAt (w.alloc (Obj.cells (ndA n) 25)) w.heap.size n) := NdAt.new w n
  have HB0 : Hid (Below w.heap.size w (w.alloc (Obj.cells (ndA n) 25))) := bel1 _
  have HSZ := Lib.hid (strOfNums_size n.t)
  have HI := Lib.hid (show i64 x0 from ⟨by omega, by omega⟩)
  go_enter Try.func4, Try.ntmps4
  go_upto_region 1 with fail
  generalize w.alloc (Obj.cells (ndA n) 25) = W0 at *
  go_wp2_with fail
  refine (begun_any _).mono ?_; rintro e W1 ⟨rfl, hb1⟩
  have HN1 := Lib.hid (HN0.out.below hb1)
  have HB1 := Lib.hid (HB0.out.trans (hb1.mono HB0.out.size))
  clear hb1 HN0 HB0
  go_upto_region 3 with fail
  have c8 := HN1.out.cells.2.2.2.2
  by_cases h60 : 60 < n.t.length
  · have h60' : (60 : Int) < ((strOfNums n.t).size : Int) := by rw [HSZ.out]; omega
    clear h60
    go_wp2_with fail
    go_ret
    exact ⟨rfl, HB1.out⟩
  have h60' : ¬ (60 : Int) < ((strOfNums n.t).size : Int) := by rw [HSZ.out]; omega
  have HPUT := Lib.hid (fun W => put_any x0 n W HNO.out)
  have HM := Lib.hid (fun W => may_any x0 n W HNO.out)
  have HL : Hid ((putBs x0 n).length = 56) := putBs_len
  have HLB : Hid (AllB (putBs x0 n)) := putBs_allB HNO.out.t
  clear h60
  by_cases hm : MayN x0 n
  · have hpb := putBs_may hm
    have hpk := putK_may hm
    have hD := decide_eq_true hm
    have HTP : Hid (Taken x0 (putBs x0 n) ∧ takeN x0 (putBs x0 n) = n) := by unfold Hid; rw [hpb]; exact taken_pad hm HNO.out
    have HPB := Lib.hid hpb
    rw [hpk, hD] at HPUT
    rw [hD] at HM
    have HMY := Lib.hid hm
    clear hm hpb hpk hD
    have HTAKE := Lib.hid (fun W => take_any x0 (putBs x0 n) W HI.out HL.out HLB.out)
    rw [decide_eq_true HTP.out.1, HTP.out.2] at HTAKE
    obtain ⟨v2, rfl⟩ : ∃ v2 : Nat, x2 = (v2 : Int) := ⟨x2.toNat, by omega⟩
    have hv56 : v2 % 56 < 56 := Nat.mod_lt _ (by omega)
    obtain ⟨x, hx⟩ : ∃ x, (putBs x0 n)[v2 % 56]? = some x := ⟨_, List.getElem?_eq_getElem (by rw [HL.out]; exact hv56)⟩
    have hxb := HLB.out x (List.mem_of_getElem? hx)
    have HXOR := Lib.hid (xor_byte hxb hx3)
    have HX := Lib.hid hx
    have HCL : Hid (((putBs x0 n).set (v2 % 56) (bits .xor .u8 x x3)).length = 56) := by unfold Hid; rw [List.length_set]; exact HL.out
    have HCB : Hid (AllB ((putBs x0 n).set (v2 % 56) (bits .xor .u8 x x3))) := set_allB HLB.out _ HXOR.out.1
    have HCE : Hid ((putBs x0 n).set (v2 % 56) (bits .xor .u8 x x3) = putBs x0 n ↔ x3 = 0) := by
      constructor
      · intro h
        have h1 : ((putBs x0 n).set (v2 % 56) (bits .xor .u8 x x3))[v2 % 56]? = (putBs x0 n)[v2 % 56]? := by rw [h]
        rw [List.getElem?_set_self (by rw [HL.out]; exact hv56), HX.out] at h1
        injection h1 with h1
        exact HXOR.out.2.1 h1
      · intro h
        rw [HXOR.out.2.2 h]
        apply List.ext_getElem?
        intro i
        rw [List.getElem?_set]
        split
        · rename_i e; subst e; rw [if_pos (by rw [HL.out]; exact hv56), HX.out]
        · rfl
    clear hx hxb
    generalize putBs x0 n = pb at *
    have HTC := Lib.hid (fun W => take_any x0 (pb.set (v2 % 56) (bits .xor .u8 x x3)) W HI.out HCL.out HCB.out)
    have HTO : Hid (NdOk (takeN x0 (pb.set (v2 % 56) (bits .xor .u8 x x3)))) := takeN_ok HCL.out HCB.out
    have HPT := Lib.hid (fun W => put_any x0 (takeN x0 (pb.set (v2 % 56) (bits .xor .u8 x x3))) W HTO.out)
    have HFIN : Hid (Taken x0 (pb.set (v2 % 56) (bits .xor .u8 x x3)) → MayN x0 (takeN x0 (pb.set (v2 % 56) (bits .xor .u8 x x3))) ∧ putBs x0 (takeN x0 (pb.set (v2 % 56) (bits .xor .u8 x x3))) = pb.set (v2 % 56) (bits .xor .u8 x x3) ∧ putK x0 (takeN x0 (pb.set (v2 % 56) (bits .xor .u8 x x3))) = x0 ∧ (takeN x0 (pb.set (v2 % 56) (bits .xor .u8 x x3)) = n ↔ x3 = 0)) := fun h => by
      have e : takeN x0 (pb.set (v2 % 56) (bits .xor .u8 x x3)) = rdT (pb.set (v2 % 56) (bits .xor .u8 x x3)) := by unfold takeN; rw [if_pos h]
      have h1 : MayN x0 (takeN x0 (pb.set (v2 % 56) (bits .xor .u8 x x3))) := by rw [e]; exact h.2.1
      have h2 : putBs x0 (takeN x0 (pb.set (v2 % 56) (bits .xor .u8 x x3))) = pb.set (v2 % 56) (bits .xor .u8 x x3) := by rw [putBs_may h1, e]; exact h.2.2
      refine ⟨h1, h2, putK_may h1, ?_⟩
      rw [← HCE.out]
      constructor
      · intro h3
        rw [h3, putBs_may HMY.out, ← HPB.out] at h2
        exact h2.symm
      · intro h3
        rw [h3]; exact HTP.out.2
    clear HTP HPB HMY HCE HXOR
    go_wp2_with (refine wpList_loadN rfl (.tmp 5) rfl w.heap.size rfl n HN1.out ?_)
    clear c8 h60'
    refine (HPUT.out _).mono ?_; rintro e X2 ⟨rfl, hb⟩
    have hz := heap_alloc_new X2 (Obj.cells (blkA 0 zBs) 28)
    have b2 : Below X2.heap.size X2 ((X2.alloc (Obj.cells (blkA 0 zBs) 28)).setRow X2.heap.size (blkA x0 pb)) := below_setRow (bel1 _) (Nat.le_refl _) _
    have HQ9 := Lib.hid (setRow_blk (D := blkA x0 pb) hz)
    have HS := HB1.out.size
    have HN2 := Lib.hid ((HN1.out.below hb).below b2)
    have HB2 := Lib.hid ((HB1.out.trans (hb.mono HS)).trans (b2.mono (Nat.le_trans HS hb.size)))
    clear hb b2 HS HN1 HB1 
    go_upto_region 6 with (first
      | (refine wpList_allocB rfl rfl ?_)
      | (refine wpList_storeB rfl (.tmp 9) (.tmp 28) rfl X2.heap.size rfl x0 0 pb zBs rfl HL.out zBs_len hz ?_))
    clear hz
    generalize (X2.alloc (Obj.cells (blkA 0 zBs) 28)).setRow X2.heap.size (blkA x0 pb) = Y2 at *
    generalize X2.heap.size = q9 at *
    go_wp2_with (refine wpList_loadN rfl (.tmp 5) rfl w.heap.size rfl n HN2.out ?_)
    refine (HM.out _).mono ?_; rintro e X3 ⟨rfl, hb⟩
    have HN3 := Lib.hid (HN2.out.below hb)
    have HB3 := Lib.hid (HB2.out.trans (hb.mono HB2.out.size))
    have HQ9' := Lib.hid (kb hb HQ9.out)
    clear hb HN2 HB2 HQ9
    have HQ9 := HQ9'
    clear HQ9'
    go_wp2_with (refine wpList_loadB rfl (.tmp 9) rfl q9 rfl x0 pb HL.out HQ9.out ?_)
    refine (HTAKE.out _).mono ?_; rintro e X4 ⟨rfl, hb⟩
    have hz := NdAt.new X4 nd0
    have b2 : Below X4.heap.size X4 ((X4.alloc (Obj.cells (ndA nd0) 25)).setRow X4.heap.size (ndA n)) := below_setRow (bel1 _) (Nat.le_refl _) _
    have HQ11 := Lib.hid (hz.set n)
    have HS := HB3.out.size
    have HN4 := Lib.hid ((HN3.out.below hb).below b2)
    have HB4 := Lib.hid ((HB3.out.trans (hb.mono HS)).trans (b2.mono (Nat.le_trans HS hb.size)))
    have HQ9' := Lib.hid (kb b2 (kb hb HQ9.out))
    clear hb b2 HS HN3 HB3 HQ9
    have HQ9 := HQ9'
    clear HQ9'
    go_upto_region 9 with (first
      | (refine wpList_allocN rfl rfl ?_)
      | (refine wpList_storeN rfl (.tmp 11) (.tmp 49) rfl X4.heap.size rfl n nd0 rfl hz ?_))
    clear hz
    generalize (X4.alloc (Obj.cells (ndA nd0) 25)).setRow X4.heap.size (ndA n) = Y4 at *
    generalize X4.heap.size = q11 at *
    have hz := heap_alloc_new Y4 (Obj.cells (blkA 0 zBs) 28)
    have b2 : Below Y4.heap.size Y4 ((Y4.alloc (Obj.cells (blkA 0 zBs) 28)).setRow Y4.heap.size (blkA x0 pb)) := below_setRow (bel1 _) (Nat.le_refl _) _
    have HQ13 := Lib.hid (setRow_blk (D := blkA x0 pb) hz)
    have HN5 := Lib.hid (HN4.out.below b2)
    have HB5 := Lib.hid (HB4.out.trans (b2.mono HB4.out.size))
    have HQ9' := Lib.hid (kb b2 HQ9.out)
    have HQ11' := Lib.hid (NdAt.below HQ11.out b2)
    have HP13 := Lib.hid (room_lt HQ9.out)
    have HP14 := Lib.hid (room_lt HQ11.out)
    have HP15 := Lib.hid (room_lt HN4.out)
    clear b2 HN4 HB4 HQ11
    go_upto_region 10 with (first
      | (refine wpList_loadB rfl (.tmp 9) rfl q9 rfl x0 pb HL.out HQ9.out ?_)
      | (refine wpList_allocB rfl rfl ?_)
      | (refine wpList_storeB rfl (.tmp 13) (.tmp 51) rfl Y4.heap.size rfl x0 0 pb zBs rfl HL.out zBs_len hz ?_))
    clear hz HQ9
    have HQ9 := HQ9'
    have HQ11 := HQ11'
    clear HQ9' HQ11'
    generalize (Y4.alloc (Obj.cells (blkA 0 zBs) 28)).setRow Y4.heap.size (blkA x0 pb) = Y5 at *
    generalize Y4.heap.size = q13 at *
    have c0 : Y5.cell? ⟨q13, 1 + v2 % 56, none⟩ = some (.int .u8 x) := by
      rw [blk_cell HQ13.out, ← Array.getElem?_toList, blkA_list]
      unfold blkL
      rw [Nat.add_comm]
      exact Bs_at HX.out
    have f0 : Y5.frozen? ⟨q13, 1 + v2 % 56, none⟩ = false := blk_free HQ13.out _
    have HQ13' : Hid ((Y5.setCell ⟨q13, 1 + v2 % 56, none⟩ (.int .u8 (bits .xor .u8 x x3))).heap[q13]? = some (.cells (blkA x0 (pb.set (v2 % 56) (bits .xor .u8 x x3))) 28 (0, 0))) := by
      unfold Hid; rw [heap_setCell_same' HQ13.out, blkA_setB]
    have HQ9' : Hid ((Y5.setCell ⟨q13, 1 + v2 % 56, none⟩ (.int .u8 (bits .xor .u8 x x3))).heap[q9]? = some (.cells (blkA x0 pb) 28 (0, 0))) := by
      unfold Hid; rw [heap_setCell_other Y5 _ _ _ (show q9 ≠ q13 by have := HP13.out; omega)]; exact HQ9.out
    have HQ11' : Hid (NdAt (Y5.setCell ⟨q13, 1 + v2 % 56, none⟩ (.int .u8 (bits .xor .u8 x x3))) q11 n) := by
      unfold Hid NdAt; rw [heap_setCell_other Y5 _ _ _ (show q11 ≠ q13 by have := HP14.out; omega)]; exact HQ11.out
    have HN6 : Hid (NdAt (Y5.setCell ⟨q13, 1 + v2 % 56, none⟩ (.int .u8 (bits .xor .u8 x x3))) w.heap.size n) := by
      unfold Hid NdAt; rw [heap_setCell_other Y5 _ _ _ (show w.heap.size ≠ q13 by have := HP15.out; omega)]; exact HN5.out
    have HB6 : Hid (Below w.heap.size w (Y5.setCell ⟨q13, 1 + v2 % 56, none⟩ (.int .u8 (bits .xor .u8 x x3)))) := HB5.out.setCell (show w.heap.size ≤ q13 from Nat.le_of_lt HP15.out) _
    go_upto_region 11 with fail
    clear c0 f0 HQ9 HQ11 HQ13 HN5 HB5 HP13 HP14 HP15
    have HQ9 := HQ9'
    have HQ11 := HQ11'
    have HQ13 := HQ13'
    clear HQ9' HQ11' HQ13'
    generalize Y5.setCell ⟨q13, 1 + v2 % 56, none⟩ (.int .u8 (bits .xor .u8 x x3)) = Y6 at *
    generalize pb.set (v2 % 56) (bits .xor .u8 x x3) = cs at *
    go_wp2_with (refine wpList_loadB rfl (.tmp 13) rfl q13 rfl x0 cs HCL.out HQ13.out ?_)
    have HYO := HTO
    generalize hdT : decide (Taken x0 cs) = tk at *
    have HDT : Hid (tk = true → Taken x0 cs) := fun h => by rw [h] at hdT; exact of_decide_eq_true hdT
    clear hdT
    generalize takeN x0 cs = y at *
    refine (HTC.out _).mono ?_; rintro e X7 ⟨rfl, hb⟩
    have hz := NdAt.new X7 nd0
    have b2 : Below X7.heap.size X7 ((X7.alloc (Obj.cells (ndA nd0) 25)).setRow X7.heap.size (ndA y)) := below_setRow (bel1 _) (Nat.le_refl _) _
    have HQ14 := Lib.hid (hz.set y)
    have HS := HB6.out.size
    have HN7 := Lib.hid ((HN6.out.below hb).below b2)
    have HB7 := Lib.hid ((HB6.out.trans (hb.mono HS)).trans (b2.mono (Nat.le_trans HS hb.size)))
    have HQ9' := Lib.hid (kb b2 (kb hb HQ9.out))
    have HQ11' := Lib.hid ((NdAt.below HQ11.out hb).below b2)
    have HQ13' := Lib.hid (kb b2 (kb hb HQ13.out))
    clear hb b2 HS HN6 HB6 HQ9 HQ11 HQ13
    have HQ9 := HQ9'
    clear HQ9'
    have HQ11 := HQ11'
    clear HQ11'
    have HQ13 := HQ13'
    clear HQ13'
    go_upto_region 12 with (first
      | (refine wpList_allocN rfl rfl ?_)
      | (refine wpList_storeN rfl (.tmp 14) (.tmp 64) rfl X7.heap.size rfl y nd0 rfl hz ?_))
    clear hz
    generalize (X7.alloc (Obj.cells (ndA nd0) 25)).setRow X7.heap.size (ndA y) = Y7 at *
    generalize X7.heap.size = q14 at *
    go_wp2_with (refine wpList_loadN rfl (.tmp 14) rfl q14 rfl y HQ14.out ?_)
    have HYL : Hid ((putBs x0 y).length = 56) := putBs_len
    have HYB : Hid (AllB (putBs x0 y)) := putBs_allB HYO.out.t
    generalize hdM : decide (MayN x0 y) = dm at *
    have HDM : Hid (MayN x0 y → dm = true) := fun h => by rw [← hdM]; exact decide_eq_true h
    clear hdM
    generalize putBs x0 y = yb at *
    generalize putK x0 y = yk at *
    refine (HPT.out _).mono ?_; rintro e X8 ⟨rfl, hb⟩
    have hz := heap_alloc_new X8 (Obj.cells (blkA 0 zBs) 28)
    have b2 : Below X8.heap.size X8 ((X8.alloc (Obj.cells (blkA 0 zBs) 28)).setRow X8.heap.size (blkA yk yb)) := below_setRow (bel1 _) (Nat.le_refl _) _
    have HQ16 := Lib.hid (setRow_blk (D := blkA yk yb) hz)
    have HS := HB7.out.size
    have HN8 := Lib.hid ((HN7.out.below hb).below b2)
    have HB8 := Lib.hid ((HB7.out.trans (hb.mono HS)).trans (b2.mono (Nat.le_trans HS hb.size)))
    have HQ9' := Lib.hid (kb b2 (kb hb HQ9.out))
    have HQ11' := Lib.hid ((NdAt.below HQ11.out hb).below b2)
    have HQ13' := Lib.hid (kb b2 (kb hb HQ13.out))
    have HQ14' := Lib.hid ((NdAt.below HQ14.out hb).below b2)
    clear hb b2 HS HN7 HB7 HQ9 HQ11 HQ13 HQ14
    have HQ9 := HQ9'
    clear HQ9'
    have HQ11 := HQ11'
    clear HQ11'
    have HQ13 := HQ13'
    clear HQ13'
    have HQ14 := HQ14'
    clear HQ14'
    go_upto_region 13 with (first
      | (refine wpList_allocB rfl rfl ?_)
      | (refine wpList_storeB rfl (.tmp 16) (.tmp 70) rfl X8.heap.size rfl yk 0 yb zBs rfl HYL.out zBs_len hz ?_))
    clear hz
    generalize (X8.alloc (Obj.cells (blkA 0 zBs) 28)).setRow X8.heap.size (blkA yk yb) = Y8 at *
    generalize X8.heap.size = q16 at *
    have ck : Y8.cell? ⟨q9, 0, none⟩ = some (.int .i64 x0) := blk_kind HQ9.out (blkA_list _ _)
    cases tk
    · go_wp2_with (first
        | (refine wpList_loadNw (by rfl) (.tmp 11) rfl q11 rfl n HQ11.out ?_)
        | (refine wpList_loadNw (by rfl) (.tmp 5) rfl w.heap.size rfl n HN8.out ?_)
        | (refine wpList_eqlNw (by rfl) (.tmp 74) (.tmp 75) _ rfl n n rfl rfl HNO.out HNO.out ?_; rw [show decide (n = n) = true by simp]))
      go_ret
      exact ⟨rfl, HB8.out⟩
    · obtain ⟨hmy, hyb, hyk, hiff⟩ := HFIN.out (HDT.out rfl)
      have hdm := HDM.out hmy
      subst hdm
      subst hyb
      subst hyk
      have HIF := Lib.hid hiff
      clear hmy hiff
      by_cases h3 : x3 = 0
      · have HEY := Lib.hid (decide_eq_true (HIF.out.2 h3))
        go_wp2_with (first
          | (refine wpList_loadNw (by rfl) (.tmp 11) rfl q11 rfl n HQ11.out ?_)
          | (refine wpList_loadNw (by rfl) (.tmp 5) rfl w.heap.size rfl n HN8.out ?_)
          | (refine wpList_eqlNw (by rfl) (.tmp 74) (.tmp 75) _ rfl n n rfl rfl HNO.out HNO.out ?_; rw [show decide (n = n) = true by simp])
          | (refine wpList_loadBw (by rfl) (.tmp 16) rfl q16 rfl yk yb HCL.out HQ16.out ?_)
          | (refine wpList_loadBw (by rfl) (.tmp 13) rfl q13 rfl yk yb HCL.out HQ13.out ?_)
          | (refine wpList_eqlBw (by rfl) (.tmp 90) (.tmp 91) _ rfl yk yk yb yb rfl rfl HCL.out HCL.out HCB.out HCB.out ?_; rw [show decide (yk = yk ∧ yb = yb) = true by simp])
          | (refine wpList_loadNw (by rfl) (.tmp 14) rfl q14 rfl y HQ14.out ?_)
          | (refine wpList_eqlNw (by rfl) (.tmp 95) (.tmp 96) _ rfl y n rfl rfl HYO.out HNO.out ?_; rw [HEY.out]))
        go_ret
        exact ⟨rfl, HB8.out⟩
      · have HEY := Lib.hid (decide_eq_false (fun e => h3 (HIF.out.1 e)))
        have h3b : (x3 == 0) = false := by simpa using h3
        have h3c : decide (x3 = 0) = false := decide_eq_false h3
        clear h3
        go_wp2_with (first
          | (refine wpList_loadNw (by rfl) (.tmp 11) rfl q11 rfl n HQ11.out ?_)
          | (refine wpList_loadNw (by rfl) (.tmp 5) rfl w.heap.size rfl n HN8.out ?_)
          | (refine wpList_eqlNw (by rfl) (.tmp 74) (.tmp 75) _ rfl n n rfl rfl HNO.out HNO.out ?_; rw [show decide (n = n) = true by simp])
          | (refine wpList_loadBw (by rfl) (.tmp 16) rfl q16 rfl yk yb HCL.out HQ16.out ?_)
          | (refine wpList_loadBw (by rfl) (.tmp 13) rfl q13 rfl yk yb HCL.out HQ13.out ?_)
          | (refine wpList_eqlBw (by rfl) (.tmp 90) (.tmp 91) _ rfl yk yk yb yb rfl rfl HCL.out HCL.out HCB.out HCB.out ?_; rw [show decide (yk = yk ∧ yb = yb) = true by simp])
          | (refine wpList_loadNw (by rfl) (.tmp 14) rfl q14 rfl y HQ14.out ?_)
          | (refine wpList_eqlNw (by rfl) (.tmp 95) (.tmp 96) _ rfl y n rfl rfl HYO.out HNO.out ?_; rw [HEY.out]))
        go_ret
        exact ⟨rfl, HB8.out⟩
  · have hpb : putBs x0 n = zBs := by unfold putBs; rw [if_neg hm]
    have hpk : putK x0 n = 0 := by unfold putK; rw [if_neg hm]
    have hD := decide_eq_false hm
    rw [hpk, hpb, hD] at HPUT
    rw [hD] at HM
    clear hm hpb hpk hD HL HLB
    go_wp2_with (refine wpList_loadN rfl (.tmp 5) rfl w.heap.size rfl n HN1.out ?_)
    clear c8 h60'
    refine (HPUT.out _).mono ?_; rintro e X2 ⟨rfl, hb⟩
    have hz := heap_alloc_new X2 (Obj.cells (blkA 0 zBs) 28)
    have b2 : Below X2.heap.size X2 ((X2.alloc (Obj.cells (blkA 0 zBs) 28)).setRow X2.heap.size (blkA 0 zBs)) := below_setRow (bel1 _) (Nat.le_refl _) _
    have HQ9 := Lib.hid (setRow_blk (D := blkA 0 zBs) hz)
    have HS := HB1.out.size
    have HN2 := Lib.hid ((HN1.out.below hb).below b2)
    have HB2 := Lib.hid ((HB1.out.trans (hb.mono HS)).trans (b2.mono (Nat.le_trans HS hb.size)))
    clear hb b2 HS HN1 HB1 
    go_upto_region 6 with (first
      | (refine wpList_allocB rfl rfl ?_)
      | (refine wpList_storeB rfl (.tmp 9) (.tmp 28) rfl X2.heap.size rfl 0 0 zBs zBs rfl zBs_len zBs_len hz ?_))
    clear hz
    generalize (X2.alloc (Obj.cells (blkA 0 zBs) 28)).setRow X2.heap.size (blkA 0 zBs) = Y2 at *
    generalize X2.heap.size = q9 at *
    go_wp2_with (refine wpList_loadN rfl (.tmp 5) rfl w.heap.size rfl n HN2.out ?_)
    refine (HM.out _).mono ?_; rintro e X3 ⟨rfl, hb⟩
    have HB3 := Lib.hid (HB2.out.trans (hb.mono HB2.out.size))
    have HQ9' := Lib.hid (kb hb HQ9.out)
    clear hb HN2 HB2 HQ9
    go_wp2_with (first
      | (refine wpList_loadBw (by rfl) (.tmp 9) rfl q9 rfl 0 zBs zBs_len HQ9'.out ?_)
      | (refine wpList_buildB0w (by rfl) rfl ?_)
      | (refine wpList_eqlBw (by rfl) (.tmp 42) (.tmp 43) _ rfl 0 0 zBs zBs rfl rfl zBs_len zBs_len zBs_allB zBs_allB ?_; rw [show decide ((0 : Int) = 0 ∧ zBs = zBs) = true by simp]))
    go_ret
    exact ⟨rfl, HB3.out⟩

set_option maxRecDepth 100000 in
theorem lifted (os : Os) (started : os.Started) (H : Type) (enc : TypeId × Value → H) :
    ReturnsInHanded {} Try.checked os 4 .any (Rows.nodeBackSpec.pre6 enc Try.prog Try.f4 Rows.nodeBackRow.domain false) (Rows.nodeBackSpec.post enc Try.prog Try.f4 false true false false) := by
  refine returnsInHanded_of_change (C := Try.checked) own started (by kernel_rfl) Try.func4
    (ChangeSpec.witness6 (enc := enc) (C := Try.checked) false ⟨#[], #[.int .i64 0, .agg (ndA nd0), .int .u8 0, .int .u8 0], []⟩ 8 (by kernel_rfl) (by kernel_rfl) (by kernel_rfl) (by kernel_rfl)) ?_
  intro W base args ds gs before hval0 hW hcnd _
  have hval : ∀ (j : Nat) t v, Try.f4.params[j]? = some t → args[j]? = some v → Value.okWide Try.prog W .any base t v := hval0
  have hW' := hW
  obtain ⟨p, q, hA0, hV, rfl, hfz, hnd⟩ := hW
  have hA : DataW.TrodAll enc Try.prog W 0 (fun _ => true) true Try.f4.params.toList args.toList ds p := hA0
  rw [Try.params4] at hA hval
  obtain ⟨v0, vs0, d0, ds0, p0, q0, hargs, rfl, rfl, h0, r0⟩ := trodAll_cons hA
  obtain ⟨v1, vs1, d1, ds1, p1, q1, rfl, rfl, rfl, h1, r1⟩ := trodAll_cons r0
  obtain ⟨v2, vs2, d2, ds2, p2, q2, rfl, rfl, rfl, h2, r2⟩ := trodAll_cons r1
  obtain ⟨v3, vs3, d3, ds3, p3, q3, rfl, rfl, rfl, h3, r3⟩ := trodAll_cons r2
  obtain ⟨rfl, rfl, rfl⟩ := trodAll_nil r3
  obtain rfl : args = #[v0, v1, v2, v3] := by cases args; simp_all
  obtain ⟨rfl, rfl⟩ := trodVars_none hV
  obtain ⟨x0, rfl, rfl, rfl, wx0⟩ := open_int Try.underlying3 (hval 0 3 v0 rfl rfl) h0
  obtain ⟨cs1, rfl, _⟩ := okWide_struct Try.underlying25 (hval 1 25 v1 rfl rfl)
  obtain ⟨x2, rfl, rfl, rfl, wx2⟩ := open_int Try.underlying5 (hval 2 5 v2 rfl rfl) h2
  obtain ⟨x3, rfl, rfl, rfl, wx3⟩ := open_int Try.underlying5 (hval 3 5 v3 rfl rfl) h3
  clear hA0 hval0
  simp only [List.append_nil] at hW'
  have hlt1 : ∀ y ∈ p1, y.block < W.heap.size := fun y hy => by simpa using hW'.lt y (by simp [hy])
  have harg1 : ∀ W' : World, Below W.heap.size W W' → DataW.Trod enc Try.prog W' 0 (fun b => decide (b < W.heap.size)) true 25 (.agg cs1) d1 p1 :=
    fun W' hn => Below.trod laidOut (by kernel_rfl) (of_decide_eq_true (by kernel_rfl)) h1 hn (fun y hy => hlt1 y hy)
  obtain ⟨fu1, hf1⟩ := h1
  obtain ⟨n1, e1, hn1⟩ := open_nd hf1
  obtain rfl : cs1 = ndA n1 := by
    apply Array.ext'; rw [← e1]; simp [Value.cells]
  refine (walk x0 n1 x2 x3 W (by have := bounds_i64 wx0; omega) hn1 (by have := bounds_u8 wx2; omega) (by have := bounds_u8 wx3; omega)).mono fun e W' ⟨he, bel⟩ => ?_
  subst he
  exact ⟨_, rfl, _, _, _, [], _, [], hW', (trodAll_cons_mk (shut_bool Try.underlying4 _) trodAll_mk0), (trodAll_cons_mk (shut_int Try.underlying3 wx0) (trodAll_cons_mk (harg1 _ bel) (trodAll_cons_mk (shut_int Try.underlying5 wx2) (trodAll_cons_mk (shut_int Try.underlying5 wx3) trodAll_mk0)))), rfl, bel.frame _, fun h => by cases h⟩

theorem over : Rows.nodeBackRow.holds Try.pinned (OpenSpec.ofChange Rows.nodeBackSpec) :=
  OpenClaim.holds_of_wide 4 Try.f4 rfl rfl rfl rfl rfl rfl rfl ⟨rfl, rfl, rfl, rfl, rfl⟩ rfl rfl rfl rfl rfl (by kernel_rfl) Try.func4 (by kernel_rfl)
    (of_decide_eq_true (by kernel_rfl)) (by unfold Func.isWrapper; first | (rw [if_pos (by decide +kernel)]; kernel_rfl) | (rw [if_neg (by decide +kernel)]; exact ⟨rfl, rfl⟩))
    (fun os started H enc _ => lifted os started H enc)

theorem proved : Rows.NodeBackSaid :=
  over
#print axioms proved
end Go.Proofs.Ytebahdiiokfkfaa.nodeBack
