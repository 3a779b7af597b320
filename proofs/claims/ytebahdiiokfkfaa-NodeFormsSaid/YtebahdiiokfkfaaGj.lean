/- Contract: node.Take. -/
import Derived.Test.YtebahdiiokfkfaaGi
namespace Go.Proofs.Ytebahdiiokfkfaa
open Go.ChangeShapes Go.WideShapes Go.ChangeAt Go.RowKit
set_option linter.unusedVariables false
/-- The node that a body tells. -/
def rdT (bs : List Int) : Nd := { rdJ bs 5 with t := seg bs 21 (bs.getD 20 0).toNat }
def Taken (k : Int) (bs : List Int) : Prop := bs.getD 20 0 ≤ 32 ∧ MayN k (rdT bs) ∧ pad (bytesN (rdT bs)) = bs
instance (k : Int) (bs : List Int) : Decidable (Taken k bs) := by unfold Taken; infer_instance
def takeN (k : Int) (bs : List Int) : Nd := if Taken k bs then rdT bs else nd0
theorem getD_byte {bs : List Int} (hB : AllB bs) (i : Nat) : 0 ≤ bs.getD i 0 ∧ bs.getD i 0 < 256 := by
  rw [List.getD]
  cases h : bs[i]? with
  | none => exact ⟨by decide, by decide⟩
  | some x => exact hB x (List.mem_of_getElem? h)
theorem rdT_ok {bs : List Int} (h56 : bs.length = 56) (hB : AllB bs) : NdOk (rdT bs) := by
  have h4 := fun o ho => numV4_lt (o := o) h56 hB ho
  have h2 := fun o ho => numV2_lt (o := o) h56 hB ho
  have pl : ∀ i, i < 5 → i64 (plV bs i) := fun i hi => by
    have := h2 (10 + 2 * i) (by omega)
    unfold plV i64; omega
  refine ⟨?_, ?_, ?_, pl 0 (by omega), pl 1 (by omega), pl 2 (by omega), pl 3 (by omega), pl 4 (by omega), seg_allB hB _ _, ?_⟩
  · have := h4 0 (by omega); show u32 (numV (seg bs 0 4) : Int); unfold u32; omega
  · have := h2 4 (by omega); show i64 (numV (seg bs 4 2) : Int); unfold i64; omega
  · have := h4 6 (by omega); show i64 (numV (seg bs 6 4) : Int); unfold i64; omega
  · show (seg bs 21 _).length ≤ _
    unfold seg; rw [List.length_take, List.length_drop]; omega
theorem takeN_ok {k : Int} {bs : List Int} (h56 : bs.length = 56) (hB : AllB bs) : NdOk (takeN k bs) := by
  unfold takeN; split
  · exact rdT_ok h56 hB
  · exact nd0_ok
theorem run_sliceAt_lh (g : Nat) {m : Nat} (h : m ≤ 32) (w : World) : (Instr.sliceAt 26 (.pointer (some ⟨g, 1, none⟩)) (some (.int .i64 21)) (some (.int .i64 (21 + (m : Int)))) none).run Try.prog w = .ok (.slice (some ⟨g, 22, none⟩) m 35) w := by
  have z3 := Try.sizeOf5
  have e1 : Try.prog.arrayLen 26 = 56 := by kernel_rfl
  have e2 : Try.prog.elem 26 = 5 := by kernel_rfl
  have e3 : Try.prog.underlying 26 = some (.array (Try.prog.arrayLen 26) (Try.prog.elem 26)) := by kernel_rfl
  rw [run_sliceAt_array_lh w 26 _ e3 .i64 .i64 21 (21 + (m : Int)) (by omega) (by omega) (by rw [e1]; omega), e1, e2]
  have hm : (21 + (m : Int)).toNat = 21 + m := by omega
  simp [z3, slicedAt, add_off, hm]
theorem wpList_neqB {ops : Array Oper} {rest : List Oper} {o : Oper} {a : Act} {w : World} {Q : Exit → Act → World → Prop} (hgd : o.guard = none) (x y : Operand) (t : TypeId) (ho : o.op = .binOp .neq 28 x y t) (k j : Int) (bs cs : List Int) (hx : a.eval x = .agg (blkA k bs)) (hy : a.eval y = .agg (blkA j cs)) (hb : bs.length = 56) (hc : cs.length = 56) (hB : AllB bs) (hC : AllB cs)
    (h : wpList Try.prog ops Q rest (a.put o.dst (.bool (!(decide (k = j ∧ bs = cs))))) w) : wpList Try.prog ops Q (o :: rest) a w :=
  wpList_plain hgd fun _ hK => by
    have hg := run_eqGuard_agg (P := Try.prog) w .neq 28 x y (blkA k bs) (blkA j cs) guard24
    have hr := neqB k j bs cs hb hc hB hC w
    unfold Oper.wp execOp
    simp only [ho, hx, hy, Sem.run_bind, hg, hr, Result.andThen_ok]
    exact hK _ _ h
/-- Where Take stands. -/
structure TW (w : World) (p : Nat) (k : Int) (bs : List Int) (m : Nd) (j : Int) (cs : List Int) (W : World) : Prop where
  bel : Below p w W
  blk : W.heap[p]? = some (.cells (blkA k bs) 28 (0, 0))
  res : NdAt W (p + 1) nd0
  nd : NdAt W (p + 1 + 1) m
  cb : W.heap[p + 1 + 1 + 1]? = some (.cells (blkA j cs) 28 (0, 0))
section
variable {w W W' : World} {p : Nat} {k j : Int} {bs cs : List Int} {m : Nd}
theorem TW.sz (h : TW w p k bs m j cs W) : p + 1 + 1 + 1 < W.heap.size := room_lt h.cb
theorem TW.below (h : TW w p k bs m j cs W) (hb : Below W.heap.size W W') : TW w p k bs m j cs W' :=
  ⟨h.bel.trans (hb.mono (by have := h.sz; omega)), kb hb h.blk, h.res.below hb, h.nd.below hb, kb hb h.cb⟩
theorem TW.setNd (h : TW w p k bs m j cs W) (m2 : Nd) : TW w p k bs m2 j cs (W.setRow (p + 1 + 1) (ndA m2)) :=
  ⟨below_setRow h.bel (by omega) _, by rw [setRow_other W _ _ _ (by omega)]; exact h.blk, h.res.other _ (by omega), h.nd.set m2, by rw [setRow_other W _ _ _ (by omega)]; exact h.cb⟩
theorem TW.setT (h : TW w p k bs m j cs W) (t : List Int) : TW w p k bs { m with t := t } j cs (W.setCell ⟨p + 1 + 1, 8, none⟩ (.string (strOfNums t))) :=
  ⟨h.bel.setCell (show p ≤ p + 1 + 1 by omega) _, by rw [heap_setCell_other W _ _ _ (show p ≠ p + 1 + 1 by omega)]; exact h.blk, by unfold NdAt; rw [heap_setCell_other W _ _ _ (show p + 1 ≠ p + 1 + 1 by omega)]; exact h.res, heap_setCell_same' h.nd _, by rw [heap_setCell_other W _ _ _ (show p + 1 + 1 + 1 ≠ p + 1 + 1 by omega)]; exact h.cb⟩
theorem TW.setCb (h : TW w p k bs m j cs W) (i : Int) (ds : List Int) : TW w p k bs m i ds (W.setRow (p + 1 + 1 + 1) (blkA i ds)) :=
  ⟨below_setRow h.bel (by omega) _, by rw [setRow_other W _ _ _ (by omega)]; exact h.blk, h.res.other _ (by omega), h.nd.other _ (by omega), setRow_blk h.cb⟩
end
set_option maxRecDepth 100000 in
set_option maxHeartbeats 6400000 in
theorem take_any (k : Int) (bs : List Int) (w : World) (hk : i64 k) (h56 : bs.length = 56) (hB : AllB bs) : Calls Try.prog 9 #[.agg (blkA k bs)] w fun e w' => e = .returned (.tuple #[.agg (ndA (takeN k bs)), .bool (decide (Taken k bs))]) ∧ Below w.heap.size w w' := by
  have hok := rdT_ok h56 hB
  have HPUT := Lib.hid (fun w => put_any k (rdT bs) w hok)
  have HTN := Lib.hid (fun g w hg => takenums_any g k bs w h56 hB hg)
  have H56 := Lib.hid h56
  have HBB := Lib.hid hB
  have HT0 : Hid (TW w w.heap.size k bs nd0 0 zBs ((((w.alloc (Obj.cells (blkA k bs) 28)).alloc (Obj.cells (ndA nd0) 25)).alloc (Obj.cells (ndA nd0) 25)).alloc (Obj.cells (blkA 0 zBs) 28))) := by
    have s1 : (w.alloc (Obj.cells (blkA k bs) 28)).heap.size = w.heap.size + 1 := size_alloc' _ _
    have s2 : ((w.alloc (Obj.cells (blkA k bs) 28)).alloc (Obj.cells (ndA nd0) 25)).heap.size = w.heap.size + 1 + 1 := by rw [size_alloc', s1]
    have s3 : (((w.alloc (Obj.cells (blkA k bs) 28)).alloc (Obj.cells (ndA nd0) 25)).alloc (Obj.cells (ndA nd0) 25)).heap.size = w.heap.size + 1 + 1 + 1 := by rw [size_alloc', s2]
    have B1 := bel1 (w := w) (Obj.cells (blkA k bs) 28)
    have B2 := B1.alloc B1.size (Obj.cells (ndA nd0) 25)
    have B3 := B2.alloc B2.size (Obj.cells (ndA nd0) 25)
    have B4 := B3.alloc B3.size (Obj.cells (blkA 0 zBs) 28)
    have H0 := heap_alloc_new w (Obj.cells (blkA k bs) 28)
    have H1 := NdAt.new (w.alloc (Obj.cells (blkA k bs) 28)) nd0
    rw [s1] at H1
    have H2 := NdAt.new ((w.alloc (Obj.cells (blkA k bs) 28)).alloc (Obj.cells (ndA nd0) 25)) nd0
    rw [s2] at H2
    have H3 := heap_alloc_new (((w.alloc (Obj.cells (blkA k bs) 28)).alloc (Obj.cells (ndA nd0) 25)).alloc (Obj.cells (ndA nd0) 25)) (Obj.cells (blkA 0 zBs) 28)
    rw [s3] at H3
    exact ⟨B4, kb (bel1 _) (kb (bel1 _) (kb (bel1 _) H0)), (H1.alloc _).alloc _, H2.alloc _, H3⟩
  have hy := getD_byte hB 20
  obtain ⟨yn, hyn⟩ : ∃ yn : Nat, bs.getD 20 0 = (yn : Int) := ⟨(bs.getD 20 0).toNat, by omega⟩
  have hx20 : bs[20]? = some (yn : Int) := by
    rw [← hyn, List.getD, List.getElem?_eq_getElem (by omega)]; rfl
  have HC20 : Hid (∀ W : World, W.heap[w.heap.size]? = some (.cells (blkA k bs) 28 (0, 0)) → W.cell? ⟨w.heap.size, 21, none⟩ = some (.int .u8 yn)) := fun W h => by
    rw [blk_cell h, ← Array.getElem?_toList, blkA_list]; exact Bs_at (i := 20) hx20
  have HTS : Hid (rdT bs = { rdJ bs 5 with t := seg bs 21 yn }) := by unfold Hid rdT; rw [hyn]; rfl
  have HTD : Hid (Taken k bs ↔ ((yn : Int) ≤ 32 ∧ MayN k (rdT bs) ∧ pad (bytesN (rdT bs)) = bs)) := by unfold Hid Taken; rw [hyn]
  have hyl : yn < 256 := by omega
  have wy : IntKind.i64.wrap (yn : Int) = yn := IntWalk.i64_in _ (by omega)
  have wy2 : IntKind.i64.wrap (21 + (yn : Int)) = 21 + (yn : Int) := IntWalk.i64_in _ (by omega)
  clear hk hy hyn hx20
  have HY : Hid (Taken k bs → takeN k bs = rdT bs) := fun h => by unfold takeN; rw [if_pos h]
  have HNO : Hid (¬ Taken k bs → takeN k bs = nd0) := fun h => by unfold takeN; rw [if_neg h]
  go_enter Try.func9, Try.ntmps9
  go_wp2_with (first
    | (refine wpList_allocN rfl rfl ?_; try simp only [size_alloc'])
    | (refine wpList_allocB rfl rfl ?_; try simp only [size_alloc']))
  refine wp_scope_fwd' [0] fun F here on => ?_
  have HH := Lib.hid here
  clear here on
  go_upto_region 4 with (first
    | (refine wpList_allocN rfl rfl ?_; try simp only [size_alloc'])
    | (refine wpList_allocB rfl rfl ?_; try simp only [size_alloc']))
  generalize (((w.alloc (Obj.cells (blkA k bs) 28)).alloc (Obj.cells (ndA nd0) 25)).alloc (Obj.cells (ndA nd0) 25)).alloc (Obj.cells (blkA 0 zBs) 28) = W at *
  have c20 := HC20.out W HT0.out.blk
  by_cases h32 : 32 < yn
  · have hq := h32
    have hno : ¬ Taken k bs := fun h => by have := (HTD.out.1 h).1; omega
    have HE := Lib.hid (HNO.out hno)
    have HD := Lib.hid (decide_eq_false hno)
    clear hno
    go_wp2_with fail
    go_step3
    refine HH.out _ _ _ _ _ rfl ?_
    go_wp2_with (first
      | (refine wpList_buildN0 rfl rfl ?_)
      | (refine wpList_storeN rfl (.tmp 2) (.tmp 36) rfl (w.heap.size + 1) rfl nd0 nd0 rfl HT0.out.res ?_))
    simp only [jumps_ret]
    refine bodyPost_ret (results_ndu rfl _ _ (w.heap.size + 1) nd0 rfl (HT0.out.res.set _)) rfl ?_
    exact ⟨by rw [HE.out, HD.out]; rfl, below_setRow HT0.out.bel (by omega) _⟩
  have hsl := fun W => run_sliceAt_lh w.heap.size (m := yn) (by omega) W
  have HHL := Lib.hid hsl
  clear hsl
  go_wp2_with fail
  refine (HTN.out _ _ HT0.out.blk).mono ?_; rintro e w1 ⟨rfl, hb1⟩
  have HT1 := Lib.hid (HT0.out.below hb1)
  clear hb1 HT0 c20
  have HT2 := Lib.hid (HT1.out.setNd (rdJ bs 5))
  go_upto_region 7 with (refine wpList_storeN rfl (.tmp 4) (.tmp 16) rfl (w.heap.size + 1 + 1) rfl (rdJ bs 5) nd0 rfl HT1.out.nd ?_)
  clear HT1
  generalize w1.setRow (w.heap.size + 1 + 1) (ndA (rdJ bs 5)) = w2 at *
  have hsl := HHL.out w2
  have hcv := conv_any (c := 35) (byt_seg HT2.out.blk 21 yn) (show (seg bs 21 yn).length = yn from seg_len H56.out (by omega))
  have HT3 := Lib.hid (HT2.out.setT (seg bs 21 yn))
  rw [← HTS.out] at HT3
  have c8 := HT2.out.nd.cells.2.2.2.2
  have f8 : w2.frozen? ⟨w.heap.size + 1 + 1, 8, none⟩ = false := blk_free HT2.out.nd 8
  change (convert 37 9 (.slice (some ⟨w.heap.size, 22, none⟩) yn 35)).run Try.prog w2 = .ok (.string (strOfNums (seg bs 21 yn))) w2 at hcv
  go_upto_region 8 with fail
  clear HT2 hsl hcv c8 f8 HHL
  generalize w2.setCell ⟨w.heap.size + 1 + 1, 8, none⟩ (.string (strOfNums (seg bs 21 yn))) = w3 at *
  have ck : w3.cell? ⟨w.heap.size, 0, none⟩ = some (.int .i64 k) := blk_kind HT3.out.blk (blkA_list _ _)
  go_wp2_with (refine wpList_loadN rfl (.tmp 4) rfl (w.heap.size + 1 + 1) rfl (rdT bs) HT3.out.nd ?_)
  refine (HPUT.out _).mono ?_; rintro e w4 ⟨rfl, hb4⟩
  have HT4 := Lib.hid (HT3.out.below hb4)
  clear hb4 HT3 ck
  by_cases hm : MayN k (rdT bs)
  · have HPK : Hid (putK k (rdT bs) = k) := by unfold Hid putK; rw [if_pos hm]
    have HPB : Hid (putBs k (rdT bs) = pad (bytesN (rdT bs))) := by unfold Hid putBs; rw [if_pos hm]
    have HL : Hid ((pad (bytesN (rdT bs))).length = 56) := by unfold Hid; rw [← HPB.out]; exact putBs_len
    have HLB : Hid (AllB (pad (bytesN (rdT bs)))) := by unfold Hid; rw [← HPB.out]; exact putBs_allB hok.t
    rw [HPK.out, HPB.out, decide_eq_true hm]
    have HTE : Hid (Taken k bs ↔ pad (bytesN (rdT bs)) = bs) := HTD.out.trans ⟨fun h => h.2.2, fun h => ⟨by omega, hm, h⟩⟩
    clear hm HPK HPB HTD
    generalize pad (bytesN (rdT bs)) = cs at *
    have HT5 := Lib.hid (HT4.out.setCb k cs)
    go_upto_region 9 with (refine wpList_storeB rfl (.tmp 5) (.tmp 28) rfl (w.heap.size + 1 + 1 + 1) rfl k 0 cs zBs rfl HL.out zBs_len HT4.out.cb ?_)
    clear HT4
    generalize w4.setRow (w.heap.size + 1 + 1 + 1) (blkA k cs) = w5 at *
    by_cases hc : cs = bs
    · have HQ : Hid ((!(decide (k = k ∧ cs = bs))) = false) := by unfold Hid; simp [hc]
      have HE := Lib.hid (HY.out (HTE.out.2 hc))
      have HD := Lib.hid (decide_eq_true (HTE.out.2 hc))
      clear hc
      go_wp2_with (first
        | (refine wpList_loadB rfl (.tmp 5) rfl (w.heap.size + 1 + 1 + 1) rfl k cs HL.out HT5.out.cb ?_)
        | (refine wpList_loadB rfl (.tmp 1) rfl w.heap.size rfl k bs H56.out HT5.out.blk ?_)
        | (refine wpList_neqB rfl (.tmp 32) (.tmp 33) _ rfl k k cs bs rfl rfl HL.out H56.out HLB.out HBB.out ?_; rw [HQ.out])
        | (refine wpList_loadN rfl (.tmp 4) rfl (w.heap.size + 1 + 1) rfl (rdT bs) HT5.out.nd ?_)
        | (refine wpList_storeN rfl (.tmp 2) (.tmp 35) rfl (w.heap.size + 1) rfl (rdT bs) nd0 rfl HT5.out.res ?_))
      simp only [jumps_ret]
      refine bodyPost_ret (results_ndu rfl _ _ (w.heap.size + 1) (rdT bs) rfl (HT5.out.res.set _)) rfl ?_
      exact ⟨by rw [HE.out, HD.out]; rfl, below_setRow HT5.out.bel (by omega) _⟩
    · have HQ : Hid ((!(decide (k = k ∧ cs = bs))) = true) := by unfold Hid; simp [hc]
      have hno : ¬ Taken k bs := fun h => hc (HTE.out.1 h)
      have HE := Lib.hid (HNO.out hno)
      have HD := Lib.hid (decide_eq_false hno)
      clear hno
      clear hc
      go_wp2_with (first
        | (refine wpList_loadB rfl (.tmp 5) rfl (w.heap.size + 1 + 1 + 1) rfl k cs HL.out HT5.out.cb ?_)
        | (refine wpList_loadB rfl (.tmp 1) rfl w.heap.size rfl k bs H56.out HT5.out.blk ?_)
        | (refine wpList_neqB rfl (.tmp 32) (.tmp 33) _ rfl k k cs bs rfl rfl HL.out H56.out HLB.out HBB.out ?_; rw [HQ.out])
        | (refine wpList_loadN rfl (.tmp 4) rfl (w.heap.size + 1 + 1) rfl (rdT bs) HT5.out.nd ?_)
        | (refine wpList_storeN rfl (.tmp 2) (.tmp 35) rfl (w.heap.size + 1) rfl (rdT bs) nd0 rfl HT5.out.res ?_))
      go_step3
      refine HH.out _ _ _ _ _ rfl ?_
      go_wp2_with (first
        | (refine wpList_buildN0 rfl rfl ?_)
        | (refine wpList_storeN rfl (.tmp 2) (.tmp 36) rfl (w.heap.size + 1) rfl nd0 nd0 rfl HT5.out.res ?_))
      simp only [jumps_ret]
      refine bodyPost_ret (results_ndu rfl _ _ (w.heap.size + 1) nd0 rfl (HT5.out.res.set _)) rfl ?_
      exact ⟨by rw [HE.out, HD.out]; rfl, below_setRow HT5.out.bel (by omega) _⟩
  · have HPK : Hid (putK k (rdT bs) = 0) := by unfold Hid putK; rw [if_neg hm]
    have HPB : Hid (putBs k (rdT bs) = zBs) := by unfold Hid putBs; rw [if_neg hm]
    rw [HPK.out, HPB.out, decide_eq_false hm]
    have hno : ¬ Taken k bs := fun h => hm (HTD.out.1 h).2.1
    have HE := Lib.hid (HNO.out hno)
    have HD := Lib.hid (decide_eq_false hno)
    clear hno
    clear hm HPK HPB HTD
    have HT5 := Lib.hid (HT4.out.setCb 0 zBs)
    go_upto_region 9 with (refine wpList_storeB rfl (.tmp 5) (.tmp 28) rfl (w.heap.size + 1 + 1 + 1) rfl 0 0 zBs zBs rfl zBs_len zBs_len HT4.out.cb ?_)
    clear HT4
    generalize w4.setRow (w.heap.size + 1 + 1 + 1) (blkA 0 zBs) = w5 at *
    go_wp2_with fail
    go_step3
    refine HH.out _ _ _ _ _ rfl ?_
    go_wp2_with (first
      | (refine wpList_buildN0 rfl rfl ?_)
      | (refine wpList_storeN rfl (.tmp 2) (.tmp 36) rfl (w.heap.size + 1) rfl nd0 nd0 rfl HT5.out.res ?_))
    simp only [jumps_ret]
    refine bodyPost_ret (results_ndu rfl _ _ (w.heap.size + 1) nd0 rfl (HT5.out.res.set _)) rfl ?_
    exact ⟨by rw [HE.out, HD.out]; rfl, below_setRow HT5.out.bel (by omega) _⟩
end Go.Proofs.Ytebahdiiokfkfaa
