/- Contract: entry.Take. -/
import Derived.Test.YtcmmopngjeonfaaYe
import Derived.Test.YtcmmopngjeonfaaRo
namespace Go.Proofs.Ytcmmopngjeonfaa
open Go.ChangeShapes Go.WideShapes Go.ChangeAt Go.RowKit
set_option linter.unusedVariables false
/-- The name that a body tells. -/
def rdE (bs : List Int) : En := ⟨labX (seg bs 0 7), plcX (seg bs 0 7), genX (seg bs 0 7), seg bs 14 (bs.getD 13 0).toNat, numV (seg bs 7 2), numV (seg bs 9 4)⟩
def ETaken (k : Int) (bs : List Int) : Prop := bs.getD 13 0 ≤ 14 ∧ MayE (rdE bs) ∧ k = 6 ∧ pad (bytesE (rdE bs)) = bs
instance (k : Int) (bs : List Int) : Decidable (ETaken k bs) := by unfold ETaken; infer_instance
def takeE (k : Int) (bs : List Int) : En := if ETaken k bs then rdE bs else en0
theorem nB_lt {xs : List Int} (hB : AllB xs) (i : Nat) : nB xs i < 256 := by have := getD_byte hB i; unfold nB; omega
set_option maxRecDepth 100000 in
theorem rdE_ok {bs : List Int} (h56 : bs.length = 56) (hB : AllB bs) : EnOk (rdE bs) := by
  have h4 := numV4_lt (o := 9) h56 hB (by omega)
  have h2 := numV2_lt (o := 7) h56 hB (by omega)
  have b := nB_lt (seg_allB hB 0 7)
  have b0 := b 0; have b1 := b 1; have b2 := b 2; have b3 := b 3; have b4 := b 4; have b5 := b 5; have b6 := b 6
  refine ⟨?_, ?_, ?_, seg_allB hB _ _, ?_, ?_, ?_⟩
  · show i64 (labX (seg bs 0 7)); unfold labX labI i64; split <;> omega
  · show i64 (plcX (seg bs 0 7) : Int); unfold plcX i64; omega
  · show u32 (genX (seg bs 0 7) : Int); unfold genX u32; omega
  · show (seg bs 14 _).length ≤ _
    unfold seg; rw [List.length_take, List.length_drop]; omega
  · show i64 (numV (seg bs 7 2) : Int); unfold i64; omega
  · show u32 (numV (seg bs 9 4) : Int); unfold u32; omega
theorem takeE_ok {k : Int} {bs : List Int} (h56 : bs.length = 56) (hB : AllB bs) : EnOk (takeE k bs) := by
  unfold takeE; split
  · exact rdE_ok h56 hB
  · exact en0_ok
set_option maxRecDepth 100000 in
theorem itaken_seg {bs : List Int} (h56 : bs.length = 56) : ITaken (seg bs 0 7) ↔ MayI (rdE bs).l (rdE bs).a (rdE bs).g :=
  ⟨fun h => h.2, fun h => ⟨seg_len h56 (by omega), h⟩⟩
set_option maxRecDepth 100000 in
theorem takeV_seg {bs : List Int} (h : ITaken (seg bs 0 7)) : takeV (seg bs 0 7) = idV (rdE bs).l (rdE bs).a (rdE bs).g := by unfold takeV; rw [if_pos h]; rfl
theorem run_sliceS (g : Nat) {m : Nat} (h : m ≤ 42) (w : World) : (Instr.sliceAt 27 (.pointer (some ⟨g, 1, none⟩)) (some (.int .i64 14)) (some (.int .i64 (14 + (m : Int)))) none).run Try.prog w = .ok (.slice (some ⟨g, 15, none⟩) m 42) w := by
  have z3 := Try.sizeOf5
  have e1 : Try.prog.arrayLen 27 = 56 := by kernel_rfl
  have e2 : Try.prog.elem 27 = 5 := by kernel_rfl
  have e3 : Try.prog.underlying 27 = some (.array (Try.prog.arrayLen 27) (Try.prog.elem 27)) := by kernel_rfl
  rw [run_sliceAt_array_lh w 27 _ e3 .i64 .i64 14 (14 + (m : Int)) (by omega) (by omega) (by rw [e1]; omega), e1, e2]
  have hm : (14 + (m : Int)).toNat = 14 + m := by omega
  simp [z3, slicedAt, add_off, hm]
/-- Where Take stands. -/
structure TE (w : World) (p : Nat) (k : Int) (bs : List Int) (m : En) (j : Int) (cs : List Int) (W : World) : Prop where
  bel : Below p w W
  blk : W.heap[p]? = some (.cells (blkA k bs) 29 (0, 0))
  res : EnAt W (p + 1) en0
  nd : EnAt W (p + 1 + 1) m
  cb : W.heap[p + 1 + 1 + 1]? = some (.cells (blkA j cs) 29 (0, 0))
section
variable {w W W' : World} {p : Nat} {k j : Int} {bs cs : List Int} {m : En}
theorem TE.sz (h : TE w p k bs m j cs W) : p + 1 + 1 + 1 < W.heap.size := room_lt h.cb
theorem TE.below (h : TE w p k bs m j cs W) (hb : Below W.heap.size W W') : TE w p k bs m j cs W' :=
  ⟨h.bel.trans (hb.mono (by have := h.sz; omega)), kb hb h.blk, h.res.below hb, h.nd.below hb, kb hb h.cb⟩
theorem TE.setC (h : TE w p k bs m j cs W) (i : Nat) (v : Value) (m2 : En) (he : (enA m).setIfInBounds i v = enA m2) : TE w p k bs m2 j cs (W.setCell ⟨p + 1 + 1, i, none⟩ v) :=
  ⟨h.bel.setCell (show p ≤ p + 1 + 1 by omega) _, by rw [heap_setCell_other W _ _ _ (show p ≠ p + 1 + 1 by omega)]; exact h.blk, by unfold EnAt; rw [heap_setCell_other W _ _ _ (show p + 1 ≠ p + 1 + 1 by omega)]; exact h.res, by unfold EnAt; rw [heap_setCell_same' h.nd, he], by rw [heap_setCell_other W _ _ _ (show p + 1 + 1 + 1 ≠ p + 1 + 1 by omega)]; exact h.cb⟩
theorem TE.setDir (h : TE w p k bs m j cs W) (l a g : Int) : TE w p k bs { m with l := l, a := a, g := g } j cs (W.setCells (p + 1 + 1) 0 [.int .i64 l, .int .i64 a, .int .u32 g]) :=
  ⟨below_setCells _ _ h.bel (by omega), by rw [heap_setCells_other (by omega)]; exact h.blk, by unfold EnAt; rw [heap_setCells_other (by omega)]; exact h.res, by unfold EnAt; rw [heap_setCells _ _ _ _ h.nd (by rw [enA_size]; show 0 + 3 ≤ 6; omega)]; rfl, by rw [heap_setCells_other (by omega)]; exact h.cb⟩
theorem TE.setCb (h : TE w p k bs m j cs W) (i : Int) (ds : List Int) : TE w p k bs m i ds (W.setRow (p + 1 + 1 + 1) (blkA i ds)) :=
  ⟨below_setRow h.bel (by omega) _, by rw [setRow_other W _ _ _ (by omega)]; exact h.blk, h.res.other _ (by omega), h.nd.other _ (by omega), setRow_blk h.cb⟩
theorem EnAt.there {q : Nat} (h : EnAt W q m) : W.there q 0 3 := fun i hi => by
  refine ⟨?_, blk_free h _⟩
  rw [h.cell, Array.getElem?_eq_getElem (by rw [enA_size]; omega)]; rfl
theorem wpList_storeDir {ops : Array Oper} {rest : List Oper} {o : Oper} {ac : Act} {Q : Exit → Act → World → Prop} (hgd : o.guard = none) (x y : Operand) (ho : o.op = .store 24 x y) (q : Nat) (l a g : Int) (hx : ac.eval x = .pointer (some ⟨q, 0, none⟩)) (hy : ac.eval y = idV l a g) (hg : EnAt W q m)
    (h : wpList Try.prog ops Q rest (ac.put o.dst undef) (W.setCells q 0 [.int .i64 l, .int .i64 a, .int .u32 g])) : wpList Try.prog ops Q (o :: rest) ac W :=
  wpList_store_mid hgd 24 x y ho q 0 (idA l a g) hx hy hg.there idsize (idA_one _ _ _) h
end
set_option maxRecDepth 100000 in
set_option maxHeartbeats 6400000 in
theorem entake_any (k : Int) (bs : List Int) (w : World) (hk : i64 k) (h56 : bs.length = 56) (hB : AllB bs) : Calls Try.prog 9 #[.agg (blkA k bs)] w fun e w' => e = .returned (.tuple #[.agg (enA (takeE k bs)), .bool (decide (ETaken k bs))]) ∧ Below w.heap.size w w' := by
  have hok := rdE_ok h56 hB
  have HPUT := Lib.hid (fun w => enput_any (rdE bs) w hok)
  have HIT : Hid (∀ W : World, W.heap[w.heap.size]? = some (.cells (blkA k bs) 29 (0, 0)) → Calls Try.prog 21 #[.slice (some ⟨w.heap.size, 1, none⟩) 7 56] W fun e w' => e = .returned (.tuple #[takeV (seg bs 0 7), .bool (decide (ITaken (seg bs 0 7)))]) ∧ Below W.heap.size W w') := fun W h => by
    have h7 := seg_len (o := 0) (m := 7) h56 (by omega)
    have h1 := itake_any (some ⟨w.heap.size, 1, none⟩) (seg bs 0 7) 56 W (by rw [h7]; omega) (by omega) (seg_allB hB _ _) (byt_seg h 0 7)
    rwa [h7] at h1
  have HTN : Hid (∀ (W : World) (a o m d : Nat), W.heap[w.heap.size]? = some (.cells (blkA k bs) 29 (0, 0)) → a = 1 + o → o + m ≤ 56 → m ≤ 4 → Calls Try.prog 22 #[.slice (some ⟨w.heap.size, a, none⟩) m d] W fun e w' => e = .returned (.int .u32 (numV (seg bs o m))) ∧ W = w') := fun W a o m d h ha ho hm => by
    subst ha
    exact entake_num _ (seg bs o m) m d W (seg_len h56 ho) hm (seg_allB hB _ _) (byt_seg h o m)
  have H56 := Lib.hid h56
  have HBB := Lib.hid hB
  have HT0 : Hid (TE w w.heap.size k bs en0 0 zBs ((((w.alloc (Obj.cells (blkA k bs) 29)).alloc (Obj.cells (enA en0) 26)).alloc (Obj.cells (enA en0) 26)).alloc (Obj.cells (blkA 0 zBs) 29))) := by
    have s1 : (w.alloc (Obj.cells (blkA k bs) 29)).heap.size = w.heap.size + 1 := size_alloc' _ _
    have s2 : ((w.alloc (Obj.cells (blkA k bs) 29)).alloc (Obj.cells (enA en0) 26)).heap.size = w.heap.size + 1 + 1 := by rw [size_alloc', s1]
    have s3 : (((w.alloc (Obj.cells (blkA k bs) 29)).alloc (Obj.cells (enA en0) 26)).alloc (Obj.cells (enA en0) 26)).heap.size = w.heap.size + 1 + 1 + 1 := by rw [size_alloc', s2]
    have B1 := bel1 (w := w) (Obj.cells (blkA k bs) 29)
    have B2 := B1.alloc B1.size (Obj.cells (enA en0) 26)
    have B3 := B2.alloc B2.size (Obj.cells (enA en0) 26)
    have B4 := B3.alloc B3.size (Obj.cells (blkA 0 zBs) 29)
    have H0 := heap_alloc_new w (Obj.cells (blkA k bs) 29)
    have H1 := EnAt.new (w.alloc (Obj.cells (blkA k bs) 29)) en0
    rw [s1] at H1
    have H2 := EnAt.new ((w.alloc (Obj.cells (blkA k bs) 29)).alloc (Obj.cells (enA en0) 26)) en0
    rw [s2] at H2
    have H3 := heap_alloc_new (((w.alloc (Obj.cells (blkA k bs) 29)).alloc (Obj.cells (enA en0) 26)).alloc (Obj.cells (enA en0) 26)) (Obj.cells (blkA 0 zBs) 29)
    rw [s3] at H3
    exact ⟨B4, kb (bel1 _) (kb (bel1 _) (kb (bel1 _) H0)), (H1.alloc _).alloc _, H2.alloc _, H3⟩
  have hy := getD_byte hB 13
  obtain ⟨yn, hyn⟩ : ∃ yn : Nat, bs.getD 13 0 = (yn : Int) := ⟨(bs.getD 13 0).toNat, by omega⟩
  have hx13 : bs[13]? = some (yn : Int) := by
    rw [← hyn, List.getD, List.getElem?_eq_getElem (by omega)]; rfl
  have HC13 : Hid (∀ W : World, W.heap[w.heap.size]? = some (.cells (blkA k bs) 29 (0, 0)) → W.cell? ⟨w.heap.size, 14, none⟩ = some (.int .u8 yn)) := fun W h => by
    rw [blk_cell h, ← Array.getElem?_toList, blkA_list]; exact Bs_at (i := 13) hx13
  have HTS : Hid (rdE bs = ⟨(rdE bs).l, (rdE bs).a, (rdE bs).g, seg bs 14 yn, numV (seg bs 7 2), numV (seg bs 9 4)⟩) := by unfold Hid rdE; rw [hyn]; rfl
  have HTD : Hid (ETaken k bs ↔ ((yn : Int) ≤ 14 ∧ MayE (rdE bs) ∧ k = 6 ∧ pad (bytesE (rdE bs)) = bs)) := by unfold Hid ETaken; rw [hyn]
  have HIS := Lib.hid (itaken_seg h56)
  have HTV : Hid (ITaken (seg bs 0 7) → takeV (seg bs 0 7) = idV (rdE bs).l (rdE bs).a (rdE bs).g) := takeV_seg
  have hyl : yn < 256 := by omega
  have hn2 := numV2_lt (o := 7) h56 hB (by omega)
  have wy : IntKind.i64.wrap (yn : Int) = yn := IntWalk.i64_in _ (by omega)
  have wy2 : IntKind.i64.wrap (14 + (yn : Int)) = 14 + (yn : Int) := IntWalk.i64_in _ (by omega)
  have wn2 : IntKind.i64.wrap (numV (seg bs 7 2) : Int) = numV (seg bs 7 2) := IntWalk.i64_in _ (by omega)
  clear hk hy hyn hx13 hn2 h56 hB
  have HY : Hid (ETaken k bs → takeE k bs = rdE bs) := fun h => by unfold takeE; rw [if_pos h]
  have HNO : Hid (¬ ETaken k bs → takeE k bs = en0) := fun h => by unfold takeE; rw [if_neg h]
  go_enter Try.func9, Try.ntmps9
  go_wp2_with (first
    | (refine wpList_allocE rfl rfl ?_; try simp only [size_alloc'])
    | (refine wpList_allocB rfl rfl ?_; try simp only [size_alloc']))
  refine wp_scope_fwd' [0] fun F here on => ?_
  have HH := Lib.hid here
  clear here on
  go_upto_region 4 with (first
    | (refine wpList_allocE rfl rfl ?_; try simp only [size_alloc'])
    | (refine wpList_allocB rfl rfl ?_; try simp only [size_alloc']))
  generalize (((w.alloc (Obj.cells (blkA k bs) 29)).alloc (Obj.cells (enA en0) 26)).alloc (Obj.cells (enA en0) 26)).alloc (Obj.cells (blkA 0 zBs) 29) = W at *
  generalize hp : w.heap.size = p at *
  have c13 := HC13.out W HT0.out.blk
  by_cases h14 : 14 < yn
  · have hq := h14
    have hno : ¬ ETaken k bs := fun h => by have := (HTD.out.1 h).1; omega
    have HE := Lib.hid (HNO.out hno)
    have HD := Lib.hid (decide_eq_false hno)
    clear hno
    go_wp2_with fail
    go_step3
    refine HH.out _ _ _ _ _ rfl ?_
    go_wp2_with (first
      | (refine wpList_buildE0 rfl rfl ?_)
      | (refine wpList_storeE rfl (.tmp 2) (.tmp 51) rfl (p + 1) rfl en0 en0 rfl HT0.out.res ?_))
    simp only [jumps_ret]
    refine bodyPost_ret (results_enu rfl _ _ (p + 1) en0 rfl (HT0.out.res.set _)) rfl ?_
    have hbl := below_setRow HT0.out.bel (show p ≤ p + 1 by omega) (enA en0)
    exact ⟨by rw [HE.out, HD.out]; rfl, by first | exact hbl | (rw [hp]; exact hbl)⟩
  by_cases hit : ITaken (seg bs 0 7)
  · have HVE := Lib.hid (HTV.out hit)
    have HDI := Lib.hid (decide_eq_true hit)
    have HMI := Lib.hid (HIS.out.1 hit)
    rw [HVE.out, HDI.out] at HIT
    clear hit
    go_wp2_with fail
    refine (HIT.out _ HT0.out.blk).mono ?_; rintro e w1 ⟨rfl, hb1⟩
    have HT1 := Lib.hid (HT0.out.below hb1)
    clear hb1 HT0 c13
    have HT2 := Lib.hid (HT1.out.setDir (rdE bs).l (rdE bs).a (rdE bs).g)
    go_upto_region 8 with (first
      | (refine wpList_storeDir rfl (.tmp 20) (.tmp 18) rfl (p + 1 + 1) (rdE bs).l (rdE bs).a (rdE bs).g rfl rfl HT1.out.nd ?_
         generalize w1.setCells (p + 1 + 1) 0 [.int .i64 (rdE bs).l, .int .i64 (rdE bs).a, .int .u32 (rdE bs).g] = w2 at *))
    clear HT1
    have hsl : ∀ W, (Instr.sliceAt 27 (.pointer (some ⟨p, 1, none⟩)) (some (.int .i64 7)) (some (.int .i64 9)) none).run Try.prog W = .ok (.slice (some ⟨p, 8, none⟩) 2 49) W := fun W => run_sliceLH p 7 9 (by omega) (by omega) (by omega) W
    have c4 := HT2.out.nd.cells.2.1
    have f4 : w2.frozen? ⟨p + 1 + 1, 4, none⟩ = false := blk_free HT2.out.nd 4
    go_wp2_with fail
    refine (HTN.out _ 8 7 2 49 HT2.out.blk (by omega) (by omega) (by omega)).mono ?_; rintro e w3 ⟨rfl, rfl⟩
    have HT3 := Lib.hid (HT2.out.setC 4 (.int .i64 (numV (seg bs 7 2))) ⟨(rdE bs).l, (rdE bs).a, (rdE bs).g, [], numV (seg bs 7 2), 0⟩ rfl)
    clear HT2
    go_upto_region 9 with fail
    generalize w2.setCell ⟨p + 1 + 1, 4, none⟩ (.int .i64 (numV (seg bs 7 2))) = w3 at *
    clear hsl c4 f4
    have hsl : ∀ W, (Instr.sliceAt 27 (.pointer (some ⟨p, 1, none⟩)) (some (.int .i64 9)) (some (.int .i64 13)) none).run Try.prog W = .ok (.slice (some ⟨p, 10, none⟩) 4 47) W := fun W => run_sliceLH p 9 13 (by omega) (by omega) (by omega) W
    have c5 := HT3.out.nd.cells.2.2
    have f5 : w3.frozen? ⟨p + 1 + 1, 5, none⟩ = false := blk_free HT3.out.nd 5
    go_wp2_with fail
    refine (HTN.out _ 10 9 4 47 HT3.out.blk (by omega) (by omega) (by omega)).mono ?_; rintro e w4 ⟨rfl, rfl⟩
    have HT4 := Lib.hid (HT3.out.setC 5 (.int .u32 (numV (seg bs 9 4))) ⟨(rdE bs).l, (rdE bs).a, (rdE bs).g, [], numV (seg bs 7 2), numV (seg bs 9 4)⟩ rfl)
    clear HT3
    go_upto_region 10 with fail
    generalize w3.setCell ⟨p + 1 + 1, 5, none⟩ (.int .u32 (numV (seg bs 9 4))) = w4 at *
    clear hsl c5 f5
    have hsl := fun W => run_sliceS p (m := yn) (by omega) W
    have hcv := conv_any (c := 42) (byt_seg HT4.out.blk 14 yn) (show (seg bs 14 yn).length = yn from seg_len H56.out (by omega))
    have c3 := HT4.out.nd.cells.1
    have f3 : w4.frozen? ⟨p + 1 + 1, 3, none⟩ = false := blk_free HT4.out.nd 3
    have HT5 := Lib.hid (HT4.out.setC 3 (.string (strOfNums (seg bs 14 yn))) ⟨(rdE bs).l, (rdE bs).a, (rdE bs).g, seg bs 14 yn, numV (seg bs 7 2), numV (seg bs 9 4)⟩ rfl)
    rw [← HTS.out] at HT5
    change (convert 41 9 (.slice (some ⟨p, 15, none⟩) yn 42)).run Try.prog w4 = .ok (.string (strOfNums (seg bs 14 yn))) w4 at hcv
    go_upto_region 11 with fail
    clear HT4 hsl hcv c3 f3
    generalize w4.setCell ⟨p + 1 + 1, 3, none⟩ (.string (strOfNums (seg bs 14 yn))) = w5 at *
    go_wp2_with (refine wpList_loadE rfl (.tmp 4) rfl (p + 1 + 1) rfl (rdE bs) HT5.out.nd ?_)
    refine (HPUT.out _).mono ?_; rintro e w6 ⟨rfl, hb6⟩
    have HT6 := Lib.hid (HT5.out.below hb6)
    clear hb6 HT5
    by_cases hm : MayE (rdE bs)
    · have HPK : Hid (putEK (rdE bs) = 6) := by unfold Hid putEK; rw [if_pos hm]
      have HPB : Hid (putEB (rdE bs) = pad (bytesE (rdE bs))) := by unfold Hid putEB; rw [if_pos hm]
      have HL : Hid ((pad (bytesE (rdE bs))).length = 56) := by unfold Hid; rw [← HPB.out]; exact putEB_len
      have HLB : Hid (AllB (pad (bytesE (rdE bs)))) := by unfold Hid; rw [← HPB.out]; exact putEB_allB hok.t
      rw [HPK.out, HPB.out, decide_eq_true hm]
      have HTE : Hid (ETaken k bs ↔ (6 = k ∧ pad (bytesE (rdE bs)) = bs)) := HTD.out.trans ⟨fun h => ⟨h.2.2.1.symm, h.2.2.2⟩, fun h => ⟨by omega, hm, h.1.symm, h.2⟩⟩
      clear hm HPK HPB HTD
      generalize pad (bytesE (rdE bs)) = cs at *
      have HT7 := Lib.hid (HT6.out.setCb 6 cs)
      go_upto_region 12 with (refine wpList_storeB rfl (.tmp 5) (.tmp 41) rfl (p + 1 + 1 + 1) rfl 6 0 cs zBs rfl HL.out zBs_len HT6.out.cb ?_)
      clear HT6
      generalize w6.setRow (p + 1 + 1 + 1) (blkA 6 cs) = w7 at *
      by_cases hc : 6 = k ∧ cs = bs
      · have HQ : Hid ((!(decide (6 = k ∧ cs = bs))) = false) := by unfold Hid; simp [hc]
        have HE := Lib.hid (HY.out (HTE.out.2 hc))
        have HD := Lib.hid (decide_eq_true (HTE.out.2 hc))
        clear hc
        go_wp2_with (first
          | (refine wpList_loadBw (by rfl) (.tmp 5) rfl (p + 1 + 1 + 1) rfl 6 cs HL.out HT7.out.cb ?_)
          | (refine wpList_loadBw (by rfl) (.tmp 1) rfl p rfl k bs H56.out HT7.out.blk ?_)
          | (refine wpList_neqBw (by rfl) (.tmp 46) (.tmp 47) _ rfl 6 k cs bs rfl rfl HL.out H56.out HLB.out HBB.out ?_; rw [HQ.out])
          | (refine wpList_loadE rfl (.tmp 4) rfl (p + 1 + 1) rfl (rdE bs) HT7.out.nd ?_)
          | (refine wpList_storeE rfl (.tmp 2) (.tmp 50) rfl (p + 1) rfl (rdE bs) en0 rfl HT7.out.res ?_))
        simp only [jumps_ret]
        refine bodyPost_ret (results_enu rfl _ _ (p + 1) (rdE bs) rfl (HT7.out.res.set _)) rfl ?_
        have hbl := below_setRow HT7.out.bel (show p ≤ p + 1 by omega) (enA (rdE bs))
        exact ⟨by rw [HE.out, HD.out]; rfl, by first | exact hbl | (rw [hp]; exact hbl)⟩
      · have HQ : Hid ((!(decide (6 = k ∧ cs = bs))) = true) := by unfold Hid; rw [decide_eq_false hc]; rfl
        have hno : ¬ ETaken k bs := fun h => hc (HTE.out.1 h)
        have HE := Lib.hid (HNO.out hno)
        have HD := Lib.hid (decide_eq_false hno)
        clear hno
        clear hc
        go_wp2_with (first
          | (refine wpList_loadBw (by rfl) (.tmp 5) rfl (p + 1 + 1 + 1) rfl 6 cs HL.out HT7.out.cb ?_)
          | (refine wpList_loadBw (by rfl) (.tmp 1) rfl p rfl k bs H56.out HT7.out.blk ?_)
          | (refine wpList_neqBw (by rfl) (.tmp 46) (.tmp 47) _ rfl 6 k cs bs rfl rfl HL.out H56.out HLB.out HBB.out ?_; rw [HQ.out]))
        go_step3
        refine HH.out _ _ _ _ _ rfl ?_
        go_wp2_with (first
          | (refine wpList_buildE0 rfl rfl ?_)
          | (refine wpList_storeE rfl (.tmp 2) (.tmp 51) rfl (p + 1) rfl en0 en0 rfl HT7.out.res ?_))
        simp only [jumps_ret]
        refine bodyPost_ret (results_enu rfl _ _ (p + 1) en0 rfl (HT7.out.res.set _)) rfl ?_
        have hbl := below_setRow HT7.out.bel (show p ≤ p + 1 by omega) (enA en0)
        exact ⟨by rw [HE.out, HD.out]; rfl, by first | exact hbl | (rw [hp]; exact hbl)⟩
    · have HPK : Hid (putEK (rdE bs) = 0) := by unfold Hid putEK; rw [if_neg hm]
      have HPB : Hid (putEB (rdE bs) = zBs) := by unfold Hid putEB; rw [if_neg hm]
      rw [HPK.out, HPB.out, decide_eq_false hm]
      have hno : ¬ ETaken k bs := fun h => hm (HTD.out.1 h).2.1
      have HE := Lib.hid (HNO.out hno)
      have HD := Lib.hid (decide_eq_false hno)
      clear hno
      clear hm HPK HPB HTD
      have HT7 := Lib.hid (HT6.out.setCb 0 zBs)
      go_upto_region 12 with (refine wpList_storeB rfl (.tmp 5) (.tmp 41) rfl (p + 1 + 1 + 1) rfl 0 0 zBs zBs rfl zBs_len zBs_len HT6.out.cb ?_)
      clear HT6
      generalize w6.setRow (p + 1 + 1 + 1) (blkA 0 zBs) = w7 at *
      go_wp2_with fail
      go_step3
      refine HH.out _ _ _ _ _ rfl ?_
      go_wp2_with (first
        | (refine wpList_buildE0 rfl rfl ?_)
        | (refine wpList_storeE rfl (.tmp 2) (.tmp 51) rfl (p + 1) rfl en0 en0 rfl HT7.out.res ?_))
      simp only [jumps_ret]
      refine bodyPost_ret (results_enu rfl _ _ (p + 1) en0 rfl (HT7.out.res.set _)) rfl ?_
      have hbl := below_setRow HT7.out.bel (show p ≤ p + 1 by omega) (enA en0)
      exact ⟨by rw [HE.out, HD.out]; rfl, by first | exact hbl | (rw [hp]; exact hbl)⟩
  · have HVE := Lib.hid (takeV_no hit)
    have HDI := Lib.hid (decide_eq_false hit)
    have hno : ¬ ETaken k bs := fun h => hit (HIS.out.2 (HTD.out.1 h).2.1.1.1)
    have HE := Lib.hid (HNO.out hno)
    have HD := Lib.hid (decide_eq_false hno)
    rw [HVE.out, HDI.out] at HIT
    clear hit hno
    go_wp2_with fail
    refine (HIT.out _ HT0.out.blk).mono ?_; rintro e w1 ⟨rfl, hb1⟩
    have HT1 := Lib.hid (HT0.out.below hb1)
    clear hb1 HT0 c13
    have HT2 := Lib.hid (HT1.out.setDir 0 0 0)
    go_wp2_with (first
      | (refine wpList_storeDir rfl (.tmp 20) (.tmp 18) rfl (p + 1 + 1) 0 0 0 rfl rfl HT1.out.nd ?_
         generalize w1.setCells (p + 1 + 1) 0 [.int .i64 0, .int .i64 0, .int .u32 0] = w2 at *))
    go_step3
    refine HH.out _ _ _ _ _ rfl ?_
    go_wp2_with (first
      | (refine wpList_buildE0 rfl rfl ?_)
      | (refine wpList_storeE rfl (.tmp 2) (.tmp 51) rfl (p + 1) rfl en0 en0 rfl HT2.out.res ?_))
    simp only [jumps_ret]
    refine bodyPost_ret (results_enu rfl _ _ (p + 1) en0 rfl (HT2.out.res.set _)) rfl ?_
    have hbl := below_setRow HT2.out.bel (show p ≤ p + 1 by omega) (enA en0)
    exact ⟨by rw [HE.out, HD.out]; rfl, by first | exact hbl | (rw [hp]; exact hbl)⟩
end Go.Proofs.Ytcmmopngjeonfaa
