/- Contract: node.Put, walked. -/
import Derived.Test.YtebahdiiokfkfaaGg
namespace Go.Proofs.Ytebahdiiokfkfaa
open Go.ChangeShapes Go.WideShapes Go.ChangeAt Go.RowKit
set_option linter.unusedVariables false
theorem run_sliceAt56 (g : Nat) {m : Nat} (h : m ≤ 55) (w : World) : (Instr.sliceAt 26 (.pointer (some ⟨g, 1, none⟩)) (some (.int .i64 m)) none none).run Try.prog w = .ok (.slice (some ⟨g, 1 + m, none⟩) (56 - m) (56 - m)) w := by
  have z3 := Try.sizeOf5
  have e1 : Try.prog.arrayLen 26 = 56 := by kernel_rfl
  have e2 : Try.prog.elem 26 = 5 := by kernel_rfl
  have e3 : Try.prog.underlying 26 = some (.array (Try.prog.arrayLen 26) (Try.prog.elem 26)) := by kernel_rfl
  rw [run_sliceAt_array_l w 26 _ e3 .i64 (m : Int) (by omega) (by rw [e1]; omega), e1, e2]
  have hm : ¬ 56 = m := by omega
  simp [z3, slicedAt, add_off, hm]
theorem wpList_copyT {ops : Array Oper} {rest : List Oper} {o : Oper} {ac : Act} {w : World} {Q : Exit → Act → World → Prop} (hgd : o.guard = none) (s x : Operand)
    (ho : o.op = .call { callee := .builtin .copy, args := #[s, x], argTypes := #[37, 9] })
    (g : Nat) (k : Int) (n : Nat) (ys t : List Int) (hn : ys.length = n) (hs : ac.eval s = .slice (some ⟨g, 1 + n, none⟩) (56 - n) (56 - n)) (hx : ac.eval x = .string (strOfNums t)) (hg : w.heap[g]? = some (.cells (blkA k (pad ys)) 28 (0, 0))) (hl : n + t.length ≤ 56) (ht : AllB t)
    (h : wpList Try.prog ops Q rest (ac.put o.dst (goInt t.length)) (w.setRow g (blkA k (pad (ys ++ t))))) : wpList Try.prog ops Q (o :: rest) ac w :=
  wpList_plain hgd fun _ hK => by
    subst hn
    have hr := run_copyT w o.type g k ys t hg hl ht
    unfold Oper.wp execOp
    simp only [ho, resolve, invoke, builtin, Sem.run_bind, Sem.run_pure, Result.andThen_ok, List.map_toArray, List.map_cons, List.map_nil, hs, hx, hr]
    exact hK _ _ h
set_option maxRecDepth 100000 in
set_option maxHeartbeats 6400000 in
theorem put_any (k : Int) (n : Nd) (w : World) (hn : NdOk n) : Calls Try.prog 7 #[.int .i64 k, .agg (ndA n)] w fun e w' => e = .returned (.tuple #[.agg (blkA (putK k n) (putBs k n)), .bool (decide (MayN k n))]) ∧ Below w.heap.size w w' := by
  have HM := Lib.hid (fun w => may_any k n w hn)
  have HTP := Lib.hid (toplaces_any n)
  have hT := hn.t
  have HTA := Lib.hid hT
  have HP : Hid (PW w w.heap.size n k [] ((((w.alloc (Obj.cells (ndA n) 25)).alloc (Obj.cells (blkA 0 zBs) 28)).alloc (Obj.cells (blkA 0 zBs) 28)).setRow (w.heap.size + 1 + 1) (blkA k zBs))) := by
    have s1 : (w.alloc (Obj.cells (ndA n) 25)).heap.size = w.heap.size + 1 := size_alloc' _ _
    have s2 : ((w.alloc (Obj.cells (ndA n) 25)).alloc (Obj.cells (blkA 0 zBs) 28)).heap.size = w.heap.size + 1 + 1 := by rw [size_alloc', s1]
    have B1 := bel1 (w := w) (Obj.cells (ndA n) 25)
    have B2 := B1.alloc B1.size (Obj.cells (blkA 0 zBs) 28)
    have B3 := B2.alloc B2.size (Obj.cells (blkA 0 zBs) 28)
    have H1 := heap_alloc_new (w.alloc (Obj.cells (ndA n) 25)) (Obj.cells (blkA 0 zBs) 28)
    rw [s1] at H1
    have H2 := heap_alloc_new ((w.alloc (Obj.cells (ndA n) 25)).alloc (Obj.cells (blkA 0 zBs) 28)) (Obj.cells (blkA 0 zBs) 28)
    rw [s2] at H2
    refine ⟨below_setRow B3 (by omega) _, (((NdAt.new w n).alloc _).alloc _).other _ (by omega), ?_, setRow_blk H2⟩
    rw [setRow_other _ _ _ _ (by omega)]
    exact kb (bel1 _) H1
  have HQ : Hid ((((w.alloc (Obj.cells (ndA n) 25)).alloc (Obj.cells (blkA 0 zBs) 28)).alloc (Obj.cells (blkA 0 zBs) 28)).heap[w.heap.size + 1 + 1]? = some (.cells (blkA 0 zBs) 28 (0, 0))) := by
    unfold Hid
    have h := heap_alloc_new ((w.alloc (Obj.cells (ndA n) 25)).alloc (Obj.cells (blkA 0 zBs) 28)) (Obj.cells (blkA 0 zBs) 28)
    rwa [show ((w.alloc (Obj.cells (ndA n) 25)).alloc (Obj.cells (blkA 0 zBs) 28)).heap.size = w.heap.size + 1 + 1 by rw [size_alloc', size_alloc']] at h
  go_enter Try.func7, Try.ntmps7
  go_wp2_with (first
    | (refine wpList_allocB rfl rfl ?_))
  refine wp_scope_fwd' [0] fun F here on => ?_
  have HH := Lib.hid here
  clear here on
  go_upto_region 2 with (first
    | (refine wpList_allocB rfl rfl ?_; try simp only [size_alloc'])
    | (refine wpList_buildBk rfl (.tmp 10) k rfl rfl ?_)
    | (refine wpList_storeB rfl (.tmp 6) (.tmp 11) rfl (w.heap.size + 1 + 1) rfl k 0 zBs zBs rfl zBs_len zBs_len HQ.out ?_))
  clear HQ
  generalize (((w.alloc (Obj.cells (ndA n) 25)).alloc (Obj.cells (blkA 0 zBs) 28)).alloc (Obj.cells (blkA 0 zBs) 28)).setRow (w.heap.size + 1 + 1) (blkA k zBs) = W at *
  by_cases hm : MayN k n
  · have HA := Lib.hid (fun x hx ys m s W a b c d => appnum_int (w.heap.size + 1 + 1) k ys m x s W a b c d hx)
    have HPK : Hid (putK k n = k) := by unfold Hid putK; rw [if_pos hm]
    have HPB : Hid (putBs k n = pad (bytesN n)) := by unfold Hid putBs; rw [if_pos hm]
    have HD := Lib.hid (decide_eq_true hm)
    rw [HD.out] at HM
    have htl := hm.tl
    have hsz := hm.sz
    have hgl := hm.1
    have HPL := Lib.hid (fun i hi => hm.at_ (i := i) hi)
    have hg32 : n.g < 4294967296 := by have := hn.g.2; omega
    have wl : IntKind.u32.wrap n.l = n.l := IntWalk.u32_in _ (by omega)
    have ws : IntKind.u32.wrap n.s = n.s := IntWalk.u32_in _ (by omega)
    clear hm
    go_wp2_with (refine wpList_loadN rfl (.tmp 3) rfl w.heap.size rfl n HP.out.at_ ?_)
    refine (HM.out _).mono ?_; rintro e w1 ⟨rfl, hb1⟩
    have HP1 := Lib.hid (HP.out.below hb1)
    clear hb1 HP
    go_upto_region 4 with fail
    obtain ⟨c0, c1, c2, c7, c8⟩ := HP1.out.at_.cells
    go_wp2_with fail
    refine (HA.out n.g ⟨by omega, hg32⟩ [] 0 4 _ rfl HP1.out.bd (by omega) (by omega)).mono ?_
    rintro e w2 ⟨rfl, hbd, hg⟩
    have HP2 := Lib.hid (HP1.out.step hbd hg)
    clear hbd hg HP1 c0 c1 c2 c7 c8
    obtain ⟨c0, c1, c2, c7, c8⟩ := HP2.out.at_.cells
    go_wp2_with fail
    refine (HA.out n.l (by omega) ([] ++ be n.g.toNat 4) (0 + 4) 2 _ (by simp [be_length]) HP2.out.bd (by omega) (by omega)).mono ?_
    rintro e w3 ⟨rfl, hbd, hg⟩
    have HP3 := Lib.hid (HP2.out.step hbd hg)
    clear hbd hg HP2 c0 c1 c2 c7 c8
    obtain ⟨c0, c1, c2, c7, c8⟩ := HP3.out.at_.cells
    go_wp2_with fail
    refine (HA.out n.s (by omega) ([] ++ be n.g.toNat 4 ++ be n.l.toNat 2) (0 + 4 + 2) 4 _ (by simp [be_length]) HP3.out.bd (by omega) (by omega)).mono ?_
    rintro e w4 ⟨rfl, hbd, hg⟩
    have HP4' := Lib.hid (HP3.out.step hbd hg)
    have HP4 : Hid (PW w w.heap.size n k (headN n) w4) := HP4'
    clear hbd hg HP3 HP4' c0 c1 c2 c7 c8
    go_wp2_with (refine wpList_loadN rfl (.tmp 3) rfl w.heap.size rfl n HP4.out.at_ ?_)
    refine (HTP.out _).mono ?_; rintro e w5 ⟨rfl, hb5⟩
    have HP5 := Lib.hid (HP4.out.below hb5)
    clear hb5 HP4
    go_wp2_with fail
    go_loopw [7, 34] (fun c i wr => ∃ j : Nat, j ≤ 5 ∧ i = .int .i64 j ∧ c = .slice (some ⟨w.heap.size + 1 + 1, 1, none⟩) (10 + 2 * j) 56 ∧ Hid (PW w w.heap.size n k (headN n ++ plB (n.ps.take j)) wr)) (fun _ i _ => (5 - intOf i).toNat)
    case atStart => exact ⟨0, by omega, rfl, rfl, by unfold Hid; rw [List.take_zero]; show PW _ _ _ _ (headN n ++ []) _; rw [List.append_nil]; exact HP5.out⟩
    case round =>
      obtain ⟨j, hj, rfl, rfl, HPj⟩ := hrel
      by_cases hlt : j < 5
      · have hix := fun W => run_index5 n hlt W
        have hx : n.ps[j]? = some (n.ps.getD j 0) := by
          rw [List.getD, List.getElem?_eq_getElem (show j < n.ps.length from hlt)]; rfl
        have HT2 : Hid (headN n ++ plB (n.ps.take (j + 1)) = headN n ++ plB (n.ps.take j) ++ be (n.ps.getD j 0 + 1).toNat 2) := by
          unfold Hid; rw [take_snoc' hx, plB_snoc, List.append_assoc]
        have hb := HPL.out j hlt
        have HTN := Lib.hid (tonum_any (n.ps.getD j 0))
        have HLN : Hid ((headN n ++ plB (n.ps.take j)).length = 10 + 2 * j) := by
          unfold Hid; rw [List.length_append, headN_length, plB_length, List.length_take]; show 10 + 2 * min j 5 = _; omega
        clear hx
        generalize n.ps.getD j 0 = x at *
        go_wp2_with fail
        refine (HTN.out _ hb).mono ?_; rintro e w6 ⟨rfl, rfl⟩
        go_wp2_with fail
        refine (HA.out (x + 1) (by omega) (headN n ++ plB (n.ps.take j)) (10 + 2 * j) 2 _ HLN.out HPj.out.bd (by omega) (by omega)).mono ?_
        rintro e w7 ⟨rfl, hbd, hg⟩
        have HPn := Lib.hid (HPj.out.step hbd hg)
        clear hbd hg HPj hix
        go_wp2_with fail
        go_roundw
        case rel => exact ⟨j + 1, by omega, by go_num, by rw [show 10 + 2 * (j + 1) = 10 + 2 * j + 2 by omega], by rw [HT2.out]; exact HPn⟩
        case measure => simp [intOf]; omega
      · obtain rfl : j = 5 := by omega
        have HPK5 : Hid (PW w w.heap.size n k (headN n ++ plB n.ps) wr) := HPj
        rw [show 10 + 2 * 5 = 20 from rfl]
        have wt : IntKind.u8.wrap ((strOfNums n.t).size : Int) = n.t.length := by rw [strOfNums_size]; exact IntWalk.u8_in _ (by omega)
        have HL5 : Hid ((headN n ++ plB n.ps).length = 20) := by unfold Hid; rw [List.length_append, headN_length, plB_length]; rfl
        clear HPj
        go_upto_region 12 with fail
        obtain ⟨c0, c1, c2, c7, c8⟩ := HPK5.out.at_.cells
        have hlw := strOfNums_size n.t
        go_upto_region 13 with (first
          | (at_builtin
             refine wpList_app_room1 rfl (.tmp 42) (.tmp 47) rfl (w.heap.size + 1 + 1) k 20 (headN n ++ plB n.ps) (n.t.length : Int) ⟨wr.heap.size, 0, none⟩ HL5.out rfl rfl (HPK5.out.alloc _).bd (by omega) ((blk_cell (heap_alloc_new _ _) 0).trans rfl) ?_
             intro w9 h1 h2
             have HP9' := Lib.hid ((HPK5.out.alloc _).step h1 h2)
             have HP9 : Hid (PW w w.heap.size n k (frontN n) w9) := HP9'
             clear h1 h2 HP9' HPK5))
        clear c0 c1 c2 c7 c8
        have c8 := HP9.out.at_.cells.2.2.2.2
        have hsl := fun W => run_sliceAt56 (w.heap.size + 1 + 1) (m := 21) (by omega) W
        go_still_tail 6, (by kernel_rfl)
        change wpList _ _ _ _ _ w9.drew
        have HPD : Hid (PW w w.heap.size n k (frontN n) w9.drew) := ⟨HP9.out.bel.drew, HP9.out.at_, HP9.out.res, HP9.out.bd⟩
        clear HP9 c8 hsl
        generalize w9.drew = w10 at *
        refine wpList_copyT rfl (.tmp 52) (.tmp 54) rfl (w.heap.size + 1 + 1) k 21 (frontN n) n.t (frontN_length n) rfl rfl HPD.out.bd (by omega) HTA.out ?_
        have HPE : Hid (PW w w.heap.size n k (bytesN n) (w10.setRow (w.heap.size + 1 + 1) (blkA k (pad (frontN n ++ n.t))))) := HPD.out.copied
        generalize w10.setRow (w.heap.size + 1 + 1) (blkA k (pad (frontN n ++ n.t))) = w11 at *
        have HLB := Lib.hid (pad_len (ys := bytesN n) (by rw [bytesN_length]; omega))
        clear HPD wt hlw hsz hgl hg32 wl ws HL5 hT
        go_wp2_with (first
          | (refine wpList_loadB rfl (.tmp 6) rfl (w.heap.size + 1 + 1) rfl k (pad (bytesN n)) HLB.out HPE.out.bd ?_)
          | (refine wpList_storeB rfl (.tmp 4) (.tmp 56) rfl (w.heap.size + 1) rfl k 0 (pad (bytesN n)) zBs rfl HLB.out zBs_len HPE.out.res ?_))
        simp only [jumps_ret]
        refine bodyPost_ret (results_blk rfl _ _ (w.heap.size + 1) k (pad (bytesN n)) rfl HLB.out (setRow_blk HPE.out.res)) rfl ?_
        exact ⟨by rw [HPK.out, HPB.out, HD.out]; rfl, below_setRow HPE.out.bel (by omega) _⟩
  · have HPK : Hid (putK k n = 0) := by unfold Hid putK; rw [if_neg hm]
    have HPB : Hid (putBs k n = zBs) := by unfold Hid putBs; rw [if_neg hm]
    have HD := Lib.hid (decide_eq_false hm)
    rw [HD.out] at HM
    clear hm
    go_wp2_with (refine wpList_loadN rfl (.tmp 3) rfl w.heap.size rfl n HP.out.at_ ?_)
    refine (HM.out _).mono ?_; rintro e w1 ⟨rfl, hb1⟩
    have HP1 := Lib.hid (HP.out.below hb1)
    clear hb1 HP
    go_wp2_with fail
    go_step3
    refine HH.out _ _ _ _ _ rfl ?_
    go_wp2_with (first
      | (refine wpList_buildB0 rfl rfl ?_)
      | (refine wpList_storeB rfl (.tmp 4) (.tmp 57) rfl (w.heap.size + 1) rfl 0 0 zBs zBs rfl zBs_len zBs_len HP1.out.res ?_))
    simp only [jumps_ret]
    refine bodyPost_ret (results_blk rfl _ _ (w.heap.size + 1) 0 zBs rfl zBs_len (setRow_blk HP1.out.res)) rfl ?_
    exact ⟨by rw [HPK.out, HPB.out, HD.out]; rfl, below_setRow HP1.out.bel (by omega) _⟩
end Go.Proofs.Ytebahdiiokfkfaa
