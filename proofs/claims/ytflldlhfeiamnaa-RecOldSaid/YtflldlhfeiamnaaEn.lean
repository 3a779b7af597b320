/- Contracts: rec.writeOf, slices.EqualFunc with bytes.Equal. -/
import Derived.Test.YtflldlhfeiamnaaEk
namespace Go.Proofs.Ytflldlhfeiamnaa
open Go.ChangeShapes Go.WideShapes Go.ChangeAt Go.RowKit
set_option linter.unusedVariables false
theorem builtW0 (x : Int) : Try.prog.built 46 [(0, .int .i64 x)] = some (wrA ⟨x, 0, zBs⟩) := by kernel_rfl
theorem wpList_buildW0 {ops : Array Oper} {rest : List Oper} {o : Oper} {a : Act} {w : World} {Q : Exit → Act → World → Prop} (hgd : o.guard = none) (x : Operand) (k : Int) (ho : o.op = .build 46 #[(0, x)]) (hx : a.eval x = .int .i64 k)
    (h : wpList Try.prog ops Q rest (a.put o.dst (.agg (wrA ⟨k, 0, zBs⟩))) w) : wpList Try.prog ops Q (o :: rest) a w :=
  wpList_plain hgd fun _ hK => by
    unfold Oper.wp execOp
    have hb := run_build (P := Try.prog) w 46 #[(0, .int .i64 k)] _ (builtW0 k)
    simp only [ho, List.map_toArray, List.map_cons, List.map_nil, hx, Sem.run_bind, hb, Result.andThen_ok]
    exact hK _ _ h
theorem wrA_kind (t k k' : Int) (bs : List Int) : (wrA ⟨t, k, bs⟩).setIfInBounds 1 (.int .i64 k') = wrA ⟨t, k', bs⟩ := by unfold wrA wrL blkL; simp
theorem splice_pad (t k : Int) (b : List Int) : splice (wrL ⟨t, k, zBs⟩) 2 (Bs (b.take 56)) = wrL ⟨t, k, padB b⟩ := by
  unfold splice wrL blkL padB
  rw [Bs_length, List.length_take]
  have e : (Bs zBs).drop (min 56 b.length) = Bs (List.replicate (56 - b.length) 0) := by
    unfold Bs zBs; rw [← List.map_drop, List.drop_replicate]; congr 2; omega
  have e2 : (Value.int .i64 t :: Value.int .i64 k :: Bs zBs).drop (2 + min 56 b.length) = (Bs zBs).drop (min 56 b.length) := by
    rw [show 2 + min 56 b.length = min 56 b.length + 1 + 1 by omega]; rfl
  rw [e2, e]
  unfold Bs
  rw [List.map_append]
  rfl
set_option maxRecDepth 100000 in
set_option maxHeartbeats 1600000 in
theorem writeof_any (A B : Option Addr) (xs b : List Int) (n c m d : Nat) (y : Int) (w : World) (hn : xs.length = n) (h3 : 3 ≤ n) (hnc : n ≤ c) (hc : c ≤ 9223372036854775807) (hm : b.length = m) (hX : AllB xs) (hy2 : xs[2]? = some y) (bx : Byt w A xs) (bb : Byt w B b) :
    Calls Try.prog 34 #[.slice A n c, .slice B m d] w fun e w' => e = .returned (.agg (wrA ⟨numV (xs.take 2), y, padB b⟩)) ∧ Below w.heap.size w w' := by
  have HX := Lib.hid bx
  have HB := Lib.hid bb
  have HN := Lib.hid hn
  have HM := Lib.hid hm
  have HXB := Lib.hid hX
  have hyb := hX y (List.mem_of_getElem? hy2)
  have HY2 := Lib.hid hy2
  have hp : Byt w A (xs.take 2) := bx.take 2
  have hv := numV_lt 2 (xs.take 2) (by rw [List.length_take]; omega) (fun x hx => hX x (List.mem_of_mem_take hx))
  clear bx bb hn hm hX hy2
  obtain ⟨ad, rfl, hc2⟩ := HX.out 2 y HY2.out
  have HZ : Hid ((Try.prog.info? 5).map (·.size) = some 1) := by
    obtain ⟨i0, hi, hz0, hz1, hz2⟩ := info_parts info5
    unfold Hid; rw [hi]; simp [hz1]
  have hm0 := heap_alloc_new w (Obj.cells (wrA zW) 46)
  have hbel0 : Below w.heap.size w (w.alloc (Obj.cells (wrA zW) 46)) := (Below.refl _ _).alloc (Nat.le_refl _) _
  go_enter Try.func34, Try.ntmps34
  go_upto_region 1 with (first
    | (refine wpList_allocW rfl rfl ?_))
  have HM0 := Lib.hid hm0
  have HP1 := Lib.hid (hp.keep hbel0)
  have hszW := size_alloc' w (Obj.cells (wrA zW) 46)
  generalize w.alloc (Obj.cells (wrA zW) 46) = W1 at *
  have HZW1 : Hid (W1.heap.size = w.heap.size + 1) := hszW
  clear hm0 hp hszW
  go_wp2_with fail
  refine (numof_any (some ad) (xs.take 2) 2 c W1 (by rw [List.length_take, HN.out]; omega) (by omega) (fun x hx => HXB.out x (List.mem_of_mem_take hx)) HP1.out).mono ?_
  rintro e w2 ⟨rfl, rfl⟩
  generalize hq : numV (xs.take 2) = v at *
  have HQ := Lib.hid hq
  clear hq
  have wv : IntKind.i64.wrap (v : Int) = v := IntWalk.i64_in _ (by omega)
  have HM2 := Lib.hid (heap_alloc_new W1 (Obj.cells (wrA zW) 46))
  go_upto_region 2 with (first
    | (refine wpList_buildW0 rfl (.tmp 9) (v : Int) rfl rfl ?_)
    | (refine wpList_allocW rfl rfl ?_)
    | (refine wpList_storeW rfl (.tmp 5) (.tmp 10) rfl W1.heap.size rfl ⟨(v : Int), 0, zBs⟩ zW rfl zBs_len zW_len HM2.out ?_))
  have hnew := new_wr W1 ⟨(v : Int), 0, zBs⟩
  have hbn := new_wr_below W1 ⟨(v : Int), 0, zBs⟩
  have HM3 := Lib.hid (kb hbn HM0.out)
  have HBL3 := Lib.hid (keepB hbel0 hbn)
  clear HM2 HM0 hbel0 hbn
  generalize (W1.alloc (.cells (wrA zW) 46)).setRow W1.heap.size (wrA ⟨(v : Int), 0, zBs⟩) = W3 at *
  have hg5 : w.heap.size < W1.heap.size := by rw [HZW1.out]; omega
  clear HZW1
  generalize W1.heap.size = g5 at *
  have c1 : W3.cell? ⟨g5, 1, none⟩ = some (.int .i64 0) := (wrAt_blk hnew).c1
  have f1 : W3.frozen? ⟨g5, 1, none⟩ = false := blk_free hnew 1
  have cc2 : W3.cell? ⟨ad.block, ad.off + 2, none⟩ = some (.int .u8 y) := by
    have := keepC HBL3.out hc2
    rwa [show (2 : Nat) = 1 + 1 from rfl, add_sum ad 1] at this
  have HNW := Lib.hid hnew
  have hn2 : (2 : Int) < n := by omega
  clear hnew hc2
  go_upto_region 3 with fail
  have HNW4 : Hid ((W3.setCell ⟨g5, 1, none⟩ (.int .i64 y)).heap[g5]? = some (.cells (wrA ⟨(v : Int), y, zBs⟩) 46 (0, 0))) := by
    unfold Hid; rw [heap_setCell_same' HNW.out, wrA_kind]
  have HM4 : Hid ((W3.setCell ⟨g5, 1, none⟩ (.int .i64 y)).heap[w.heap.size]? = some (.cells (wrA zW) 46 (0, 0))) := by
    unfold Hid; rw [heap_setCell_other _ _ _ _ (by show w.heap.size ≠ g5; omega)]; exact HM3.out
  have HBL4 : Hid (Below w.heap.size w (W3.setCell ⟨g5, 1, none⟩ (.int .i64 y))) := HBL3.out.setCell (by show w.heap.size ≤ g5; omega) _
  clear HNW HM3 HBL3 c1 f1 cc2
  generalize W3.setCell ⟨g5, 1, none⟩ (.int .i64 y) = W4 at *
  have hwl : (wrL ⟨(v : Int), y, zBs⟩).length = 58 := wrL_length zBs_len
  have hbl : (Bs (b.take 56)).length = min m 56 := by rw [Bs_length, List.length_take, HM.out, Nat.min_comm]
  go_upto_region 4 with (first
    | (refine wpList_copy_splice rfl (.tmp 19) (.tmp 20) 25 25 rfl 5 Try.underlying25 HZ.out (some ⟨g5, 2, none⟩) B 56 56 m d rfl rfl g5 2 (wrL ⟨(v : Int), y, zBs⟩) 46 HNW4.out (Bs (b.take 56)) hbl ?_ (by rw [hbl, hwl]; omega) (Bs_one _) (w.heap.size + 1) W4 (Below.refl _ _) (by omega) ?_
       · intro h0
         refine ⟨rfl, ?_⟩
         have hx0 : 0 < b.length := by rw [hbl] at h0; rw [HM.out]; omega
         obtain ⟨ad', e, _⟩ := HB.out 0 _ (List.getElem?_eq_getElem hx0)
         subst e
         exact ⟨ad', rfl, byt_cells ((HB.out.keep HBL4.out).take 56)⟩
       intro W5 HG5 hB5))
  have HNW5 : Hid (W5.heap[g5]? = some (.cells (wrA ⟨(v : Int), y, padB b⟩) 46 (0, 0))) := by
    unfold Hid wrA; rw [← splice_pad]; exact HG5.out
  have HM5 : Hid (W5.heap[w.heap.size]? = some (.cells (wrA zW) 46 (0, 0))) := by
    unfold Hid; rw [hB5.block _ (by omega)]; exact HM4.out
  have HBL5 : Hid (Below w.heap.size w W5) := HBL4.out.trans (hB5.mono (by omega))
  clear HG5 hB5 HNW4 HM4 HBL4 hwl hbl
  have hpl := padB_length b
  go_wp2_with (first
    | (refine wpList_loadW rfl (.tmp 5) rfl g5 rfl ⟨(v : Int), y, padB b⟩ hpl HNW5.out ?_)
    | (refine wpList_storeW rfl (.tmp 4) (.tmp 22) rfl w.heap.size rfl ⟨(v : Int), y, padB b⟩ zW rfl hpl zW_len HM5.out ?_))
  refine bodyPost_ret (results_cell_row rfl _ _ w.heap.size _ _ _ _ rfl (setRow_heap _ _ _ _ _ _ HM5.out) Try.underlying46 rfl (by rw [wrA_size hpl]; exact sizeW)) rfl ?_
  exact ⟨by rw [HQ.out], below_setRow HBL5.out (Nat.le_refl _) _⟩
theorem tx_at {w : World} {A : Option Addr} {ls : List (List Int)} {k : Nat} {b : List Int} (h : Tx w A ls) (hb : ls[k]? = some b) : ∃ a B d, A = some a ∧ w.cell? (a.add k) = some (.slice B b.length d) ∧ b.length ≤ d ∧ d ≤ 9223372036854775807 ∧ Byt w B b := h k b hb
set_option maxRecDepth 100000 in
set_option maxHeartbeats 1600000 in
theorem eqfunc_any (A B : Option Addr) (ls ms : List (List Int)) (n m c d : Nat) (w : World) (hn : ls.length = n) (hm : ms.length = m) (hnc : n ≤ 9223372036854775807) (hA : TxOk ls) (hB : TxOk ms) (hx : Tx w A ls) (hy : Tx w B ms) :
    Calls Try.prog 27 #[.slice A n c, .slice B m d, .func (.func 28) #[] #[]] w fun e w' => e = .returned (.bool (decide (ls = ms))) ∧ w = w' := by
  have HX := Lib.hid hx
  have HY := Lib.hid hy
  have HN := Lib.hid hn
  have HM := Lib.hid hm
  have HA := Lib.hid hA
  have HB := Lib.hid hB
  clear hn hm hA hB hx hy
  go_enter Try.func27, Try.ntmps27
  by_cases hl : n = m
  · subst hl
    go_wp2
    go_loop [17] (fun i => ∃ k : Nat, i = .int .i64 k ∧ k ≤ n ∧ ls.take k = ms.take k) (fun i => n - (intOf i).toNat)
    case atStart => exact ⟨0, rfl, Nat.zero_le _, rfl⟩
    case round =>
      obtain ⟨k, rfl, hk, hpre⟩ := hrel
      have HP := Lib.hid hpre
      clear hpre
      by_cases hlt : k < n
      · obtain ⟨x, hx⟩ : ∃ x, ls[k]? = some x := ⟨_, List.getElem?_eq_getElem (by rw [HN.out]; exact hlt)⟩
        obtain ⟨y, hy⟩ : ∃ y, ms[k]? = some y := ⟨_, List.getElem?_eq_getElem (by rw [HM.out]; exact hlt)⟩
        obtain ⟨a, B1, d1, rfl, hc1, _, _, by1⟩ := HX.out k x hx
        obtain ⟨b, B2, d2, rfl, hc2, _, _, by2⟩ := HY.out k y hy
        have HE := Lib.hid (equal_any B1 B2 x y x.length y.length d1 d2 w rfl rfl (HA.out x (List.mem_of_getElem? hx)) (HB.out y (List.mem_of_getElem? hy)) by1 by2)
        have H1 := Lib.hid hx
        have H2 := Lib.hid hy
        generalize x.length = xl at *
        generalize y.length = yl at *
        clear hx hy by1 by2
        by_cases hq : x = y
        · rw [decide_eq_true hq] at HE
          have HQ := Lib.hid hq
          clear hq
          go_wp2_with fail
          refine HE.out.mono ?_
          rintro e w' ⟨rfl, rfl⟩
          go_wp2_with fail
          go_round
          case rel => exact ⟨k + 1, by go_num, by omega, by rw [take_snoc' H1.out, take_snoc' H2.out, HP.out, HQ.out]⟩
          case measure => simp [intOf]; omega
        · rw [decide_eq_false hq] at HE
          have HNO : Hid (¬ ls = ms) := fun e => hq (by have h1 := H1.out; rw [e, H2.out] at h1; injection h1 with h1; exact h1.symm)
          clear hq
          go_wp2_with fail
          refine HE.out.mono ?_
          rintro e w' ⟨rfl, rfl⟩
          go_wp2_with fail
          go_ret
          exact ⟨ret_bool (decide_eq_false HNO.out).symm, rfl⟩
      · have HYES : Hid (ls = ms) := by
          have h := HP.out
          rw [List.take_of_length_le (by rw [HN.out]; omega), List.take_of_length_le (by rw [HM.out]; omega)] at h
          exact h
        go_wp2
        go_ret
        exact ⟨ret_bool (decide_eq_true HYES.out).symm, rfl⟩
  · have HNO : Hid (¬ ls = ms) := fun e => hl (by rw [← HN.out, ← HM.out, e])
    go_wp2
    go_ret
    exact ⟨ret_bool (decide_eq_false HNO.out).symm, rfl⟩
end Go.Proofs.Ytflldlhfeiamnaa
