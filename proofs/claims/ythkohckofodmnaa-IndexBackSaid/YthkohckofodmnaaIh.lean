/- Contract: index.Take. -/
import Derived.Test.YthkohckofodmnaaIg
namespace Go.Proofs.Ythkohckofodmnaa
open Go.ChangeShapes Go.WideShapes Go.ChangeAt Go.RowKit
set_option linter.unusedVariables false
/-- The places that a block's bytes say. -/
def rdX (bs : List Int) (i : Nat) : Int := bs.getD (i * 2) 0 * 256 + bs.getD (i * 2 + 1) 0 - 1
def rdL (bs : List Int) : List Int := (List.range 16).map (rdX bs)
def tlL (bs : List Int) (j : Nat) : List Int := (List.range 16).map fun i => if i < j then rdX bs i else 0
theorem rdL_length (bs : List Int) : (rdL bs).length = 16 := by unfold rdL; simp
theorem tlL_length (bs : List Int) (j : Nat) : (tlL bs j).length = 16 := by unfold tlL; simp
theorem rdL_at (bs : List Int) {i : Nat} (h : i < 16) : (rdL bs)[i]? = some (rdX bs i) := by
  unfold rdL; rw [List.getElem?_map, List.getElem?_range h]; rfl
theorem tlL_at (bs : List Int) (j : Nat) {i : Nat} (h : i < 16) : (tlL bs j)[i]? = some (if i < j then rdX bs i else 0) := by
  unfold tlL; rw [List.getElem?_map, List.getElem?_range h]; rfl
def z16 : List Int := List.replicate 16 0
theorem tlL_zero (bs : List Int) : tlL bs 0 = z16 := rfl
theorem tlL_all (bs : List Int) : tlL bs 16 = rdL bs := by
  unfold tlL rdL
  refine List.map_congr_left fun i hi => ?_
  rw [if_pos (List.mem_range.1 hi)]
theorem tlL_set (bs : List Int) {j : Nat} (h : j < 16) : (tlL bs j).set j (rdX bs j) = tlL bs (j + 1) := by
  apply List.ext_getElem?
  intro i
  by_cases hi : i < 16
  · rw [tlL_at bs (j + 1) hi, List.getElem?_set, tlL_length]
    by_cases e : j = i
    · subst e; rw [if_pos rfl, if_pos h, if_pos (by omega)]
    · rw [if_neg e, tlL_at bs j hi]
      by_cases h2 : i < j
      · rw [if_pos h2, if_pos (by omega)]
      · rw [if_neg h2, if_neg (by omega)]
  · rw [List.getElem?_eq_none (by simp [tlL_length]; omega), List.getElem?_eq_none (by rw [tlL_length]; omega)]
theorem Is_set (L : List Int) (j : Nat) (x : Int) : (Is L).toArray.setIfInBounds j (.int .i64 x) = (Is (L.set j x)).toArray := by
  unfold Is; simp [List.map_set]
/-- Is a block an index? What it says. -/
def tkB (k : Int) (bs : List Int) : Bool := mayB (rdL bs) && decide (k = 5 ∧ pad (encL (rdL bs)) = bs)
def tkL (k : Int) (bs : List Int) : List Int := if tkB k bs = true then rdL bs else []
theorem made16 : madeCells (Value.int .i64 0).cells 16 = (Is z16).toArray := by kernel_rfl
theorem wpList_make16 {ops : Array Oper} {rest : List Oper} {o : Oper} {a : Act} {w : World} {Q : Exit → Act → World → Prop} (hgd : o.guard = none) (ho : o.op = .makeSlice 22 (.const (.int .i64 16)) (.const (.int .i64 16)))
    (h : wpList Try.prog ops Q rest (a.put o.dst (.slice (some ⟨w.heap.size, 0, none⟩) 16 16)) (w.alloc (.cells (Is z16).toArray 3))) : wpList Try.prog ops Q (o :: rest) a w := by
  obtain ⟨i0, hi, hz0, hz1, hz2⟩ := info_parts infoI
  refine wpList_plain hgd fun _ hK => wp_run ?_ (hK _ _ h)
  have hr := run_make (P := Try.prog) w 22 3 i0 _ Try.underlying22 hi hz0 .i64 .i64 16 16 (by omega) (by omega) (by rw [hz2]; decide) (by omega)
  rw [hz1, show (16 : Int).toNat = 16 from rfl, Nat.mul_one, made16] at hr
  unfold execOp
  simp only [ho, Act.eval, Sem.run_bind, hr, Result.andThen_ok, Sem.run_pure]
theorem nts_is {W : World} {q : Nat} {L : List Int} (h : W.heap[q]? = some (.cells (Is L).toArray 3 (0, 0))) : Nts W (some ⟨q, 0, none⟩) L := nts_blk h (by simp)
theorem own_is {W : World} {q B n : Nat} {L : List Int} (hn : L.length = n) (hm : n ≤ 1000000) (h : W.heap[q]? = some (.cells (Is L).toArray 3 (0, 0))) (hq : B ≤ q) : W.ownsRow B 3 1 (.slice (some ⟨q, 0, none⟩) n n) n (Is L) :=
  ⟨by rw [Is_length]; omega, .inr ⟨q, n, _, rfl, hq, h, Nat.le_refl _, by simp only [maxLen]; omega, by simp [Is_length]; omega, by simp; rw [List.take_of_length_le (by rw [Is_length]; omega)]⟩⟩
set_option maxRecDepth 100000 in
set_option maxHeartbeats 3200000 in
theorem ixtake_any (k : Int) (bs : List Int) (w : World) (h56 : bs.length = 56) (hB : AllB bs) :
    Calls Try.prog 12 #[.agg (blkA k bs)] w fun e w' => ∃ v, e = .returned (.tuple #[v, .bool (tkB k bs)]) ∧ w'.ownsRow w.heap.size 3 1 v (tkL k bs).length (Is (tkL k bs)) ∧ Below w.heap.size w w' := by
  have HP := Lib.hid (heap_alloc_new w (.cells (blkA k bs) 25))
  have HB0 := Lib.hid (bel1 (w := w) (.cells (blkA k bs) 25))
  have H56 := Lib.hid h56
  have HBB := Lib.hid hB
  clear h56 hB
  go_enter Try.func12, Try.ntmps12
  go_upto_region 1 with fail
  generalize w.alloc (.cells (blkA k bs) 25) = W at *
  have hp := room_lt HP.out
  have HQ1 : Hid ((W.alloc (.cells (Is z16).toArray 3)).heap[W.heap.size]? = some (.cells (Is (tlL bs 0)).toArray 3 (0, 0))) := heap_alloc_new W _
  have HP1 := Lib.hid (kb (bel1 (.cells (Is z16).toArray 3)) HP.out)
  have HB1 := Lib.hid (keepB HB0.out (bel1 (.cells (Is z16).toArray 3)))
  go_upto_region 2 with (refine wpList_make16 rfl rfl ?_)
  clear HP HB0
  generalize W.alloc (.cells (Is z16).toArray 3) = W1 at *
  generalize W.heap.size = q at *
  have hq : w.heap.size ≤ q := Nat.le_of_lt hp
  go_wp2_with fail
  go_loopw [11] (fun i wr => ∃ j : Nat, j ≤ 16 ∧ i = .int .i64 j ∧ Hid (wr.heap[q]? = some (.cells (Is (tlL bs j)).toArray 3 (0, 0))) ∧ Hid (wr.heap[w.heap.size]? = some (.cells (blkA k bs) 25 (0, 0))) ∧ Hid (Below w.heap.size w wr)) (fun i _ => (16 - intOf i).toNat)
  case atStart => exact ⟨0, by omega, rfl, HQ1, HP1, HB1⟩
  case round =>
    obtain ⟨j, hj, rfl, HQ, HP, HB⟩ := hrel
    clear HQ1 HP1 HB1
    by_cases hlt : j < 16
    · have hsl : ∀ W, (Instr.sliceAt 23 (.pointer (some ⟨w.heap.size, 1, none⟩)) (some (.int .i64 ((j : Int) * 2))) none none).run Try.prog W = .ok (.slice (some ⟨w.heap.size, 1 + j * 2, none⟩) (56 - j * 2) (56 - j * 2)) W := fun W => by
        have h := run_sliceAt56 w.heap.size (m := j * 2) (by omega) W
        rwa [Int.natCast_mul] at h
      have bt : ∀ i, i < 56 → ∃ a : Nat, a < 256 ∧ bs.getD i 0 = a ∧ wr.cell? ⟨w.heap.size, 1 + i, none⟩ = some (.int .u8 a) := fun i hi => by
        obtain ⟨x, hx⟩ : ∃ x, bs[i]? = some x := ⟨_, List.getElem?_eq_getElem (by rw [H56.out]; exact hi)⟩
        have h1 := HBB.out x (List.mem_of_getElem? hx)
        refine ⟨x.toNat, by omega, by rw [List.getD, hx]; show x = _; omega, ?_⟩
        rw [blk_cell HP.out, show ((x.toNat : Nat) : Int) = x by omega]
        show (blkA k bs)[1 + i]? = _
        unfold blkA blkL
        rw [List.getElem?_toArray, Nat.add_comm, List.getElem?_cons_succ]
        exact Bs_at hx
      obtain ⟨a, ha, ea, ca⟩ := bt (j * 2) (by omega)
      obtain ⟨b, hb, eb, cb⟩ := bt (j * 2 + 1) (by omega)
      have HX : Hid (rdX bs j = ((a * 256 + b : Nat) : Int) - 1) := by unfold Hid rdX; rw [ea, eb]; omega
      have HT := Lib.hid (takeplace_any a b ha hb w.heap.size (1 + j * 2) (56 - j * 2) (56 - j * 2) wr (by omega) ca (by rw [Nat.add_assoc]; exact cb))
      rw [← HX.out] at HT
      have HSET := Lib.hid (tlL_set bs hlt)
      generalize rdX bs j = x at *
      clear bt ea eb ca cb HX
      go_wp2_with fail
      refine HT.out.mono ?_; rintro e w2 ⟨rfl, hb2⟩
      have HQ2 := Lib.hid (kb hb2 HQ.out)
      have HP2 := Lib.hid (kb hb2 HP.out)
      have HB2 := Lib.hid (keepB HB.out hb2)
      have c1 : w2.cell? ⟨q, j, none⟩ = some (.int .i64 0) := by
        rw [blk_cell HQ2.out, List.getElem?_toArray]
        have h := tlL_at bs j hlt
        rw [if_neg (by omega)] at h
        exact Is_at h
      have f1 : w2.frozen? ⟨q, j, none⟩ = false := blk_free HQ2.out _
      have HQ3 : Hid ((w2.setCell ⟨q, j, none⟩ (.int .i64 x)).heap[q]? = some (.cells (Is (tlL bs (j + 1))).toArray 3 (0, 0))) := by
        unfold Hid; rw [heap_setCell_same' HQ2.out, Is_set, HSET.out]
      have HP3 : Hid ((w2.setCell ⟨q, j, none⟩ (.int .i64 x)).heap[w.heap.size]? = some (.cells (blkA k bs) 25 (0, 0))) := by
        unfold Hid; rw [heap_setCell_other _ _ _ _ (show w.heap.size ≠ q by omega)]; exact HP2.out
      have HB3 := Lib.hid (HB2.out.setCell (p := ⟨q, j, none⟩) (Nat.le_of_lt hp) (.int .i64 x))
      clear hb2 HQ HP HB HQ2 HP2 HB2
      go_wp2_with fail
      go_roundw
      case rel => exact ⟨j + 1, by omega, by go_num, HQ3.out, HP3.out, HB3.out⟩
      case measure => simp [intOf]; omega
    · obtain rfl : j = 16 := by omega
      rw [tlL_all] at HQ
      have HPUT := Lib.hid (fun W h => ixput_any (some ⟨q, 0, none⟩) (rdL bs) 16 16 W (rdL_length bs) h)
      have HY := Lib.hid (nts_is HQ.out)
      have H5 := Lib.hid (rdL_length bs)
      clear hp
      go_wp2_with fail
      refine (HPUT.out _ HY.out).mono ?_; rintro e w4 ⟨rfl, hb4⟩
      have HQ4 := Lib.hid (kb hb4 HQ.out)
      have HP4 := Lib.hid (kb hb4 HP.out)
      have HB4 := Lib.hid (keepB HB.out hb4)
      have hp4 := room_lt HP4.out
      have hq4 := room_lt HQ4.out
      clear hb4 HQ HP HB HY HPUT
      have HLB := Lib.hid (ixB_len (rdL bs))
      have HAB := Lib.hid (ixB_allB (rdL bs))
      have h6 := heap_alloc_new w4 (.cells (blkA 0 zBs) 25)
      have HC5 : Hid (((w4.alloc (.cells (blkA 0 zBs) 25)).setRow w4.heap.size (blkA (ixK (rdL bs)) (ixB (rdL bs)))).heap[w4.heap.size]? = some (.cells (blkA (ixK (rdL bs)) (ixB (rdL bs))) 25 (0, 0))) := setRow_blk h6
      have HP5 : Hid (((w4.alloc (.cells (blkA 0 zBs) 25)).setRow w4.heap.size (blkA (ixK (rdL bs)) (ixB (rdL bs)))).heap[w.heap.size]? = some (.cells (blkA k bs) 25 (0, 0))) := by
        unfold Hid; rw [setRow_other _ _ _ _ (by omega)]; exact kb (bel1 _) HP4.out
      have HQ5 : Hid (((w4.alloc (.cells (blkA 0 zBs) 25)).setRow w4.heap.size (blkA (ixK (rdL bs)) (ixB (rdL bs)))).heap[q]? = some (.cells (Is (rdL bs)).toArray 3 (0, 0))) := by
        unfold Hid; rw [setRow_other _ _ _ _ (by omega)]; exact kb (bel1 _) HQ4.out
      have HB5 := Lib.hid (below_setRow (keepB HB4.out (bel1 (.cells (blkA 0 zBs) 25))) (Nat.le_of_lt hp4) (blkA (ixK (rdL bs)) (ixB (rdL bs))))
      unfold ixV
      go_upto_region 8 with (first
        | (refine wpList_allocB rfl rfl ?_)
        | (refine wpList_storeB rfl (.tmp 6) (.tmp 26) rfl w4.heap.size rfl (ixK (rdL bs)) 0 (ixB (rdL bs)) zBs rfl HLB.out zBs_len h6 ?_))
      clear h6 HQ4 HP4 HB4
      generalize (w4.alloc (.cells (blkA 0 zBs) 25)).setRow w4.heap.size (blkA (ixK (rdL bs)) (ixB (rdL bs))) = w5 at *
      generalize w4.heap.size = c at *
      cases hm : mayB (rdL bs)
      · have HT : Hid (tkB k bs = false) := by unfold Hid tkB; rw [hm]; rfl
        have HL : Hid (tkL k bs = []) := by unfold Hid tkL; rw [if_neg (by rw [HT.out]; simp)]
        clear hm
        go_wp2_with fail
        go_ret2
        refine ⟨_, by rw [HT.out]; rfl, ?_, HB5.out⟩
        rw [HL.out]
        exact ⟨rfl, .inl ⟨rfl, rfl⟩⟩
      · have e1 : ixK (rdL bs) = 5 := by unfold ixK; rw [if_pos hm]
        have e2 : ixB (rdL bs) = pad (encL (rdL bs)) := by unfold ixB; rw [if_pos hm]
        by_cases hc : 5 = k ∧ pad (encL (rdL bs)) = bs
        · have HT : Hid (tkB k bs = true) := by unfold Hid tkB; rw [hm, decide_eq_true ⟨hc.1.symm, hc.2⟩]; rfl
          have HL : Hid (tkL k bs = rdL bs) := by unfold Hid tkL; rw [if_pos HT.out]
          have HD : Hid ((!(decide (ixK (rdL bs) = k ∧ ixB (rdL bs) = bs))) = false) := by unfold Hid; rw [e1, e2, decide_eq_true hc]; rfl
          have HO := Lib.hid (own_is (B := w.heap.size) (rdL_length bs) (by omega) HQ5.out hq)
          clear hm hc e1 e2
          go_wp2_with (first
            | (refine wpList_loadBw (by rfl) (.tmp 6) rfl c rfl (ixK (rdL bs)) (ixB (rdL bs)) HLB.out HC5.out ?_)
            | (refine wpList_loadBw (by rfl) (.tmp 1) rfl w.heap.size rfl k bs H56.out HP5.out ?_)
            | (refine wpList_neqBw (by rfl) (.tmp 31) (.tmp 32) _ rfl (ixK (rdL bs)) k (ixB (rdL bs)) bs rfl rfl HLB.out H56.out HAB.out HBB.out ?_; rw [HD.out]))
          go_ret2
          refine ⟨_, by rw [HT.out]; rfl, ?_, HB5.out⟩
          rw [HL.out, H5.out]
          exact HO.out
        · have HT : Hid (tkB k bs = false) := by unfold Hid tkB; rw [hm, decide_eq_false (fun h => hc ⟨h.1.symm, h.2⟩)]; rfl
          have HL : Hid (tkL k bs = []) := by unfold Hid tkL; rw [if_neg (by rw [HT.out]; simp)]
          have HD : Hid ((!(decide (ixK (rdL bs) = k ∧ ixB (rdL bs) = bs))) = true) := by unfold Hid; rw [e1, e2, decide_eq_false hc]; rfl
          clear hm hc e1 e2
          go_wp2_with (first
            | (refine wpList_loadBw (by rfl) (.tmp 6) rfl c rfl (ixK (rdL bs)) (ixB (rdL bs)) HLB.out HC5.out ?_)
            | (refine wpList_loadBw (by rfl) (.tmp 1) rfl w.heap.size rfl k bs H56.out HP5.out ?_)
            | (refine wpList_neqBw (by rfl) (.tmp 31) (.tmp 32) _ rfl (ixK (rdL bs)) k (ixB (rdL bs)) bs rfl rfl HLB.out H56.out HAB.out HBB.out ?_; rw [HD.out]))
          go_ret2
          refine ⟨_, by rw [HT.out]; rfl, ?_, HB5.out⟩
          rw [HL.out]
          exact ⟨rfl, .inl ⟨rfl, rfl⟩⟩
end Go.Proofs.Ythkohckofodmnaa
