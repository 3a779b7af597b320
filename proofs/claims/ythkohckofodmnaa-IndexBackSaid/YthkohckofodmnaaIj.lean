/- Contract: the reference's TakeIndex. -/
import Derived.Test.YthkohckofodmnaaIi
namespace Go.Proofs.Ythkohckofodmnaa
open Go.ChangeShapes Go.WideShapes Go.ChangeAt Go.RowKit
set_option linter.unusedVariables false
theorem run_sliceAt2 (g m : Nat) (h : m ≤ 54) (w : World) : (Instr.sliceAt 23 (.pointer (some ⟨g, 1, none⟩)) (some (.int .i64 m)) (some (.int .i64 ((m : Int) + 2))) none).run Try.prog w = .ok (.slice (some ⟨g, 1 + m, none⟩) 2 (56 - m)) w := by
  have z3 := Try.sizeOf5
  have e1 : Try.prog.arrayLen 23 = 56 := by kernel_rfl
  have e2 : Try.prog.elem 23 = 5 := by kernel_rfl
  have e3 : Try.prog.underlying 23 = some (.array (Try.prog.arrayLen 23) (Try.prog.elem 23)) := by kernel_rfl
  rw [run_sliceAt_array_lh w 23 _ e3 .i64 .i64 (m : Int) ((m : Int) + 2) (by omega) (by omega) (by rw [e1]; omega), e1, e2]
  have hm : ¬ 56 = m := by omega
  have h2 : ((m : Int) + 2).toNat = m + 2 := by omega
  simp [z3, slicedAt, add_off, hm, h2]
theorem numV_two (a b : Nat) : numV [(a : Int), (b : Int)] = a * 256 + b := by
  simp [numV]
theorem Is_snoc (l : List Int) (x : Int) : Is (l ++ [x]) = Is l ++ [.int .i64 x] := by unfold Is; simp
/-- Where TakeIndex stands. -/
structure JTI (w : World) (p : Nat) (k : Int) (bs : List Int) (v : Value) (n : Nat) (ys : List Int) (W : World) : Prop where
  bel : Below p w W
  sz : p + 1 ≤ W.heap.size
  blk : W.heap[p]? = some (.cells (blkA k bs) 25 (0, 0))
  own : W.ownsRow (p + 1) 3 1 v n (Is ys)
theorem JTI.below {w W W' : World} {p n : Nat} {k : Int} {bs : List Int} {v : Value} {ys : List Int} (h : JTI w p k bs v n ys W) (hb : Below W.heap.size W W') : JTI w p k bs v n ys W' :=
  ⟨h.bel.trans (hb.mono (by have := h.sz; omega)), Nat.le_trans h.sz hb.size, kb hb h.blk, ownB h.own hb⟩
theorem JTI.push {w W W' : World} {p n m : Nat} {k : Int} {bs : List Int} {v v' : Value} {ys zs : List Int} (h : JTI w p k bs v n ys W) (ho : W'.ownsRow (p + 1) 3 1 v' m (Is zs)) (hg : W.grownBy W' v.ownBlock) : JTI w p k bs v' m zs W' :=
  ⟨h.bel.grown hg (by have := h.sz; omega) (fun j e => by have := (h.own.lt j e).1; omega), Nat.le_trans h.sz hg.size, by rw [hg.block p (room_lt h.blk) (fun e => by have := (h.own.lt p e.symm).1; omega)]; exact h.blk, ho⟩
set_option maxRecDepth 100000 in
set_option maxHeartbeats 3200000 in
theorem rixtake_any (k : Int) (bs : List Int) (w : World) (h56 : bs.length = 56) (hB : AllB bs) :
    Calls Try.prog 13 #[.agg (blkA k bs)] w fun e w' => ∃ v, e = .returned (.tuple #[v, .bool (tkB k bs)]) ∧ w'.ownsRow w.heap.size 3 1 v (tkL k bs).length (Is (tkL k bs)) ∧ Below w.heap.size w w' := by
  have H56 := Lib.hid h56
  have HBB := Lib.hid hB
  have HJ0 : Hid (JTI w w.heap.size k bs (.slice none 0 0) 0 ((rdL bs).take 0) (w.alloc (.cells (blkA k bs) 25))) := ⟨bel1 _, by rw [size_alloc']; exact Nat.le_refl _, heap_alloc_new w _, ⟨rfl, .inl ⟨rfl, rfl⟩⟩⟩
  clear h56 hB
  go_enter Try.func13, Try.ntmps13
  go_upto_region 1 with fail
  generalize w.alloc (.cells (blkA k bs) 25) = W at *
  go_wp2_with fail
  go_loopw [4, 5] (fun v i wr => ∃ j : Nat, j ≤ 16 ∧ i = .int .i64 j ∧ Hid (JTI w w.heap.size k bs v j ((rdL bs).take j) wr)) (fun _ i _ => (16 - intOf i).toNat)
  case atStart => exact ⟨0, by omega, rfl, HJ0⟩
  case round =>
    obtain ⟨j, hj, rfl, HJ⟩ := hrel
    clear HJ0
    by_cases hlt : j < 16
    · have hsl : ∀ W, (Instr.sliceAt 23 (.pointer (some ⟨w.heap.size, 1, none⟩)) (some (.int .i64 (2 * (j : Int)))) (some (.int .i64 (2 * (j : Int) + 2))) none).run Try.prog W = .ok (.slice (some ⟨w.heap.size, 1 + j * 2, none⟩) 2 (56 - j * 2)) W := fun W => by
        have h := run_sliceAt2 w.heap.size (j * 2) (by omega) W
        rwa [Int.natCast_mul, Int.mul_comm] at h
      have bt : ∀ i, i < 56 → ∃ a : Nat, a < 256 ∧ bs.getD i 0 = a ∧ wr.cell? ⟨w.heap.size, 1 + i, none⟩ = some (.int .u8 a) := fun i hi => by
        obtain ⟨x, hx⟩ : ∃ x, bs[i]? = some x := ⟨_, List.getElem?_eq_getElem (by rw [H56.out]; exact hi)⟩
        have h1 := HBB.out x (List.mem_of_getElem? hx)
        refine ⟨x.toNat, by omega, by rw [List.getD, hx]; show x = _; omega, ?_⟩
        rw [blk_cell HJ.out.blk, show ((x.toNat : Nat) : Int) = x by omega]
        show (blkA k bs)[1 + i]? = _
        unfold blkA blkL
        rw [List.getElem?_toArray, Nat.add_comm, List.getElem?_cons_succ]
        exact Bs_at hx
      obtain ⟨a, ha, ea, ca⟩ := bt (j * 2) (by omega)
      obtain ⟨b, hb, eb, cb⟩ := bt (j * 2 + 1) (by omega)
      have HY : Hid (Byt wr (some ⟨w.heap.size, 1 + j * 2, none⟩) [(a : Int), (b : Int)]) := fun i x hi => by
        refine ⟨_, rfl, ?_⟩
        match i, hi with
        | 0, hi => injection hi with hi; subst hi; rw [add_off]; exact ca
        | 1, hi => injection hi with hi; subst hi; rw [add_off]; exact cb
      have HAB : Hid (AllB [(a : Int), (b : Int)]) := fun x hx => by
        simp only [List.mem_cons, List.not_mem_nil, or_false] at hx
        rcases hx with rfl | rfl <;> omega
      have HNUM : Hid (Calls Try.prog 22 #[.slice (some ⟨w.heap.size, 1 + j * 2, none⟩) 2 (56 - j * 2)] wr fun e w' => e = .returned (.int .u64 ((a * 256 + b : Nat) : Int)) ∧ wr = w') := by
        have h := rnum_any (some ⟨w.heap.size, 1 + j * 2, none⟩) [(a : Int), (b : Int)] 2 (56 - j * 2) wr rfl (by omega) HAB.out HY.out
        rwa [numV_two] at h
      have hX : ((a * 256 + b : Nat) : Int) - 1 = rdX bs j := by unfold rdX; rw [ea, eb]; omega
      have HTK : Hid ((rdL bs).take (j + 1) = (rdL bs).take j ++ [rdX bs j]) := take_snoc' (rdL_at bs hlt)
      have w1 : IntKind.i64.wrap ((a * 256 + b : Nat) : Int) = ((a * 256 + b : Nat) : Int) := IntWalk.i64_in _ (by omega)
      have w2 : IntKind.i64.wrap (((a * 256 + b : Nat) : Int) - 1) = rdX bs j := by rw [← hX]; exact IntWalk.i64_in _ (by omega)
      generalize a * 256 + b = m at *
      generalize rdX bs j = x at *
      clear hX bt ea eb ca cb ha hb HY HAB
      go_wp2_with fail
      refine HNUM.out.mono ?_; rintro e w3 ⟨rfl, rfl⟩
      clear HNUM
      have HJ4 := Lib.hid (HJ.out.below (bel1 (.cells (Is [x]).toArray 3)))
      have HY4 : Hid (Nts (wr.alloc (.cells (Is [x]).toArray 3)) (some ⟨wr.heap.size, 0, none⟩) [x]) := nts_is (heap_alloc_new wr _)
      obtain ⟨wk, hwk⟩ : ∃ wk, wk = wr.alloc (.cells (Is [x]).toArray 3) := ⟨_, rfl⟩
      rw [← hwk] at HJ4 HY4
      have HWK : Hid (wr.alloc (.cells #[.int .i64 x] 3) = wk) := hwk.symm
      clear hwk
      go_wp2_with (first
        | (at_builtin
           rw [HWK.out]
           go_loud (refine wpList_app_nts wk rfl (.tmp 12) (.tmp 23) rfl (w.heap.size + 1) u4 j _ rfl HJ4.out.own (some ⟨wr.heap.size, 0, none⟩) 1 1 [x] rfl HY4.out rfl (by omega) HJ4.out.sz ?_)
           intro v5 w5 h1 h2 _
           have HJ5 := Lib.hid (HJ4.out.push h1 h2)
           clear h1 h2 HJ4))
      go_roundw
      case rel => exact ⟨j + 1, by omega, by go_num, by unfold Hid; rw [HTK.out]; exact HJ5.out⟩
      case measure => simp [intOf]; omega
    · obtain rfl : j = 16 := by omega
      have e : (rdL bs).take 16 = rdL bs := List.take_of_length_le (by rw [rdL_length]; omega)
      rw [e] at HJ
      have H5 := Lib.hid (rdL_length bs)
      obtain ⟨A, cap, hv, _, _, hnt⟩ := nts_own (bs := rdL bs) HJ.out.own H5.out
      rw [H5.out] at hv
      have HPUT := Lib.hid (fun W h => rixput_any A (rdL bs) 16 cap W (rdL_length bs) h)
      have HY := Lib.hid hnt
      subst hv
      clear hnt e
      go_wp2_with fail
      refine (HPUT.out _ HY.out).mono ?_; rintro e w4 ⟨rfl, hb4⟩
      have HJ4 := Lib.hid (HJ.out.below hb4)
      have hp4 : w.heap.size < w4.heap.size := room_lt HJ4.out.blk
      clear hb4 HJ HY HPUT
      have HLB := Lib.hid (ixB_len (rdL bs))
      have HAB := Lib.hid (ixB_allB (rdL bs))
      have h6 := heap_alloc_new w4 (.cells (blkA 0 zBs) 25)
      have HC5 : Hid (((w4.alloc (.cells (blkA 0 zBs) 25)).setRow w4.heap.size (blkA (ixK (rdL bs)) (ixB (rdL bs)))).heap[w4.heap.size]? = some (.cells (blkA (ixK (rdL bs)) (ixB (rdL bs))) 25 (0, 0))) := setRow_blk h6
      have HJ5 : Hid (JTI w w.heap.size k bs (.slice A 16 cap) 16 (rdL bs) ((w4.alloc (.cells (blkA 0 zBs) 25)).setRow w4.heap.size (blkA (ixK (rdL bs)) (ixB (rdL bs))))) := HJ4.out.below (below_setRow (bel1 _) (Nat.le_refl _) _)
      unfold ixV
      go_upto_region 7 with (first
        | (refine wpList_allocB rfl rfl ?_)
        | (refine wpList_storeB rfl (.tmp 6) (.tmp 28) rfl w4.heap.size rfl (ixK (rdL bs)) 0 (ixB (rdL bs)) zBs rfl HLB.out zBs_len h6 ?_))
      clear h6 HJ4
      generalize (w4.alloc (.cells (blkA 0 zBs) 25)).setRow w4.heap.size (blkA (ixK (rdL bs)) (ixB (rdL bs))) = w5 at *
      generalize w4.heap.size = c at *
      have HB5 := Lib.hid HJ5.out.bel
      have HP5 := Lib.hid HJ5.out.blk
      cases hm : mayB (rdL bs)
      · have HT : Hid (tkB k bs = false) := by unfold Hid tkB; rw [hm]; rfl
        have HL : Hid (tkL k bs = []) := by unfold Hid tkL; rw [if_neg (by rw [HT.out]; simp)]
        clear hm
        go_wp2_with fail
        go_ret2
        refine ⟨_, by rw [HT.out]; rfl, ?_, HB5.out⟩
        rw [HL.out]
        exact ⟨rfl, .inl ⟨rfl, rfl⟩⟩
      · have e1 : ixK (rdL bs) = 5 := by unfold ixK; rw [if_pos hm]
        have e2 : ixB (rdL bs) = pad (encL (rdL bs)) := by unfold ixB; rw [if_pos hm]
        by_cases hc : 5 = k ∧ pad (encL (rdL bs)) = bs
        · have HT : Hid (tkB k bs = true) := by unfold Hid tkB; rw [hm, decide_eq_true ⟨hc.1.symm, hc.2⟩]; rfl
          have HL : Hid (tkL k bs = rdL bs) := by unfold Hid tkL; rw [if_pos HT.out]
          have HD : Hid ((!(decide (ixK (rdL bs) = k ∧ ixB (rdL bs) = bs))) = false) := by unfold Hid; rw [e1, e2, decide_eq_true hc]; rfl
          have HO := Lib.hid (HJ5.out.own.mono (Nat.le_succ _))
          clear hm hc e1 e2
          go_wp2_with (first
            | (refine wpList_loadBw (by rfl) (.tmp 6) rfl c rfl (ixK (rdL bs)) (ixB (rdL bs)) HLB.out HC5.out ?_)
            | (refine wpList_loadBw (by rfl) (.tmp 1) rfl w.heap.size rfl k bs H56.out HP5.out ?_)
            | (refine wpList_neqBw (by rfl) (.tmp 33) (.tmp 34) _ rfl (ixK (rdL bs)) k (ixB (rdL bs)) bs rfl rfl HLB.out H56.out HAB.out HBB.out ?_; rw [HD.out]))
          go_ret2
          refine ⟨_, by rw [HT.out]; rfl, ?_, HB5.out⟩
          rw [HL.out, H5.out]
          exact HO.out
        · have HT : Hid (tkB k bs = false) := by unfold Hid tkB; rw [hm, decide_eq_false (fun h => hc ⟨h.1.symm, h.2⟩)]; rfl
          have HL : Hid (tkL k bs = []) := by unfold Hid tkL; rw [if_neg (by rw [HT.out]; simp)]
          have HD : Hid ((!(decide (ixK (rdL bs) = k ∧ ixB (rdL bs) = bs))) = true) := by unfold Hid; rw [e1, e2, decide_eq_false hc]; rfl
          clear hm hc e1 e2
          go_wp2_with (first
            | (refine wpList_loadBw (by rfl) (.tmp 6) rfl c rfl (ixK (rdL bs)) (ixB (rdL bs)) HLB.out HC5.out ?_)
            | (refine wpList_loadBw (by rfl) (.tmp 1) rfl w.heap.size rfl k bs H56.out HP5.out ?_)
            | (refine wpList_neqBw (by rfl) (.tmp 33) (.tmp 34) _ rfl (ixK (rdL bs)) k (ixB (rdL bs)) bs rfl rfl HLB.out H56.out HAB.out HBB.out ?_; rw [HD.out]))
          go_ret2
          refine ⟨_, by rw [HT.out]; rfl, ?_, HB5.out⟩
          rw [HL.out]
          exact ⟨rfl, .inl ⟨rfl, rfl⟩⟩
end Go.Proofs.Ythkohckofodmnaa
