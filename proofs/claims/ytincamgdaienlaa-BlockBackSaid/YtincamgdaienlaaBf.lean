/- Contract: the reference's Open. -/
import Derived.Test.YtincamgdaienlaaBe
namespace Go.Proofs.Ytincamgdaienlaa
open Go.ChangeShapes Go.WideShapes Go.ChangeAt Go.RowKit
set_option linter.unusedVariables false
theorem built24k (x : Int) : Try.prog.built 24 [(0, .int .i64 x)] = some (blkA x zBs) := by kernel_rfl
theorem wpList_buildBk {ops : Array Oper} {rest : List Oper} {o : Oper} {a : Act} {w : World} {Q : Exit → Act → World → Prop} (hgd : o.guard = none) (x : Operand) (k : Int) (ho : o.op = .build 24 #[(0, x)]) (hx : a.eval x = .int .i64 k)
    (h : wpList Try.prog ops Q rest (a.put o.dst (.agg (blkA k zBs))) w) : wpList Try.prog ops Q (o :: rest) a w :=
  wpList_plain hgd fun _ hK => by
    unfold Oper.wp execOp
    have hb := run_build (P := Try.prog) w 24 #[(0, .int .i64 k)] _ (built24k k)
    simp only [ho, List.map_toArray, List.map_cons, List.map_nil, hx, Sem.run_bind, hb, Result.andThen_ok]
    exact hK _ _ h
/-- The first j bytes of a body, noughts behind. -/
def fillBs (bs : List Int) (j : Nat) : List Int := bs.take j ++ List.replicate (56 - j) 0
theorem fillBs_len {bs : List Int} {j : Nat} (h : bs.length = 56) (hj : j ≤ 56) : (fillBs bs j).length = 56 := by unfold fillBs; simp [h]; omega
theorem fillBs_all {bs : List Int} (h : bs.length = 56) : fillBs bs 56 = bs := by unfold fillBs; simp [← h]
theorem fillBs_none (bs : List Int) : fillBs bs 0 = zBs := rfl
theorem fillBs_set {bs : List Int} {j : Nat} {x : Int} (h : bs.length = 56) (hj : j < 56) (hx : bs[j]? = some x) : (fillBs bs j).set j x = fillBs bs (j + 1) := by
  unfold fillBs
  rw [show 56 - j = (56 - (j + 1)) + 1 by omega, List.replicate_succ, take_snoc' hx, List.set_append_right _ _ (by simp; omega)]
  simp only [List.length_take, h, Nat.min_eq_left (show j ≤ 56 by omega), Nat.sub_self, List.set_cons_zero, List.append_assoc, List.singleton_append]
theorem blkA_setB (k : Int) (bs : List Int) (j : Nat) (x : Int) : (blkA k bs).setIfInBounds (1 + j) (.int .u8 x) = blkA k (bs.set j x) := by
  unfold blkA blkL
  rw [Nat.add_comm]
  simp [← set_Bs]
theorem opBs_at {xs : List Int} {j : Nat} (hj : j < 56) {x : Int} (hx : xs[4 + j]? = some x) : (opBs xs)[j]? = some x := by
  unfold opBs; rw [List.getElem?_take, if_pos hj, List.getElem?_drop]; exact hx
set_option maxRecDepth 100000 in
set_option maxHeartbeats 3200000 in
theorem ropen_any (l t : Int) (A : Option Addr) (xs : List Int) (c : Nat) (w : World) (hl : 0 ≤ l ∧ l ≤ 255) (ht : i64 t) (hc : xs.length ≤ c) (hc2 : c ≤ 9223372036854775807) (hB : AllB xs) (hy : Byt w A xs) :
    Calls Try.prog 11 #[.int .u8 l, .int .i64 t, .slice A xs.length c] w fun e w' => e = .returned (.tuple #[.agg (openA l t xs), .bool (decide (Opens l t xs))]) ∧ Below w.heap.size w w' := by
  have HY := Lib.hid hy
  have HB := Lib.hid hB
  have hm0 := heap_alloc_new w (Obj.cells (blkA 0 zBs) 24)
  have hbel0 : Below w.heap.size w (w.alloc (Obj.cells (blkA 0 zBs) 24)) := (Below.refl _ _).alloc (Nat.le_refl _) _
  have hsz0 := size_alloc' w (Obj.cells (blkA 0 zBs) 24)
  clear hy hB
  generalize hn : xs.length = n at *
  have HN := Lib.hid hn
  clear hn
  by_cases h64 : n = 64
  · subst h64
    go_enter Try.func11, Try.ntmps11
    go_upto_region 3 with (first
      | (refine wpList_allocB rfl rfl ?_))
    generalize w.alloc (Obj.cells (blkA 0 zBs) 24) = W1 at *
    have HM0 := Lib.hid hm0
    have hszW : W1.heap.size = w.heap.size + 1 := hsz0
    have HY1 := Lib.hid (HY.out.keep hbel0)
    clear hm0 hsz0
    have HM2 := Lib.hid (heap_alloc_new W1 (Obj.cells (blkA 0 zBs) 24))
    have HM02 : Hid ((W1.alloc (Obj.cells (blkA 0 zBs) 24)).heap[w.heap.size]? = some (.cells (blkA 0 zBs) 24 (0, 0))) := by
      unfold Hid; rw [heap_alloc_old W1 _ (by omega)]; exact HM0.out
    have HBL2 := Lib.hid (hbel0.alloc hbel0.size (Obj.cells (blkA 0 zBs) 24))
    obtain ⟨x0, hx0⟩ : ∃ x0, xs[0]? = some x0 := ⟨_, List.getElem?_eq_getElem (by rw [HN.out]; omega)⟩
    obtain ⟨ad, rfl, hc0⟩ := HY1.out 0 x0 hx0
    have ea : ad.add 0 = ad := by unfold Addr.add; simp
    rw [ea] at hc0
    have hxb := HB.out x0 (List.mem_of_getElem? hx0)
    have hk : opK xs = x0 := by unfold opK; rw [List.getD, hx0]; rfl
    have HKX := Lib.hid hk
    clear hx0 ea hk
    rw [hszW] at HM2
    have HW := Lib.hid hszW
    go_wp2_with (first
      | (refine wpList_buildBk rfl (.tmp 19) x0 rfl rfl ?_)
      | (refine wpList_allocB rfl rfl ?_)
      | (refine wpList_storeB rfl (.tmp 8) (.tmp 20) rfl W1.heap.size rfl x0 0 zBs zBs rfl zBs_len zBs_len (by rw [HW.out]; exact HM2.out) ?_))
    have hblk3 := setRow_blk (D := blkA x0 zBs) HM2.out
    have hblk03 : ((W1.alloc (Obj.cells (blkA 0 zBs) 24)).setRow (w.heap.size + 1) (blkA x0 zBs)).heap[w.heap.size]? = some (.cells (blkA 0 zBs) 24 (0, 0)) := by
      rw [setRow_other _ _ _ _ (by omega)]; exact HM02.out
    have hbel3 := below_setRow HBL2.out (show w.heap.size ≤ w.heap.size + 1 by omega) (blkA x0 zBs)
    have h56 := Lib.hid (opBs_len HN.out)
    generalize (W1.alloc (Obj.cells (blkA 0 zBs) 24)).setRow (w.heap.size + 1) (blkA x0 zBs) = W3 at *
    clear HM2 HM02 HBL2 HM0 hbel0 hc0
    go_loopw [9] (fun i wr => ∃ j : Nat, i = .int .i64 j ∧ j ≤ 56 ∧ wr.heap[w.heap.size + 1]? = some (.cells (blkA x0 (fillBs (opBs xs) j)) 24 (0, 0)) ∧ wr.heap[w.heap.size]? = some (.cells (blkA 0 zBs) 24 (0, 0)) ∧ Below w.heap.size w wr) (fun i _ => 56 - (intOf i).toNat)
    case atStart => exact ⟨0, rfl, Nat.zero_le _, hblk3, hblk03, hbel3⟩
    case round =>
      obtain ⟨j, rfl, hj, hb, hb0, hbel⟩ := hrel
      have HBK := Lib.hid hb
      have HBK0 := Lib.hid hb0
      clear hb hb0 hblk3 hblk03 hbel3
      by_cases hlt : j < 56
      · obtain ⟨x, hx⟩ : ∃ x, xs[4 + j]? = some x := ⟨_, List.getElem?_eq_getElem (by rw [HN.out]; omega)⟩
        obtain ⟨ad', e, hcx⟩ := HY.out.keep hbel (4 + j) x hx
        injection e with e; subst e
        have hcx' : wr.cell? (ad.add (j + 4)) = some (.int .u8 x) := by rw [Nat.add_comm]; exact hcx
        have hcx2 := hcx
        rw [show 4 + j = (3 + j) + 1 by omega, add_sum, show 3 + j + 1 = 4 + j by omega] at hcx2
        have hcx3 : wr.cell? ⟨ad.block, ad.off + (j + 4), none⟩ = some (.int .u8 x) := by rw [Nat.add_comm j 4]; exact hcx2
        have HX := Lib.hid (opBs_at hlt hx)
        obtain ⟨u, hu⟩ : ∃ u, (blkA x0 (fillBs (opBs xs) j))[1 + j]? = some u := ⟨_, Array.getElem?_eq_getElem (by rw [blkA_size (fillBs_len h56.out hj)]; omega)⟩
        have c0 : wr.cell? ⟨w.heap.size + 1, 1 + j, none⟩ = some u := (blk_cell HBK.out (1 + j)).trans hu
        have f0 : wr.frozen? ⟨w.heap.size + 1, 1 + j, none⟩ = false := blk_free HBK.out _
        clear hu hx
        go_wp2
        go_roundw
        case rel =>
          refine ⟨j + 1, by go_num, by omega, ?_, ?_, hbel.setCell (by show _ ≤ w.heap.size + 1; omega) _⟩
          · rw [heap_setCell_same' HBK.out, blkA_setB, fillBs_set h56.out hlt HX.out]
          · rw [heap_setCell_other _ _ _ _ (by show w.heap.size ≠ w.heap.size + 1; omega)]; exact HBK0.out
        case measure => simp [intOf]; omega
      · obtain rfl : j = 56 := by omega
        rw [fillBs_all h56.out] at HBK
        have HYR := Lib.hid (HY.out.keep hbel)
        go_wp2_with (first
          | (refine wpList_loadB rfl (.tmp 8) rfl (w.heap.size + 1) rfl x0 (opBs xs) h56.out HBK.out ?_))
        by_cases hmay : MayB x0 t
        · obtain ⟨m, rfl⟩ : ∃ m : Nat, t = (m : Int) := ⟨t.toNat, by unfold MayB at hmay; omega⟩
          refine (rseal_yes l x0 m _ (opBs xs) wr hl hmay.1 (by unfold MayB at hmay; omega) (blkA_list _ _) h56.out (opBs_allB HB.out)).mono ?_
          rintro e W5 ⟨v5, rfl, own5, hb5⟩
          obtain ⟨A5, d5, rfl, hle5, hd5, hy5⟩ := byt_own own5 (sealB_length h56.out)
          rw [sealB_length h56.out]
          have hw1 : (convert 25 9 (.slice A5 64 d5)).run Try.prog W5 = .ok (.string (strOfNums (sealB l x0 m (opBs xs)))) W5 := conv_any hy5 (sealB_length h56.out)
          have hw2 : (convert 25 9 (.slice (some ad) 64 c)).run Try.prog W5 = .ok (.string (strOfNums xs)) W5 := conv_any (HYR.out.keep hb5) HN.out
          have HSB := Lib.hid (str_beq (sealB_allB (k := x0) (t := m) hl hmay.1 (opBs_allB HB.out)) HB.out)
          have HM5 : Hid (W5.heap[w.heap.size + 1]? = some (.cells (blkA x0 (opBs xs)) 24 (0, 0))) := by
            unfold Hid; rw [hb5.block _ (room_lt HBK.out)]; exact HBK.out
          have HM05 : Hid (W5.heap[w.heap.size]? = some (.cells (blkA 0 zBs) 24 (0, 0))) := by
            unfold Hid; rw [hb5.block _ (room_lt HBK0.out)]; exact HBK0.out
          have HBL5 := Lib.hid (keepB hbel hb5)
          have HMAY := Lib.hid hmay
          have HSL := Lib.hid (sealB_length (l := l) (k := x0) (t := m) h56.out)
          clear own5 hy5 hb5 hmay
          by_cases hq : sealB l x0 m (opBs xs) = xs
          · have hop : Opens l m xs := ⟨HN.out, by rw [HKX.out]; exact HMAY.out, by rw [HKX.out, Int.toNat_natCast]; exact hq⟩
            have HOP := Lib.hid hop
            have HSQ := HSB.out
            rw [decide_eq_true hq] at HSQ
            clear hop hq HSB
            generalize strOfNums (sealB l x0 m (opBs xs)) = s1 at *
            generalize strOfNums xs = s2 at *
            go_wp2_with (first
              | (refine wpList_loadB rfl (.tmp 8) rfl (w.heap.size + 1) rfl x0 (opBs xs) h56.out HM5.out ?_)
              | (refine wpList_storeB rfl (.tmp 6) (.tmp 50) rfl w.heap.size rfl x0 0 (opBs xs) zBs rfl h56.out zBs_len HM05.out ?_))
            refine bodyPost_ret (results_blk rfl _ _ w.heap.size x0 (opBs xs) rfl h56.out (setRow_blk HM05.out)) rfl ?_
            refine ⟨?_, below_setRow HBL5.out (Nat.le_refl _) _⟩
            unfold openA
            rw [if_pos HOP.out, decide_eq_true HOP.out, HKX.out]
            rfl
          · have hno : ¬ Opens l m xs := fun h => hq (by have h3 := h.2.2; rw [HKX.out, Int.toNat_natCast] at h3; exact h3)
            have HNO := Lib.hid hno
            have HSQ := HSB.out
            rw [decide_eq_false hq] at HSQ
            clear hno hq HSB
            generalize strOfNums (sealB l x0 m (opBs xs)) = s1 at *
            generalize strOfNums xs = s2 at *
            go_wp2_with (first
              | (refine wpList_buildB0 rfl rfl ?_)
              | (refine wpList_storeB rfl (.tmp 6) (.tmp 49) rfl w.heap.size rfl 0 0 zBs zBs rfl zBs_len zBs_len HM05.out ?_))
            refine bodyPost_ret (results_blk rfl _ _ w.heap.size 0 zBs rfl zBs_len (setRow_blk HM05.out)) rfl ?_
            refine ⟨?_, below_setRow HBL5.out (Nat.le_refl _) _⟩
            unfold openA
            rw [if_neg HNO.out, decide_eq_false HNO.out]
            rfl
        · refine (rseal_no l x0 t _ (opBs xs) wr hl (by constructor <;> omega) ht (blkA_list _ _) hmay).mono ?_
          rintro e W5 ⟨rfl, hb5⟩
          have HM05 : Hid (W5.heap[w.heap.size]? = some (.cells (blkA 0 zBs) 24 (0, 0))) := by
            unfold Hid; rw [hb5.block _ (room_lt HBK0.out)]; exact HBK0.out
          have HBL5 := Lib.hid (keepB hbel hb5)
          have hno : ¬ Opens l t xs := fun h => hmay (by have h3 := h.2.1; rw [HKX.out] at h3; exact h3)
          have HNO := Lib.hid hno
          clear hb5 hmay hno
          go_wp2_with (first
            | (refine wpList_buildB0 rfl rfl ?_)
            | (refine wpList_storeB rfl (.tmp 6) (.tmp 49) rfl w.heap.size rfl 0 0 zBs zBs rfl zBs_len zBs_len HM05.out ?_))
          refine bodyPost_ret (results_blk rfl _ _ w.heap.size 0 zBs rfl zBs_len (setRow_blk HM05.out)) rfl ?_
          refine ⟨?_, below_setRow HBL5.out (Nat.le_refl _) _⟩
          unfold openA
          rw [if_neg HNO.out, decide_eq_false HNO.out]
          rfl
  · go_enter Try.func11, Try.ntmps11
    have hbel1 := below_setRow hbel0 (Nat.le_refl w.heap.size) (blkA 0 zBs)
    have hbs := setRow_blk (D := blkA 0 zBs) hm0
    go_wp2_with (first
      | (refine wpList_allocB rfl rfl ?_)
      | (refine wpList_buildB0 rfl rfl ?_)
      | (refine wpList_storeB rfl (.tmp 6) (.tmp 15) rfl w.heap.size rfl 0 0 zBs zBs rfl zBs_len zBs_len hm0 ?_))
    refine bodyPost_ret (results_blk rfl _ _ w.heap.size 0 zBs rfl zBs_len hbs) rfl ?_
    refine ⟨?_, hbel1⟩
    have hno : ¬ Opens l t xs := fun h => h64 (HN.out.symm.trans h.1)
    unfold openA
    rw [if_neg hno, decide_eq_false hno]
    rfl
end Go.Proofs.Ytincamgdaienlaa
