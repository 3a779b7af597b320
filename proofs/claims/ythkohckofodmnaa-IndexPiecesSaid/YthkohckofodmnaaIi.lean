/- Contract: the reference's PutIndex. -/
import Derived.Test.YthkohckofodmnaaIh
import Derived.Test.YthkohckofodmnaaGl
namespace Go.Proofs.Ythkohckofodmnaa
open Go.ChangeShapes Go.WideShapes Go.ChangeAt Go.RowKit
set_option linter.unusedVariables false
theorem ixV_no {l : List Int} (h : mayB l = false) : ixV l = .tuple #[.agg (blkA 0 zBs), .bool false] := by
  have e1 : ixK l = 0 := by unfold ixK; rw [if_neg (by rw [h]; simp)]
  have e2 : ixB l = zBs := by unfold ixB; rw [if_neg (by rw [h]; simp)]
  unfold ixV; rw [e1, e2, h]
theorem ixV_yes {l : List Int} (h : mayB l = true) : ixV l = .tuple #[.agg (blkA 5 (pad (encL l))), .bool true] := by
  have e1 : ixK l = 5 := by unfold ixK; rw [if_pos h]
  have e2 : ixB l = pad (encL l) := by unfold ixB; rw [if_pos h]
  unfold ixV; rw [e1, e2, h]
theorem be_place {x : Int} (h : -1 ≤ x ∧ x < 200) : be (x + 1).toNat 2 = [0, x + 1] := by
  rw [be2_eq]
  congr 1
  · omega
  · congr 1; omega
/-- Where PutIndex stands: the result, the bytes so far. -/
structure JPI (w : World) (p : Nat) (v : Value) (n : Nat) (ys : List Int) (W : World) : Prop where
  bel : Below p w W
  sz : p + 1 ≤ W.heap.size
  res : W.heap[p]? = some (.cells (blkA 0 zBs) 25 (0, 0))
  own : W.ownsRow (p + 1) 5 1 v n (Bs ys)
theorem JPI.below {w W W' : World} {p n : Nat} {v : Value} {ys : List Int} (h : JPI w p v n ys W) (hb : Below W.heap.size W W') : JPI w p v n ys W' :=
  ⟨h.bel.trans (hb.mono (by have := h.sz; omega)), Nat.le_trans h.sz hb.size, kb hb h.res, ownB h.own hb⟩
theorem JPI.push {w W W' : World} {p n m : Nat} {v v' : Value} {ys zs : List Int} (h : JPI w p v n ys W) (ho : W'.ownsRow (p + 1) 5 1 v' m (Bs zs)) (hg : W.grownBy W' v.ownBlock) : JPI w p v' m zs W' :=
  ⟨h.bel.grown hg (by have := h.sz; omega) (fun j e => by have := (h.own.lt j e).1; omega), Nat.le_trans h.sz hg.size, by rw [hg.block p (room_lt h.res) (fun e => by have := (h.own.lt p e.symm).1; omega)]; exact h.res, ho⟩
theorem below_refl' (W : World) (q : Nat) : Below W.heap.size W (W.drewN q) := bdn (Below.refl _ _) q
set_option maxRecDepth 100000 in
set_option maxHeartbeats 3200000 in
theorem rixput_any (A : Option Addr) (l : List Int) (n d : Nat) (w : World) (hn : l.length = n) (hy : Nts w A l) :
    Calls Try.prog 11 #[.slice A n d] w fun e w' => e = .returned (ixV l) ∧ Below w.heap.size w w' := by
  have HR0 := Lib.hid (heap_alloc_new w (.cells (blkA 0 zBs) 25))
  have HB0 := Lib.hid (bel1 (w := w) (.cells (blkA 0 zBs) 25))
  by_cases h16 : n = 16
  · subst h16
    have HN := Lib.hid hn
    have HY := Lib.hid hy
    have hs0 : w.heap.size + 1 ≤ (w.alloc (.cells (blkA 0 zBs) 25)).heap.size := by rw [size_alloc']; exact Nat.le_refl _
    have HJ0 : Hid (JPI w w.heap.size (.slice none 0 0) 0 (encL (l.take 0)) (w.alloc (.cells (blkA 0 zBs) 25))) := ⟨HB0.out, hs0, HR0.out, ⟨rfl, .inl ⟨rfl, rfl⟩⟩⟩
    clear hn hy HR0 HB0 hs0
    go_enter Try.func11, Try.ntmps11
    go_upto_region 1 with (refine wpList_allocB rfl rfl ?_)
    generalize w.alloc (.cells (blkA 0 zBs) 25) = W at *
    go_wp2_with fail
    go_loopw [4, 5] (fun v i wr => ∃ j : Nat, j ≤ 16 ∧ i = .int .i64 j ∧ Hid (okP l j = true) ∧ Hid (JPI w w.heap.size v (j * 2) (encL (l.take j)) wr)) (fun _ i _ => (16 - intOf i).toNat)
    case atStart => exact ⟨0, by omega, rfl, rfl, HJ0⟩
    case round =>
      obtain ⟨j, hj, rfl, HO, HJ⟩ := hrel
      clear HJ0
      by_cases hlt : j < 16
      · obtain ⟨x, hx⟩ : ∃ x, l[j]? = some x := ⟨_, List.getElem?_eq_getElem (by rw [HN.out]; exact hlt)⟩
        obtain ⟨ad, rfl, hc⟩ := HY.out j x hx
        have HW : Hid (∀ W', Below w.heap.size w W' → ∀ i y, l[i]? = some y → W'.cell? (ad.add i) = some (.int .i64 y)) := fun W' hb i y hi => by
          obtain ⟨a, e, h⟩ := HY.out i y hi
          injection e with e; subst e
          exact keepC hb h
        have hc0 := HW.out wr HJ.out.bel j x hx
        clear hc
        by_cases h1 : x = -1
        · have hrg : -1 ≤ x ∧ x < 200 := by omega
          have hok : okX l j x = true := by unfold okX; simp [h1]
          have hne : (x != -1) = false := by simp [h1]
          go_wp2_with fail
          clear h1
          go_loopw [6] (fun i wk => ∃ k : Nat, k ≤ j ∧ i = .int .i64 k ∧ Hid (JPI w w.heap.size u4 (j * 2) (encL (l.take j)) wk)) (fun i _ => (j - intOf i).toNat)
          case atStart => exact ⟨0, by omega, rfl, HJ⟩
          case round =>
            obtain ⟨k, hk, rfl, HJk⟩ := hrel
            clear HJ
            obtain ⟨wk, rfl⟩ : ∃ wk, wk = wr := ⟨wr, rfl⟩
            by_cases hkj : k < j
            · have hcq : ∀ q, (wk.drewN q).cell? (ad.add j) = some (.int .i64 x) := fun q => HW.out wk HJk.out.bel j x hx
              have HJd := Lib.hid (fun q => HJk.out.below (below_refl' wk q))
              go_upto_region 12 with fail
              go_quiet (fail)
              rename_i nq
              have HJd2 := Lib.hid (HJd.out nq)
              clear HJk HJd hcq
              generalize wk.drewN nq = wk2 at *
              go_wp2_with fail
              go_roundw
              case rel => exact ⟨k + 1, by omega, by go_num, HJd2.out⟩
              case measure => simp [intOf]; omega
            · obtain rfl : j = k := by omega
              have HT2 : Hid (encL (l.take (j + 1)) = encL (l.take j) ++ be (x + 1).toNat 2) := by
                unfold Hid; rw [take_snoc' hx, encL_snoc, be_place hrg]
              have HO2 : Hid (okP l (j + 1) = true) := by unfold Hid; rw [okP_at hx, HO.out]; exact hok
              have wx1 : IntKind.i64.wrap (x + 1) = x + 1 := IntWalk.i64_in _ (by omega)
              have wx2 : IntKind.u64.wrap (x + 1) = x + 1 := IntWalk.u64_in _ (by omega)
              have hc1 := HW.out wk HJk.out.bel j x hx
              have HHI : Hid (∀ W : World, Calls Try.prog 19 #[.int .u64 (x + 1), .int .i64 2] W fun e w' => ∃ u, e = .returned u ∧ FullAt w' W.heap.size u (be (x + 1).toNat 2) ∧ Below W.heap.size W w') := fun W => high_int (x + 1) 2 W (by omega) (by omega)
              clear hx hc0 HW
              go_wp2_with fail
              refine (HHI.out _).mono ?_; rintro e w4 ⟨uu, rfl, hfull, hb4⟩
              obtain ⟨q, rfl, hby⟩ := hfull.byt
              have HJ4 := Lib.hid (HJk.out.below hb4)
              have HBY := Lib.hid hby
              clear hb4 hfull hby
              rw [be_length]
              go_wp2_with (first
                | (at_builtin
                   go_loud (refine wpList_app_byt w4 rfl (.tmp 53) (.tmp 60) rfl (w.heap.size + 1) u4 (j * 2) _ rfl HJ4.out.own (some ⟨q, 0, none⟩) 2 2 (be (x + 1).toNat 2) rfl HBY.out (be_length _ _) (by omega) HJ4.out.sz ?_)
                   intro v5 w5 h1 h2 _
                   have HJ5 := Lib.hid (HJ4.out.push h1 h2)
                   clear h1 h2 HJ4))
              go_roundw
              case rel => exact ⟨j + 1, by omega, by go_num, HO2.out, by unfold Hid; rw [HT2.out, Nat.add_mul, Nat.one_mul]; exact HJ5.out⟩
              case measure => simp [intOf]; omega
        by_cases h2 : 1 ≤ x ∧ x < 200
        · have hrg : -1 ≤ x ∧ x < 200 := by omega
          have hne : (x != -1) = true := by simp; exact h1
          have HMA := Lib.hid (fun W => mayat_any x W)
          rw [decide_eq_true h2] at HMA
          go_wp2_with fail
          refine (HMA.out _).mono ?_; rintro e w1 ⟨rfl, rfl⟩
          go_wp2_with fail
          clear h1 HMA
          go_loopw [6] (fun i wk => ∃ k : Nat, k ≤ j ∧ i = .int .i64 k ∧ Hid (∀ m y, m < k → l[m]? = some y → y ≠ x) ∧ Hid (JPI w w.heap.size u4 (j * 2) (encL (l.take j)) wk)) (fun i _ => (j - intOf i).toNat)
          case atStart => exact ⟨0, by omega, rfl, (fun m y h _ => absurd h (by omega)), HJ⟩
          case round =>
            obtain ⟨k, hk, rfl, HNE, HJk⟩ := hrel
            clear HJ
            obtain ⟨wk, rfl⟩ : ∃ wk, wk = wr := ⟨wr, rfl⟩
            by_cases hkj : k < j
            · obtain ⟨y, hyk⟩ : ∃ y, l[k]? = some y := ⟨_, List.getElem?_eq_getElem (by rw [HN.out]; omega)⟩
              have hcq : ∀ q, (wk.drewN q).cell? (ad.add j) = some (.int .i64 x) := fun q => HW.out wk HJk.out.bel j x hx
              have hck : ∀ q, (wk.drewN q).cell? (ad.add k) = some (.int .i64 y) := fun q => HW.out wk HJk.out.bel k y hyk
              have HJd := Lib.hid (fun q => HJk.out.below (below_refl' wk q))
              by_cases hxy : y = x
              · have hm : mayB l = false := okP_not hlt hx (by
                  have hmem : x ∈ l.take j := List.mem_of_getElem? (i := k) (by rw [List.getElem?_take, if_pos hkj, hyk, hxy])
                  unfold okX
                  simp [hmem]
                  simpa using hne)
                have HV := Lib.hid (ixV_no hm)
                have heq : (y == x) = true := by simp [hxy]
                clear hm hxy hx hyk
                go_upto_region 12 with fail
                go_quiet (fail)
                rename_i nq
                have HJd2 := Lib.hid (HJd.out nq)
                clear HJk HJd hcq hck
                generalize wk.drewN nq = wk2 at *
                go_wp2_with (first
                  | (refine wpList_buildB0 rfl rfl ?_)
                  | (refine wpList_storeB rfl (.tmp 2) (.tmp 52) rfl w.heap.size rfl 0 0 zBs zBs rfl zBs_len zBs_len HJd2.out.res ?_))
                refine bodyPost_ret (results_blk rfl _ _ w.heap.size 0 zBs rfl zBs_len (setRow_blk HJd2.out.res)) rfl ?_
                exact ⟨by rw [HV.out]; rfl, below_setRow HJd2.out.bel (Nat.le_refl _) _⟩
              · have heq : (y == x) = false := by simp [hxy]
                have HNE2 : Hid (∀ m y, m < k + 1 → l[m]? = some y → y ≠ x) := fun m z hm hz => by
                  by_cases e : m = k
                  · subst e; rw [hyk] at hz; injection hz with hz; rw [← hz]; exact hxy
                  · exact HNE.out m z (by omega) hz
                clear hxy hyk HNE
                go_upto_region 12 with fail
                go_quiet (fail)
                rename_i nq
                have HJd2 := Lib.hid (HJd.out nq)
                clear HJk HJd hcq hck
                generalize wk.drewN nq = wk2 at *
                go_wp2_with fail
                go_roundw
                case rel => exact ⟨k + 1, by omega, by go_num, HNE2.out, HJd2.out⟩
                case measure => simp [intOf]; omega
            · obtain rfl : j = k := by omega
              have hok : okX l j x = true := by
                have hmem : x ∉ l.take j := fun hm => by
                  obtain ⟨m, hm2⟩ := List.getElem?_of_mem hm
                  rw [List.getElem?_take] at hm2
                  split at hm2
                  · exact HNE.out m x (by omega) hm2 rfl
                  · cases hm2
                unfold okX
                simp [h2.1, h2.2, hmem]
              clear HNE
              have HT2 : Hid (encL (l.take (j + 1)) = encL (l.take j) ++ be (x + 1).toNat 2) := by
                unfold Hid; rw [take_snoc' hx, encL_snoc, be_place hrg]
              have HO2 : Hid (okP l (j + 1) = true) := by unfold Hid; rw [okP_at hx, HO.out]; exact hok
              have wx1 : IntKind.i64.wrap (x + 1) = x + 1 := IntWalk.i64_in _ (by omega)
              have wx2 : IntKind.u64.wrap (x + 1) = x + 1 := IntWalk.u64_in _ (by omega)
              have hc1 := HW.out wk HJk.out.bel j x hx
              have HHI : Hid (∀ W : World, Calls Try.prog 19 #[.int .u64 (x + 1), .int .i64 2] W fun e w' => ∃ u, e = .returned u ∧ FullAt w' W.heap.size u (be (x + 1).toNat 2) ∧ Below W.heap.size W w') := fun W => high_int (x + 1) 2 W (by omega) (by omega)
              clear hx hc0 HW
              go_wp2_with fail
              refine (HHI.out _).mono ?_; rintro e w4 ⟨uu, rfl, hfull, hb4⟩
              obtain ⟨q, rfl, hby⟩ := hfull.byt
              have HJ4 := Lib.hid (HJk.out.below hb4)
              have HBY := Lib.hid hby
              clear hb4 hfull hby
              rw [be_length]
              go_wp2_with (first
                | (at_builtin
                   go_loud (refine wpList_app_byt w4 rfl (.tmp 53) (.tmp 60) rfl (w.heap.size + 1) u4 (j * 2) _ rfl HJ4.out.own (some ⟨q, 0, none⟩) 2 2 (be (x + 1).toNat 2) rfl HBY.out (be_length _ _) (by omega) HJ4.out.sz ?_)
                   intro v5 w5 h1 h2 _
                   have HJ5 := Lib.hid (HJ4.out.push h1 h2)
                   clear h1 h2 HJ4))
              go_roundw
              case rel => exact ⟨j + 1, by omega, by go_num, HO2.out, by unfold Hid; rw [HT2.out, Nat.add_mul, Nat.one_mul]; exact HJ5.out⟩
              case measure => simp [intOf]; omega
        · have hm : mayB l = false := okP_not hlt hx (by
            unfold okX
            simp [h1]
            intro h3 h4; omega)
          have HV := Lib.hid (ixV_no hm)
          have hne : (x != -1) = true := by simp; exact h1
          have HMA := Lib.hid (fun W => mayat_any x W)
          rw [decide_eq_false h2] at HMA
          clear hm hx
          go_wp2_with fail
          refine (HMA.out _).mono ?_; rintro e w1 ⟨rfl, rfl⟩
          go_wp2_with (first
            | (refine wpList_buildB0 rfl rfl ?_)
            | (refine wpList_storeB rfl (.tmp 2) (.tmp 30) rfl w.heap.size rfl 0 0 zBs zBs rfl zBs_len zBs_len HJ.out.res ?_))
          refine bodyPost_ret (results_blk rfl _ _ w.heap.size 0 zBs rfl zBs_len (setRow_blk HJ.out.res)) rfl ?_
          exact ⟨by rw [HV.out]; rfl, below_setRow HJ.out.bel (Nat.le_refl _) _⟩
      · obtain rfl : j = 16 := by omega
        have e : l.take 16 = l := List.take_of_length_le (by rw [HN.out]; omega)
        rw [e] at HJ
        have hm : mayB l = true := by unfold mayB; rw [HO.out, decide_eq_true HN.out]; rfl
        have HV := Lib.hid (ixV_yes hm)
        clear hm e
        obtain ⟨B, cap, hv, _, _, hby⟩ := byt_own (bs := encL l) HJ.out.own (by rw [encL_length, HN.out])
        rw [encL_length, HN.out] at hv
        have HL := Lib.hid (pad_len (ys := encL l) (by rw [encL_length, HN.out]; omega))
        have HBD := Lib.hid (fun W h => body_any 5 B (encL l) 32 cap W (by rw [encL_length, HN.out]) (by omega) h)
        have HBY := Lib.hid hby
        subst hv
        clear hby
        go_wp2_with fail
        refine (HBD.out _ HBY.out).mono ?_; rintro e w4 ⟨rfl, hb4⟩
        have HJ4 := Lib.hid (HJ.out.below hb4)
        clear hb4 HJ HBY
        go_wp2_with (refine wpList_storeB rfl (.tmp 2) (.tmp 63) rfl w.heap.size rfl 5 0 (pad (encL l)) zBs rfl HL.out zBs_len HJ4.out.res ?_)
        refine bodyPost_ret (results_blk rfl _ _ w.heap.size 5 (pad (encL l)) rfl HL.out (setRow_blk HJ4.out.res)) rfl ?_
        exact ⟨by rw [HV.out]; rfl, below_setRow HJ4.out.bel (Nat.le_refl _) _⟩
  · have hm : mayB l = false := by unfold mayB; rw [decide_eq_false (by omega)]; rfl
    have hn2 : ¬ ((n : Int) = 16) := by omega
    have HV := Lib.hid (ixV_no hm)
    have HJ : Hid (JPI w w.heap.size (.slice none 0 0) 0 [] (w.alloc (.cells (blkA 0 zBs) 25))) := ⟨HB0.out, by rw [size_alloc']; exact Nat.le_refl _, HR0.out, ⟨rfl, .inl ⟨rfl, rfl⟩⟩⟩
    clear hn hy HR0 HB0 hm
    go_enter Try.func11, Try.ntmps11
    go_upto_region 1 with (refine wpList_allocB rfl rfl ?_)
    generalize w.alloc (.cells (blkA 0 zBs) 25) = W at *
    go_wp2_with (first
      | (refine wpList_buildB0 rfl rfl ?_)
      | (refine wpList_storeB rfl (.tmp 2) (.tmp 10) rfl w.heap.size rfl 0 0 zBs zBs rfl zBs_len zBs_len HJ.out.res ?_))
    refine bodyPost_ret (results_blk rfl _ _ w.heap.size 0 zBs rfl zBs_len (setRow_blk HJ.out.res)) rfl ?_
    exact ⟨by rw [HV.out]; rfl, below_setRow HJ.out.bel (Nat.le_refl _) _⟩
end Go.Proofs.Ythkohckofodmnaa
