/- The law IndexBack answers true for every input, and leaves its arguments alone. No condition. -/
import Derived.Test.YthkohckofodmnaaRows
import Derived.Test.YthkohckofodmnaaIn
import Derived.WalkKit
import Derived.ProofKit
import Derived.OpenShut
namespace Go.Proofs.Ythkohckofodmnaa.indexBack
open Go.ChangeShapes Go.WideShapes Go.ChangeAt Go.RowKit Go.Joins
set_option linter.unusedVariables false
theorem own : ownKnob Try.prog.godebug = none := by kernel_rfl
theorem laidOut : laidOutB Try.prog = true := by kernel_rfl
set_option maxRecDepth 100000 in
set_option maxHeartbeats 6400000 in
theorem walk (g0 : List Int) (w : World) (hL0 : g0.length = 16) (hB0 : AllB g0) :
    Calls Try.prog 5 #[.agg (Bs g0).toArray] w fun e w' => e = .returned (.bool true) ∧ Below w.heap.size w w' := by
  have HX0 := Lib.hid (heap_alloc_new w (.cells (Bs g0).toArray 43))
  have HB0 := Lib.hid (bel1 (w := w) (.cells (Bs g0).toArray 43))
  have HLG := Lib.hid hL0
  have HBG := Lib.hid hB0
  have HLL : Hid ((gL g0).length = 16) := by unfold Hid; rw [gL_length]; exact hL0
  have HGA := Lib.hid (fun i b (h : g0[i]? = some b) => gL_at h)
  clear hL0 hB0
  generalize gL g0 = L at *
  go_enter Try.func5, Try.ntmps5
  go_upto_region 1 with fail
  generalize w.alloc (.cells (Bs g0).toArray 43) = W0 at *
  go_wp2_with fail
  refine (begun_any _).mono ?_
  rintro e W1 ⟨rfl, hb1⟩
  have hs1 := room_lt (kb hb1 HX0.out)
  have HJ0 : Hid (JBI w w.heap.size g0 (.slice none 0 0) 0 (L.take 0) W1) := ⟨keepB HB0.out hb1, hs1, kb hb1 HX0.out, ⟨rfl, .inl ⟨rfl, rfl⟩⟩⟩
  clear hb1 HX0 HB0 hs1
  go_wp2_with fail
  go_loopw [3, 4, 5] (fun v tw i wr => ∃ j : Nat, ∃ b : Bool, j ≤ 16 ∧ i = .int .i64 j ∧ tw = .bool b ∧ Hid (b = !okP L j) ∧ Hid (JBI w w.heap.size g0 v j (L.take j) wr)) (fun _ _ i _ => (16 - intOf i).toNat)
  case atStart => exact ⟨0, false, by omega, rfl, rfl, rfl, HJ0⟩
  case round =>
    obtain ⟨j, tw0, hj, rfl, rfl, HT, HJ⟩ := hrel
    clear HJ0
    by_cases hlt : j < 16
    · obtain ⟨b, hb⟩ : ∃ b, g0[j]? = some b := ⟨_, List.getElem?_eq_getElem (by rw [HLG.out]; exact hlt)⟩
      have hbr := HBG.out b (List.mem_of_getElem? hb)
      have hX : L[j]? = some (gX b) := HGA.out j b hb
      have c1 : wr.cell? ⟨w.heap.size, j, none⟩ = some (.int .u8 b) := by
        rw [blk_cell HJ.out.blk, List.getElem?_toArray]; exact Bs_at hb
      have e1 : IntKind.i64.wrap b = b := IntWalk.i64_in _ (by omega)
      have e2 : b.tmod 200 = b % 200 := Int.tmod_eq_emod_of_nonneg (by omega)
      have e3 : IntKind.i64.wrap (b % 200) = b % 200 := IntWalk.i64_in _ (by omega)
      have e4 : IntKind.i64.wrap (b % 200 - 1) = b % 200 - 1 := IntWalk.i64_in _ (by omega)
      have HRX0 := gX_rng b
      have hdef : gX b = if b % 200 - 1 = 0 then -1 else b % 200 - 1 := rfl
      generalize gX b = x at *
      generalize b % 200 = r at *
      obtain ⟨a, ha⟩ : ∃ a, a = r - 1 := ⟨_, rfl⟩
      have e5 : IntKind.i64.wrap (r - 1) = a := by rw [e4, ha]
      rw [← ha] at hdef
      clear e4 ha
      have HX := Lib.hid hX
      have HRX := Lib.hid HRX0
      have HT' := HT.out
      unfold Hid at HT'
      subst HT'
      clear hX HRX0 hbr hb HT
      by_cases h0 : a = 0
      · have hx : x = -1 := by rw [hdef, if_pos h0]
        subst h0
        subst hx
        clear hdef
        go_wp2_with fail
        go_loopw [4, 7] (fun tw i wr => ∃ k : Nat, ∃ b : Bool, k ≤ j ∧ i = .int .i64 k ∧ tw = .bool b ∧ Hid (b = !okP L j) ∧ Hid (JBI w w.heap.size g0 u3 j (L.take j) wr)) (fun _ i _ => (j - intOf i).toNat)
        case atStart => exact ⟨0, _, by omega, rfl, rfl, rfl, HJ⟩
        case round =>
          obtain ⟨k, tw, hk, rfl, rfl, HTW, HJk⟩ := hrel
          clear HJ
          by_cases hkj : k < j
          · cases tw
            · go_wp2_with fail
              go_roundw
              case rel => exact ⟨k + 1, false, by omega, by go_num, rfl, HTW.out, HJk.out⟩
              case measure => simp [intOf]; omega
            · go_wp2_with fail
              go_roundw
              case rel => exact ⟨k + 1, true, by omega, by go_num, rfl, HTW.out, HJk.out⟩
              case measure => simp [intOf]; omega
          · obtain rfl : j = k := by omega
            have HTN : Hid (tw = !okP L (j + 1)) := by unfold Hid; rw [HTW.out, okP_next HX.out (.inl rfl)]; simp
            have HTK : Hid (L.take (j + 1) = L.take j ++ [-1]) := take_snoc' HX.out
            have HJ4 := Lib.hid (HJk.out.below (bel1 (.cells (Is [-1]).toArray 3)))
            have HY4 : Hid (Nts (wr.alloc (.cells (Is [-1]).toArray 3)) (some ⟨wr.heap.size, 0, none⟩) [-1]) := nts_is (heap_alloc_new wr _)
            obtain ⟨wk, hwk⟩ : ∃ wk, wk = wr.alloc (.cells (Is [-1]).toArray 3) := ⟨_, rfl⟩
            rw [← hwk] at HJ4 HY4
            have HWK : Hid (wr.alloc (.cells #[.int .i64 (-1)] 3) = wk) := hwk.symm
            clear hwk HJk HTW
            go_wp2_with (first
              | (at_builtin
                 rw [HWK.out]
                 go_loud (refine wpList_app_nts wk rfl (.tmp 50) (.tmp 52) rfl (w.heap.size + 1) u3 j _ rfl HJ4.out.own (some ⟨wr.heap.size, 0, none⟩) 1 1 [-1] rfl HY4.out rfl (by omega) HJ4.out.sz ?_)
                 intro v5 w5 h1 h2 _
                 have HJ5 := Lib.hid (HJ4.out.push h1 h2)
                 clear h1 h2 HJ4))
            go_roundw
            case rel => exact ⟨j + 1, tw, by omega, by go_num, rfl, HTN.out, by unfold Hid; rw [HTK.out]; exact HJ5.out⟩
            case measure => simp [intOf]; omega
      · have hx : x = a := by rw [hdef, if_neg h0]
        subst hx
        have hne0 : (x == 0) = false := by simp; exact h0
        clear hdef h0
        go_wp2_with fail
        go_loopw [4, 7] (fun tw i wr => ∃ k : Nat, ∃ b : Bool, k ≤ j ∧ i = .int .i64 k ∧ tw = .bool b ∧ Hid (b = (!okP L j || (x != -1 && (L.take k).contains x))) ∧ Hid (JBI w w.heap.size g0 u3 j (L.take j) wr)) (fun _ i _ => (j - intOf i).toNat)
        case atStart => exact ⟨0, _, by omega, rfl, rfl, by unfold Hid; simp, HJ⟩
        case round =>
          obtain ⟨k, tw, hk, rfl, rfl, HTW, HJk⟩ := hrel
          clear HJ
          by_cases hkj : k < j
          · obtain ⟨y, hyk⟩ : ∃ y, L[k]? = some y := ⟨_, List.getElem?_eq_getElem (by rw [HLL.out]; omega)⟩
            have hmid : (Is (L.take j))[k]? = some (.int .i64 y) := Is_at (by rw [List.getElem?_take, if_pos hkj]; exact hyk)
            obtain ⟨gg, cap, hv, _, _⟩ := own_pos HJk.out.own (by omega)
            subst hv
            have cy := own_cell HJk.out.own hmid
            have HNX := Lib.hid (take_has (x := x) hyk)
            clear hmid hyk
            cases tw
            · have HF : Hid (okP L j = true ∧ (x != -1 && (L.take k).contains x) = false) := by
                have h := HTW.out
                unfold Hid
                cases h1 : okP L j <;> rw [h1] at h <;> simp at h ⊢
                exact h
              by_cases h1 : x = -1
              · have hne : (x != -1) = false := by simp [h1]
                have HB2 : Hid (false = (!okP L j || (x != -1 && (L.take (k + 1)).contains x))) := by unfold Hid; rw [HF.out.1, hne]; rfl
                clear h1 HTW HF
                go_wp2_with fail
                go_roundw
                case rel => exact ⟨k + 1, false, by omega, by go_num, rfl, HB2.out, HJk.out⟩
                case measure => simp [intOf]; omega
              · have hne : (x != -1) = true := by simp; exact h1
                have HB2 : Hid ((y == x) = (!okP L j || (x != -1 && (L.take (k + 1)).contains x))) := by
                  have h := HF.out
                  unfold Hid
                  rw [HNX.out, h.1]
                  rw [hne] at h ⊢
                  simp at h ⊢
                  simp [h.2]
                obtain ⟨bb, hbb⟩ : ∃ bb, bb = (y == x) := ⟨_, rfl⟩
                have hbb2 : (y == x) = bb := hbb.symm
                rw [← hbb] at HB2
                clear h1 HTW HF hbb
                go_wp2_with fail
                go_roundw
                case rel => exact ⟨k + 1, bb, by omega, by go_num, rfl, HB2.out, HJk.out⟩
                case measure => simp [intOf]; omega
            · have HB2 : Hid (true = (!okP L j || (x != -1 && (L.take (k + 1)).contains x))) := by
                have h := HTW.out
                unfold Hid
                rw [HNX.out]
                cases h1 : okP L j <;> rw [h1] at h <;> simp at h ⊢
                exact ⟨h.1, Or.inl h.2⟩
              clear HTW
              go_wp2_with fail
              go_roundw
              case rel => exact ⟨k + 1, true, by omega, by go_num, rfl, HB2.out, HJk.out⟩
              case measure => simp [intOf]; omega
          · obtain rfl : j = k := by omega
            have HTN : Hid (tw = !okP L (j + 1)) := by unfold Hid; rw [HTW.out, ← okP_next HX.out HRX.out]
            have HTK : Hid (L.take (j + 1) = L.take j ++ [x]) := take_snoc' HX.out
            have HJ4 := Lib.hid (HJk.out.below (bel1 (.cells (Is [x]).toArray 3)))
            have HY4 : Hid (Nts (wr.alloc (.cells (Is [x]).toArray 3)) (some ⟨wr.heap.size, 0, none⟩) [x]) := nts_is (heap_alloc_new wr _)
            obtain ⟨wk, hwk⟩ : ∃ wk, wk = wr.alloc (.cells (Is [x]).toArray 3) := ⟨_, rfl⟩
            rw [← hwk] at HJ4 HY4
            have HWK : Hid (wr.alloc (.cells #[.int .i64 x] 3) = wk) := hwk.symm
            clear hwk HJk HTW
            go_wp2_with (first
              | (at_builtin
                 rw [HWK.out]
                 go_loud (refine wpList_app_nts wk rfl (.tmp 50) (.tmp 52) rfl (w.heap.size + 1) u3 j _ rfl HJ4.out.own (some ⟨wr.heap.size, 0, none⟩) 1 1 [x] rfl HY4.out rfl (by omega) HJ4.out.sz ?_)
                 intro v5 w5 h1 h2 _
                 have HJ5 := Lib.hid (HJ4.out.push h1 h2)
                 clear h1 h2 HJ4))
            go_roundw
            case rel => exact ⟨j + 1, tw, by omega, by go_num, rfl, HTN.out, by unfold Hid; rw [HTK.out]; exact HJ5.out⟩
            case measure => simp [intOf]; omega
    · obtain rfl : j = 16 := by omega
      have e : L.take 16 = L := List.take_of_length_le (by rw [HLL.out]; omega)
      rw [e] at HJ
      have hmo : okP L 16 = mayB L := by unfold mayB; rw [decide_eq_true HLL.out]; rfl
      have HT' := HT.out
      unfold Hid at HT'
      rw [hmo] at HT'
      subst HT'
      obtain ⟨gx, cx, hv, _, _⟩ := own_pos HJ.out.own (by omega)
      subst hv
      have HPU := Lib.hid (fun W h => ixput_any (some ⟨gx, 0, none⟩) L 16 cx W HLL.out h)
      have HY : Hid (Nts wr (some ⟨gx, 0, none⟩) L) := fun i x hi => ⟨_, rfl, by rw [add_at]; exact own_cell HJ.out.own (Is_at hi)⟩
      clear e hmo HT
      cases hm : mayB L
      · rw [ixV_no hm] at HPU
        have HTK := Lib.hid (fun W => ixtake_any 0 zBs W zBs_len zBs_allB)
        rw [tk_zero] at HTK
        clear hm
        go_wp2_with fail
        refine (HPU.out _ HY.out).mono ?_; rintro e w5 ⟨rfl, hb5⟩
        have HJ5 := Lib.hid (HJ.out.below hb5)
        clear hb5 HJ HPU HY
        have h6 := heap_alloc_new w5 (.cells (blkA 0 zBs) 25)
        have HG6 : Hid (((w5.alloc (.cells (blkA 0 zBs) 25)).setRow w5.heap.size (blkA 0 zBs)).heap[w5.heap.size]? = some (.cells (blkA 0 zBs) 25 (0, 0))) := setRow_blk h6
        have HJ6 := Lib.hid (HJ5.out.below (below_setRow (bel1 (w := w5) (.cells (blkA 0 zBs) 25)) (Nat.le_refl _) (blkA 0 zBs)))
        go_upto_region 17 with (first
          | (refine wpList_allocB rfl rfl ?_)
          | (refine wpList_storeB rfl (.tmp 8) (.tmp 57) rfl w5.heap.size rfl 0 0 zBs zBs rfl zBs_len zBs_len h6 ?_))
        clear h6 HJ5
        generalize (w5.alloc (.cells (blkA 0 zBs) 25)).setRow w5.heap.size (blkA 0 zBs) = w6 at *
        generalize w5.heap.size = q8 at *
        go_wp2_with (refine wpList_loadB rfl (.tmp 8) rfl q8 rfl 0 zBs zBs_len HG6.out ?_)
        refine (HTK.out _).mono ?_; rintro e w7 ⟨v7, rfl, _, hb7⟩
        have HB7 := Lib.hid ((HJ6.out.below hb7).bel)
        clear hb7 HJ6 HG6 HTK
        go_wp2_with fail
        go_loopw [12] (fun i wr => i = .int .i64 0 ∧ Hid (Below w.heap.size w wr)) (fun _ _ => 0)
        case atStart => exact ⟨rfl, HB7⟩
        case round =>
          obtain ⟨rfl, HB8⟩ := hrel
          clear HB7
          go_wp2_with fail
          go_loopw [13, 14] (fun s i wr => ∃ (j : Nat) (k : Int) (n : Nat), j ≤ 22 ∧ i = .int .i64 k ∧ Hid (k = (j : Int) - 1) ∧ s = .int .i64 n ∧ Hid (n = min (j - 1) 20) ∧ Hid (Below w.heap.size w wr)) (fun _ i _ => (21 - intOf i).toNat)
          case atStart => exact ⟨0, -1, 0, by omega, rfl, rfl, rfl, rfl, HB8⟩
          case round =>
            obtain ⟨j, k, n, hj, rfl, HK, rfl, HN4, HB4⟩ := hrel
            clear HB8
            have hk := HK.out
            have hn := HN4.out
            unfold Hid at hk hn
            clear HK HN4
            by_cases hlt : j < 22
            · by_cases h0 : j = 0
              · obtain rfl : k = -1 := by omega
                have HWH : Hid (∀ W : World, Calls Try.prog 8 #[.int .i64 (-1)] W fun e w' => e = .returned (.tuple #[.int .i64 0, .int .i64 0, .bool false]) ∧ W = w') := fun W => by
                  have h := where_any ((-1)) W (by omega)
                  rwa [show whV ((-1)) = .tuple #[.int .i64 0, .int .i64 0, .bool false] from rfl] at h
                have KN : Hid ((0 : Int) = ((j + 1 : Nat) : Int) - 1) := by unfold Hid; omega
                have NN : Hid (n = min (j + 1 - 1) 20) := by unfold Hid; omega
                clear hk hn
                go_wp2_with fail
                refine (HWH.out _).mono ?_; rintro e w9 ⟨rfl, rfl⟩
                go_wp2_with fail
                go_roundw
                case rel => exact ⟨j + 1, 0, n, by omega, by go_num, KN.out, by go_num, NN.out, HB4.out⟩
                case measure => first | (simp [intOf]; done) | (simp [intOf]; omega)
              · by_cases h1 : k < 4
                · have hk0 : 0 ≤ k := by omega
                  have HWH : Hid (∀ W : World, Calls Try.prog 8 #[.int .i64 k] W fun e w' => e = .returned (.tuple #[.int .i64 k, .int .i64 (-1), .bool true]) ∧ W = w') := fun W => by
                    have h := where_any (k) W (by omega)
                    rwa [show whV (k) = .tuple #[.int .i64 k, .int .i64 (-1), .bool true] from by unfold whV whD whI; rw [if_neg (by omega), if_pos h1, if_neg (by omega), if_pos h1, decide_eq_true (by omega)]] at h
                  have q1 : (k == -1) = false := by simp; omega
                  have q2 : (k != -1) = true := by simp; omega
                  have q3 : decide (0 ≤ k) = true := by simp; omega
                  have q4 : decide (k < 20) = true := by simp; omega
                  have q5 : IntKind.i64.wrap (k + 1) = k + 1 := IntWalk.i64_in _ (by omega)
                  have q6 : IntKind.i64.wrap ((n : Int) + 1) = (n : Int) + 1 := IntWalk.i64_in _ (by omega)
                  have KN : Hid ((k + 1 : Int) = ((j + 1 : Nat) : Int) - 1) := by unfold Hid; omega
                  have NN : Hid (n + 1 = min (j + 1 - 1) 20) := by unfold Hid; omega
                  clear hk hn
                  go_wp2_with fail
                  refine (HWH.out _).mono ?_; rintro e w9 ⟨rfl, rfl⟩
                  go_wp2_with fail
                  go_roundw
                  case rel => exact ⟨j + 1, k + 1, n + 1, by omega, by go_num, KN.out, by go_num, NN.out, HB4.out⟩
                  case measure => first | (simp [intOf]; done) | (simp [intOf]; omega)
                · by_cases h2 : k < 20
                  · have HWH : Hid (∀ W : World, Calls Try.prog 8 #[.int .i64 k] W fun e w' => e = .returned (.tuple #[.int .i64 (-1), .int .i64 (k - 4), .bool true]) ∧ W = w') := fun W => by
                      have h := where_any (k) W (by omega)
                      rwa [show whV (k) = .tuple #[.int .i64 (-1), .int .i64 (k - 4), .bool true] from by unfold whV whD whI; rw [if_neg (by omega), if_neg h1, if_neg (by omega), if_neg h1, decide_eq_true (by omega)]] at h
                    have q1 : (k == -1) = false := by simp; omega
                    have q2 : (k != -1) = true := by simp; omega
                    have q3 : decide (0 ≤ k) = true := by simp; omega
                    have q4 : decide (k < 20) = true := by simp; omega
                    have q5 : IntKind.i64.wrap (k + 1) = k + 1 := IntWalk.i64_in _ (by omega)
                    have q6 : IntKind.i64.wrap ((n : Int) + 1) = (n : Int) + 1 := IntWalk.i64_in _ (by omega)
                    have q7 : IntKind.i64.wrap (k - 4) = k - 4 := IntWalk.i64_in _ (by omega)
                    have q8 : (k - 4 == -1) = false := by simp; omega
                    have q9 : (k - 4 != -1) = true := by simp; omega
                    have KN : Hid ((k + 1 : Int) = ((j + 1 : Nat) : Int) - 1) := by unfold Hid; omega
                    have NN : Hid (n + 1 = min (j + 1 - 1) 20) := by unfold Hid; omega
                    clear hk hn
                    go_wp2_with fail
                    refine (HWH.out _).mono ?_; rintro e w9 ⟨rfl, rfl⟩
                    go_wp2_with fail
                    go_roundw
                    case rel => exact ⟨j + 1, k + 1, n + 1, by omega, by go_num, KN.out, by go_num, NN.out, HB4.out⟩
                    case measure => first | (simp [intOf]; done) | (simp [intOf]; omega)
                  · obtain rfl : k = 20 := by omega
                    have HWH : Hid (∀ W : World, Calls Try.prog 8 #[.int .i64 20] W fun e w' => e = .returned (.tuple #[.int .i64 0, .int .i64 0, .bool false]) ∧ W = w') := fun W => by
                      have h := where_any (20) W (by omega)
                      rwa [show whV (20) = .tuple #[.int .i64 0, .int .i64 0, .bool false] from rfl] at h
                    have KN : Hid ((21 : Int) = ((j + 1 : Nat) : Int) - 1) := by unfold Hid; omega
                    have NN : Hid (n = min (j + 1 - 1) 20) := by unfold Hid; omega
                    clear hk hn
                    go_wp2_with fail
                    refine (HWH.out _).mono ?_; rintro e w9 ⟨rfl, rfl⟩
                    go_wp2_with fail
                    go_roundw
                    case rel => exact ⟨j + 1, 21, n, by omega, by go_num, KN.out, by go_num, NN.out, HB4.out⟩
                    case measure => first | (simp [intOf]; done) | (simp [intOf]; omega)
            · obtain rfl : k = 21 := by omega
              obtain rfl : n = 20 := by omega
              clear hk hn
              go_wp2_with fail
              go_ret
              exact ⟨rfl, HB4.out⟩
      · rw [ixV_yes hm] at HPU
        have hl56 : (pad (encL L)).length = 56 := pad_len (by rw [encL_length, HLL.out]; omega)
        have HTK := Lib.hid (fun W => ixtake_any 5 (pad (encL L)) W hl56 (pad_allB (encL_allB (mayB_all hm))))
        rw [(tk_yes hm).1, (tk_yes hm).2, HLL.out] at HTK
        have H56 := Lib.hid hl56
        clear hm hl56
        generalize pad (encL L) = bs at *
        go_wp2_with fail
        refine (HPU.out _ HY.out).mono ?_; rintro e w5 ⟨rfl, hb5⟩
        have HJ5 := Lib.hid (HJ.out.below hb5)
        clear hb5 HJ HPU HY
        have h6 := heap_alloc_new w5 (.cells (blkA 0 zBs) 25)
        have HG6 : Hid (((w5.alloc (.cells (blkA 0 zBs) 25)).setRow w5.heap.size (blkA 5 bs)).heap[w5.heap.size]? = some (.cells (blkA 5 bs) 25 (0, 0))) := setRow_blk h6
        have HJ6 := Lib.hid (HJ5.out.below (below_setRow (bel1 (w := w5) (.cells (blkA 0 zBs) 25)) (Nat.le_refl _) (blkA 5 bs)))
        go_upto_region 17 with (first
          | (refine wpList_allocB rfl rfl ?_)
          | (refine wpList_storeB rfl (.tmp 8) (.tmp 57) rfl w5.heap.size rfl 5 0 bs zBs rfl H56.out zBs_len h6 ?_))
        clear h6 HJ5
        generalize (w5.alloc (.cells (blkA 0 zBs) 25)).setRow w5.heap.size (blkA 5 bs) = w6 at *
        generalize w5.heap.size = q8 at *
        go_wp2_with (refine wpList_loadB rfl (.tmp 8) rfl q8 rfl 5 bs H56.out HG6.out ?_)
        refine (HTK.out _).mono ?_; rintro e w7 ⟨v7, rfl, ho7, hb7⟩
        obtain ⟨gy, cy, rfl, _, _⟩ := own_pos ho7 (by omega)
        have HY7 := Lib.hid (ho7.mono (Nat.zero_le _))
        have HX7 := Lib.hid ((HJ6.out.below hb7).own.mono (Nat.zero_le _))
        have HB7 := Lib.hid ((HJ6.out.below hb7).bel)
        clear ho7 hb7 HJ6 HG6 HTK
        go_wp2_with fail
        go_loopw [12] (fun i wr => ∃ j : Nat, j ≤ 16 ∧ i = .int .i64 j ∧ Hid (wr.ownsRow 0 3 1 (.slice (some ⟨gy, 0, none⟩) 16 cy) 16 (Is L)) ∧ Hid (wr.ownsRow 0 3 1 (.slice (some ⟨gx, 0, none⟩) 16 cx) 16 (Is L)) ∧ Hid (Below w.heap.size w wr)) (fun i _ => (16 - intOf i).toNat)
        case atStart => exact ⟨0, by omega, rfl, HY7, HX7, HB7⟩
        case round =>
          obtain ⟨j, hj5, rfl, HO, HR, HB8⟩ := hrel
          obtain ⟨wk, rfl⟩ : ∃ wk, wk = wr := ⟨wr, rfl⟩
          clear HY7 HX7 HB7
          by_cases hlt5 : j < 16
          · obtain ⟨x, hx⟩ : ∃ x, L[j]? = some x := ⟨_, List.getElem?_eq_getElem (by rw [HLL.out]; exact hlt5)⟩
            have k1 : ∀ q, (wk.drewN q).cell? ⟨gy, j, none⟩ = some (.int .i64 x) := fun q => own_cell HO.out (Is_at hx)
            have k2 : ∀ q, (wk.drewN q).cell? ⟨gx, j, none⟩ = some (.int .i64 x) := fun q => own_cell HR.out (Is_at hx)
            have HO2 := Lib.hid (fun q => ownB HO.out (below_refl' wk q))
            have HR2 := Lib.hid (fun q => ownB HR.out (below_refl' wk q))
            have HB2 := Lib.hid (fun q => keepB HB8.out (below_refl' wk q))
            clear hx HO HR HB8
            go_upto_region 23 with fail
            go_quiet (fail)
            rename_i nq
            have HO3 := Lib.hid (HO2.out nq)
            have HR3 := Lib.hid (HR2.out nq)
            have HB3 := Lib.hid (HB2.out nq)
            clear k1 k2 HO2 HR2 HB2
            generalize wk.drewN nq = W9 at *
            go_wp2_with fail
            go_roundw
            case rel => exact ⟨j + 1, by omega, by go_num, HO3.out, HR3.out, HB3.out⟩
            case measure => simp [intOf]; omega
          · have d5 : decide ((j : Int) < 16) = false := by simp; omega
            have d6 : decide (j < 16) = false := by simp; omega
            clear HO HR
            go_wp2_with fail
            clear d5 d6 hlt5 hj5
            go_loopw [13, 14] (fun s i wr => ∃ (j : Nat) (k : Int) (n : Nat), j ≤ 22 ∧ i = .int .i64 k ∧ Hid (k = (j : Int) - 1) ∧ s = .int .i64 n ∧ Hid (n = min (j - 1) 20) ∧ Hid (Below w.heap.size w wr)) (fun _ i _ => (21 - intOf i).toNat)
            case atStart => exact ⟨0, -1, 0, by omega, rfl, rfl, rfl, rfl, HB8⟩
            case round =>
              obtain ⟨j, k, n, hj, rfl, HK, rfl, HN4, HB4⟩ := hrel
              clear HB8
              have hk := HK.out
              have hn := HN4.out
              unfold Hid at hk hn
              clear HK HN4
              by_cases hlt : j < 22
              · by_cases h0 : j = 0
                · obtain rfl : k = -1 := by omega
                  have HWH : Hid (∀ W : World, Calls Try.prog 8 #[.int .i64 (-1)] W fun e w' => e = .returned (.tuple #[.int .i64 0, .int .i64 0, .bool false]) ∧ W = w') := fun W => by
                    have h := where_any ((-1)) W (by omega)
                    rwa [show whV ((-1)) = .tuple #[.int .i64 0, .int .i64 0, .bool false] from rfl] at h
                  have KN : Hid ((0 : Int) = ((j + 1 : Nat) : Int) - 1) := by unfold Hid; omega
                  have NN : Hid (n = min (j + 1 - 1) 20) := by unfold Hid; omega
                  clear hk hn
                  go_wp2_with fail
                  refine (HWH.out _).mono ?_; rintro e w9 ⟨rfl, rfl⟩
                  go_wp2_with fail
                  go_roundw
                  case rel => exact ⟨j + 1, 0, n, by omega, by go_num, KN.out, by go_num, NN.out, HB4.out⟩
                  case measure => first | (simp [intOf]; done) | (simp [intOf]; omega)
                · by_cases h1 : k < 4
                  · have hk0 : 0 ≤ k := by omega
                    have HWH : Hid (∀ W : World, Calls Try.prog 8 #[.int .i64 k] W fun e w' => e = .returned (.tuple #[.int .i64 k, .int .i64 (-1), .bool true]) ∧ W = w') := fun W => by
                      have h := where_any (k) W (by omega)
                      rwa [show whV (k) = .tuple #[.int .i64 k, .int .i64 (-1), .bool true] from by unfold whV whD whI; rw [if_neg (by omega), if_pos h1, if_neg (by omega), if_pos h1, decide_eq_true (by omega)]] at h
                    have q1 : (k == -1) = false := by simp; omega
                    have q2 : (k != -1) = true := by simp; omega
                    have q3 : decide (0 ≤ k) = true := by simp; omega
                    have q4 : decide (k < 20) = true := by simp; omega
                    have q5 : IntKind.i64.wrap (k + 1) = k + 1 := IntWalk.i64_in _ (by omega)
                    have q6 : IntKind.i64.wrap ((n : Int) + 1) = (n : Int) + 1 := IntWalk.i64_in _ (by omega)
                    have KN : Hid ((k + 1 : Int) = ((j + 1 : Nat) : Int) - 1) := by unfold Hid; omega
                    have NN : Hid (n + 1 = min (j + 1 - 1) 20) := by unfold Hid; omega
                    clear hk hn
                    go_wp2_with fail
                    refine (HWH.out _).mono ?_; rintro e w9 ⟨rfl, rfl⟩
                    go_wp2_with fail
                    go_roundw
                    case rel => exact ⟨j + 1, k + 1, n + 1, by omega, by go_num, KN.out, by go_num, NN.out, HB4.out⟩
                    case measure => first | (simp [intOf]; done) | (simp [intOf]; omega)
                  · by_cases h2 : k < 20
                    · have HWH : Hid (∀ W : World, Calls Try.prog 8 #[.int .i64 k] W fun e w' => e = .returned (.tuple #[.int .i64 (-1), .int .i64 (k - 4), .bool true]) ∧ W = w') := fun W => by
                        have h := where_any (k) W (by omega)
                        rwa [show whV (k) = .tuple #[.int .i64 (-1), .int .i64 (k - 4), .bool true] from by unfold whV whD whI; rw [if_neg (by omega), if_neg h1, if_neg (by omega), if_neg h1, decide_eq_true (by omega)]] at h
                      have q1 : (k == -1) = false := by simp; omega
                      have q2 : (k != -1) = true := by simp; omega
                      have q3 : decide (0 ≤ k) = true := by simp; omega
                      have q4 : decide (k < 20) = true := by simp; omega
                      have q5 : IntKind.i64.wrap (k + 1) = k + 1 := IntWalk.i64_in _ (by omega)
                      have q6 : IntKind.i64.wrap ((n : Int) + 1) = (n : Int) + 1 := IntWalk.i64_in _ (by omega)
                      have q7 : IntKind.i64.wrap (k - 4) = k - 4 := IntWalk.i64_in _ (by omega)
                      have q8 : (k - 4 == -1) = false := by simp; omega
                      have q9 : (k - 4 != -1) = true := by simp; omega
                      have KN : Hid ((k + 1 : Int) = ((j + 1 : Nat) : Int) - 1) := by unfold Hid; omega
                      have NN : Hid (n + 1 = min (j + 1 - 1) 20) := by unfold Hid; omega
                      clear hk hn
                      go_wp2_with fail
                      refine (HWH.out _).mono ?_; rintro e w9 ⟨rfl, rfl⟩
                      go_wp2_with fail
                      go_roundw
                      case rel => exact ⟨j + 1, k + 1, n + 1, by omega, by go_num, KN.out, by go_num, NN.out, HB4.out⟩
                      case measure => first | (simp [intOf]; done) | (simp [intOf]; omega)
                    · obtain rfl : k = 20 := by omega
                      have HWH : Hid (∀ W : World, Calls Try.prog 8 #[.int .i64 20] W fun e w' => e = .returned (.tuple #[.int .i64 0, .int .i64 0, .bool false]) ∧ W = w') := fun W => by
                        have h := where_any (20) W (by omega)
                        rwa [show whV (20) = .tuple #[.int .i64 0, .int .i64 0, .bool false] from rfl] at h
                      have KN : Hid ((21 : Int) = ((j + 1 : Nat) : Int) - 1) := by unfold Hid; omega
                      have NN : Hid (n = min (j + 1 - 1) 20) := by unfold Hid; omega
                      clear hk hn
                      go_wp2_with fail
                      refine (HWH.out _).mono ?_; rintro e w9 ⟨rfl, rfl⟩
                      go_wp2_with fail
                      go_roundw
                      case rel => exact ⟨j + 1, 21, n, by omega, by go_num, KN.out, by go_num, NN.out, HB4.out⟩
                      case measure => first | (simp [intOf]; done) | (simp [intOf]; omega)
              · obtain rfl : k = 21 := by omega
                obtain rfl : n = 20 := by omega
                clear hk hn
                go_wp2_with fail
                go_ret
                exact ⟨rfl, HB4.out⟩

set_option maxRecDepth 100000 in
theorem lifted (os : Os) (started : os.Started) (H : Type) (enc : TypeId × Value → H) :
    ReturnsInHanded {} Try.checked os 5 .any (Rows.indexBackSpec.pre6 enc Try.prog Try.f5 Rows.indexBackRow.domain false) (Rows.indexBackSpec.post enc Try.prog Try.f5 false true false false) := by
  refine returnsInHanded_of_change (C := Try.checked) own started (by kernel_rfl) Try.func5
    (ChangeSpec.witness6 (enc := enc) (C := Try.checked) false ⟨#[], #[.agg (Bs (List.replicate 16 0)).toArray], []⟩ 8 (by kernel_rfl) (by kernel_rfl) (by kernel_rfl) (by kernel_rfl)) ?_
  intro W base args ds gs before hval0 hW hcnd _
  have hval : ∀ (j : Nat) t v, Try.f5.params[j]? = some t → args[j]? = some v → Value.okWide Try.prog W .any base t v := hval0
  have hW' := hW
  obtain ⟨p, q, hA0, hV, rfl, hfz, hnd⟩ := hW
  have hA : DataW.TrodAll enc Try.prog W 0 (fun _ => true) true Try.f5.params.toList args.toList ds p := hA0
  rw [Try.params5] at hA hval
  obtain ⟨v0, vs0, d0, ds0, p0, q0, hargs, rfl, rfl, h0, r0⟩ := trodAll_cons hA
  obtain ⟨rfl, rfl, rfl⟩ := trodAll_nil r0
  obtain rfl : args = #[v0] := by cases args; simp_all
  obtain ⟨rfl, rfl⟩ := trodVars_none hV
  obtain ⟨cs0, rfl, _⟩ := okWide_row Try.underlying43 (hval 0 43 v0 rfl rfl)
  clear hA0 hval0
  simp only [List.append_nil] at hW'
  have hlt0 : ∀ y ∈ p0, y.block < W.heap.size := fun y hy => by simpa using hW'.lt y (by simp [hy])
  have harg0 : ∀ W' : World, Below W.heap.size W W' → DataW.Trod enc Try.prog W' 0 (fun b => decide (b < W.heap.size)) true 43 (.agg cs0) d0 p0 :=
    fun W' hn => Below.trod laidOut (by kernel_rfl) (of_decide_eq_true (by kernel_rfl)) h0 hn (fun y hy => hlt0 y hy)
  obtain ⟨fu0, hf0⟩ := h0
  obtain ⟨g0, e0, hL0, hB0⟩ := open_arr16 hf0
  obtain rfl : cs0 = (Bs g0).toArray := by
    rw [← e0]; simp [Value.cells]
  refine (walk g0 W hL0 hB0).mono fun e W' ⟨he, bel⟩ => ?_
  subst he
  exact ⟨_, rfl, _, _, _, [], _, [], hW', (trodAll_cons_mk (shut_bool Try.underlying4 _) trodAll_mk0), (trodAll_cons_mk (harg0 _ bel) trodAll_mk0), rfl, bel.frame _, fun h => by cases h⟩

theorem over : Rows.indexBackRow.holds Try.pinned (OpenSpec.ofChange Rows.indexBackSpec) :=
  OpenClaim.holds_of_wide 5 Try.f5 rfl rfl rfl rfl rfl rfl rfl ⟨rfl, rfl, rfl, rfl, rfl⟩ rfl rfl rfl rfl rfl (by kernel_rfl) Try.func5 (by kernel_rfl)
    (of_decide_eq_true (by kernel_rfl)) (by unfold Func.isWrapper; first | (rw [if_pos (by decide +kernel)]; kernel_rfl) | (rw [if_neg (by decide +kernel)]; exact ⟨rfl, rfl⟩))
    (fun os started H enc _ => lifted os started H enc)

theorem proved : Rows.IndexBackSaid :=
  over
#print axioms proved
end Go.Proofs.Ythkohckofodmnaa.indexBack
