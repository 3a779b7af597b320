/- The law ConfBelow's walk. -/
import Derived.Test.YtlmbkfdpgmmacaaG1
import Derived.Test.YtlmbkfdpgmmacaaP5
import Derived.Deep.LoopGhost
namespace Go.Proofs.Ytlmbkfdpgmmacaa
open Go.ChangeShapes Go.WideShapes Go.ChangeAt Go.RowKit
set_option linter.unusedVariables false
set_option maxRecDepth 100000 in
set_option maxHeartbeats 3200000 in
theorem below_walk (A : Option Addr) (bs : List Int) (c : Nat) (w : World) (hl : bs.length ≤ 60) (hc : bs.length ≤ c) (hc2 : c ≤ 9223372036854775807) (hB : AllB bs) (hy : Byt w A bs) :
    Calls Try.prog 5 #[.slice A bs.length c] w fun e w' => e = .returned (.bool true) ∧ Below w.heap.size w w' := by
  have HC : Hid (∀ pb W, PickAt W pb A bs c 0 → Calls Try.prog 20 #[.pointer (some ⟨pb, 0, none⟩), .int .i64 8] W fun e w' => ∃ v cs, e = .returned v ∧ mayConfV cs = true ∧ w'.ownsRow W.heap.size 47 5 v cs.length (cellsL cs) ∧ W.grownBy w' (some pb)) := fun pb W h => config_any pb A bs c 0 W h hl hB
  have HY := Lib.hid hy
  have FM := Lib.hid (fun W (h : Byt W A bs) => made_any A bs c W hl hc h)
  clear hy hB
  have q0 : decide (60 < (bs.length : Int)) = false := decide_eq_false (by omega)
  go_enter Try.func5, Try.ntmps5
  go_wp2_with fail
  refine (begun_any _).mono ?_; rintro e W0 ⟨rfl, hb0⟩
  have HB0 := Lib.hid hb0
  clear hb0
  go_wp2_with fail
  refine (FM.out W0 (HY.out.keep HB0.out)).mono ?_
  rintro e W1 ⟨pb, rfl, hp, hpl, hb1⟩
  have HPK := Lib.hid hp
  have HB1 := Lib.hid (keepB HB0.out hb1)
  have HPL := Lib.hid (Nat.le_trans HB0.out.size hpl)
  clear hp hb1 hpl
  go_wp2_with fail
  refine (HC.out pb W1 HPK.out).mono ?_
  rintro e W2 ⟨v, cs, rfl, hm, hown, hg⟩
  have HB2 := Lib.hid (belowG HB1.out hg HPL.out HB1.out.size)
  obtain ⟨Ac, dc, rfl, hd, hd2, hconf⟩ := conf_own hown
  have HCF := Lib.hid hconf
  have HM := Lib.hid hm
  have hlen := may_len hm
  have FB : Hid (∀ W (me : Int), Conf W Ac cs → _) := fun W (me : Int) h => below_all2 Ac cs dc me W (by omega) hd hd2 (may_ok hm) h
  clear hown hconf hg hm HC FM HPK HPL HB1 HB0 HY
  generalize hcn : cs.length = cn at *
  have HCN := Lib.hid hcn
  clear hcn
  go_wp2_with fail
  have HT0 : Hid (TabB (W2.alloc (Obj.cells (Array.replicate 64 (.bool false)) 42)) W2.heap.size (fun _ _ => false)) := Lib.hid ⟨_, 42, heap_alloc_new W2 _, by simp, fun i j hi hj => by rw [Array.getElem?_replicate, if_pos (by omega)]⟩
  go_loopw [5] (fun i5 wr => ∃ i : Nat, i5 = .int .i64 i ∧ i ≤ cn ∧ Hid (TabB wr W2.heap.size (fun a x => decide (a < i) && inL cs a x)) ∧ Hid (Below W2.heap.size W2 wr)) (fun i _ => cn - (intOf i).toNat)
  case atStart => exact ⟨0, rfl, Nat.zero_le _, HT0.out.congr (fun a x _ _ => by simp), (Below.refl _ _).alloc (Nat.le_refl _) _⟩
  case round =>
    obtain ⟨w3, rfl⟩ : ∃ w3, w3 = wr := ⟨wr, rfl⟩
    obtain ⟨i, rfl, hi, HT, HW⟩ := hrel
    by_cases hin : i < cn
    · have hi8 : i < 8 := by omega
      have hf := told_facts HM.out (a := i) (by rw [HCN.out]; exact hin)
      go_wp2_with fail
      refine (FB.out w3 (i : Int) (HCF.out.keep HW.out)).mono ?_
      rintro e w4 ⟨Al, dl, rfl, hnum, hb⟩
      have hl8 := belowV_len cs (i : Int)
      obtain ⟨al, e0, hc0⟩ := hnum 0 _ hf.1
      subst e0
      have HN := Lib.hid hnum
      have HF := Lib.hid hf
      have HT4 := Lib.hid (HT.out.keep hb)
      have HW4 := Lib.hid (HW.out.trans (hb.mono HW.out.size))
      have hlp := hf.2.1
      clear hnum hf hb HT HW
      have HIL : Hid (∀ x : Nat, inL cs i x = decide ((x : Int) ∈ belowV cs (i : Int))) := fun x => rfl
      generalize belowV cs (i : Int) = L at *
      generalize hln : L.length = ln at *
      have HLN := Lib.hid hln
      clear hln
      have hz1 : ((ln : Int) == 0) = false := by rw [beq_eq_false_iff_ne]; omega
      have hz2 : ((ln : Int) = 0) = False := by simp; omega
      rw [show al.add 0 = al by unfold Addr.add; simp] at hc0
      go_wp2_with fail
      go_loopw [7] (fun i7 wr => ∃ k : Nat, i7 = .int .i64 k ∧ k ≤ ln ∧ Hid (TabB wr W2.heap.size (fun a x => (decide (a < i) && inL cs a x) || (decide (a = i) && decide ((x : Int) ∈ L.take k)))) ∧ Hid (Num wr (some al) L) ∧ Hid (Below W2.heap.size W2 wr)) (fun k _ => ln - (intOf k).toNat)
      case atStart => exact ⟨0, rfl, Nat.zero_le _, HT4.out.congr (fun a x _ _ => by simp), HN, HW4⟩
      case round =>
        obtain ⟨w5, rfl⟩ : ∃ w5, w5 = wr := ⟨wr, rfl⟩
        obtain ⟨k, rfl, hk, HT5, HN5, HW5⟩ := hrel
        clear HT4 HN HW4 hc0
        by_cases hkl : k < ln
        · obtain ⟨x, hx⟩ : ∃ x, L[k]? = some x := ⟨_, List.getElem?_eq_getElem (by rw [HLN.out]; exact hkl)⟩
          obtain ⟨hx0, hxn, hxt⟩ := HF.out.2.2.1 k x hx
          rw [HCN.out] at hxn
          obtain ⟨xn, rfl⟩ : ∃ n : Nat, x = n := ⟨x.toNat, by omega⟩
          have hxn' : xn < cn := by omega
          have hx8 : xn < 8 := by omega
          have hx8i : (xn : Int) < 8 := by omega
          have hi8i : (i : Int) < 8 := by omega
          have hd1 : decide ((xn : Int) < 0) = false := decide_eq_false (by omega)
          have hd2 : decide (cn ≤ xn) = false := decide_eq_false (by omega)
          obtain ⟨al', e1, hck⟩ := HN5.out k _ hx
          injection e1 with e1
          subst e1
          have HX := Lib.hid hx
          have HXT := Lib.hid hxt
          clear hx hxt
          have hm0 := (HT5.out.at_ hi8 hx8)
          have hfalse : ((decide (i < i) && inL cs i xn) || (decide (i = i) && decide ((xn : Int) ∈ L.take k))) = false := by
            have := HXT.out; simp [this]
          rw [hfalse] at hm0
          clear hfalse
          have cq := fun q => (show ((w5.drewN q).cell? _ = _) from hck)
          have mq := fun q => (show ((w5.drewN q).cell? _ = _) from hm0.1)
          have mf := fun q => (show ((w5.drewN q).frozen? _ = _) from hm0.2)
          clear hck hm0
          go_wp2_with fail
          go_quiet (fail)
          go_wp2_with fail
          have HTS : Hid (∀ q, TabB ((w5.drewN q).setCell ⟨W2.heap.size, i * 8 + xn, none⟩ (.bool true)) W2.heap.size (fun a x => (decide (a < i) && inL cs a x) || (decide (a = i) && decide ((x : Int) ∈ L.take (k + 1))))) := fun q =>
            TabB.set (W := w5.drewN q) HT5.out hi8 hx8 _ (fun a x _ _ => by
              rw [take_snoc' HX.out]
              by_cases e : a = i ∧ x = xn
              · obtain ⟨rfl, rfl⟩ := e; simp
              · rw [if_neg e]
                congr 1
                by_cases e1 : a = i
                · have e2 : ¬ x = xn := fun h => e ⟨e1, h⟩
                  simp [e1]; omega
                · simp [e1])
          have HNS : Hid (∀ q, Num ((w5.drewN q).setCell ⟨W2.heap.size, i * 8 + xn, none⟩ (.bool true)) (some al) L) := fun q => Num.set (W := w5.drewN q) HT5.out HN5.out _ _
          have HBS : Hid (∀ q, Below W2.heap.size W2 ((w5.drewN q).setCell ⟨W2.heap.size, i * 8 + xn, none⟩ (.bool true))) := fun q => (bdn HW5.out q).setCell (Nat.le_refl _) _
          go_region
          go_wp2_with fail
          have t6 := HTS.out (nq + 1)
          have n6 := HNS.out (nq + 1)
          have b6 := HBS.out (nq + 1)
          clear cq mq mf HTS HNS HBS
          generalize (w5.drewN (nq + 1)).setCell ⟨W2.heap.size, i * 8 + xn, none⟩ (.bool true) = w6 at *
          have HT6 := Lib.hid t6
          have HN6 := Lib.hid n6
          have HW6 := Lib.hid b6
          clear t6 n6 b6
          by_cases hk1 : 1 < k
          · obtain ⟨y, hy⟩ : ∃ y, L[k - 1]? = some y := ⟨_, List.getElem?_eq_getElem (by rw [HLN.out]; omega)⟩
            obtain ⟨hy0, hyn, _⟩ := HF.out.2.2.1 (k - 1) y hy
            rw [HCN.out] at hyn
            obtain ⟨yn, rfl⟩ : ∃ n : Nat, y = n := ⟨y.toNat, by omega⟩
            have hyn' : yn < cn := by omega
            have hless := HF.out.2.2.2 (k - 2) xn yn (by rw [show k - 2 + 2 = k by omega]; exact HX.out) (by rw [show k - 2 + 1 = k - 1 by omega]; exact hy)
            obtain ⟨sx, hsx, lx1, lx2, lx3⟩ := lab_may HM.out (x := xn) (by rw [HCN.out]; exact hxn')
            obtain ⟨sy, hsy, ly1, ly2, ly3⟩ := lab_may HM.out (x := yn) (by rw [HCN.out]; exact hyn')
            rw [lx1, lx2, ly1, ly2] at hless
            obtain ⟨a1, e1, c1⟩ := HN6.out k _ HX.out
            injection e1 with e1
            subst e1
            obtain ⟨a2, e2, c2⟩ := HN6.out (k - 1) _ hy
            injection e2 with e2
            subst e2
            have hcf6 := HCF.out.keep HW6.out
            obtain ⟨ac, e3, s3⟩ := hcf6 xn sx hsx
            subst e3
            obtain ⟨ac', e4, s4⟩ := hcf6 yn sy hsy
            injection e4 with e4
            subst e4
            have k1 : ∀ g : Later w6, g.w.cell? _ = _ := fun g => keepC g.below c1
            have k2 : ∀ g : Later w6, g.w.cell? _ = _ := fun g => keepC g.below c2
            have k3 : ∀ g : Later w6, g.w.cell? _ = _ := fun g => keepC g.below s3.c0
            have k4 : ∀ g : Later w6, g.w.cell? _ = _ := fun g => keepC g.below s3.c1
            have k5 : ∀ g : Later w6, g.w.cell? _ = _ := fun g => keepC g.below s4.c0
            have k6 : ∀ g : Later w6, g.w.cell? _ = _ := fun g => keepC g.below s4.c1
            have HL : Hid (∀ g : Later w6, _) := fun g => refLess_all sx.l sx.c sy.l sy.c g.w lx3 ly3
            rw [hless] at HL
            have hki : (1 : Int) < (k : Int) := by omega
            have hw1 : IntKind.i64.wrap ((k : Int) - 1) = (k : Int) - 1 := IntWalk.i64_in _ (by omega)
            have hw2 : ((k : Int) - 1).toNat = k - 1 := by omega
            have hw3 : (0 : Int) ≤ (k : Int) - 1 := by omega
            have hw4 : (k : Int) - 1 < (ln : Int) := by omega
            have hw5 : k - 1 < ln := by omega
            have hd3 : decide ((1 : Int) < (k : Int)) = true := decide_eq_true hki
            clear hless hy hsx hsy lx1 lx2 ly1 ly2 c1 c2 hcf6 s3 s4
            refine wp_region_later (by kernel_rfl) (by kernel_rfl) ?_
            repeat (first | go_big_quiet_step ((go_at_call 21; with_reducible exact quiet_later (HL.out _))) | (refine BigFrame.wpQuiet_skip (by rfl) ?_; simp only [Act.put, List.setIfInBounds_toArray, List.set_cons_zero, List.set_cons_succ]))
            refine wpQuiet_nil ?_
            intro _ hw'
            obtain ⟨nq2, hw''⟩ := hw'
            subst hw''
            go_wp2_with fail
            go_roundw
            case rel => exact ⟨k + 1, by go_num, by omega, HT6.out.keep nq2.below, HN6.out.keep nq2.below, HW6.out.trans (nq2.below.mono HW6.out.size)⟩
            case measure => simp [intOf]; omega
          · have hd3 : decide ((1 : Int) < (k : Int)) = false := decide_eq_false (by omega)
            go_quiet (fail)
            go_wp2_with fail
            go_roundw
            case rel => exact ⟨k + 1, by go_num, by omega, HT6.out, HN6.out, bdn HW6.out _⟩
            case measure => simp [intOf]; omega
        · obtain rfl : k = ln := by omega
          go_wp2_with fail
          go_roundw
          case rel => exact ⟨i + 1, by go_num, by omega, HT5.out.congr (fun a x ha hx => by
            rw [List.take_of_length_le (by rw [HLN.out]; exact Nat.le_refl _), ← HIL.out x]
            by_cases e1 : a = i
            · subst e1; simp
            · have e2 : decide (a < i + 1) = decide (a < i) := by simp only [decide_eq_decide]; omega
              rw [e2]; simp [e1]), HW5⟩
          case measure => simp [intOf]; omega
    · obtain rfl : i = cn := by omega
      have HSE : Hid (∀ a x, a < i → x < i → (decide (a < i) && inL cs a x) = sees cs a x) := fun a x ha hx => by
        rw [decide_eq_true ha, Bool.true_and]; exact inL_sees HM.out (by rw [HCN.out]; exact ha) (by rw [HCN.out]; exact hx)
      go_wp2_with fail
      go_loopw [8] (fun i8 wr => ∃ a : Nat, i8 = .int .i64 a ∧ a ≤ i ∧ Hid (TabB wr W2.heap.size (fun a x => decide (a < i) && inL cs a x)) ∧ Hid (Below W2.heap.size W2 wr)) (fun k _ => i - (intOf k).toNat)
      case atStart => exact ⟨0, rfl, Nat.zero_le _, HT, HW⟩
      case round =>
        obtain ⟨w5, rfl⟩ : ∃ w5, w5 = wr := ⟨wr, rfl⟩
        obtain ⟨a, rfl, ha, HT5, HW5⟩ := hrel
        clear HT HW
        by_cases hai : a < i
        · have ha8 : (a : Int) < 8 := by omega
          go_wp2_with fail
          go_loopw [9] (fun i9 wr => ∃ k : Nat, i9 = .int .i64 k ∧ k ≤ i ∧ Hid (TabB wr W2.heap.size (fun a x => decide (a < i) && inL cs a x)) ∧ Hid (Below W2.heap.size W2 wr)) (fun k _ => i - (intOf k).toNat)
          case atStart => exact ⟨0, rfl, Nat.zero_le _, HT5, HW5⟩
          case round =>
            obtain ⟨w6, rfl⟩ : ∃ w6, w6 = wr := ⟨wr, rfl⟩
            obtain ⟨k, rfl, hk, HT6, HW6⟩ := hrel
            clear HT5 HW5
            by_cases hki : k < i
            · have hk8 : (k : Int) < 8 := by omega
              obtain ⟨sx, hsx, lx1, lx2, lx3⟩ := lab_may HM.out (x := a) (by rw [HCN.out]; exact hai)
              obtain ⟨sy, hsy, ly1, ly2, ly3⟩ := lab_may HM.out (x := k) (by rw [HCN.out]; exact hki)
              have hcf6 := HCF.out.keep HW6.out
              obtain ⟨ac, e3, s3⟩ := hcf6 a sx hsx
              subst e3
              obtain ⟨ac', e4, s4⟩ := hcf6 k sy hsy
              injection e4 with e4
              subst e4
              have m0 := (HT6.out.at_ (i := a) (j := k) (by omega) (by omega)).1
              rw [HSE.out a k hai hki] at m0
              have k1 : ∀ g : Later w6, g.w.cell? _ = _ := fun g => keepC g.below m0
              have k3 : ∀ g : Later w6, g.w.cell? _ = _ := fun g => keepC g.below s3.c0
              have k4 : ∀ g : Later w6, g.w.cell? _ = _ := fun g => keepC g.below s3.c1
              have k5 : ∀ g : Later w6, g.w.cell? _ = _ := fun g => keepC g.below s4.c0
              have k6 : ∀ g : Later w6, g.w.cell? _ = _ := fun g => keepC g.below s4.c1
              have HL : Hid (∀ g : Later w6, _) := fun g => refAbove_all sx.l sx.c sy.l sy.c g.w lx3 ly3
              have hab : aboveV sx.l sx.c sy.l sy.c = sees cs a k := by unfold sees; rw [lx1, lx2, ly1, ly2]
              rw [hab] at HL
              have HSK : Hid (∀ m, sees cs a k = true → sees cs k m = true → sees cs a m = true) := fun m h1 h2 => sees_trans h1 h2
              generalize hbv : sees cs a k = bv at *
              have HBV := Lib.hid hbv
              have hne : (bv != bv) = false := by simp
              clear hab hsy hsx lx1 lx2 lx3 ly1 ly2 ly3 hcf6 s3 s4 m0 hbv
              go_wp2_with fail
              refine wp_region_later (by kernel_rfl) (by kernel_rfl) ?_
              repeat (first | go_big_quiet_step ((go_at_call 22; with_reducible exact quiet_later (HL.out _))) | (refine BigFrame.wpQuiet_skip (by rfl) ?_; simp only [Act.put, List.setIfInBounds_toArray, List.set_cons_zero, List.set_cons_succ]))
              refine wpQuiet_nil ?_
              intro _ hw'
              obtain ⟨nq2, hw''⟩ := hw'
              subst hw''
              have HT7 := Lib.hid (HT6.out.keep nq2.below)
              have HW7 := Lib.hid (HW6.out.trans (nq2.below.mono HW6.out.size))
              clear k1 k3 k4 k5 k6 HT6 HW6 HL
              generalize nq2.w = w7 at *
              go_wp2_with fail
              go_loop [10] (fun i10 => ∃ m : Nat, i10 = .int .i64 m ∧ m ≤ i) (fun k => i - (intOf k).toNat)
              case atStart => exact ⟨0, rfl, Nat.zero_le _⟩
              case round =>
                obtain ⟨m, rfl, hm⟩ := hrel
                by_cases hmi : m < i
                · have hm8 : (m : Int) < 8 := by omega
                  have m1 := (HT7.out.at_ (i := a) (j := k) (by omega) (by omega)).1
                  have m2 := (HT7.out.at_ (i := k) (j := m) (by omega) (by omega)).1
                  have m3 := (HT7.out.at_ (i := a) (j := m) (by omega) (by omega)).1
                  rw [HSE.out _ _ hai hki, HBV.out] at m1
                  rw [HSE.out _ _ hki hmi] at m2
                  rw [HSE.out _ _ hai hmi] at m3
                  have htr := HSK.out m
                  generalize sees cs k m = b2 at *
                  generalize sees cs a m = b3 at *
                  have HTR := Lib.hid htr
                  clear htr
                  cases bv <;> cases b2 <;> cases b3
                  all_goals first
                    | (exfalso; have := HTR.out rfl rfl; cases this; done)
                    | (go_wp2_with fail
                       go_round
                       case rel => exact ⟨m + 1, by go_num, by omega⟩
                       case measure => simp [intOf]; omega)
                · go_wp2_with fail
                  go_roundw
                  case rel => exact ⟨k + 1, by go_num, by omega, HT7, HW7⟩
                  case measure => simp [intOf]; omega
            · go_wp2_with fail
              go_roundw
              case rel => exact ⟨a + 1, by go_num, by omega, HT6, HW6⟩
              case measure => simp [intOf]; omega
        · go_wp2_with fail
          have n1 : belowV cs (-1) = [] := by unfold belowV; rw [if_neg (fun h => by omega)]
          have n2 : belowV cs (i : Int) = [] := by unfold belowV; rw [if_neg (fun h => by have := HCN.out; omega)]
          have F1 := Lib.hid (FB.out w5 (-1) (HCF.out.keep HW5.out))
          have F2 : Hid (∀ W, Conf W Ac cs → _) := fun W h => FB.out W (i : Int) h
          rw [n1] at F1
          rw [n2] at F2
          clear n1 n2
          refine F1.out.mono ?_
          rintro e w8 ⟨A8, d8, rfl, _, hb8⟩
          have HC8 := Lib.hid ((HCF.out.keep HW5.out).keep hb8)
          have HW8 := Lib.hid (HW5.out.trans (hb8.mono HW5.out.size))
          clear hb8
          go_wp2_with fail
          refine (F2.out w8 HC8.out).mono ?_
          rintro e w9 ⟨A9, d9, rfl, _, hb9⟩
          have HW9 := Lib.hid (HW8.out.trans (hb9.mono HW8.out.size))
          clear hb9
          go_wp2_with fail
          go_ret
          exact ⟨rfl, HB2.out.trans (HW9.out.mono HB2.out.size)⟩
end Go.Proofs.Ytlmbkfdpgmmacaa
