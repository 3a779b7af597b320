/- The law DevKeeps answers true for every input, and leaves its arguments alone. No condition. -/
import Derived.Test.YtlldpmnidbhlkaaRows
import Derived.Test.YtlldpmnidbhlkaaV34
import Derived.WalkKit
import Derived.ProofKit
import Derived.OpenShut
namespace Go.Proofs.Ytlldpmnidbhlkaa.devKeeps
open Go.ChangeShapes Go.WideShapes Go.ChangeAt Go.RowKit Go.Joins
set_option linter.unusedVariables false
theorem own : ownKnob Try.prog.godebug = none := by kernel_rfl
theorem laidOut : laidOutB Try.prog = true := by kernel_rfl
def PF : Nat → Prop := fun _ => False
set_option maxRecDepth 100000 in
set_option maxHeartbeats 3200000 in
theorem walk (A0 : Option Addr) (l0 : List Dd) (d0 : Nat) (b1 : Bool) (w : World) (hd0 : l0.length ≤ d0) (hm0 : d0 ≤ 9223372036854775807) (hB0 : DdsOk l0) (hy0 : Deeds w A0 l0) :
    Calls Try.prog 7 #[.slice A0 l0.length d0, .bool b1] w fun e w' => e = .returned (.bool true) ∧ Below w.heap.size w w' := by
  have HY := Lib.hid hy0
  have HBO := Lib.hid hB0
  clear hy0 hB0
  generalize hn : l0.length = n at *
  have HN := Lib.hid hn
  clear hn
  by_cases h40 : 40 < n
  · have hgt : (40 : Int) < n := by omega
    go_enter Try.func7, Try.ntmps7
    go_wp2_with fail
    refine (begun_any _).mono ?_
    rintro e w1 ⟨rfl, hb1⟩
    go_wp2
    go_ret
    exact ⟨rfl, hb1⟩
  have hle : n ≤ 40 := by omega
  have hgt : ¬ ((40 : Int) < n) := by omega
  go_enter Try.func7, Try.ntmps7
  go_wp2_with fail
  refine (begun_any _).mono ?_
  rintro e w1 ⟨rfl, hb1⟩
  have HB1 := Lib.hid hb1
  clear hb1
  go_wp2_with fail
  refine (new_at _ w1.heap.size [4, 4] 2 rfl (by decide) (fun x hx => by simp at hx; subst hx; constructor <;> omega) _ (heap_alloc_new w1 _)).mono ?_
  rintro e w2 ⟨⟨q, F, rfl, hd, hF⟩, hb⟩
  have hds := DS.made (HB1.out.alloc HB1.out.size _) hd hF hb
  have HD : Hid (DS w w2 PF q (DM.make [4, 4])) := hds.below (Below.refl _ _) (fun k hk => hk.elim)
  clear hd hF hb hds
  go_wp2_with fail
  generalize hw3 : World.alloc (World.alloc w2 _) _ = w3
  have h7 : Strs w3 w2.heap.size (upto 0 zS) := by rw [← hw3]; exact heap_alloc2_old _ _ _
  have h8 : Strs w3 (w2.heap.size + 1) (upto 0 zS) := by rw [← hw3]; exact heap_alloc2_new _ _ _
  have hb3 : Below w2.heap.size w2 w3 := by rw [← hw3]; exact ((Below.refl _ _).alloc (Nat.le_refl _) _).alloc (by simp) _
  have hsz : w3.heap.size = w2.heap.size + 2 := by rw [← hw3]; simp
  clear hw3
  obtain ⟨g7, hg7⟩ : ∃ g, g = w2.heap.size := ⟨_, rfl⟩
  obtain ⟨g8, hg8⟩ : ∃ g, g = w2.heap.size + 1 := ⟨_, rfl⟩
  rw [← hg7] at h7
  rw [← hg8] at h8
  rw [← hg8]
  rw [← hg7]
  have HD3 : Hid (DS w w3 (PK g7 g8) q (DM.make [4, 4])) := HD.out.below hb3 (fun k hk => Or.inr (by rcases hk with hk | hk <;> omega))
  have HPK : Hid (∀ k, PK g7 g8 k → w.heap.size ≤ k) := Lib.hid fun k hk => (by have := HD.out.bel.size; rcases hk with hk | hk <;> omega)
  have HG : Hid (g7 < g8 ∧ g8 = g7 + 1) := Lib.hid (by omega)
  have H7 := Lib.hid h7
  have H8 := Lib.hid h8
  clear h7 h8 hb3 hsz hg7 hg8 HD HB1
  go_loopw [9] (fun i wr => ∃ k : Nat, i = .int .i64 k ∧ k ≤ 8 ∧ DS w wr (PK g7 g8) q (DM.make [4, 4]) ∧ Strs wr g7 (upto k zS) ∧ Strs wr g8 (upto k zS)) (fun i _ => 8 - (intOf i).toNat)
  case atStart => exact ⟨0, rfl, by omega, HD3.out, H7.out, H8.out⟩
  case round =>
    obtain ⟨k, rfl, hk, hd, h7, h8⟩ := hrel
    have HDK := Lib.hid hd
    have H7K := Lib.hid h7
    have H8K := Lib.hid h8
    clear hd h7 h8 HD3 H7 H8
    by_cases hlt : k < 8
    · obtain ⟨kq, kr, hkq, hkr, hkk⟩ : ∃ kq kr : Nat, kq < 2 ∧ kr < 4 ∧ Hid (k = kq * 4 + kr) := ⟨k / 4, k % 4, by omega, by omega, Lib.hid (by omega)⟩
      have hkz := hkk.out
      have hk8 : (k : Int) < 8 := by omega
      have hq1 : (k : Int) / 4 = kq := by omega
      have hq2 : (k : Int) % 4 = kr := by omega
      have hq3 : Int.tdiv (k : Int) 4 = kq := by rw [Int.tdiv_eq_ediv_of_nonneg (by omega)]; exact hq1
      have hq4 : Int.tmod (k : Int) 4 = kr := by rw [Int.tmod_eq_emod_of_nonneg (by omega)]; exact hq2
      have hwq : IntKind.i64.wrap (kq : Int) = kq := IntWalk.i64_in _ (by omega)
      have hkq2 : (kq : Int) < 2 := by omega
      have hkr2 : (kr : Int) < 4 := by omega
      clear hkz
      go_wp2_with fail
      go_upto_region 12 with fail
      have hg7w : g7 < wr.heap.size := room_lt H7K.out
      have hJ0 : JK12 wr g7 g8 (upto k zS) (upto (k + 1) zS) wr.drew := ⟨(Touch.refl _ _).drew, H8K.out, Or.inl H7K.out⟩
      have grefl : ∀ (i : Nat) (W : World), SK12 g7 i W W := fun i W => by unfold SK12; split; exact Touch.refl _ _; exact World.grownBy.refl W _
      refine wp_region_rgi (VK12 k kq kr g7 g8 wr.heap.size (upto (k + 1) zS)) (JK12 wr g7 g8 (upto k zS) (upto (k + 1) zS)) (SK12 g7) (by kernel_rfl) (by kernel_rfl) (fun i j v w w' hij h hg => h.on hg7w hij hg) hJ0 ?_
      clear hJ0
      simp only [RAll]
      refine ⟨?_, ?_, ?_, ?_, ?_, ?_, ?_, ?_, ?_, ?_, ?_, ?_, ?_, ?_, ?_, ?_, ?_, ?_⟩
      · refine RStep.of rfl fun T W hag hJ hd => ?_   -- 0: 37 := Op.move (Operand.tmp 9)
        have e9 : T.getD 9 undef = _ := (agree_at hag 9 (by kernel_rfl)).trans rfl
        clear hag hd
        go_simp
        first | exact ⟨_, rfl, rfl⟩ | exact ⟨_, rfl, rfl, hJ, grefl _ _⟩
      · refine RStep.of rfl fun T W hag hJ hd => ?_   -- 1: 38 := Op.binOp BinOp.quo 3 (Operand.tmp 37) (Operand.const (Value.int IntKin
        have d37 : T.getD 37 undef = _ := hd ⟨0, .data⟩ (by simp) rfl _ rfl
        clear hag hd
        go_simp
        first | exact ⟨_, rfl, rfl⟩ | exact ⟨_, rfl, rfl, hJ, grefl _ _⟩
      · refine RStep.of rfl fun T W hag hJ hd => ?_   -- 2: 39 := Op.move (Operand.tmp 9)
        have e9 : T.getD 9 undef = _ := (agree_at hag 9 (by kernel_rfl)).trans rfl
        clear hag hd
        go_simp
        first | exact ⟨_, rfl, rfl⟩ | exact ⟨_, rfl, rfl, hJ, grefl _ _⟩
      · refine RStep.of rfl fun T W hag hJ hd => ?_   -- 3: 40 := Op.binOp BinOp.rem 3 (Operand.tmp 39) (Operand.const (Value.int IntKin
        have d39 : T.getD 39 undef = _ := hd ⟨2, .data⟩ (by simp) rfl _ rfl
        clear hag hd
        go_simp
        first | exact ⟨_, rfl, rfl⟩ | exact ⟨_, rfl, rfl, hJ, grefl _ _⟩
      · refine RStep.of rfl fun T W hag hJ hd => ?_   -- 4: 41 := Op.move (Operand.tmp 9)
        have e9 : T.getD 9 undef = _ := (agree_at hag 9 (by kernel_rfl)).trans rfl
        clear hag hd
        go_simp
        first | exact ⟨_, rfl, rfl⟩ | exact ⟨_, rfl, rfl, hJ, grefl _ _⟩
      · refine RStep.of rfl fun T W hag hJ hd => ?_   -- 5: 42 := Op.binOp BinOp.quo 3 (Operand.tmp 41) (Operand.const (Value.int IntKin
        have d41 : T.getD 41 undef = _ := hd ⟨4, .data⟩ (by simp) rfl _ rfl
        clear hag hd
        go_simp
        first | exact ⟨_, rfl, rfl⟩ | exact ⟨_, rfl, rfl, hJ, grefl _ _⟩
      · refine RStep.of rfl fun T W hag hJ hd => ?_   -- 6: 43 := Op.move (Operand.tmp 9)
        have e9 : T.getD 9 undef = _ := (agree_at hag 9 (by kernel_rfl)).trans rfl
        clear hag hd
        go_simp
        first | exact ⟨_, rfl, rfl⟩ | exact ⟨_, rfl, rfl, hJ, grefl _ _⟩
      · refine RStep.of rfl fun T W hag hJ hd => ?_   -- 7: 44 := Op.binOp BinOp.rem 3 (Operand.tmp 43) (Operand.const (Value.int IntKin
        have d43 : T.getD 43 undef = _ := hd ⟨6, .data⟩ (by simp) rfl _ rfl
        clear hag hd
        go_simp
        first | exact ⟨_, rfl, rfl⟩ | exact ⟨_, rfl, rfl, hJ, grefl _ _⟩
      · refine RStep.of rfl fun T W hag hJ hd => ?_   -- 8: 45 := Op.call { callee := Callee.value (Operand.func 22), args := #[Operand.
        clear hag hd
        go_simp
        refine (full_nil W).mono ?_
        rintro e w' ⟨⟨g, rfl, hg, hblk⟩, hb⟩
        refine ⟨_, rfl, ⟨g, rfl, Nat.le_trans hJ.touch.size hg, hblk⟩, hJ.below hb, ?_⟩
        exact grown_of_below hb
      · refine RStep.of rfl fun T W hag hJ hd => ?_   -- 9: 46 := Op.convert 31 9 (Operand.tmp 45)
        obtain ⟨g, (d45 : T.getD 45 undef = _), hg, hblk⟩ := hd ⟨8, .data⟩ (by simp) rfl _ rfl
        have hcv := conv_any (n := 64) (c := 64) hblk.byt rfl
        clear hag hd
        go_simp
        first | exact ⟨_, rfl, rfl⟩ | exact ⟨_, rfl, rfl, hJ, grefl _ _⟩
      · refine RStep.of rfl fun T W hag hJ hd => ?_   -- 10: 47 := Op.call { callee := Callee.value (Operand.func 22), args := #[Operand.
        clear hag hd
        go_simp
        refine (full_nil W).mono ?_
        rintro e w' ⟨⟨g, rfl, hg, hblk⟩, hb⟩
        refine ⟨_, rfl, ⟨g, rfl, Nat.le_trans hJ.touch.size hg, hblk⟩, hJ.below hb, ?_⟩
        exact grown_of_below hb
      · refine RStep.of rfl fun T W hag hJ hd => ?_   -- 11: 48 := Op.convert 31 9 (Operand.tmp 47)
        obtain ⟨g, (d47 : T.getD 47 undef = _), hg, hblk⟩ := hd ⟨10, .data⟩ (by simp) rfl _ rfl
        have hcv := conv_any (n := 64) (c := 64) hblk.byt rfl
        clear hag hd
        go_simp
        first | exact ⟨_, rfl, rfl⟩ | exact ⟨_, rfl, rfl, hJ, grefl _ _⟩
      · refine RStep.of rfl fun T W hag hJ hd => ?_   -- 12: 49 := Op.indexAddr 47 (Operand.tmp 7) (Operand.tmp 38)
        have e7 : T.getD 7 undef = _ := (agree_at hag 7 (by kernel_rfl)).trans rfl
        have d38 : T.getD 38 undef = _ := hd ⟨1, .data⟩ (by simp) rfl _ rfl
        clear hag hd
        go_simp
        first | exact ⟨_, rfl, rfl⟩ | exact ⟨_, rfl, rfl, hJ, grefl _ _⟩
      · refine RStep.of rfl fun T W hag hJ hd => ?_   -- 13: 50 := Op.indexAddr 46 (Operand.tmp 49) (Operand.tmp 40)
        have d49 : T.getD 49 undef = _ := hd ⟨12, .data⟩ (by simp) rfl _ rfl
        have d40 : T.getD 40 undef = _ := hd ⟨3, .data⟩ (by simp) rfl _ rfl
        clear hag hd
        go_simp
        first | exact ⟨_, rfl, rfl⟩ | exact ⟨_, rfl, rfl, hJ, grefl _ _⟩
      · refine RStep.of rfl fun T W hag hJ hd => ?_   -- 14: None := Op.store 9 (Operand.tmp 50) (Operand.tmp 46)
        have d50 : T.getD 50 undef = _ := hd ⟨13, .data⟩ (by simp) rfl _ rfl
        have d46 : T.getD 46 undef = _ := hd ⟨9, .data⟩ (by simp) rfl _ rfl
        obtain ⟨u7, hu7⟩ := hJ.cell7 hlt
        have hf7 := hJ.free7 (k := k)
        obtain ⟨n1, n2, n3⟩ := hJ.store7 hlt HG.out.1
        have hkz := hkk.out
        rw [hkz] at hu7 hf7
        have e : (⟨g7, k, none⟩ : Addr) = ⟨g7, kq * 4 + kr, none⟩ := by rw [hkz]
        rw [e] at n1 n2 n3
        have N1 := Lib.hid n1
        have N2 := Lib.hid n2
        have N3 := Lib.hid n3
        clear hag hd hkz e n1 n2 n3
        go_simp
        first | exact ⟨_, rfl, N1.out, N2.out, N3.out⟩ | exact ⟨N1.out, N2.out, N3.out⟩
      · refine RStep.of rfl fun T W hag hJ hd => ?_   -- 15: 51 := Op.indexAddr 47 (Operand.tmp 8) (Operand.tmp 42)
        have e8 : T.getD 8 undef = _ := (agree_at hag 8 (by kernel_rfl)).trans rfl
        have d42 : T.getD 42 undef = _ := hd ⟨5, .data⟩ (by simp) rfl _ rfl
        clear hag hd
        go_simp
        first | exact ⟨_, rfl, rfl⟩ | exact ⟨_, rfl, rfl, hJ, grefl _ _⟩
      · refine RStep.of rfl fun T W hag hJ hd => ?_   -- 16: 52 := Op.indexAddr 46 (Operand.tmp 51) (Operand.tmp 44)
        have d51 : T.getD 51 undef = _ := hd ⟨15, .data⟩ (by simp) rfl _ rfl
        have d44 : T.getD 44 undef = _ := hd ⟨7, .data⟩ (by simp) rfl _ rfl
        clear hag hd
        go_simp
        first | exact ⟨_, rfl, rfl⟩ | exact ⟨_, rfl, rfl, hJ, grefl _ _⟩
      · refine RLast.of rfl fun T W hag hJ hd => ?_   -- 17: None := Op.store 9 (Operand.tmp 52) (Operand.tmp 48)
        have d52 : T.getD 52 undef = _ := hd 16 _ (by simp) rfl
        have d48 : T.getD 48 undef = _ := hd 11 _ (by simp) rfl
        have h7 : Strs W g7 (upto (k + 1) zS) := hd 14 _ (by simp) rfl
        obtain ⟨u8, hu8⟩ : ∃ v, W.cell? ⟨g8, kq * 4 + kr, none⟩ = some v := by rw [← hkk.out, hJ.s8.cell]; exact upto_at k k zS hlt (by omega)
        have hf8 : W.frozen? ⟨g8, kq * 4 + kr, none⟩ = false := hJ.s8.free _
        have ht8 : Touch (fun x => x = g8) W (W.setCell ⟨g8, kq * 4 + kr, none⟩ (.string zS)) := (Touch.refl (fun x => x = g8) W).setCell (p := ⟨g8, kq * 4 + kr, none⟩) rfl _
        have h82 : Strs (W.setCell ⟨g8, kq * 4 + kr, none⟩ (.string zS)) g8 (upto (k + 1) zS) := by
          have := hJ.s8.set k (.string zS); rw [upto_set k zS hlt] at this; rw [← hkk.out]; exact this
        have h72 := h7.other ht8 (show ¬ (g7 = g8) by have := HG.out.1; omega)
        have hD2 : DS w (W.setCell ⟨g8, kq * 4 + kr, none⟩ (.string zS)) (PK g7 g8) q (DM.make [4, 4]) := (HDK.out.touch hJ.touch HPK.out).touch (ht8.mono' fun x hx => Or.inr hx) HPK.out
        have HM := Lib.hid (And.intro hD2 (And.intro h72 h82))
        have HAG := Lib.hid hag
        clear hag h82 h72 hD2 h7 ht8 hd
        go_simp
        obtain ⟨f, hf, hT⟩ := agree_fn HAG.out
        clear HAG hf
        generalize World.setCell W ⟨g8, kq * 4 + kr, none⟩ (.string zS) = W2 at *
        rw [hT]
        clear hT d52 d48
        simp only [List.filterMap_cons, List.filterMap_nil, List.foldl_cons, List.foldl_nil, List.setIfInBounds_toArray, List.set_cons_succ, List.set_cons_zero]
        go_wp2
        go_roundw
        case rel => exact ⟨k + 1, by go_num, by omega, HM.out.1, HM.out.2.1, HM.out.2.2⟩
        case measure => simp [intOf]; omega
    · obtain rfl : k = 8 := by omega
      have hge : ¬ ((8 : Int) < 8) := by omega
      have hz : two (nowRow (DM.make [4, 4])) = upto 8 zS := (upto_two (nowRow (DM.make [4, 4])) (fullV []) rfl rfl).symm
      have hz2 : two (sureRow (DM.make [4, 4])) = upto 8 zS := (upto_two (sureRow (DM.make [4, 4])) (fullV []) rfl rfl).symm
      rw [← hz] at H7K
      rw [← hz2] at H8K
      clear hz hz2
      go_wp2_with fail
      go_loopw [10, 11, 12] (fun i u11 u12 wr => ∃ (k : Nat) (m : DM), i = .int .i64 k ∧ k ≤ n ∧ K2 m k ∧ DS w wr (PK g7 g8) q m ∧ Strs wr g7 (two (nowRow m)) ∧ Strs wr g8 (two (sureRow m))) (fun i _ _ _ => n - (intOf i).toNat)
      case atStart => exact ⟨0, _, rfl, Nat.zero_le _, K2.make, HDK.out, H7K.out, H8K.out⟩
      case round =>
        obtain ⟨k, m, rfl, hk, hK, hd, h7, h8⟩ := hrel
        have HK := Lib.hid hK
        have HDM := Lib.hid hd
        have H7M := Lib.hid h7
        have H8M := Lib.hid h8
        clear hK hd h7 h8 HDK H7K H8K
        by_cases hlt : k < n
        · obtain ⟨d, hdk⟩ : ∃ d, l0[k]? = some d := ⟨_, List.getElem?_eq_getElem (by rw [HN.out]; exact hlt)⟩
          obtain ⟨a, rfl, hat⟩ := (HY.out.keep (HDM.out.bel)) k d hdk
          have HAT := Lib.hid hat
          have HOK := Lib.hid (HBO.out d (List.mem_of_getElem? hdk))
          obtain ⟨r, hr, hbr⟩ := and1_nat d.r
          obtain ⟨i, hi, hbi⟩ := and3_nat d.i
          have c1 := fun q : Nat => (show (wr.drewN q).cell? _ = _ from hat.c1)
          have c2 := fun q : Nat => (show (wr.drewN q).cell? _ = _ from hat.c2)
          have hkk : (k : Int) < n := by omega
          have HDK0 := Lib.hid hdk
          have hr2 : (r : Int) < 2 := by omega
          have hi2 : (i : Int) < 4 := by omega
          clear hat hdk
          go_wp2_with fail
          go_quiet (fail)
          have hb5 : Below wr.heap.size wr (wr.drewN nq) := bdn (Below.refl _ _) nq
          have HD5 := Lib.hid (HDM.out.below hb5 (fun k hk => Or.inl hk))
          have H75 := Lib.hid (H7M.out.below hb5)
          have H85 := Lib.hid (H8M.out.below hb5)
          have HA5 := Lib.hid (HAT.out.keep hb5)
          clear hb5 c1 c2 HDM H7M H8M HAT
          generalize wr.drewN nq = w5 at *
          have c0 := HA5.out.c0
          generalize hd : d.k = kind at *
          have HKD := Lib.hid hd
          clear hd
          cases hkd : (kind.tmod 5 == 4)
          · have hkd2 : ¬ (kind.tmod 5 = 4) := by simpa using hkd
            have c4 := HA5.out.c4
            generalize hbl : d.b.length = bl at *
            have hfull := fun W (hb : Below w5.heap.size w5 W) => full_any d.A d.b d.c W HOK.out.b (HA5.out.b.keep hb) (by rw [hbl]; have := HOK.out.bl; have := HOK.out.bc; omega)
            rw [hbl] at hfull
            have HF := Lib.hid hfull
            have HBL := Lib.hid hbl
            have HC4 := Lib.hid c4
            have HFOK := Lib.hid (fullV_ok HOK.out.b)
            clear hfull hbl
            go_wp2_with fail
            refine (HF.out w5 (Below.refl _ _)).mono ?_
            rintro e w6 ⟨⟨g, rfl, hg, hblk⟩, hb6⟩
            have hd6 := HD5.out.below hb6 (fun k hk => Or.inl hk)
            have hcall := hd6.write64 r i (by constructor <;> omega) (by constructor <;> omega) g _ HFOK.out hblk (by have := HK.out.done; omega)
            rw [HK.out.hasB hr hi, HK.out.doW hr hi HFOK.out] at hcall
            have HCALL := Lib.hid hcall
            have HB6 := Lib.hid hb6
            clear hd6 hcall hg hblk hb6
            go_wp2_with fail
            refine HCALL.out.mono ?_
            rintro e w7 ⟨rfl, hd7, hs7⟩
            obtain ⟨_, hK7, e1, e2, e3⟩ := HK.out.write hr hi (fullV d.b) HFOK.out hd7.ok
            have HW := Lib.hid (And.intro hK7 (And.intro e1 (And.intro e2 e3)))
            have hb67 := HB6.out
            have H76 := (H75.out.below hb67)
            have H86 := (H85.out.below hb67)
            have H77 := Lib.hid (H76.same hs7 (Or.inl rfl))
            have H87 := Lib.hid (H86.same hs7 (Or.inr rfl))
            have HD7 := Lib.hid hd7
            obtain ⟨a2, ea2, hat7⟩ := (HY.out.keep hd7.bel) k d HDK0.out
            injection ea2 with ea2
            subst ea2
            have hc47 := hat7.c4
            have hfull := fun W (hb : Below w7.heap.size w7 W) => full_any d.A d.b d.c W HOK.out.b (hat7.b.keep hb) (by have := HOK.out.bl; have := HOK.out.bc; omega)
            rw [HBL.out] at hc47 hfull
            have HF7 := Lib.hid hfull
            have C47 := Lib.hid hc47
            clear hc47 hfull hat7 hK7 e1 e2 e3 hb67 H76 H86 hd7 hs7 HF HCALL HC4 HB6 c0 c4 HD5 H75 H85 HA5
            go_wp2_with fail
            go_upto_region 21 with fail
            have grefl : ∀ W : World, W.grownBy W none := fun W => World.grownBy.refl W _
            refine wp_region_rg (VK21 r i k n d0 bl d.c g7 w7.heap.size a d.A d.b) (Below w7.heap.size w7) (fun w w' => w.grownBy w' none) (by kernel_rfl) (by kernel_rfl) (fun j v w w' h hg => h.on hg) ((Below.refl _ _).drew) ?_
            simp only [RAll]
            refine ⟨?_, ?_, ?_, ?_, ?_, ?_, ?_, ?_, ?_, ?_, ?_, ?_⟩
            · refine RStep.of rfl fun T W hag hJ hd => ?_   -- 0: 96 := Op.move (Operand.tmp 11)
              have e11 : T.getD 11 undef = _ := (agree_at hag 11 (by kernel_rfl)).trans rfl
              clear hag hd
              go_simp
              first | exact ⟨_, rfl, rfl⟩ | exact ⟨_, rfl, rfl, hJ, grefl _⟩
            · refine RStep.of rfl fun T W hag hJ hd => ?_   -- 1: 97 := Op.move (Operand.tmp 12)
              have e12 : T.getD 12 undef = _ := (agree_at hag 12 (by kernel_rfl)).trans rfl
              clear hag hd
              go_simp
              first | exact ⟨_, rfl, rfl⟩ | exact ⟨_, rfl, rfl, hJ, grefl _⟩
            · refine RStep.of rfl fun T W hag hJ hd => ?_   -- 2: 98 := Op.move (Operand.tmp 0)
              have e0 : T.getD 0 undef = _ := (agree_at hag 0 (by kernel_rfl)).trans rfl
              clear hag hd
              go_simp
              first | exact ⟨_, rfl, rfl⟩ | exact ⟨_, rfl, rfl, hJ, grefl _⟩
            · refine RStep.of rfl fun T W hag hJ hd => ?_   -- 3: 99 := Op.move (Operand.tmp 10)
              have e10 : T.getD 10 undef = _ := (agree_at hag 10 (by kernel_rfl)).trans rfl
              clear hag hd
              go_simp
              first | exact ⟨_, rfl, rfl⟩ | exact ⟨_, rfl, rfl, hJ, grefl _⟩
            · refine RStep.of rfl fun T W hag hJ hd => ?_   -- 4: 100 := Op.indexAddr 23 (Operand.tmp 98) (Operand.tmp 99)
              have d98 : T.getD 98 undef = _ := hd ⟨2, .data⟩ (by simp) rfl _ rfl
              have d99 : T.getD 99 undef = _ := hd ⟨3, .data⟩ (by simp) rfl _ rfl
              clear hag hd
              go_simp
              first | exact ⟨_, rfl, rfl⟩ | exact ⟨_, rfl, rfl, hJ, grefl _⟩
            · refine RStep.of rfl fun T W hag hJ hd => ?_   -- 5: 101 := Op.fieldAddr 34 (Operand.tmp 100) 4
              have d100 : T.getD 100 undef = _ := hd ⟨4, .data⟩ (by simp) rfl _ rfl
              clear hag hd
              go_simp
              first | exact ⟨_, rfl, rfl⟩ | exact ⟨_, rfl, rfl, hJ, grefl _⟩
            · refine RStep.of rfl fun T W hag hJ hd => ?_   -- 6: 102 := Op.load 31 (Operand.tmp 101)
              have d101 : T.getD 101 undef = _ := hd ⟨5, .data⟩ (by simp) rfl _ rfl
              have hc4 := keepC hJ C47.out
              clear hag hd
              go_simp
              first | exact ⟨_, rfl, rfl⟩ | exact ⟨_, rfl, rfl, hJ, grefl _⟩
            · refine RStep.of rfl fun T W hag hJ hd => ?_   -- 7: 103 := Op.call { callee := Callee.value (Operand.func 22), args := #[Operand.
              have d102 : T.getD 102 undef = _ := hd ⟨6, .data⟩ (by simp) rfl _ rfl
              clear hag hd
              go_simp
              refine (HF7.out W hJ).mono ?_
              rintro e w' ⟨⟨g, rfl, hg, hblk⟩, hb⟩
              refine ⟨_, rfl, ⟨g, rfl, Nat.le_trans hJ.size hg, hblk⟩, keepB hJ hb, ?_⟩
              exact grown_of_below hb
            · refine RStep.of rfl fun T W hag hJ hd => ?_   -- 8: 104 := Op.convert 31 9 (Operand.tmp 103)
              obtain ⟨g, (d103 : T.getD 103 undef = _), hg, hblk⟩ := hd ⟨7, .data⟩ (by simp) rfl _ rfl
              have hcv := conv_any (n := 64) (c := 64) hblk.byt (HFOK.out.1)
              clear hag hd
              go_simp
              first | exact ⟨_, rfl, rfl⟩ | exact ⟨_, rfl, rfl, hJ, grefl _⟩
            · refine RStep.of rfl fun T W hag hJ hd => ?_   -- 9: 105 := Op.indexAddr 47 (Operand.tmp 7) (Operand.tmp 96)
              have e7 : T.getD 7 undef = _ := (agree_at hag 7 (by kernel_rfl)).trans rfl
              have d96 : T.getD 96 undef = _ := hd ⟨0, .data⟩ (by simp) rfl _ rfl
              clear hag hd
              go_simp
              first | exact ⟨_, rfl, rfl⟩ | exact ⟨_, rfl, rfl, hJ, grefl _⟩
            · refine RStep.of rfl fun T W hag hJ hd => ?_   -- 10: 106 := Op.indexAddr 46 (Operand.tmp 105) (Operand.tmp 97)
              have d105 : T.getD 105 undef = _ := hd ⟨9, .data⟩ (by simp) rfl _ rfl
              have d97 : T.getD 97 undef = _ := hd ⟨1, .data⟩ (by simp) rfl _ rfl
              clear hag hd
              go_simp
              first | exact ⟨_, rfl, rfl⟩ | exact ⟨_, rfl, rfl, hJ, grefl _⟩
            · refine RLast.of rfl fun T W hag hJ hd => ?_   -- 11: None := Op.store 9 (Operand.tmp 106) (Operand.tmp 104)
              have d106 : T.getD 106 undef = _ := hd 10 _ (by simp) rfl
              have d104 : T.getD 104 undef = _ := hd 8 _ (by simp) rfl
              obtain ⟨u7, hu7⟩ : ∃ v, W.cell? ⟨g7, r * 4 + i, none⟩ = some v := by rw [(H77.out.below hJ).cell]; exact ⟨_, List.getElem?_eq_getElem (by rw [two_length HK.out.four.1]; omega)⟩
              have hf7 : W.frozen? ⟨g7, r * 4 + i, none⟩ = false := (H77.out.below hJ).free _
              have ht7 : Touch (fun x => x = g7) W (W.setCell ⟨g7, r * 4 + i, none⟩ (.string (strOfNums (fullV d.b)))) := (Touch.refl (fun x => x = g7) W).setCell (p := ⟨g7, r * 4 + i, none⟩) rfl _
              have h79 : Strs (W.setCell ⟨g7, r * 4 + i, none⟩ (.string (strOfNums (fullV d.b)))) g7 (two (nowRow (m.write r i (fullV d.b)))) := by
                have := (H77.out.below hJ).set (r * 4 + i) (.string (strOfNums (fullV d.b)))
                rwa [two_set HK.out.four.1 hr hi (fullV d.b) HW.out.2.1 HW.out.2.2.1] at this
              have h89 := (H87.out.below hJ).other ht7 (show ¬ (g8 = g7) by have := HG.out.1; omega)
              rw [two_congr (HW.out.2.2.2 0).symm (HW.out.2.2.2 1).symm] at h89
              have hd9 := (HD7.out.below hJ (fun k hk => Or.inl hk)).touch (ht7.mono' fun x hx => Or.inl hx) HPK.out
              have HM := Lib.hid (And.intro hd9 (And.intro h79 h89))
              have HAG := Lib.hid hag
              clear hag h79 h89 hd9 ht7 hd
              go_simp
              obtain ⟨f, hf, hT⟩ := agree_fn HAG.out
              clear HAG hf
              generalize World.setCell W ⟨g7, r * 4 + i, none⟩ (.string (strOfNums (fullV d.b))) = W2 at *
              rw [hT]
              clear hT d106 d104
              simp only [List.filterMap_cons, List.filterMap_nil, List.foldl_cons, List.foldl_nil, List.setIfInBounds_toArray, List.set_cons_succ, List.set_cons_zero]
              go_wp2
              go_roundw
              case rel => exact ⟨k + 1, m.write r i (fullV d.b), by go_num, by omega, HW.out.1, HM.out.1, HM.out.2.1, HM.out.2.2⟩
              case measure => simp [intOf]; omega
          · have hbar := HD5.out.barrier r (by constructor <;> omega) (by have := HK.out.done; omega)
            rw [HK.out.hasR hr, HK.out.doB hr] at hbar
            have HBAR := Lib.hid hbar
            clear hbar
            have hkd2 : kind.tmod 5 = 4 := by simpa using hkd
            go_wp2_with fail
            refine HBAR.out.mono ?_
            rintro e w6 ⟨rfl, hd6, hs6⟩
            obtain ⟨_, hK6, e1, e2, e3⟩ := HK.out.barrier hr hd6.ok
            have h76 := H75.out.same hs6 (Or.inl rfl)
            have h86 := H85.out.same hs6 (Or.inr rfl)
            have hrg := h76.range HK.out.four.1 hr
            have hth : w6.there g8 (r * 4) 4 := h86.there (by rw [two_length HK.out.four.2]; omega)
            have hst := h86.setRow (Y := sureRow (m.barrier r)) HK.out.four.2 hr (by rw [e1]; exact HK.out.four.1.at_ hr) e2
            rw [e1] at hst
            have h77 := h76.other ((Touch.refl (fun x => x = g8) w6).setCells rfl (r * 4) (sv (nowRow m r))) (show ¬ (g7 = g8) by have := HG.out.1; omega)
            have hd7 := hd6.touch ((Touch.refl (PK g7 g8) w6).setCells (b := g8) (Or.inr rfl) (r * 4) (sv (nowRow m r))) HPK.out
            rw [two_congr (e3 0).symm (e3 1).symm] at h77
            have HNB := Lib.hid (And.intro hK6 (And.intro hd7 (And.intro h77 hst)))
            have HRG := Lib.hid hrg
            have HTH := Lib.hid hth
            have hl4 : (sv (nowRow m r)).length = 4 := by rw [sv_length]; exact HK.out.four.1.at_ hr
            have HL4 := Lib.hid hl4
            clear hK6 e1 e2 e3 h76 h86 hrg hth hst h77 hd7 hd6 hs6 HBAR hl4
            go_wp2_with (first | (with_reducible refine wpList_load_mid rfl 46 (.tmp 83) rfl g7 (r * 4) rfl (sv (nowRow m r)) _ HRG.out Try.underlying46 rfl (by rw [HL4.out]; exact size4) ?_) | (with_reducible refine wpList_store_mid rfl 46 (.tmp 85) (.tmp 84) rfl g8 (r * 4) (sv (nowRow m r)).toArray rfl rfl (by rw [List.size_toArray, HL4.out]; exact HTH.out) (by rw [List.size_toArray, HL4.out]; exact size4) (all_oneCell_toArray (sv_one _)) ?_))
            go_roundw
            case rel => exact ⟨k + 1, m.barrier r, by go_num, by omega, HNB.out.1, HNB.out.2.1, HNB.out.2.2.1, HNB.out.2.2.2⟩
            case measure => simp [intOf]; omega
        · obtain rfl : k = n := by omega
          have hge : ¬ ((k : Int) < k) := by omega
          cases b1
          · go_wp2_with fail
            refine (HDM.out.crash0 (by have := HK.out.done; omega)).mono ?_
            rintro e w6 ⟨rfl, hdC, hsC⟩
            have h8C := H8M.out.same hsC (Or.inr rfl)
            rw [two_congr (HK.out.none (by omega : 0 < 2)).symm (HK.out.none (by omega : 1 < 2)).symm] at h8C
            have hdims : dims (m.crash []) = [4, 4] := (dims_crash HK.out.ok []).trans HK.out.dims
            clear hsC
            have HDC := Lib.hid hdC
            have H8C := Lib.hid h8C
            have HDM2 := Lib.hid hdims
            clear hdC h8C hdims
            generalize hmm : DM.crash m [] = m2 at *
            clear hmm
            go_wp2_with fail
            go_loopw [14, 15, 16] (fun i u15 u16 wx => ∃ k : Nat, i = .int .i64 k ∧ k ≤ 8 ∧ DS w wx (PK g7 g8) q m2 ∧ Strs wx g8 (two (nowRow m2))) (fun i _ _ _ => 8 - (intOf i).toNat)
            case atStart => exact ⟨0, rfl, by omega, HDC.out, H8C.out⟩
            case round =>
              obtain ⟨k, rfl, hk, hd, h8⟩ := hrel
              have HDX := Lib.hid hd
              have H8X := Lib.hid h8
              clear hd h8 HDC H8C
              by_cases hlt : k < 8
              · obtain ⟨kq, kr, hkq, hkr, hkk⟩ : ∃ kq kr : Nat, kq < 2 ∧ kr < 4 ∧ Hid (k = kq * 4 + kr) := ⟨k / 4, k % 4, by omega, by omega, Lib.hid (by omega)⟩
                have hkz := hkk.out
                have hk8 : (k : Int) < 8 := by omega
                have hq1 : (k : Int) / 4 = kq := by omega
                have hq2 : (k : Int) % 4 = kr := by omega
                have hq3 : Int.tdiv (k : Int) 4 = kq := by rw [Int.tdiv_eq_ediv_of_nonneg (by omega)]; exact hq1
                have hq4 : Int.tmod (k : Int) 4 = kr := by rw [Int.tmod_eq_emod_of_nonneg (by omega)]; exact hq2
                have hwq : IntKind.i64.wrap (kq : Int) = kq := IntWalk.i64_in _ (by omega)
                have hkq2 : (kq : Int) < 2 := by omega
                have hkr2 : (kr : Int) < 4 := by omega
                clear hkz
                obtain ⟨b, hb1, hb2, hb3⟩ := get_four HDX.out.ok HDM2.out hkq hkr
                have hrd := HDX.out.readAt kq kr (by constructor <;> omega) (by constructor <;> omega) (hasB_four HDM2.out hkq hkr) hb2
                have HRD := Lib.hid hrd
                have HB1 := Lib.hid hb1
                have HB3 := Lib.hid hb3
                clear hrd hb1 hb2 hb3
                go_wp2_with fail
                refine HRD.out.mono ?_
                rintro e w9 ⟨⟨g, rfl, hg1, hg2, hgc⟩, hd9, hbb⟩
                have hcv := fun qq : Nat => conv_any (n := 64) (c := 64) (w := w9.drewN qq) (byt_blk (show (w9.drewN qq).heap[g]? = _ from hgc) (by simp)) HB3.out.1
                have h89 := H8X.out.below hbb
                have c8 := fun qq : Nat => (show (w9.drewN qq).cell? ⟨g8, kq * 4 + kr, none⟩ = some (.string (strOfNums b)) from by
                  show w9.cell? _ = _
                  rw [h89.cell]; exact two_get (four_dims HDM2.out) hkq hkr HB1.out)
                have H89 := Lib.hid h89
                have HD9 := Lib.hid hd9
                clear hg1 hg2 hgc hd9 hbb h89 HRD
                go_wp2_with fail
                go_quiet (fail)
                have hb9 : Below w9.heap.size w9 (w9.drewN nq) := bdn (Below.refl _ _) nq
                have HD10 := Lib.hid (HD9.out.below hb9 (fun k hk => Or.inl hk))
                have H810 := Lib.hid (H89.out.below hb9)
                clear hb9 hcv c8
                generalize w9.drewN nq = w10 at *
                go_wp2
                go_roundw
                case rel => exact ⟨k + 1, by go_num, by omega, HD10.out, H810.out⟩
                case measure => simp [intOf]; omega
              · obtain rfl : k = 8 := by omega
                have hge8 : ¬ ((8 : Int) < 8) := by omega
                go_wp2
                go_ret
                exact ⟨rfl, HDX.out.bel⟩
          · have hrg : ∀ o1 o2 o3 : Obj, (((wr.alloc o1).alloc o2).alloc o3).rangeAt g7 0 (two (nowRow m)) := fun o1 o2 o3 j v hj => by
              rw [((H7M.out).below (alloc3 wr o1 o2 o3).2.2.2.2).cell, Nat.zero_add]; exact hj
            have hth : ∀ o1 o2 o3 : Obj, (((wr.alloc o1).alloc o2).alloc o3).there g8 0 8 := fun o1 o2 o3 => ((H8M.out).below (alloc3 wr o1 o2 o3).2.2.2.2).there (by rw [two_length HK.out.four.2]; omega)
            have HRG := Lib.hid hrg
            have HTH := Lib.hid hth
            have HL8 := Lib.hid (two_length HK.out.four.1)
            have HON := Lib.hid (fun v (hv : v ∈ two (nowRow m)) => (List.mem_append.1 hv).elim (sv_one _ v) (sv_one _ v))
            clear hrg hth
            have HS8 : (two (nowRow m)).toArray.size = 8 := by rw [List.size_toArray]; exact HL8.out
            have HSS := Lib.hid HS8
            clear HS8
            go_wp2_with (first | (with_reducible refine wpList_load_mid rfl 47 (.tmp 7) rfl g7 0 rfl (two (nowRow m)) _ (HRG.out _ _ _) Try.underlying47 rfl (by rw [HL8.out]; exact size24) ?_) | (with_reducible refine wpList_store_mid rfl 47 (.tmp 8) (.tmp 111) rfl g8 0 (two (nowRow m)).toArray rfl rfl (by rw [HSS.out]; exact HTH.out _ _ _) (by rw [HSS.out]; exact size24) (all_oneCell_toArray HON.out) ?_))
            generalize hw4 : World.setCells _ g8 0 _ = w4
            obtain ⟨wA, hwA, hA1, hA2, hA3, hA4, hA5⟩ : ∃ wA : World, wA.setCells g8 0 (two (nowRow m)) = w4 ∧ wA.heap[wr.heap.size]? = some (.cells (Bs k5).toArray 5) ∧ wA.heap[wr.heap.size + 1]? = some (.cells (Bs k5).toArray 5) ∧ wA.heap[wr.heap.size + 2]? = some (.cells #[.slice (some ⟨wr.heap.size, 0, none⟩) 5 5, .slice (some ⟨wr.heap.size + 1, 0, none⟩) 5 5] 31) ∧ wA.heap.size = wr.heap.size + 3 ∧ Below wr.heap.size wr wA := ⟨_, hw4, alloc3 wr _ _ _⟩
            clear hw4
            have hg8 : g8 < wr.heap.size := room_lt H8M.out
            have hdA : DS w wA (PA g8 wr.heap.size) q m := HDM.out.below hA5 (fun k hk => by
              rcases hk with hk | hk | hk | hk
              · exact Or.inl (Or.inr hk)
              all_goals exact Or.inr (by omega))
            have hPA : ∀ k, PA g8 wr.heap.size k → w.heap.size ≤ k := fun k hk => by
              have h1 := HPK.out g8 (Or.inr rfl)
              rcases hk with hk | hk | hk | hk <;> omega
            have ht4 : Touch (fun x => x = g8) wA w4 := by rw [← hwA]; exact (Touch.refl (fun x => x = g8) wA).setCells rfl 0 _
            have hd4 := hdA.touch (ht4.mono' fun x hx => Or.inl hx) hPA
            have h84 : Strs w4 g8 (two (nowRow m)) := by
              have h := setCells_same g8 47 (two (nowRow m)) 0 wA (two (sureRow m)) (H8M.out.below hA5) (by rw [two_length HK.out.four.1, two_length HK.out.four.2]; omega)
              rw [splice_all _ _ (by rw [two_length HK.out.four.1, two_length HK.out.four.2]), hwA] at h
              exact h
            have hK4 : Keeps w4 wr.heap.size := ⟨(ht4.block _ (room_lt hA1) (show ¬ (wr.heap.size = g8) by omega)).trans hA1, (ht4.block _ (room_lt hA2) (show ¬ (wr.heap.size + 1 = g8) by omega)).trans hA2, (ht4.block _ (room_lt hA3) (show ¬ (wr.heap.size + 2 = g8) by omega)).trans hA3⟩
            have hcr := hd4.crash (some ⟨wr.heap.size + 2, 0, none⟩) [k5, k5] 2 (fun F h1 h2 => hK4.texts F (h2 _ (Or.inr (Or.inl rfl))) (h2 _ (Or.inr (Or.inr (Or.inl rfl)))) (h2 _ (Or.inr (Or.inr (Or.inr rfl))))) (by simp) (by have := HK.out.done; omega)
            have HCR := Lib.hid hcr
            have H84 := Lib.hid h84
            clear hcr h84 hK4 hd4 ht4 hPA hdA hg8 hwA hA1 hA2 hA3 hA4 hA5 HSS HRG HTH HL8 HON
            refine HCR.out.mono ?_
            rintro e w6 ⟨rfl, hdC, hsC⟩
            have h8C := H84.out.same hsC (Or.inl rfl)
            rw [two_congr (HK.out.all (by omega) (by omega : 0 < 2)).symm (HK.out.all (by omega) (by omega : 1 < 2)).symm] at h8C
            have hdims : dims (m.crash [k5, k5]) = [4, 4] := (dims_crash HK.out.ok [k5, k5]).trans HK.out.dims
            clear hsC HCR H84
            have HDC := Lib.hid hdC
            have H8C := Lib.hid h8C
            have HDM2 := Lib.hid hdims
            clear hdC h8C hdims
            generalize hmm : DM.crash m [k5, k5] = m2 at *
            clear hmm
            go_wp2_with fail
            go_loopw [14, 15, 16] (fun i u15 u16 wx => ∃ k : Nat, i = .int .i64 k ∧ k ≤ 8 ∧ DS w wx (PA g8 wr.heap.size) q m2 ∧ Strs wx g8 (two (nowRow m2))) (fun i _ _ _ => 8 - (intOf i).toNat)
            case atStart => exact ⟨0, rfl, by omega, HDC.out, H8C.out⟩
            case round =>
              obtain ⟨k, rfl, hk, hd, h8⟩ := hrel
              have HDX := Lib.hid hd
              have H8X := Lib.hid h8
              clear hd h8 HDC H8C
              by_cases hlt : k < 8
              · obtain ⟨kq, kr, hkq, hkr, hkk⟩ : ∃ kq kr : Nat, kq < 2 ∧ kr < 4 ∧ Hid (k = kq * 4 + kr) := ⟨k / 4, k % 4, by omega, by omega, Lib.hid (by omega)⟩
                have hkz := hkk.out
                have hk8 : (k : Int) < 8 := by omega
                have hq1 : (k : Int) / 4 = kq := by omega
                have hq2 : (k : Int) % 4 = kr := by omega
                have hq3 : Int.tdiv (k : Int) 4 = kq := by rw [Int.tdiv_eq_ediv_of_nonneg (by omega)]; exact hq1
                have hq4 : Int.tmod (k : Int) 4 = kr := by rw [Int.tmod_eq_emod_of_nonneg (by omega)]; exact hq2
                have hwq : IntKind.i64.wrap (kq : Int) = kq := IntWalk.i64_in _ (by omega)
                have hkq2 : (kq : Int) < 2 := by omega
                have hkr2 : (kr : Int) < 4 := by omega
                clear hkz
                obtain ⟨b, hb1, hb2, hb3⟩ := get_four HDX.out.ok HDM2.out hkq hkr
                have hrd := HDX.out.readAt kq kr (by constructor <;> omega) (by constructor <;> omega) (hasB_four HDM2.out hkq hkr) hb2
                have HRD := Lib.hid hrd
                have HB1 := Lib.hid hb1
                have HB3 := Lib.hid hb3
                clear hrd hb1 hb2 hb3
                go_wp2_with fail
                refine HRD.out.mono ?_
                rintro e w9 ⟨⟨g, rfl, hg1, hg2, hgc⟩, hd9, hbb⟩
                have hcv := fun qq : Nat => conv_any (n := 64) (c := 64) (w := w9.drewN qq) (byt_blk (show (w9.drewN qq).heap[g]? = _ from hgc) (by simp)) HB3.out.1
                have h89 := H8X.out.below hbb
                have c8 := fun qq : Nat => (show (w9.drewN qq).cell? ⟨g8, kq * 4 + kr, none⟩ = some (.string (strOfNums b)) from by
                  show w9.cell? _ = _
                  rw [h89.cell]; exact two_get (four_dims HDM2.out) hkq hkr HB1.out)
                have H89 := Lib.hid h89
                have HD9 := Lib.hid hd9
                clear hg1 hg2 hgc hd9 hbb h89 HRD
                go_wp2_with fail
                go_quiet (fail)
                have hb9 : Below w9.heap.size w9 (w9.drewN nq) := bdn (Below.refl _ _) nq
                have HD10 := Lib.hid (HD9.out.below hb9 (fun k hk => Or.inl hk))
                have H810 := Lib.hid (H89.out.below hb9)
                clear hb9 hcv c8
                generalize w9.drewN nq = w10 at *
                go_wp2
                go_roundw
                case rel => exact ⟨k + 1, by go_num, by omega, HD10.out, H810.out⟩
                case measure => simp [intOf]; omega
              · obtain rfl : k = 8 := by omega
                have hge8 : ¬ ((8 : Int) < 8) := by omega
                go_wp2
                go_ret
                exact ⟨rfl, HDX.out.bel⟩

set_option maxRecDepth 100000 in
theorem lifted (os : Os) (started : os.Started) (H : Type) (enc : TypeId × Value → H) :
    ReturnsInHanded {} Try.checked os 7 .any (Rows.devKeepsSpec.pre6 enc Try.prog Try.f7 Rows.devKeepsRow.domain false) (Rows.devKeepsSpec.post enc Try.prog Try.f7 false true false false) := by
  refine returnsInHanded_of_change (C := Try.checked) own started (by kernel_rfl) Try.func7
    (ChangeSpec.witness6 (enc := enc) (C := Try.checked) false ⟨#[], #[.slice none 0 0, .bool false], []⟩ 8 (by kernel_rfl) (by kernel_rfl) (by kernel_rfl) (by kernel_rfl)) ?_
  intro W base args ds gs before hval0 hW hcnd _
  have hval : ∀ (j : Nat) t v, Try.f7.params[j]? = some t → args[j]? = some v → Value.okWide Try.prog W .any base t v := hval0
  have hW' := hW
  obtain ⟨p, q, hA0, hV, rfl, hfz, hnd⟩ := hW
  have hA : DataW.TrodAll enc Try.prog W 0 (fun _ => true) true Try.f7.params.toList args.toList ds p := hA0
  rw [Try.params7] at hA hval
  obtain ⟨v0, vs0, d0, ds0, p0, q0, hargs, rfl, rfl, h0, r0⟩ := trodAll_cons hA
  obtain ⟨v1, vs1, d1, ds1, p1, q1, rfl, rfl, rfl, h1, r1⟩ := trodAll_cons r0
  obtain ⟨rfl, rfl, rfl⟩ := trodAll_nil r1
  obtain rfl : args = #[v0, v1] := by cases args; simp_all
  obtain ⟨rfl, rfl⟩ := trodVars_none hV
  obtain ⟨a0, len0, cap0, rfl⟩ := okWide_slice Try.underlying23 (hval 0 23 v0 rfl rfl)
  obtain ⟨b1, rfl, rfl, rfl⟩ := open_bool Try.underlying4 (hval 1 4 v1 rfl rfl) h1
  clear hA0 hval0
  simp only [List.append_nil] at hW'
  have hlt0 : ∀ y ∈ p0, y.block < W.heap.size := fun y hy => by simpa using hW'.lt y (by simp [hy])
  have harg0 : ∀ W' : World, Below W.heap.size W W' → DataW.Trod enc Try.prog W' 0 (fun b => decide (b < W.heap.size)) true 23 (.slice a0 len0 cap0) d0 p0 :=
    fun W' hn => Below.trod laidOut (by kernel_rfl) (of_decide_eq_true (by kernel_rfl)) h0 hn (fun y hy => hlt0 y hy)
  obtain ⟨fu0, hf0⟩ := h0
  obtain ⟨A0, l0, c0, e0, hd0, hm0, hy0, hB0⟩ := open_deeds hf0
  simp [Value.cells] at e0
  obtain ⟨rfl, rfl, rfl⟩ := e0
  refine (walk a0 l0 cap0 b1 W hd0 hm0 hB0 hy0).mono fun e W' ⟨he, bel⟩ => ?_
  subst he
  exact ⟨_, rfl, _, _, _, [], _, [], hW', (trodAll_cons_mk (shut_bool Try.underlying4 _) trodAll_mk0), (trodAll_cons_mk (harg0 _ bel) (trodAll_cons_mk (shut_bool Try.underlying4 _) trodAll_mk0)), rfl, bel.frame _, fun h => by cases h⟩

theorem over : Rows.devKeepsRow.holds Try.pinned (OpenSpec.ofChange Rows.devKeepsSpec) :=
  OpenClaim.holds_of_wide 7 Try.f7 rfl rfl rfl rfl rfl rfl rfl ⟨rfl, rfl, rfl, rfl, rfl⟩ rfl rfl rfl rfl rfl (by kernel_rfl) Try.func7 (by kernel_rfl)
    (of_decide_eq_true (by kernel_rfl)) (by unfold Func.isWrapper; first | (rw [if_pos (by decide +kernel)]; kernel_rfl) | (rw [if_neg (by decide +kernel)]; exact ⟨rfl, rfl⟩))
    (fun os started H enc _ => lifted os started H enc)

theorem proved : Rows.DevKeepsSaid :=
  over
#print axioms proved
end Go.Proofs.Ytlldpmnidbhlkaa.devKeeps
