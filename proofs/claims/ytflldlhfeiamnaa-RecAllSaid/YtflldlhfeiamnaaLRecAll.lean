/- The law RecAll answers true for every input, and leaves its arguments alone. No condition. -/
import Derived.Test.YtflldlhfeiamnaaRows
import Derived.Test.YtflldlhfeiamnaaEw
import Derived.Test.YtflldlhfeiamnaaEu
import Derived.Test.YtflldlhfeiamnaaEr
import Derived.Test.YtflldlhfeiamnaaRk
import Derived.WalkKit
import Derived.ProofKit
import Derived.OpenShut
namespace Go.Proofs.Ytflldlhfeiamnaa.recAll
open Go.ChangeShapes Go.WideShapes Go.ChangeAt Go.RowKit Go.Joins
set_option linter.unusedVariables false
theorem own : ownKnob Try.prog.godebug = none := by kernel_rfl
theorem laidOut : laidOutB Try.prog = true := by kernel_rfl
def VAL (base : Nat) (lb : Int) (e n14 d14 d16 n18 d18 d21 tn ta : Nat) (A14 A16 A18 A21 : Option Addr) (pm tk tb : Bool) (z1 : ByteArray) (i : Nat) (v : Value) (w : World) : Prop :=
  match i with
  | 0 => v = .slice A14 n14 d14
  | 1 => v = .slice A16 n14 d16
  | 2 | 3 | 6 | 7 | 8 | 11 | 12 | 13 | 16 | 17 | 18 | 21 | 22 | 23 | 32 | 33 | 34 | 37 | 38 | 39 | 42 | 43 => v = .bool true
  | 4 | 5 => v = .bool pm
  | 9 => v = .slice A18 n18 d18
  | 10 => v = .slice A21 n18 d21
  | 14 | 15 => v = .int .i64 (tn : Nat)
  | 19 | 20 => v = .bool tk
  | 24 | 28 => v = .int .u8 lb
  | 25 | 29 => v = .int .u32 (e : Nat)
  | 27 | 31 => v = .string z1
  | 35 | 36 => v = .int .u32 (ta : Nat)
  | 40 | 41 => v = .bool tb
  | 26 => w.ownsRow base 5 1 v 64 (Bs (anchorB lb e))
  | 30 => w.ownsRow base 5 1 v 64 (Bs (anchorB lb e))
  | _ => True
theorem VAL.on {base : Nat} {lb : Int} {e n14 d14 d16 n18 d18 d21 tn ta : Nat} {A14 A16 A18 A21 : Option Addr} {pm tk tb : Bool} {z1 : ByteArray} {j : Nat} {v : Value} {w w' : World} (h : VAL base lb e n14 d14 d16 n18 d18 d21 tn ta A14 A16 A18 A21 pm tk tb z1 j v w) (hs : w.grownBy w' none) : VAL base lb e n14 d14 d16 n18 d18 d21 tn ta A14 A16 A18 A21 pm tk tb z1 j v w' := by
  unfold VAL at *
  split <;> try exact h
  · exact World.ownsRow.kept h hs (by cases v.ownBlock <;> simp)
  · exact World.ownsRow.kept h hs (by cases v.ownBlock <;> simp)
  · trivial
set_option maxRecDepth 100000 in
set_option maxHeartbeats 6400000 in
theorem walk (x0 : Int) (x1 : Int) (x2 : Int) (A3 : Option Addr) (l3 : List Wr) (d3 : Nat) (A4 : Option Addr) (l4 : List (List Int)) (d4 : Nat) (A5 : Option Addr) (l5 : List Int) (d5 : Nat) (w : World) (hx0 : 0 ≤ x0 ∧ x0 ≤ 255) (hx1 : 0 ≤ x1 ∧ x1 ≤ 4294967295) (hx2 : 0 ≤ x2 ∧ x2 ≤ 4294967295) (hd3 : l3.length ≤ d3) (hm3 : d3 ≤ 9223372036854775807) (hB3 : WrsOk l3) (hy3 : Wrs w A3 l3) (hd4 : l4.length ≤ d4) (hm4 : d4 ≤ 9223372036854775807) (hB4 : TxOk l4) (hy4 : Tx w A4 l4) (hd5 : l5.length ≤ d5) (hm5 : d5 ≤ 9223372036854775807) (hB5 : AllB l5) (hy5 : Byt w A5 l5) :
    Calls Try.prog 3 #[.int .u8 x0, .int .u32 x1, .int .u32 x2, .slice A3 l3.length d3, .slice A4 l4.length d4, .slice A5 l5.length d5] w fun e w' => e = .returned (.bool true) ∧ Below w.heap.size w w' := by
  obtain ⟨e, rfl⟩ : ∃ n : Nat, x1 = (n : Int) := ⟨x1.toNat, by omega⟩
  obtain ⟨s, rfl⟩ : ∃ n : Nat, x2 = (n : Int) := ⟨x2.toNat, by omega⟩
  have he : e < 4294967296 := by omega
  have hs : s < 4294967296 := by omega
  have H3 := Lib.hid hy3
  have H4 := Lib.hid hy4
  have H5 := Lib.hid hy5
  have HO3 := Lib.hid hB3
  have HO4 := Lib.hid hB4
  have HO5 := Lib.hid hB5
  clear hy3 hy4 hy5 hB3 hB4 hB5
  generalize hn3 : l3.length = n3 at *
  generalize hn4 : l4.length = n4 at *
  generalize hn5 : l5.length = n5 at *
  have HN3 := Lib.hid hn3
  have HN4 := Lib.hid hn4
  have HN5 := Lib.hid hn5
  clear hn3 hn4 hn5
  go_enter Try.func3, Try.ntmps3
  go_wp2_with fail
  refine (begun7_any _).mono ?_
  rintro en w1 ⟨rfl, hb1⟩
  have H31 := Lib.hid (H3.out.keep hb1)
  have H41 := Lib.hid (H4.out.keep hb1)
  have H51 := Lib.hid (H5.out.keep hb1)
  clear H3 H4 H5
  by_cases q3 : 16 < n3
  · have hd1 : decide (16 < (n3 : Int)) = true := decide_eq_true (by omega)
    go_wp2
    go_ret
    exact ⟨rfl, hb1⟩
  have hd1 : decide (16 < (n3 : Int)) = false := decide_eq_false (by omega)
  by_cases q4 : 16 < n4
  · have hd2 : decide (16 < (n4 : Int)) = true := decide_eq_true (by omega)
    go_wp2
    go_ret
    exact ⟨rfl, hb1⟩
  have hd2 : decide (16 < (n4 : Int)) = false := decide_eq_false (by omega)
  by_cases q5 : 80 < n5
  · have hd6 : decide (80 < (n5 : Int)) = true := decide_eq_true (by omega)
    go_wp2
    go_ret
    exact ⟨rfl, hb1⟩
  have hd6 : decide (80 < (n5 : Int)) = false := decide_eq_false (by omega)
  go_wp2
  go_loop [13] (fun i => ∃ k : Nat, i = .int .i64 k ∧ k ≤ n4) (fun i => n4 - (intOf i).toNat)
  case atStart => exact ⟨0, rfl, Nat.zero_le _⟩
  case round =>
    obtain ⟨k, rfl, hk⟩ := hrel
    by_cases hlt : k < n4
    · obtain ⟨b, hb⟩ : ∃ b, l4[k]? = some b := ⟨_, List.getElem?_eq_getElem (by rw [HN4.out]; exact hlt)⟩
      obtain ⟨a, B, d, rfl, hc, _, _, _⟩ := H41.out k b hb
      generalize b.length = bl at *
      clear hb
      by_cases h80 : 80 < bl
      · have hd7 : ((80 : Int) < bl) := by omega
        go_wp2
        go_ret
        exact ⟨rfl, hb1⟩
      · have hd7 : ¬ ((80 : Int) < bl) := by omega
        go_wp2
        go_round
        case rel => exact ⟨k + 1, by go_num, by omega⟩
        case measure => simp [intOf]; omega
    · obtain rfl : k = n4 := by omega
      have hge : ¬ ((k : Int) < k) := by omega
      have HNP0 := Lib.hid (rfl : (putX x0 e s l3).length = (putX x0 e s l3).length)
      have HTX : Hid (TxOk (putX x0 e s l3)) := by
        unfold Hid putX
        split
        · rename_i hm; exact putL_txOk e s hx0 hm HO3.out
        · exact fun b hb => by cases hb
      have HTW : Hid (WrsOk (takeV x0 e s l4)) := takeV_ok HO4.out
      have HC1 := Lib.hid (put_any x0 e s A3 l3 n3 d3 w1 hx0 he hs HN3.out hd3 hm3 HO3.out H31.out)
      have HC2 := Lib.hid (fun W (h : Wrs W A3 l3) => rput_any x0 e s A3 l3 n3 d3 W hx0 he hs HN3.out hd3 hm3 HO3.out h)
      have HC3 := Lib.hid (fun W (h : Tx W A4 l4) => take_any x0 e s A4 l4 k d4 W hx0 he hs HN4.out hd4 hm4 HO4.out h)
      have HC4 := Lib.hid (fun W (h : Tx W A4 l4) => rtake_any x0 e s A4 l4 k d4 W hx0 he hs HN4.out hd4 hm4 HO4.out h)
      have HC5 := Lib.hid (fun W (h : Byt W A5 l5) => takea_any x0 A5 l5 n5 d5 W hx0 HN5.out hd5 hm5 HO5.out h)
      have HC6 := Lib.hid (fun W (h : Byt W A5 l5) => rtakea_any x0 A5 l5 n5 d5 W hx0 HN5.out hd5 hm5 HO5.out h)
      generalize decide (MayL l3) = pm at *
      generalize putX x0 e s l3 = pl at *
      generalize takeV x0 e s l4 = tl at *
      generalize takeN x0 e s l4 = tn at *
      generalize decide (Taken x0 e s l4) = tk at *
      generalize takeA x0 l5 = ta at *
      generalize decide (TakenA x0 l5) = tb at *
      clear HNP0
      go_wp2_with fail
      refine HC1.out.mono ?_
      rintro en w2 ⟨v14, rfl, ot2, hb2⟩
      obtain ⟨A14, d14, rfl, hd14, hm14, hx14⟩ := ot2.tx
      have HX14 := Lib.hid hx14
      have H32 := Lib.hid (H31.out.keep hb2)
      have H42 := Lib.hid (H41.out.keep hb2)
      have H52 := Lib.hid (H51.out.keep hb2)
      have B2 := keepB hb1 hb2
      clear ot2 hx14 HC1 H31 H41 H51 hb1 hb2
      generalize hnp : pl.length = n14 at *
      have HNP := Lib.hid hnp
      clear hnp
      have hn14 : n14 ≤ 9223372036854775807 := by omega
      go_wp2_with fail
      refine (HC2.out w2 H32.out).mono ?_
      rintro en w3 ⟨v16, rfl, ot3, hb3⟩
      obtain ⟨A16, d16, rfl, hd16, hm16, hx16⟩ := ot3.tx
      rw [HNP.out] at hd16 ⊢
      have HX16 := Lib.hid hx16
      have HX14 := Lib.hid (HX14.out.keep hb3)
      have H43 := Lib.hid (H42.out.keep hb3)
      have H53 := Lib.hid (H52.out.keep hb3)
      have B3 := keepB B2 hb3
      clear ot3 hx16 HC2 H32 H42 H52 B2 hb3
      go_wp2_with fail
      refine (HC3.out w3 H43.out).mono ?_
      rintro en w4 ⟨v18, rfl, ow4, hb4⟩
      obtain ⟨A18, d18, rfl, hd18, hm18, hx18⟩ := ow4.wrs HTW.out.len
      have HX18 := Lib.hid hx18
      have HX14 := Lib.hid (HX14.out.keep hb4)
      have HX16 := Lib.hid (HX16.out.keep hb4)
      have H44 := Lib.hid (H43.out.keep hb4)
      have H54 := Lib.hid (H53.out.keep hb4)
      have B4 := keepB B3 hb4
      clear ow4 hx18 HC3 H43 H53 B3 hb4
      generalize hnt : tl.length = n18 at *
      have HNT := Lib.hid hnt
      clear hnt
      have hn18 : n18 ≤ 9223372036854775807 := by omega
      go_wp2_with fail
      refine (HC4.out w4 H44.out).mono ?_
      rintro en w5 ⟨v21, rfl, ow5, hb5⟩
      obtain ⟨A21, d21, rfl, hd21, hm21, hx21⟩ := ow5.wrs HTW.out.len
      rw [HNT.out] at hd21 ⊢
      have HX21 := Lib.hid hx21
      have HX18 := Lib.hid (HX18.out.keep hb5)
      have HX14 := Lib.hid (HX14.out.keep hb5)
      have HX16 := Lib.hid (HX16.out.keep hb5)
      have H55 := Lib.hid (H54.out.keep hb5)
      have B5 := keepB B4 hb5
      clear ow5 hx21 HC4 H44 H54 B4 hb5
      go_wp2_with fail
      refine (HC5.out w5 H55.out).mono ?_
      rintro en w6 ⟨rfl, hb6⟩
      have HX21 := Lib.hid (HX21.out.keep hb6)
      have HX18 := Lib.hid (HX18.out.keep hb6)
      have HX14 := Lib.hid (HX14.out.keep hb6)
      have HX16 := Lib.hid (HX16.out.keep hb6)
      have H56 := Lib.hid (H55.out.keep hb6)
      have B6 := keepB B5 hb6
      clear HC5 H55 B5 hb6
      go_wp2_with fail
      refine (HC6.out w6 H56.out).mono ?_
      rintro en w9 ⟨rfl, hb9⟩
      have HX21 := Lib.hid (HX21.out.keep hb9)
      have HX18 := Lib.hid (HX18.out.keep hb9)
      have HX14 := Lib.hid (HX14.out.keep hb9)
      have HX16 := Lib.hid (HX16.out.keep hb9)
      have BEL := Lib.hid (keepB B6 hb9)
      clear HC6 H56 B6 hb9
      obtain ⟨z1, HZ1⟩ : ∃ z1, Hid (z1 = strOfNums (anchorB x0 e)) := ⟨_, rfl⟩
      go_upto_region 16 with fail
      have grefl : ∀ W : World, W.grownBy W none := fun W => World.grownBy.refl W _
      refine wp_region_rgk (VAL w9.heap.size x0 e n14 d14 d16 n18 d18 d21 tn ta A14 A16 A18 A21 pm tk tb z1) (fun _ W => Below w9.heap.size w9 W) (fun _ w w' => w.grownBy w' none) (by kernel_rfl) (by kernel_rfl) (fun i j v' w' w'' hij hind h hg => h.on hg) ((Below.refl _ _).drew) ?_
      simp only [RAll]
      refine ⟨?_, ?_, ?_, ?_, ?_, ?_, ?_, ?_, ?_, ?_, ?_, ?_, ?_, ?_, ?_, ?_, ?_, ?_, ?_, ?_, ?_, ?_, ?_, ?_, ?_, ?_, ?_, ?_, ?_, ?_, ?_, ?_, ?_, ?_, ?_, ?_, ?_, ?_, ?_, ?_, ?_, ?_, ?_, ?_, ?_⟩
      · refine RStepK.of rfl fun T W L hag hL hJ hLs hd => ?_   -- 0: 101 := Op.move (Operand.tmp 14)
        have e14 : T.getD 14 undef = _ := (agree_at hag 14 (by kernel_rfl)).trans rfl
        clear hag hd
        go_simp
        exact ⟨_, rfl, rfl⟩
      · refine RStepK.of rfl fun T W L hag hL hJ hLs hd => ?_   -- 1: 102 := Op.move (Operand.tmp 16)
        have e16 : T.getD 16 undef = _ := (agree_at hag 16 (by kernel_rfl)).trans rfl
        clear hag hd
        go_simp
        exact ⟨_, rfl, rfl⟩
      · refine RStepK.of rfl fun T W L hag hL hJ hLs hd => ?_   -- 2: 103 := Op.call { callee := Callee.value (Operand.func 16), args := 
        have d101 : T.getD 101 undef = _ := hd ⟨0, .data⟩ (by simp) rfl _ rfl
        have d102 : T.getD 102 undef = _ := hd ⟨1, .data⟩ (by simp) rfl _ rfl
        clear hag hd
        go_simp
        refine (same_any A14 A16 pl pl n14 n14 d14 d16 W HNP.out HNP.out hn14 HTX.out HTX.out (HX14.out.keep hJ) (HX16.out.keep hJ)).mono ?_
        rintro en w' ⟨rfl, hb⟩
        exact ⟨_, rfl, by rw [decide_eq_true (rfl : pl = pl)]; rfl, hJ.trans (hb.mono hJ.size), growN hb⟩
      · refine RStepK.of rfl fun T W L hag hL hJ hLs hd => ?_   -- 3: 104 := Op.move (Operand.tmp 103)
        have d103 : T.getD 103 undef = _ := hd ⟨2, .data⟩ (by simp) rfl _ rfl
        clear hag hd
        go_simp
        exact ⟨_, rfl, rfl⟩
      · refine RStepK.want rfl rfl rfl (by kernel_rfl) (fun v w h => h) fun T W L hag hL hJ hLs hd => ?_   -- 4: 105 := Op.move (Operand.tmp 15)
        have e15 : T.getD 15 undef = _ := (agree_at hag 15 (by kernel_rfl)).trans rfl
        clear hag hd
        go_simp
        exact ⟨_, rfl, rfl⟩
      · refine RStepK.want rfl rfl rfl (by kernel_rfl) (fun v w h => h) fun T W L hag hL hJ hLs hd => ?_   -- 5: 106 := Op.move (Operand.tmp 17)
        have e17 : T.getD 17 undef = _ := (agree_at hag 17 (by kernel_rfl)).trans rfl
        clear hag hd
        go_simp
        exact ⟨_, rfl, rfl⟩
      · refine RStepK.want rfl rfl rfl (by kernel_rfl) (fun v w h => h) fun T W L hag hL hJ hLs hd => ?_   -- 6: 107 := Op.binOp BinOp.eql 4 (Operand.tmp 105) (Operand.tmp 106) 4
        have d105 : T.getD 105 undef = _ := hd ⟨4, .data⟩ (by simp) rfl _ rfl
        have d106 : T.getD 106 undef = _ := hd ⟨5, .data⟩ (by simp) rfl _ rfl
        clear hag hd
        go_simp
        exact ⟨_, rfl, rfl⟩
      · refine RStepK.of rfl fun T W L hag hL hJ hLs hd => ?_   -- 7: 108 := Op.pick (Operand.tmp 104) (Operand.tmp 107) (Operand.const (
        have d104 : T.getD 104 undef = _ := hd ⟨3, .data⟩ (by simp) rfl _ rfl
        have d107 : T.getD 107 undef = _ := hd ⟨6, .data⟩ (by simp) rfl _ rfl
        clear hag hd
        go_simp
        exact ⟨_, rfl, rfl⟩
      · refine RStepK.of rfl fun T W L hag hL hJ hLs hd => ?_   -- 8: 109 := Op.move (Operand.tmp 108)
        have d108 : T.getD 108 undef = _ := hd ⟨7, .data⟩ (by simp) rfl _ rfl
        clear hag hd
        go_simp
        exact ⟨_, rfl, rfl⟩
      · refine RStepK.want rfl rfl rfl (by kernel_rfl) (fun v w h => h) fun T W L hag hL hJ hLs hd => ?_   -- 9: 110 := Op.move (Operand.tmp 18)
        have e18 : T.getD 18 undef = _ := (agree_at hag 18 (by kernel_rfl)).trans rfl
        clear hag hd
        go_simp
        exact ⟨_, rfl, rfl⟩
      · refine RStepK.want rfl rfl rfl (by kernel_rfl) (fun v w h => h) fun T W L hag hL hJ hLs hd => ?_   -- 10: 111 := Op.move (Operand.tmp 21)
        have e21 : T.getD 21 undef = _ := (agree_at hag 21 (by kernel_rfl)).trans rfl
        clear hag hd
        go_simp
        exact ⟨_, rfl, rfl⟩
      · refine RStepK.want rfl rfl rfl (by kernel_rfl) (fun v w h => h) fun T W L hag hL hJ hLs hd => ?_   -- 11: 112 := Op.call { callee := Callee.value (Operand.func 17), args := 
        have d110 : T.getD 110 undef = _ := hd ⟨9, .data⟩ (by simp) rfl _ rfl
        have d111 : T.getD 111 undef = _ := hd ⟨10, .data⟩ (by simp) rfl _ rfl
        clear hag hd
        go_simp
        refine (samew_any A18 A21 tl tl n18 n18 d18 d21 W HNT.out HNT.out hn18 HTW.out HTW.out (HX18.out.keep hJ) (HX21.out.keep hJ)).mono ?_
        rintro en w' ⟨rfl, hb⟩
        exact ⟨_, rfl, by rw [decide_eq_true (rfl : tl = tl)]; rfl, hJ.trans (hb.mono hJ.size), growN hb⟩
      · refine RStepK.of rfl fun T W L hag hL hJ hLs hd => ?_   -- 12: 113 := Op.pick (Operand.tmp 109) (Operand.tmp 112) (Operand.const (
        have d109 : T.getD 109 undef = _ := hd ⟨8, .data⟩ (by simp) rfl _ rfl
        have d112 : T.getD 112 undef = _ := hd ⟨11, .data⟩ (by simp) rfl _ rfl
        clear hag hd
        go_simp
        exact ⟨_, rfl, rfl⟩
      · refine RStepK.of rfl fun T W L hag hL hJ hLs hd => ?_   -- 13: 114 := Op.move (Operand.tmp 113)
        have d113 : T.getD 113 undef = _ := hd ⟨12, .data⟩ (by simp) rfl _ rfl
        clear hag hd
        go_simp
        exact ⟨_, rfl, rfl⟩
      · refine RStepK.want rfl rfl rfl (by kernel_rfl) (fun v w h => h) fun T W L hag hL hJ hLs hd => ?_   -- 14: 115 := Op.move (Operand.tmp 19)
        have e19 : T.getD 19 undef = _ := (agree_at hag 19 (by kernel_rfl)).trans rfl
        clear hag hd
        go_simp
        exact ⟨_, rfl, rfl⟩
      · refine RStepK.want rfl rfl rfl (by kernel_rfl) (fun v w h => h) fun T W L hag hL hJ hLs hd => ?_   -- 15: 116 := Op.move (Operand.tmp 22)
        have e22 : T.getD 22 undef = _ := (agree_at hag 22 (by kernel_rfl)).trans rfl
        clear hag hd
        go_simp
        exact ⟨_, rfl, rfl⟩
      · refine RStepK.want rfl rfl rfl (by kernel_rfl) (fun v w h => h) fun T W L hag hL hJ hLs hd => ?_   -- 16: 117 := Op.binOp BinOp.eql 3 (Operand.tmp 115) (Operand.tmp 116) 3
        have d115 : T.getD 115 undef = _ := hd ⟨14, .data⟩ (by simp) rfl _ rfl
        have d116 : T.getD 116 undef = _ := hd ⟨15, .data⟩ (by simp) rfl _ rfl
        clear hag hd
        go_simp
        exact ⟨_, rfl, rfl⟩
      · refine RStepK.of rfl fun T W L hag hL hJ hLs hd => ?_   -- 17: 118 := Op.pick (Operand.tmp 114) (Operand.tmp 117) (Operand.const (
        have d114 : T.getD 114 undef = _ := hd ⟨13, .data⟩ (by simp) rfl _ rfl
        have d117 : T.getD 117 undef = _ := hd ⟨16, .data⟩ (by simp) rfl _ rfl
        clear hag hd
        go_simp
        exact ⟨_, rfl, rfl⟩
      · refine RStepK.of rfl fun T W L hag hL hJ hLs hd => ?_   -- 18: 119 := Op.move (Operand.tmp 118)
        have d118 : T.getD 118 undef = _ := hd ⟨17, .data⟩ (by simp) rfl _ rfl
        clear hag hd
        go_simp
        exact ⟨_, rfl, rfl⟩
      · refine RStepK.want rfl rfl rfl (by kernel_rfl) (fun v w h => h) fun T W L hag hL hJ hLs hd => ?_   -- 19: 120 := Op.move (Operand.tmp 20)
        have e20 : T.getD 20 undef = _ := (agree_at hag 20 (by kernel_rfl)).trans rfl
        clear hag hd
        go_simp
        exact ⟨_, rfl, rfl⟩
      · refine RStepK.want rfl rfl rfl (by kernel_rfl) (fun v w h => h) fun T W L hag hL hJ hLs hd => ?_   -- 20: 121 := Op.move (Operand.tmp 23)
        have e23 : T.getD 23 undef = _ := (agree_at hag 23 (by kernel_rfl)).trans rfl
        clear hag hd
        go_simp
        exact ⟨_, rfl, rfl⟩
      · refine RStepK.want rfl rfl rfl (by kernel_rfl) (fun v w h => h) fun T W L hag hL hJ hLs hd => ?_   -- 21: 122 := Op.binOp BinOp.eql 4 (Operand.tmp 120) (Operand.tmp 121) 4
        have d120 : T.getD 120 undef = _ := hd ⟨19, .data⟩ (by simp) rfl _ rfl
        have d121 : T.getD 121 undef = _ := hd ⟨20, .data⟩ (by simp) rfl _ rfl
        clear hag hd
        go_simp
        exact ⟨_, rfl, rfl⟩
      · refine RStepK.of rfl fun T W L hag hL hJ hLs hd => ?_   -- 22: 123 := Op.pick (Operand.tmp 119) (Operand.tmp 122) (Operand.const (
        have d119 : T.getD 119 undef = _ := hd ⟨18, .data⟩ (by simp) rfl _ rfl
        have d122 : T.getD 122 undef = _ := hd ⟨21, .data⟩ (by simp) rfl _ rfl
        clear hag hd
        go_simp
        exact ⟨_, rfl, rfl⟩
      · refine RStepK.of rfl fun T W L hag hL hJ hLs hd => ?_   -- 23: 124 := Op.move (Operand.tmp 123)
        have d123 : T.getD 123 undef = _ := hd ⟨22, .data⟩ (by simp) rfl _ rfl
        clear hag hd
        go_simp
        exact ⟨_, rfl, rfl⟩
      · refine RStepK.want rfl rfl rfl (by kernel_rfl) (fun v w h => h) fun T W L hag hL hJ hLs hd => ?_   -- 24: 125 := Op.move (Operand.tmp 0)
        have e0 : T.getD 0 undef = _ := (agree_at hag 0 (by kernel_rfl)).trans rfl
        clear hag hd
        go_simp
        exact ⟨_, rfl, rfl⟩
      · refine RStepK.want rfl rfl rfl (by kernel_rfl) (fun v w h => h) fun T W L hag hL hJ hLs hd => ?_   -- 25: 126 := Op.move (Operand.tmp 1)
        have e1 : T.getD 1 undef = _ := (agree_at hag 1 (by kernel_rfl)).trans rfl
        clear hag hd
        go_simp
        exact ⟨_, rfl, rfl⟩
      · refine RStepK.want rfl rfl rfl (by kernel_rfl) (fun v w h => h) fun T W L hag hL hJ hLs hd => ?_   -- 26: 127 := Op.call { callee := Callee.value (Operand.func 18), args := 
        have d125 : T.getD 125 undef = _ := hd ⟨24, .data⟩ (by simp) rfl _ rfl
        have d126 : T.getD 126 undef = _ := hd ⟨25, .data⟩ (by simp) rfl _ rfl
        clear hag hd
        go_simp
        refine (anchor_any x0 e W hx0 he).mono ?_
        rintro en w' ⟨v', rfl, hown, hb⟩
        exact ⟨_, rfl, hown.mono hJ.size, hJ.trans (hb.mono hJ.size), growN hb⟩
      · refine RStepK.want rfl rfl rfl (by kernel_rfl) (fun v w h => h) fun T W L hag hL hJ hLs hd => ?_   -- 27: 128 := Op.convert 25 9 (Operand.tmp 127)
        have x127 := hd ⟨26, .data⟩ (by simp) rfl _ rfl
        have x127' : W.ownsRow w9.heap.size 5 1 (T.getD 127 undef) 64 (Bs (anchorB x0 e)) := x127
        obtain ⟨A2, d2, e127, _, _, hy2⟩ := byt_own x127' (anchorB_length x0 e)
        rw [anchorB_length] at e127
        have hcv : (convert 25 9 (.slice A2 64 d2)).run Try.prog W = .ok (.string z1) W := by rw [HZ1.out]; exact conv_any hy2 (anchorB_length x0 e)
        have ev : (⟨T, []⟩ : Act).eval (.tmp 127) = .slice A2 64 d2 := e127
        clear hag hd
        refine wp_run (v := .string z1) (w' := W) ?_ ⟨_, rfl, rfl, hJ, World.grownBy.refl _ _⟩
        unfold execOp
        simp only [ev, Sem.run_bind, hcv, Result.andThen_ok, Sem.run_pure]
      · refine RStepK.want rfl rfl rfl (by kernel_rfl) (fun v w h => h) fun T W L hag hL hJ hLs hd => ?_   -- 28: 129 := Op.move (Operand.tmp 0)
        have e0 : T.getD 0 undef = _ := (agree_at hag 0 (by kernel_rfl)).trans rfl
        clear hag hd
        go_simp
        exact ⟨_, rfl, rfl⟩
      · refine RStepK.want rfl rfl rfl (by kernel_rfl) (fun v w h => h) fun T W L hag hL hJ hLs hd => ?_   -- 29: 130 := Op.move (Operand.tmp 1)
        have e1 : T.getD 1 undef = _ := (agree_at hag 1 (by kernel_rfl)).trans rfl
        clear hag hd
        go_simp
        exact ⟨_, rfl, rfl⟩
      · refine RStepK.want rfl rfl rfl (by kernel_rfl) (fun v w h => h) fun T W L hag hL hJ hLs hd => ?_   -- 30: 131 := Op.call { callee := Callee.value (Operand.func 19), args := 
        have d129 : T.getD 129 undef = _ := hd ⟨28, .data⟩ (by simp) rfl _ rfl
        have d130 : T.getD 130 undef = _ := hd ⟨29, .data⟩ (by simp) rfl _ rfl
        clear hag hd
        go_simp
        refine (ranchor_any x0 e W hx0 he).mono ?_
        rintro en w' ⟨v', rfl, hown, hb⟩
        exact ⟨_, rfl, hown.mono hJ.size, hJ.trans (hb.mono hJ.size), growN hb⟩
      · refine RStepK.want rfl rfl rfl (by kernel_rfl) (fun v w h => h) fun T W L hag hL hJ hLs hd => ?_   -- 31: 132 := Op.convert 25 9 (Operand.tmp 131)
        have x131 := hd ⟨30, .data⟩ (by simp) rfl _ rfl
        have x131' : W.ownsRow w9.heap.size 5 1 (T.getD 131 undef) 64 (Bs (anchorB x0 e)) := x131
        obtain ⟨A2, d2, e131, _, _, hy2⟩ := byt_own x131' (anchorB_length x0 e)
        rw [anchorB_length] at e131
        have hcv : (convert 25 9 (.slice A2 64 d2)).run Try.prog W = .ok (.string z1) W := by rw [HZ1.out]; exact conv_any hy2 (anchorB_length x0 e)
        have ev : (⟨T, []⟩ : Act).eval (.tmp 131) = .slice A2 64 d2 := e131
        clear hag hd
        refine wp_run (v := .string z1) (w' := W) ?_ ⟨_, rfl, rfl, hJ, World.grownBy.refl _ _⟩
        unfold execOp
        simp only [ev, Sem.run_bind, hcv, Result.andThen_ok, Sem.run_pure]
      · refine RStepK.want rfl rfl rfl (by kernel_rfl) (fun v w h => h) fun T W L hag hL hJ hLs hd => ?_   -- 32: 133 := Op.binOp BinOp.eql 9 (Operand.tmp 128) (Operand.tmp 132) 9
        have d128 : T.getD 128 undef = _ := hd ⟨27, .data⟩ (by simp) rfl _ rfl
        have d132 : T.getD 132 undef = _ := hd ⟨31, .data⟩ (by simp) rfl _ rfl
        clear hag hd
        go_simp
        exact ⟨_, rfl, rfl⟩
      · refine RStepK.of rfl fun T W L hag hL hJ hLs hd => ?_   -- 33: 134 := Op.pick (Operand.tmp 124) (Operand.tmp 133) (Operand.const (
        have d124 : T.getD 124 undef = _ := hd ⟨23, .data⟩ (by simp) rfl _ rfl
        have d133 : T.getD 133 undef = _ := hd ⟨32, .data⟩ (by simp) rfl _ rfl
        clear hag hd
        go_simp
        exact ⟨_, rfl, rfl⟩
      · refine RStepK.of rfl fun T W L hag hL hJ hLs hd => ?_   -- 34: 135 := Op.move (Operand.tmp 134)
        have d134 : T.getD 134 undef = _ := hd ⟨33, .data⟩ (by simp) rfl _ rfl
        clear hag hd
        go_simp
        exact ⟨_, rfl, rfl⟩
      · refine RStepK.want rfl rfl rfl (by kernel_rfl) (fun v w h => h) fun T W L hag hL hJ hLs hd => ?_   -- 35: 136 := Op.move (Operand.tmp 24)
        have e24 : T.getD 24 undef = _ := (agree_at hag 24 (by kernel_rfl)).trans rfl
        clear hag hd
        go_simp
        exact ⟨_, rfl, rfl⟩
      · refine RStepK.want rfl rfl rfl (by kernel_rfl) (fun v w h => h) fun T W L hag hL hJ hLs hd => ?_   -- 36: 137 := Op.move (Operand.tmp 26)
        have e26 : T.getD 26 undef = _ := (agree_at hag 26 (by kernel_rfl)).trans rfl
        clear hag hd
        go_simp
        exact ⟨_, rfl, rfl⟩
      · refine RStepK.want rfl rfl rfl (by kernel_rfl) (fun v w h => h) fun T W L hag hL hJ hLs hd => ?_   -- 37: 138 := Op.binOp BinOp.eql 22 (Operand.tmp 136) (Operand.tmp 137) 22
        have d136 : T.getD 136 undef = _ := hd ⟨35, .data⟩ (by simp) rfl _ rfl
        have d137 : T.getD 137 undef = _ := hd ⟨36, .data⟩ (by simp) rfl _ rfl
        clear hag hd
        go_simp
        exact ⟨_, rfl, rfl⟩
      · refine RStepK.of rfl fun T W L hag hL hJ hLs hd => ?_   -- 38: 139 := Op.pick (Operand.tmp 135) (Operand.tmp 138) (Operand.const (
        have d135 : T.getD 135 undef = _ := hd ⟨34, .data⟩ (by simp) rfl _ rfl
        have d138 : T.getD 138 undef = _ := hd ⟨37, .data⟩ (by simp) rfl _ rfl
        clear hag hd
        go_simp
        exact ⟨_, rfl, rfl⟩
      · refine RStepK.of rfl fun T W L hag hL hJ hLs hd => ?_   -- 39: 140 := Op.move (Operand.tmp 139)
        have d139 : T.getD 139 undef = _ := hd ⟨38, .data⟩ (by simp) rfl _ rfl
        clear hag hd
        go_simp
        exact ⟨_, rfl, rfl⟩
      · refine RStepK.want rfl rfl rfl (by kernel_rfl) (fun v w h => h) fun T W L hag hL hJ hLs hd => ?_   -- 40: 141 := Op.move (Operand.tmp 25)
        have e25 : T.getD 25 undef = _ := (agree_at hag 25 (by kernel_rfl)).trans rfl
        clear hag hd
        go_simp
        exact ⟨_, rfl, rfl⟩
      · refine RStepK.want rfl rfl rfl (by kernel_rfl) (fun v w h => h) fun T W L hag hL hJ hLs hd => ?_   -- 41: 142 := Op.move (Operand.tmp 27)
        have e27 : T.getD 27 undef = _ := (agree_at hag 27 (by kernel_rfl)).trans rfl
        clear hag hd
        go_simp
        exact ⟨_, rfl, rfl⟩
      · refine RStepK.want rfl rfl rfl (by kernel_rfl) (fun v w h => h) fun T W L hag hL hJ hLs hd => ?_   -- 42: 143 := Op.binOp BinOp.eql 4 (Operand.tmp 141) (Operand.tmp 142) 4
        have d141 : T.getD 141 undef = _ := hd ⟨40, .data⟩ (by simp) rfl _ rfl
        have d142 : T.getD 142 undef = _ := hd ⟨41, .data⟩ (by simp) rfl _ rfl
        clear hag hd
        go_simp
        exact ⟨_, rfl, rfl⟩
      · refine RStepK.of rfl fun T W L hag hL hJ hLs hd => ?_   -- 43: 144 := Op.pick (Operand.tmp 140) (Operand.tmp 143) (Operand.const (
        have d140 : T.getD 140 undef = _ := hd ⟨39, .data⟩ (by simp) rfl _ rfl
        have d143 : T.getD 143 undef = _ := hd ⟨42, .data⟩ (by simp) rfl _ rfl
        clear hag hd
        go_simp
        exact ⟨_, rfl, rfl⟩
      · refine RLastK.of rfl fun T W L hag hLs hL hJ hd => ?_   -- 44: 12 := Op.assign (Operand.tmp 144)
        have d144 : T.getD 144 undef = _ := hd 43 _ (by simp) rfl
        obtain ⟨f, hf, hT⟩ := agree_fn hag
        have h144 := (hf 144).trans d144
        have HJ := Lib.hid hJ
        clear hag hd d144 hJ hf
        rw [hT]
        clear hT
        simp only [List.pop_toArray, List.dropLast_cons_cons, List.dropLast_singleton, List.filterMap_cons, List.filterMap_nil, List.foldl_cons, List.foldl_nil, List.setIfInBounds_toArray, List.set_cons_succ, List.set_cons_zero, h144]
        go_wp2_with fail
        go_ret
        exact ⟨rfl, BEL.out.trans (HJ.out.mono BEL.out.size)⟩

set_option maxRecDepth 100000 in
theorem lifted (os : Os) (started : os.Started) (H : Type) (enc : TypeId × Value → H) :
    ReturnsInHanded {} Try.checked os 3 .any (Rows.recAllSpec.pre6 enc Try.prog Try.f3 Rows.recAllRow.domain false) (Rows.recAllSpec.post enc Try.prog Try.f3 false true false false) := by
  refine returnsInHanded_of_change (C := Try.checked) own started (by kernel_rfl) Try.func3
    (ChangeSpec.witness6 (enc := enc) (C := Try.checked) false ⟨#[], #[.int .u8 0, .int .u32 0, .int .u32 0, .slice none 0 0, .slice none 0 0, .slice none 0 0], []⟩ 8 (by kernel_rfl) (by kernel_rfl) (by kernel_rfl) (by kernel_rfl)) ?_
  intro W base args ds gs before hval0 hW hcnd _
  have hval : ∀ (j : Nat) t v, Try.f3.params[j]? = some t → args[j]? = some v → Value.okWide Try.prog W .any base t v := hval0
  have hW' := hW
  obtain ⟨p, q, hA0, hV, rfl, hfz, hnd⟩ := hW
  have hA : DataW.TrodAll enc Try.prog W 0 (fun _ => true) true Try.f3.params.toList args.toList ds p := hA0
  rw [Try.params3] at hA hval
  obtain ⟨v0, vs0, d0, ds0, p0, q0, hargs, rfl, rfl, h0, r0⟩ := trodAll_cons hA
  obtain ⟨v1, vs1, d1, ds1, p1, q1, rfl, rfl, rfl, h1, r1⟩ := trodAll_cons r0
  obtain ⟨v2, vs2, d2, ds2, p2, q2, rfl, rfl, rfl, h2, r2⟩ := trodAll_cons r1
  obtain ⟨v3, vs3, d3, ds3, p3, q3, rfl, rfl, rfl, h3, r3⟩ := trodAll_cons r2
  obtain ⟨v4, vs4, d4, ds4, p4, q4, rfl, rfl, rfl, h4, r4⟩ := trodAll_cons r3
  obtain ⟨v5, vs5, d5, ds5, p5, q5, rfl, rfl, rfl, h5, r5⟩ := trodAll_cons r4
  obtain ⟨rfl, rfl, rfl⟩ := trodAll_nil r5
  obtain rfl : args = #[v0, v1, v2, v3, v4, v5] := by cases args; simp_all
  obtain ⟨rfl, rfl⟩ := trodVars_none hV
  obtain ⟨x0, rfl, rfl, rfl, wx0⟩ := open_int Try.underlying5 (hval 0 5 v0 rfl rfl) h0
  obtain ⟨x1, rfl, rfl, rfl, wx1⟩ := open_int Try.underlying22 (hval 1 22 v1 rfl rfl) h1
  obtain ⟨x2, rfl, rfl, rfl, wx2⟩ := open_int Try.underlying22 (hval 2 22 v2 rfl rfl) h2
  obtain ⟨a3, len3, cap3, rfl⟩ := okWide_slice Try.underlying23 (hval 3 23 v3 rfl rfl)
  obtain ⟨a4, len4, cap4, rfl⟩ := okWide_slice Try.underlying24 (hval 4 24 v4 rfl rfl)
  obtain ⟨a5, len5, cap5, rfl⟩ := okWide_slice Try.underlying25 (hval 5 25 v5 rfl rfl)
  clear hA0 hval0
  simp only [List.append_nil] at hW'
  have hlt3 : ∀ y ∈ p3, y.block < W.heap.size := fun y hy => by simpa using hW'.lt y (by simp [hy])
  have harg3 : ∀ W' : World, Below W.heap.size W W' → DataW.Trod enc Try.prog W' 0 (fun b => decide (b < W.heap.size)) true 23 (.slice a3 len3 cap3) d3 p3 :=
    fun W' hn => Below.trod laidOut (by kernel_rfl) (of_decide_eq_true (by kernel_rfl)) h3 hn (fun y hy => hlt3 y hy)
  have hlt4 : ∀ y ∈ p4, y.block < W.heap.size := fun y hy => by simpa using hW'.lt y (by simp [hy])
  have harg4 : ∀ W' : World, Below W.heap.size W W' → DataW.Trod enc Try.prog W' 0 (fun b => decide (b < W.heap.size)) true 24 (.slice a4 len4 cap4) d4 p4 :=
    fun W' hn => Below.trod laidOut (by kernel_rfl) (of_decide_eq_true (by kernel_rfl)) h4 hn (fun y hy => hlt4 y hy)
  have hlt5 : ∀ y ∈ p5, y.block < W.heap.size := fun y hy => by simpa using hW'.lt y (by simp [hy])
  have harg5 : ∀ W' : World, Below W.heap.size W W' → DataW.Trod enc Try.prog W' 0 (fun b => decide (b < W.heap.size)) true 25 (.slice a5 len5 cap5) d5 p5 :=
    fun W' hn => Below.trod laidOut (by kernel_rfl) (of_decide_eq_true (by kernel_rfl)) h5 hn (fun y hy => hlt5 y hy)
  obtain ⟨fu3, hf3⟩ := h3
  obtain ⟨A3, l3, c3, e3, hd3, hm3, hy3, hB3⟩ := open_wrs hf3
  simp [Value.cells] at e3
  obtain ⟨rfl, rfl, rfl⟩ := e3
  obtain ⟨fu4, hf4⟩ := h4
  obtain ⟨A4, l4, c4, e4, hd4, hm4, hy4, hB4⟩ := open_txs hf4
  simp [Value.cells] at e4
  obtain ⟨rfl, rfl, rfl⟩ := e4
  obtain ⟨fu5, hf5⟩ := h5
  obtain ⟨A5, l5, c5, e5, hd5, hm5, hy5, hB5⟩ := open_byt hf5
  simp [Value.cells] at e5
  obtain ⟨rfl, rfl, rfl⟩ := e5
  refine (walk x0 x1 x2 a3 l3 cap3 a4 l4 cap4 a5 l5 cap5 W (by have := bounds_u8 wx0; omega) (by have := bounds_u32 wx1; omega) (by have := bounds_u32 wx2; omega) hd3 hm3 hB3 hy3 hd4 hm4 hB4 hy4 hd5 hm5 hB5 hy5).mono fun e W' ⟨he, bel⟩ => ?_
  subst he
  exact ⟨_, rfl, _, _, _, [], _, [], hW', (trodAll_cons_mk (shut_bool Try.underlying4 _) trodAll_mk0), (trodAll_cons_mk (shut_int Try.underlying5 wx0) (trodAll_cons_mk (shut_int Try.underlying22 wx1) (trodAll_cons_mk (shut_int Try.underlying22 wx2) (trodAll_cons_mk (harg3 _ bel) (trodAll_cons_mk (harg4 _ bel) (trodAll_cons_mk (harg5 _ bel) trodAll_mk0)))))), rfl, bel.frame _, fun h => by cases h⟩

theorem over : Rows.recAllRow.holds Try.pinned (OpenSpec.ofChange Rows.recAllSpec) :=
  OpenClaim.holds_of_wide 3 Try.f3 rfl rfl rfl rfl rfl rfl rfl ⟨rfl, rfl, rfl, rfl, rfl⟩ rfl rfl rfl rfl rfl (by kernel_rfl) Try.func3 (by kernel_rfl)
    (of_decide_eq_true (by kernel_rfl)) (by unfold Func.isWrapper; first | (rw [if_pos (by decide +kernel)]; kernel_rfl) | (rw [if_neg (by decide +kernel)]; exact ⟨rfl, rfl⟩))
    (fun os started H enc _ => lifted os started H enc)

theorem proved : Rows.RecAllSaid :=
  over
#print axioms proved
end Go.Proofs.Ytflldlhfeiamnaa.recAll
