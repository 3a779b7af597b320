/- The law InoAll answers true for every input, and leaves its arguments alone. No condition. -/
import Derived.Test.YtcnpepfboapljaaRows
import Derived.Test.YtcnpepfboapljaaUj
import Derived.WalkKit
import Derived.ProofKit
import Derived.OpenShut
namespace Go.Proofs.Ytcnpepfboapljaa.inoAll
open Go.ChangeShapes Go.WideShapes Go.ChangeAt Go.RowKit Go.Joins
set_option linter.unusedVariables false
theorem own : ownKnob Try.prog.godebug = none := by kernel_rfl
theorem laidOut : laidOutB Try.prog = true := by kernel_rfl
structure JLA (w : World) (p q5 q7 : Nat) (l a g tl ta tg : Int) (W : World) : Prop where
  bel : Below p w W
  sz : p < W.heap.size
  at_ : IdAt W p l a g
  a5 : IdAt W q5 tl ta tg
  a7 : IdAt W q7 tl ta tg
theorem JLA.next {w : World} {p q5 q7 : Nat} {l a g tl ta tg : Int} {W W' : World} (h : JLA w p q5 q7 l a g tl ta tg W) (hb : Below W.heap.size W W') : JLA w p q5 q7 l a g tl ta tg W' :=
  ⟨h.bel.trans (hb.mono (Nat.le_of_lt h.sz)), Nat.lt_of_lt_of_le h.sz hb.size, h.at_.below hb, h.a5.below hb, h.a7.below hb⟩
def VLA (p q5 q7 : Nat) (l a g tl ta tg : Int) (m k : Bool) (M : List Int) (i : Nat) (v : Value) (W : World) : Prop :=
  match i with
  | 0 | 2 | 6 | 9 => v = .agg (idA l a g)
  | 1 | 3 => v = .bool m
  | 4 | 5 | 12 | 13 | 14 | 17 | 18 | 19 | 22 | 23 => v = .bool true
  | 8 | 11 => v = .string (strOfNums M)
  | 15 | 16 => v = .agg (idA tl ta tg)
  | 20 | 21 => v = .bool k
  | 7 => W.ownsRow p 5 1 v M.length (Bs M)
  | 10 => W.ownsRow p 5 1 v M.length (Bs M)
  | _ => True
theorem VLA.on {p q5 q7 : Nat} {l a g tl ta tg : Int} {m k : Bool} {M : List Int} {j : Nat} {v : Value} {w w' : World} (h : VLA p q5 q7 l a g tl ta tg m k M j v w) (hs : w.grownBy w' none) : VLA p q5 q7 l a g tl ta tg m k M j v w' := by
  unfold VLA at *
  split <;> try exact h
  · exact World.ownsRow.kept h hs (by cases v.ownBlock <;> simp)
  · exact World.ownsRow.kept h hs (by cases v.ownBlock <;> simp)
  · trivial
set_option maxRecDepth 100000 in
set_option maxHeartbeats 3200000 in
theorem walk (il0 ia0 ig0 : Int) (A1 : Option Addr) (l1 : List Int) (d1 : Nat) (w : World) (hi0 : i64 il0 ∧ i64 ia0 ∧ u32 ig0) (hd1 : l1.length ≤ d1) (hm1 : d1 ≤ 9223372036854775807) (hB1 : AllB l1) (hy1 : Byt w A1 l1) :
    Calls Try.prog 3 #[.agg (idA il0 ia0 ig0), .slice A1 l1.length d1] w fun e w' => e = .returned (.bool true) ∧ Below w.heap.size w w' := by
  obtain ⟨l, a, g, rfl, rfl, rfl⟩ : ∃ l a g, l = il0 ∧ a = ia0 ∧ g = ig0 := ⟨_, _, _, rfl, rfl, rfl⟩
  have H0 := Lib.hid (IdAt.new w l a g)
  have HB0 := Lib.hid (bel1 (w := w) (Obj.cells #[.int .i64 l, .int .i64 a, .int .u32 g] 24))
  have HY := Lib.hid hy1
  by_cases h10 : 10 < l1.length
  · generalize l1.length = n at *
    have h10' : (10 : Int) < (n : Int) := by omega
    go_enter Try.func3, Try.ntmps3
    go_wp2_with fail
    refine (begun_any _).mono ?_
    rintro e w1 ⟨rfl, hb1⟩
    have HB1 := Lib.hid (keepB HB0.out hb1)
    clear hb1
    go_wp2_with fail
    go_ret
    exact ⟨rfl, HB1.out⟩
  · have HT := Lib.hid (fun W h => take_any A1 l1 d1 W hd1 hm1 hB1 h)
    have HRT := Lib.hid (fun W h => rtake_any A1 l1 d1 W hd1 hm1 hB1 h)
    have HM := Lib.hid (fun W => may_any l a g W hi0.1 hi0.2.1 hi0.2.2)
    have HRM := Lib.hid (fun W => rmay_any l a g W)
    have HPUT := Lib.hid (fun W => put_any l a g W hi0.1 hi0.2.1 hi0.2.2)
    have HRPUT := Lib.hid (fun W => rput_any l a g W hi0.1 hi0.2.1 hi0.2.2)
    have hSS : ((strOfNums (putL l a g)).toList == (strOfNums (putL l a g)).toList) = true := by simp
    rw [idV_eq] at HM HRM HPUT HRPUT
    obtain ⟨tl, ta, tg, htv⟩ : ∃ tl ta tg, takeV l1 = idV tl ta tg := by unfold takeV; split; exact ⟨_, _, _, rfl⟩; exact ⟨_, _, _, rfl⟩
    rw [htv] at HT HRT
    have heq := eqlI tl ta tg tl ta tg
    rw [show decide (tl = tl ∧ ta = ta ∧ tg = tg) = true by simp] at heq
    have HEQ : Hid (∀ w, (binOp .eql 24 (.agg (idA tl ta tg)) (.agg (idA tl ta tg))).run Try.prog w = .ok (.bool true) w) := heq
    clear heq htv hy1 hB1 hi0 hd1 hm1
    generalize decide (MayI l a g) = m at *
    generalize decide (Taken l1) = k at *
    generalize putL l a g = M at *
    generalize l1.length = n at *
    have h10' : ¬ (10 : Int) < (n : Int) := by omega
    go_enter Try.func3, Try.ntmps3
    go_wp2_with fail
    refine (begun_any _).mono ?_
    rintro e W1 ⟨rfl, hb1⟩
    have H1 := Lib.hid (H0.out.below hb1)
    have HB1 := Lib.hid (keepB HB0.out hb1)
    clear hb1 H0 HB0
    go_wp2_with fail
    refine (HT.out W1 (HY.out.keep HB1.out)).mono ?_
    rintro e W2 ⟨rfl, hb2⟩
    have H2 := Lib.hid (H1.out.below hb2)
    have HB2 := Lib.hid (keepB HB1.out hb2)
    have HZ2 := Lib.hid (IdAt.new W2 0 0 0)
    have HQ3 := Lib.hid (HZ2.out.set tl ta tg)
    have hb3 : Below W2.heap.size W2 ((W2.alloc (Obj.cells #[.int .i64 0, .int .i64 0, .int .u32 0] 24)).setRow W2.heap.size (idA tl ta tg)) := below_setRow (bel1 _) (Nat.le_refl _) _
    have H3 := Lib.hid (H2.out.below hb3)
    have HB3 := Lib.hid (keepB HB2.out hb3)
    clear hb2 hb3 H1 HB1 H2 HB2 HT
    go_upto_region 6 with (refine wpList_storeI rfl (.tmp 5) (.tmp 17) rfl W2.heap.size rfl tl ta tg rfl 0 0 0 HZ2.out ?_)
    clear HZ2
    generalize (W2.alloc (Obj.cells #[.int .i64 0, .int .i64 0, .int .u32 0] 24)).setRow W2.heap.size (idA tl ta tg) = W3 at *
    generalize W2.heap.size = q5 at *
    go_wp2_with fail
    refine (HRT.out W3 (HY.out.keep HB3.out)).mono ?_
    rintro e W4 ⟨rfl, hb4⟩
    have H4 := Lib.hid (H3.out.below hb4)
    have HQ4 := Lib.hid (IdAt.below HQ3.out hb4)
    have HB4 := Lib.hid (keepB HB3.out hb4)
    have HZ4 := Lib.hid (IdAt.new W4 0 0 0)
    have HR5 := Lib.hid (HZ4.out.set tl ta tg)
    have hb5 : Below W4.heap.size W4 ((W4.alloc (Obj.cells #[.int .i64 0, .int .i64 0, .int .u32 0] 24)).setRow W4.heap.size (idA tl ta tg)) := below_setRow (bel1 _) (Nat.le_refl _) _
    have H5 := Lib.hid (H4.out.below hb5)
    have HQ5 := Lib.hid (HQ4.out.below hb5)
    have HB5 := Lib.hid (keepB HB4.out hb5)
    clear hb4 hb5 H3 HB3 HQ3 H4 HB4 HQ4 HRT
    go_upto_region 7 with (refine wpList_storeI rfl (.tmp 7) (.tmp 22) rfl W4.heap.size rfl tl ta tg rfl 0 0 0 HZ4.out ?_)
    clear HZ4
    generalize (W4.alloc (Obj.cells #[.int .i64 0, .int .i64 0, .int .u32 0] 24)).setRow W4.heap.size (idA tl ta tg) = W5 at *
    generalize W4.heap.size = q7 at *
    have HS5 := Lib.hid (room_lt H5.out)
    generalize hp : w.heap.size = p at *
    have HP := Lib.hid hp
    have hJ1 : JLA w p q5 q7 l a g tl ta tg W5.drew := ⟨HB5.out.drew, HS5.out, H5.out, HQ5.out, HR5.out⟩
    refine wp_region_rgk (VLA p q5 q7 l a g tl ta tg m k M) (fun _ W => JLA w p q5 q7 l a g tl ta tg W) (fun _ w w' => w.grownBy w' none) (by kernel_rfl) (by kernel_rfl) (fun i j v' w' w'' hij hind h hg => h.on hg) hJ1 ?_
    have srefl : ∀ (W : World), W.grownBy W none := fun W => World.grownBy.refl _ _
    clear hJ1 hp HB5 HS5 H5 HQ5 HR5
    simp only [RAll]
    refine ⟨?_, ?_, ?_, ?_, ?_, ?_, ?_, ?_, ?_, ?_, ?_, ?_, ?_, ?_, ?_, ?_, ?_, ?_, ?_, ?_, ?_, ?_, ?_, ?_, ?_⟩
    · refine RStepK.of rfl fun T W L hag hL hJ hLs hd => ?_   -- 0: 24 := Op.load 24 (Operand.tmp 2)
      have e2 : T.getD 2 undef = _ := (agree_at hag 2 (by kernel_rfl)).trans rfl
      refine wp_loadI (.tmp 2) rfl p e2 l a g hJ.at_ ?_
      exact ⟨_, rfl, rfl, hJ, srefl _⟩
    · refine RStepK.of rfl fun T W L hag hL hJ hLs hd => ?_   -- 1: 25 := Op.call { callee := Callee.value (Operand.func 9), args := #
      have d24 : T.getD 24 undef = _ := hd ⟨0, .data⟩ (by simp) rfl _ rfl
      clear hag hd
      go_simp
      refine (HM.out W).mono ?_
      rintro en w' ⟨rfl, hb⟩
      exact ⟨_, rfl, rfl, hJ.next hb, growN hb⟩
    · refine RStepK.of rfl fun T W L hag hL hJ hLs hd => ?_   -- 2: 26 := Op.load 24 (Operand.tmp 2)
      have e2 : T.getD 2 undef = _ := (agree_at hag 2 (by kernel_rfl)).trans rfl
      refine wp_loadI (.tmp 2) rfl p e2 l a g hJ.at_ ?_
      exact ⟨_, rfl, rfl, hJ, srefl _⟩
    · refine RStepK.of rfl fun T W L hag hL hJ hLs hd => ?_   -- 3: 27 := Op.call { callee := Callee.value (Operand.func 10), args := 
      have d26 : T.getD 26 undef = _ := hd ⟨2, .data⟩ (by simp) rfl _ rfl
      clear hag hd
      go_simp
      refine (HRM.out W).mono ?_
      rintro en w' ⟨rfl, hb⟩
      exact ⟨_, rfl, rfl, hJ.next hb, growN hb⟩
    · refine RStepK.of rfl fun T W L hag hL hJ hLs hd => ?_   -- 4: 28 := Op.binOp BinOp.eql 4 (Operand.tmp 25) (Operand.tmp 27) 4
      have d25 : T.getD 25 undef = _ := hd ⟨1, .data⟩ (by simp) rfl _ rfl
      have d27 : T.getD 27 undef = _ := hd ⟨3, .data⟩ (by simp) rfl _ rfl
      clear hag hd
      go_simp
      exact ⟨_, rfl, rfl⟩
    · refine RStepK.of rfl fun T W L hag hL hJ hLs hd => ?_   -- 5: 29 := Op.move (Operand.tmp 28)
      have d28 : T.getD 28 undef = _ := hd ⟨4, .data⟩ (by simp) rfl _ rfl
      clear hag hd
      go_simp
      exact ⟨_, rfl, rfl⟩
    · refine RStepK.want rfl rfl rfl (by kernel_rfl) (fun v w h => h) fun T W L hag hL hJ hLs hd => ?_   -- 6: 30 := Op.load 24 (Operand.tmp 2)
      have e2 : T.getD 2 undef = _ := (agree_at hag 2 (by kernel_rfl)).trans rfl
      refine wp_loadI (.tmp 2) rfl p e2 l a g hJ.at_ ?_
      exact ⟨_, rfl, rfl, hJ, srefl _⟩
    · refine RStepK.want rfl rfl rfl (by kernel_rfl) (fun v w h => h) fun T W L hag hL hJ hLs hd => ?_   -- 7: 31 := Op.call { callee := Callee.value (Operand.func 11), args := 
      have d30 : T.getD 30 undef = _ := hd ⟨6, .data⟩ (by simp) rfl _ rfl
      clear hag hd
      go_simp
      refine (HPUT.out W).mono ?_
      rintro en w' ⟨u, rfl, ho, hb⟩
      exact ⟨_, rfl, World.ownsRow.mono ho (Nat.le_of_lt hJ.sz), hJ.next hb, growN hb⟩
    · refine RStepK.want rfl rfl rfl (by kernel_rfl) (fun v w h => h) fun T W L hag hL hJ hLs hd => ?_   -- 8: 32 := Op.convert 25 9 (Operand.tmp 31)
      have x31 : W.ownsRow p 5 1 (T.getD 31 undef) M.length (Bs M) := hd ⟨7, .data⟩ (by simp) rfl _ rfl
      obtain ⟨A1, d1, (e31 : T.getD 31 undef = _), _, _, hy1⟩ := byt_own x31 rfl
      have cv := conv_any (c := d1) hy1 rfl
      clear hag hd x31
      go_simp
      exact ⟨_, rfl, rfl⟩
    · refine RStepK.want rfl rfl rfl (by kernel_rfl) (fun v w h => h) fun T W L hag hL hJ hLs hd => ?_   -- 9: 33 := Op.load 24 (Operand.tmp 2)
      have e2 : T.getD 2 undef = _ := (agree_at hag 2 (by kernel_rfl)).trans rfl
      refine wp_loadI (.tmp 2) rfl p e2 l a g hJ.at_ ?_
      exact ⟨_, rfl, rfl, hJ, srefl _⟩
    · refine RStepK.want rfl rfl rfl (by kernel_rfl) (fun v w h => h) fun T W L hag hL hJ hLs hd => ?_   -- 10: 34 := Op.call { callee := Callee.value (Operand.func 12), args := 
      have d33 : T.getD 33 undef = _ := hd ⟨9, .data⟩ (by simp) rfl _ rfl
      clear hag hd
      go_simp
      refine (HRPUT.out W).mono ?_
      rintro en w' ⟨u, rfl, ho, hb⟩
      exact ⟨_, rfl, World.ownsRow.mono ho (Nat.le_of_lt hJ.sz), hJ.next hb, growN hb⟩
    · refine RStepK.want rfl rfl rfl (by kernel_rfl) (fun v w h => h) fun T W L hag hL hJ hLs hd => ?_   -- 11: 35 := Op.convert 25 9 (Operand.tmp 34)
      have x34 : W.ownsRow p 5 1 (T.getD 34 undef) M.length (Bs M) := hd ⟨10, .data⟩ (by simp) rfl _ rfl
      obtain ⟨A1, d1, (e34 : T.getD 34 undef = _), _, _, hy1⟩ := byt_own x34 rfl
      have cv := conv_any (c := d1) hy1 rfl
      clear hag hd x34
      go_simp
      exact ⟨_, rfl, rfl⟩
    · refine RStepK.want rfl rfl rfl (by kernel_rfl) (fun v w h => h) fun T W L hag hL hJ hLs hd => ?_   -- 12: 36 := Op.binOp BinOp.eql 9 (Operand.tmp 32) (Operand.tmp 35) 9
      have d32 : T.getD 32 undef = _ := hd ⟨8, .data⟩ (by simp) rfl _ rfl
      have d35 : T.getD 35 undef = _ := hd ⟨11, .data⟩ (by simp) rfl _ rfl
      clear hag hd
      go_simp
      exact ⟨_, rfl, rfl⟩
    · refine RStepK.of rfl fun T W L hag hL hJ hLs hd => ?_   -- 13: 37 := Op.pick (Operand.tmp 29) (Operand.tmp 36) (Operand.const (Va
      have d29 : T.getD 29 undef = _ := hd ⟨5, .data⟩ (by simp) rfl _ rfl
      have d36 : T.getD 36 undef = _ := hd ⟨12, .data⟩ (by simp) rfl _ rfl
      clear hag hd
      go_simp
      exact ⟨_, rfl, rfl⟩
    · refine RStepK.of rfl fun T W L hag hL hJ hLs hd => ?_   -- 14: 38 := Op.move (Operand.tmp 37)
      have d37 : T.getD 37 undef = _ := hd ⟨13, .data⟩ (by simp) rfl _ rfl
      clear hag hd
      go_simp
      exact ⟨_, rfl, rfl⟩
    · refine RStepK.want rfl rfl rfl (by kernel_rfl) (fun v w h => h) fun T W L hag hL hJ hLs hd => ?_   -- 15: 39 := Op.load 24 (Operand.tmp 5)
      have e5 : T.getD 5 undef = _ := (agree_at hag 5 (by kernel_rfl)).trans rfl
      refine wp_loadI (.tmp 5) rfl q5 e5 tl ta tg hJ.a5 ?_
      exact ⟨_, rfl, rfl, hJ, srefl _⟩
    · refine RStepK.want rfl rfl rfl (by kernel_rfl) (fun v w h => h) fun T W L hag hL hJ hLs hd => ?_   -- 16: 40 := Op.load 24 (Operand.tmp 7)
      have e7 : T.getD 7 undef = _ := (agree_at hag 7 (by kernel_rfl)).trans rfl
      refine wp_loadI (.tmp 7) rfl q7 e7 tl ta tg hJ.a7 ?_
      exact ⟨_, rfl, rfl, hJ, srefl _⟩
    · refine RStepK.want rfl rfl rfl (by kernel_rfl) (fun v w h => h) fun T W L hag hL hJ hLs hd => ?_   -- 17: 41 := Op.binOp BinOp.eql 24 (Operand.tmp 39) (Operand.tmp 40) 24
      have d39 : T.getD 39 undef = _ := hd ⟨15, .data⟩ (by simp) rfl _ rfl
      have d40 : T.getD 40 undef = _ := hd ⟨16, .data⟩ (by simp) rfl _ rfl
      have fct0 := HEQ.out
      clear hag hd
      go_simp
      exact ⟨_, rfl, rfl⟩
    · refine RStepK.of rfl fun T W L hag hL hJ hLs hd => ?_   -- 18: 42 := Op.pick (Operand.tmp 38) (Operand.tmp 41) (Operand.const (Va
      have d38 : T.getD 38 undef = _ := hd ⟨14, .data⟩ (by simp) rfl _ rfl
      have d41 : T.getD 41 undef = _ := hd ⟨17, .data⟩ (by simp) rfl _ rfl
      clear hag hd
      go_simp
      exact ⟨_, rfl, rfl⟩
    · refine RStepK.of rfl fun T W L hag hL hJ hLs hd => ?_   -- 19: 43 := Op.move (Operand.tmp 42)
      have d42 : T.getD 42 undef = _ := hd ⟨18, .data⟩ (by simp) rfl _ rfl
      clear hag hd
      go_simp
      exact ⟨_, rfl, rfl⟩
    · refine RStepK.want rfl rfl rfl (by kernel_rfl) (fun v w h => h) fun T W L hag hL hJ hLs hd => ?_   -- 20: 44 := Op.move (Operand.tmp 6)
      have e6 : T.getD 6 undef = _ := (agree_at hag 6 (by kernel_rfl)).trans rfl
      clear hag hd
      go_simp
      exact ⟨_, rfl, rfl⟩
    · refine RStepK.want rfl rfl rfl (by kernel_rfl) (fun v w h => h) fun T W L hag hL hJ hLs hd => ?_   -- 21: 45 := Op.move (Operand.tmp 8)
      have e8 : T.getD 8 undef = _ := (agree_at hag 8 (by kernel_rfl)).trans rfl
      clear hag hd
      go_simp
      exact ⟨_, rfl, rfl⟩
    · refine RStepK.want rfl rfl rfl (by kernel_rfl) (fun v w h => h) fun T W L hag hL hJ hLs hd => ?_   -- 22: 46 := Op.binOp BinOp.eql 4 (Operand.tmp 44) (Operand.tmp 45) 4
      have d44 : T.getD 44 undef = _ := hd ⟨20, .data⟩ (by simp) rfl _ rfl
      have d45 : T.getD 45 undef = _ := hd ⟨21, .data⟩ (by simp) rfl _ rfl
      clear hag hd
      go_simp
      exact ⟨_, rfl, rfl⟩
    · refine RStepK.of rfl fun T W L hag hL hJ hLs hd => ?_   -- 23: 47 := Op.pick (Operand.tmp 43) (Operand.tmp 46) (Operand.const (Va
      have d43 : T.getD 43 undef = _ := hd ⟨19, .data⟩ (by simp) rfl _ rfl
      have d46 : T.getD 46 undef = _ := hd ⟨22, .data⟩ (by simp) rfl _ rfl
      clear hag hd
      go_simp
      exact ⟨_, rfl, rfl⟩
    · refine RLastK.of rfl fun T W L hag hLs hL hJ hd => ?_   -- 24: 4 := Op.assign (Operand.tmp 47)
      have d47 : T.getD 47 undef = _ := hd 23 _ (by simp) rfl
      obtain ⟨f, hf, hT⟩ := agree_fn hag
      have h47 := (hf 47).trans d47
      have HJ := Lib.hid hJ
      clear hag hd d47 hJ hf
      rw [hT]
      clear hT
      simp only [List.pop_toArray, List.dropLast_cons_cons, List.dropLast_singleton, List.filterMap_cons, List.filterMap_nil, List.foldl_cons, List.foldl_nil, List.setIfInBounds_toArray, List.set_cons_succ, List.set_cons_zero, h47]
      go_wp2_with fail
      go_ret
      exact ⟨rfl, by rw [HP.out]; exact HJ.out.bel⟩

set_option maxRecDepth 100000 in
theorem lifted (os : Os) (started : os.Started) (H : Type) (enc : TypeId × Value → H) :
    ReturnsInHanded {} Try.checked os 3 .any (Rows.inoAllSpec.pre6 enc Try.prog Try.f3 Rows.inoAllRow.domain false) (Rows.inoAllSpec.post enc Try.prog Try.f3 false true false false) := by
  refine returnsInHanded_of_change (C := Try.checked) own started (by kernel_rfl) Try.func3
    (ChangeSpec.witness6 (enc := enc) (C := Try.checked) false ⟨#[], #[.agg (idA 0 0 0), .slice none 0 0], []⟩ 8 (by kernel_rfl) (by kernel_rfl) (by kernel_rfl) (by kernel_rfl)) ?_
  intro W base args ds gs before hval0 hW hcnd _
  have hval : ∀ (j : Nat) t v, Try.f3.params[j]? = some t → args[j]? = some v → Value.okWide Try.prog W .any base t v := hval0
  have hW' := hW
  obtain ⟨p, q, hA0, hV, rfl, hfz, hnd⟩ := hW
  have hA : DataW.TrodAll enc Try.prog W 0 (fun _ => true) true Try.f3.params.toList args.toList ds p := hA0
  rw [Try.params3] at hA hval
  obtain ⟨v0, vs0, d0, ds0, p0, q0, hargs, rfl, rfl, h0, r0⟩ := trodAll_cons hA
  obtain ⟨v1, vs1, d1, ds1, p1, q1, rfl, rfl, rfl, h1, r1⟩ := trodAll_cons r0
  obtain ⟨rfl, rfl, rfl⟩ := trodAll_nil r1
  obtain rfl : args = #[v0, v1] := by cases args; simp_all
  obtain ⟨rfl, rfl⟩ := trodVars_none hV
  obtain ⟨cs0, rfl, _⟩ := okWide_struct Try.underlying24 (hval 0 24 v0 rfl rfl)
  obtain ⟨a1, len1, cap1, rfl⟩ := okWide_slice Try.underlying25 (hval 1 25 v1 rfl rfl)
  clear hA0 hval0
  simp only [List.append_nil] at hW'
  have hlt0 : ∀ y ∈ p0, y.block < W.heap.size := fun y hy => by simpa using hW'.lt y (by simp [hy])
  have harg0 : ∀ W' : World, Below W.heap.size W W' → DataW.Trod enc Try.prog W' 0 (fun b => decide (b < W.heap.size)) true 24 (.agg cs0) d0 p0 :=
    fun W' hn => Below.trod laidOut (by kernel_rfl) (of_decide_eq_true (by kernel_rfl)) h0 hn (fun y hy => hlt0 y hy)
  have hlt1 : ∀ y ∈ p1, y.block < W.heap.size := fun y hy => by simpa using hW'.lt y (by simp [hy])
  have harg1 : ∀ W' : World, Below W.heap.size W W' → DataW.Trod enc Try.prog W' 0 (fun b => decide (b < W.heap.size)) true 25 (.slice a1 len1 cap1) d1 p1 :=
    fun W' hn => Below.trod laidOut (by kernel_rfl) (of_decide_eq_true (by kernel_rfl)) h1 hn (fun y hy => hlt1 y hy)
  obtain ⟨fu0, hf0⟩ := h0
  obtain ⟨il0, ia0, ig0, e0, hi0⟩ := open_id hf0
  obtain rfl : cs0 = idA il0 ia0 ig0 := by
    unfold idA; rw [← e0]; simp [Value.cells]
  obtain ⟨fu1, hf1⟩ := h1
  obtain ⟨A1, l1, c1, e1, hd1, hm1, hy1, hB1⟩ := open_byt hf1
  simp [Value.cells] at e1
  obtain ⟨rfl, rfl, rfl⟩ := e1
  refine (walk il0 ia0 ig0 a1 l1 cap1 W hi0 hd1 hm1 hB1 hy1).mono fun e W' ⟨he, bel⟩ => ?_
  subst he
  exact ⟨_, rfl, _, _, _, [], _, [], hW', (trodAll_cons_mk (shut_bool Try.underlying4 _) trodAll_mk0), (trodAll_cons_mk (harg0 _ bel) (trodAll_cons_mk (harg1 _ bel) trodAll_mk0)), rfl, bel.frame _, fun h => by cases h⟩

theorem over : Rows.inoAllRow.holds Try.pinned (OpenSpec.ofChange Rows.inoAllSpec) :=
  OpenClaim.holds_of_wide 3 Try.f3 rfl rfl rfl rfl rfl rfl rfl ⟨rfl, rfl, rfl, rfl, rfl⟩ rfl rfl rfl rfl rfl (by kernel_rfl) Try.func3 (by kernel_rfl)
    (of_decide_eq_true (by kernel_rfl)) (by unfold Func.isWrapper; first | (rw [if_pos (by decide +kernel)]; kernel_rfl) | (rw [if_neg (by decide +kernel)]; exact ⟨rfl, rfl⟩))
    (fun os started H enc _ => lifted os started H enc)

theorem proved : Rows.InoAllSaid :=
  over
#print axioms proved
end Go.Proofs.Ytcnpepfboapljaa.inoAll
