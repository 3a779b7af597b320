/- The law EntryAll answers true for every input, and leaves its arguments alone. No condition. -/
import Derived.Test.YtcmmopngjeonfaaRows
import Derived.Test.YtcmmopngjeonfaaYj
import Derived.WalkKit
import Derived.ProofKit
import Derived.OpenShut
namespace Go.Proofs.Ytcmmopngjeonfaa.entryAll
open Go.ChangeShapes Go.WideShapes Go.ChangeAt Go.RowKit Go.Joins
set_option linter.unusedVariables false
theorem own : ownKnob Try.prog.godebug = none := by kernel_rfl
theorem laidOut : laidOutB Try.prog = true := by kernel_rfl
theorem wp_loadB {o : Oper} {ac : Act} {w : World} {K : Act → World → Prop} {Q : Exit → Act → World → Prop} (x : Operand) (ho : o.op = .load 29 x) (g : Nat) (hx : ac.eval x = .pointer (some ⟨g, 0, none⟩)) (k : Int) (bs : List Int) (h56 : bs.length = 56) (hg : w.heap[g]? = some (.cells (blkA k bs) 29 (0, 0)))
    (h : K (ac.put o.dst (.agg (blkA k bs))) w) : o.wp Try.prog ac w K Q :=
  wp_load_row 29 x ho g hx _ _ _ _ hg Try.underlying29 rfl (by rw [blkA_size h56]; exact size24b) h
theorem wp_eqlB {o : Oper} {a : Act} {w : World} {K : Act → World → Prop} {Q : Exit → Act → World → Prop} (x y : Operand) (t : TypeId) (ho : o.op = .binOp .eql 29 x y t) (k j : Int) (bs cs : List Int) (hx : a.eval x = .agg (blkA k bs)) (hy : a.eval y = .agg (blkA j cs)) (hb : bs.length = 56) (hc : cs.length = 56) (hB : AllB bs) (hC : AllB cs)
    (h : K (a.put o.dst (.bool (decide (k = j ∧ bs = cs)))) w) : o.wp Try.prog a w K Q := by
  have hg := run_eqGuard_agg (P := Try.prog) w .eql 29 x y (blkA k bs) (blkA j cs) guard24
  have hr := run_eql_struct (P := Try.prog) w 29 (blkA k bs) (blkA j cs)
  rw [eql24 k j bs cs hb hc hB hC w] at hr
  unfold Oper.wp execOp
  simp only [ho, hx, hy, Sem.run_bind, hg, hr, Result.andThen_ok]
  exact h
theorem wp_eqlE {o : Oper} {a : Act} {w : World} {K : Act → World → Prop} {Q : Exit → Act → World → Prop} (x y : Operand) (t : TypeId) (ho : o.op = .binOp .eql 26 x y t) (n m : En) (hx : a.eval x = .agg (enA n)) (hy : a.eval y = .agg (enA m)) (hn : EnOk n) (hm : EnOk m)
    (h : K (a.put o.dst (.bool (decide (n = m)))) w) : o.wp Try.prog a w K Q := by
  have hg := run_eqGuard_agg (P := Try.prog) w .eql 26 x y (enA n) (enA m) guardE
  have hr := run_eql_struct (P := Try.prog) w 26 (enA n) (enA m)
  rw [eqlE0 n m hn hm w] at hr
  unfold Oper.wp execOp
  simp only [ho, hx, hy, Sem.run_bind, hg, hr, Result.andThen_ok]
  exact h
structure JLA (w : World) (p a b c d : Nat) (n t : En) (pk : Int) (pb : List Int) (W : World) : Prop where
  bel : Below p w W
  sz : p < W.heap.size
  at_ : EnAt W p n
  ba : W.heap[a]? = some (.cells (blkA pk pb) 29 (0, 0))
  bb : W.heap[b]? = some (.cells (blkA pk pb) 29 (0, 0))
  nc : EnAt W c t
  nd : EnAt W d t
theorem JLA.next {w : World} {p a b c d : Nat} {n t : En} {pk : Int} {pb : List Int} {W W' : World} (h : JLA w p a b c d n t pk pb W) (hb : Below W.heap.size W W') : JLA w p a b c d n t pk pb W' :=
  ⟨h.bel.trans (hb.mono (Nat.le_of_lt h.sz)), Nat.lt_of_lt_of_le h.sz hb.size, h.at_.below hb, kb hb h.ba, kb hb h.bb, h.nc.below hb, h.nd.below hb⟩
def VLA (p a b c d : Nat) (s : List Int) (n t : En) (pk : Int) (pb : List Int) (mn m tk : Bool) (i : Nat) (v : Value) (W : World) : Prop :=
  match i with
  | 0 | 2 => v = .string (strOfNums s)
  | 1 | 3 => v = .bool mn
  | 4 | 5 | 10 | 11 | 12 | 15 | 16 | 17 | 20 | 21 | 22 | 25 | 26 | 27 | 30 | 31 => v = .bool true
  | 6 | 8 => v = .agg (enA n)
  | 7 | 9 | 18 | 19 => v = .bool m
  | 13 | 14 => v = .agg (blkA pk pb)
  | 23 | 24 => v = .agg (enA t)
  | 28 | 29 => v = .bool tk
  | _ => True
set_option maxRecDepth 100000 in
set_option maxHeartbeats 6400000 in
theorem walk (n0 : En) (s1 : List Int) (k2 : Int) (g2 : List Int) (w : World) (hn0 : EnOk n0) (hs1 : AllB s1) (hk2 : i64 k2) (hL2 : g2.length = 56) (hB2 : AllB g2) :
    Calls Try.prog 3 #[.agg (enA n0), .string (strOfNums s1), .agg (blkA k2 g2)] w fun e w' => e = .returned (.bool true) ∧ Below w.heap.size w w' := by
  obtain ⟨n, rfl⟩ : ∃ n, n = n0 := ⟨_, rfl⟩
  obtain ⟨s, rfl⟩ : ∃ s, s = s1 := ⟨_, rfl⟩
  have HN0 : Hid (EnAt ((w.alloc (Obj.cells (enA n) 26)).alloc (Obj.cells (blkA k2 g2) 29)) w.heap.size n) := (EnAt.new w n).alloc _
  have HG0 : Hid (((w.alloc (Obj.cells (enA n) 26)).alloc (Obj.cells (blkA k2 g2) 29)).heap[w.heap.size + 1]? = some (.cells (blkA k2 g2) 29 (0, 0))) := by
    have h := heap_alloc_new (w.alloc (Obj.cells (enA n) 26)) (Obj.cells (blkA k2 g2) 29)
    rw [size_alloc'] at h
    exact h
  have HB0 : Hid (Below w.heap.size w ((w.alloc (Obj.cells (enA n) 26)).alloc (Obj.cells (blkA k2 g2) 29))) := by
    have B1 := bel1 (w := w) (Obj.cells (enA n) 26)
    exact B1.alloc B1.size _
  have HSZ := Lib.hid (strOfNums_size n.t)
  have HSS := Lib.hid (strOfNums_size s)
  go_enter Try.func3, Try.ntmps3
  go_upto_region 1 with fail
  generalize (w.alloc (Obj.cells (enA n) 26)).alloc (Obj.cells (blkA k2 g2) 29) = W0 at *
  go_wp2_with fail
  refine (ebegun_any _).mono ?_; rintro e W1 ⟨rfl, hb1⟩
  have HN1 := Lib.hid (HN0.out.below hb1)
  have HG1 := Lib.hid (kb hb1 HG0.out)
  have HB1 := Lib.hid (HB0.out.trans (hb1.mono HB0.out.size))
  clear hb1 HN0 HG0 HB0
  go_upto_region 3 with fail
  have c8 := HN1.out.cells.1
  by_cases h60 : 30 < n.t.length
  · have h60' : (30 : Int) < ((strOfNums n.t).size : Int) := by rw [HSZ.out]; omega
    clear h60
    go_wp2_with fail
    go_ret
    exact ⟨rfl, HB1.out⟩
  by_cases h61 : 30 < s.length
  · have h60' : ¬ (30 : Int) < ((strOfNums n.t).size : Int) := by rw [HSZ.out]; omega
    have h61' : (30 : Int) < ((strOfNums s).size : Int) := by rw [HSS.out]; omega
    clear h60 h61
    go_wp2_with fail
    go_ret
    exact ⟨rfl, HB1.out⟩
  · have h60' : ¬ (30 : Int) < ((strOfNums n.t).size : Int) := by rw [HSZ.out]; omega
    have h61' : ¬ (30 : Int) < ((strOfNums s).size : Int) := by rw [HSS.out]; omega
    have HPUT := Lib.hid (fun W => enput_any n W hn0)
    have HRPUT := Lib.hid (fun W => renput_any n W hn0 (by omega))
    have HM := Lib.hid (fun W => enmay_any n W hn0)
    have HRM := Lib.hid (fun W => renmay_any n W hn0 (by omega))
    have HMN := Lib.hid (fun W => mayname_any s W hs1)
    have HRMN := Lib.hid (fun W => rmayname_any s W hs1 (by omega))
    have HT := Lib.hid (fun W => entake_any k2 g2 W hk2 hL2 hB2)
    have HRT := Lib.hid (fun W => rentake_any k2 g2 W hk2 hL2 hB2)
    have HL : Hid ((putEB n).length = 56) := putEB_len
    have HLB : Hid (AllB (putEB n)) := putEB_allB hn0.t
    have HTO : Hid (EnOk (takeE k2 g2)) := takeE_ok hL2 hB2
    have HGL := Lib.hid hL2
    clear h60 h61 hk2 hL2 hB2 hn0 hs1
    generalize decide (MayE n) = m at *
    generalize decide (NmM s) = mn at *
    generalize decide (ETaken k2 g2) = tk at *
    generalize putEB n = pb at *
    generalize putEK n = pk at *
    generalize takeE k2 g2 = t at *
    go_wp2_with (refine wpList_loadE rfl (.tmp 3) rfl w.heap.size rfl n HN1.out ?_)
    clear c8 h60' h61'
    refine (HPUT.out _).mono ?_; rintro e X2 ⟨rfl, hb⟩
    have hz := heap_alloc_new X2 (Obj.cells (blkA 0 zBs) 29)
    have b2 : Below X2.heap.size X2 ((X2.alloc (Obj.cells (blkA 0 zBs) 29)).setRow X2.heap.size (blkA pk pb)) := below_setRow (bel1 _) (Nat.le_refl _) _
    have HQ7 := Lib.hid (setRow_blk (D := blkA pk pb) hz)
    have HS := HB1.out.size
    have HN2 := Lib.hid ((HN1.out.below hb).below b2)
    have HG2 := Lib.hid (kb b2 (kb hb HG1.out))
    have HB2 := Lib.hid ((HB1.out.trans (hb.mono HS)).trans (b2.mono (Nat.le_trans HS hb.size)))
    clear hb b2 HS HN1 HG1 HB1 
    go_upto_region 6 with (first
      | (refine wpList_allocB rfl rfl ?_)
      | (refine wpList_storeB rfl (.tmp 7) (.tmp 29) rfl X2.heap.size rfl pk 0 pb zBs rfl HL.out zBs_len hz ?_))
    clear hz
    generalize (X2.alloc (Obj.cells (blkA 0 zBs) 29)).setRow X2.heap.size (blkA pk pb) = Y2 at *
    generalize X2.heap.size = q7 at *
    go_wp2_with (refine wpList_loadE rfl (.tmp 3) rfl w.heap.size rfl n HN2.out ?_)
    refine (HRPUT.out _).mono ?_; rintro e X3 ⟨rfl, hb⟩
    have hz := heap_alloc_new X3 (Obj.cells (blkA 0 zBs) 29)
    have b2 : Below X3.heap.size X3 ((X3.alloc (Obj.cells (blkA 0 zBs) 29)).setRow X3.heap.size (blkA pk pb)) := below_setRow (bel1 _) (Nat.le_refl _) _
    have HQ9 := Lib.hid (setRow_blk (D := blkA pk pb) hz)
    have HS := HB2.out.size
    have HN3 := Lib.hid ((HN2.out.below hb).below b2)
    have HG3 := Lib.hid (kb b2 (kb hb HG2.out))
    have HB3 := Lib.hid ((HB2.out.trans (hb.mono HS)).trans (b2.mono (Nat.le_trans HS hb.size)))
    have HQ7' := Lib.hid (kb b2 (kb hb HQ7.out))
    clear hb b2 HS HN2 HG2 HB2 HQ7
    have HQ7 := HQ7'
    clear HQ7'
    go_upto_region 7 with (first
      | (refine wpList_allocB rfl rfl ?_)
      | (refine wpList_storeB rfl (.tmp 9) (.tmp 34) rfl X3.heap.size rfl pk 0 pb zBs rfl HL.out zBs_len hz ?_))
    clear hz
    generalize (X3.alloc (Obj.cells (blkA 0 zBs) 29)).setRow X3.heap.size (blkA pk pb) = Y3 at *
    generalize X3.heap.size = q9 at *
    go_wp2_with (refine wpList_loadB rfl (.tmp 5) rfl (w.heap.size + 1) rfl k2 g2 HGL.out HG3.out ?_)
    refine (HT.out _).mono ?_; rintro e X4 ⟨rfl, hb⟩
    have hz := EnAt.new X4 en0
    have b2 : Below X4.heap.size X4 ((X4.alloc (Obj.cells (enA en0) 26)).setRow X4.heap.size (enA t)) := below_setRow (bel1 _) (Nat.le_refl _) _
    have HQ11 := Lib.hid (hz.set t)
    have HS := HB3.out.size
    have HN4 := Lib.hid ((HN3.out.below hb).below b2)
    have HG4 := Lib.hid (kb b2 (kb hb HG3.out))
    have HB4 := Lib.hid ((HB3.out.trans (hb.mono HS)).trans (b2.mono (Nat.le_trans HS hb.size)))
    have HQ7' := Lib.hid (kb b2 (kb hb HQ7.out))
    have HQ9' := Lib.hid (kb b2 (kb hb HQ9.out))
    clear hb b2 HS HN3 HG3 HB3 HQ7 HQ9
    have HQ7 := HQ7'
    clear HQ7'
    have HQ9 := HQ9'
    clear HQ9'
    go_upto_region 8 with (first
      | (refine wpList_allocE rfl rfl ?_)
      | (refine wpList_storeE rfl (.tmp 11) (.tmp 39) rfl X4.heap.size rfl t en0 rfl hz ?_))
    clear hz
    generalize (X4.alloc (Obj.cells (enA en0) 26)).setRow X4.heap.size (enA t) = Y4 at *
    generalize X4.heap.size = q11 at *
    go_wp2_with (refine wpList_loadB rfl (.tmp 5) rfl (w.heap.size + 1) rfl k2 g2 HGL.out HG4.out ?_)
    refine (HRT.out _).mono ?_; rintro e X5 ⟨rfl, hb⟩
    have hz := EnAt.new X5 en0
    have b2 : Below X5.heap.size X5 ((X5.alloc (Obj.cells (enA en0) 26)).setRow X5.heap.size (enA t)) := below_setRow (bel1 _) (Nat.le_refl _) _
    have HQ13 := Lib.hid (hz.set t)
    have HS := HB4.out.size
    have HN5 := Lib.hid ((HN4.out.below hb).below b2)
    have HG5 := Lib.hid (kb b2 (kb hb HG4.out))
    have HB5 := Lib.hid ((HB4.out.trans (hb.mono HS)).trans (b2.mono (Nat.le_trans HS hb.size)))
    have HQ7' := Lib.hid (kb b2 (kb hb HQ7.out))
    have HQ9' := Lib.hid (kb b2 (kb hb HQ9.out))
    have HQ11' := Lib.hid ((EnAt.below HQ11.out hb).below b2)
    clear hb b2 HS HN4 HG4 HB4 HQ7 HQ9 HQ11
    have HQ7 := HQ7'
    clear HQ7'
    have HQ9 := HQ9'
    clear HQ9'
    have HQ11 := HQ11'
    clear HQ11'
    go_upto_region 9 with (first
      | (refine wpList_allocE rfl rfl ?_)
      | (refine wpList_storeE rfl (.tmp 13) (.tmp 44) rfl X5.heap.size rfl t en0 rfl hz ?_))
    clear hz
    generalize (X5.alloc (Obj.cells (enA en0) 26)).setRow X5.heap.size (enA t) = Y5 at *
    generalize X5.heap.size = q13 at *
    have HS5 := Lib.hid (room_lt HN5.out)
    generalize hp : w.heap.size = p at *
    have HP := Lib.hid hp
    have hJ1 : JLA w p q7 q9 q11 q13 n t pk pb Y5.drew := ⟨HB5.out.drew, HS5.out, HN5.out, HQ7.out, HQ9.out, HQ11.out, HQ13.out⟩
    refine wp_region_rgk (VLA p q7 q9 q11 q13 s n t pk pb mn m tk) (fun _ W => JLA w p q7 q9 q11 q13 n t pk pb W) (fun _ w w' => w.grownBy w' none) (by kernel_rfl) (by kernel_rfl) (fun i j v' w' w'' hij hind h hg => h) hJ1 ?_
    have srefl : ∀ (W : World), W.grownBy W none := fun W => World.grownBy.refl _ _
    clear hJ1 hp HB5 HS5 HN5 HG5 HQ7 HQ9 HQ11 HQ13
    simp only [RAll]
    refine ⟨?_, ?_, ?_, ?_, ?_, ?_, ?_, ?_, ?_, ?_, ?_, ?_, ?_, ?_, ?_, ?_, ?_, ?_, ?_, ?_, ?_, ?_, ?_, ?_, ?_, ?_, ?_, ?_, ?_, ?_, ?_, ?_, ?_⟩
    · refine RStepK.of rfl fun T W L hag hL hJ hLs hd => ?_   -- 0: 46 := Op.move (Operand.tmp 1)
      have e1 : T.getD 1 undef = _ := (agree_at hag 1 (by kernel_rfl)).trans rfl
      clear hag hd
      go_simp
      exact ⟨_, rfl, rfl⟩
    · refine RStepK.of rfl fun T W L hag hL hJ hLs hd => ?_   -- 1: 47 := Op.call { callee := Callee.value (Operand.func 11), args := 
      have d46 : T.getD 46 undef = _ := hd ⟨0, .data⟩ (by simp) rfl _ rfl
      clear hag hd
      go_simp
      refine (HMN.out W).mono ?_
      rintro en w' ⟨rfl, rfl⟩
      exact ⟨_, rfl, rfl, hJ, srefl _⟩
    · refine RStepK.of rfl fun T W L hag hL hJ hLs hd => ?_   -- 2: 48 := Op.move (Operand.tmp 1)
      have e1 : T.getD 1 undef = _ := (agree_at hag 1 (by kernel_rfl)).trans rfl
      clear hag hd
      go_simp
      exact ⟨_, rfl, rfl⟩
    · refine RStepK.of rfl fun T W L hag hL hJ hLs hd => ?_   -- 3: 49 := Op.call { callee := Callee.value (Operand.func 12), args := 
      have d48 : T.getD 48 undef = _ := hd ⟨2, .data⟩ (by simp) rfl _ rfl
      clear hag hd
      go_simp
      refine (HRMN.out W).mono ?_
      rintro en w' ⟨rfl, rfl⟩
      exact ⟨_, rfl, rfl, hJ, srefl _⟩
    · refine RStepK.of rfl fun T W L hag hL hJ hLs hd => ?_   -- 4: 50 := Op.binOp BinOp.eql 4 (Operand.tmp 47) (Operand.tmp 49) 4
      have d47 : T.getD 47 undef = _ := hd ⟨1, .data⟩ (by simp) rfl _ rfl
      have d49 : T.getD 49 undef = _ := hd ⟨3, .data⟩ (by simp) rfl _ rfl
      clear hag hd
      go_simp
      exact ⟨_, rfl, rfl⟩
    · refine RStepK.of rfl fun T W L hag hL hJ hLs hd => ?_   -- 5: 51 := Op.move (Operand.tmp 50)
      have d50 : T.getD 50 undef = _ := hd ⟨4, .data⟩ (by simp) rfl _ rfl
      clear hag hd
      go_simp
      exact ⟨_, rfl, rfl⟩
    · refine RStepK.want rfl rfl rfl (by kernel_rfl) (fun v w h => h) fun T W L hag hL hJ hLs hd => ?_   -- 6: 52 := Op.load 26 (Operand.tmp 3)
      have e3 : T.getD 3 undef = _ := (agree_at hag 3 (by kernel_rfl)).trans rfl
      refine wp_loadE (.tmp 3) rfl p e3 n hJ.at_ ?_
      exact ⟨_, rfl, rfl, hJ, srefl _⟩
    · refine RStepK.want rfl rfl rfl (by kernel_rfl) (fun v w h => h) fun T W L hag hL hJ hLs hd => ?_   -- 7: 53 := Op.call { callee := Callee.value (Operand.func 13), args := 
      have d52 : T.getD 52 undef = _ := hd ⟨6, .data⟩ (by simp) rfl _ rfl
      clear hag hd
      go_simp
      refine (HM.out W).mono ?_
      rintro en w' ⟨rfl, hb⟩
      exact ⟨_, rfl, rfl, hJ.next hb, growN hb⟩
    · refine RStepK.want rfl rfl rfl (by kernel_rfl) (fun v w h => h) fun T W L hag hL hJ hLs hd => ?_   -- 8: 54 := Op.load 26 (Operand.tmp 3)
      have e3 : T.getD 3 undef = _ := (agree_at hag 3 (by kernel_rfl)).trans rfl
      refine wp_loadE (.tmp 3) rfl p e3 n hJ.at_ ?_
      exact ⟨_, rfl, rfl, hJ, srefl _⟩
    · refine RStepK.want rfl rfl rfl (by kernel_rfl) (fun v w h => h) fun T W L hag hL hJ hLs hd => ?_   -- 9: 55 := Op.call { callee := Callee.value (Operand.func 14), args := 
      have d54 : T.getD 54 undef = _ := hd ⟨8, .data⟩ (by simp) rfl _ rfl
      clear hag hd
      go_simp
      refine (HRM.out W).mono ?_
      rintro en w' ⟨rfl, hb⟩
      exact ⟨_, rfl, rfl, hJ.next hb, growN hb⟩
    · refine RStepK.want rfl rfl rfl (by kernel_rfl) (fun v w h => h) fun T W L hag hL hJ hLs hd => ?_   -- 10: 56 := Op.binOp BinOp.eql 4 (Operand.tmp 53) (Operand.tmp 55) 4
      have d53 : T.getD 53 undef = _ := hd ⟨7, .data⟩ (by simp) rfl _ rfl
      have d55 : T.getD 55 undef = _ := hd ⟨9, .data⟩ (by simp) rfl _ rfl
      clear hag hd
      go_simp
      exact ⟨_, rfl, rfl⟩
    · refine RStepK.of rfl fun T W L hag hL hJ hLs hd => ?_   -- 11: 57 := Op.pick (Operand.tmp 51) (Operand.tmp 56) (Operand.const (Va
      have d51 : T.getD 51 undef = _ := hd ⟨5, .data⟩ (by simp) rfl _ rfl
      have d56 : T.getD 56 undef = _ := hd ⟨10, .data⟩ (by simp) rfl _ rfl
      clear hag hd
      go_simp
      exact ⟨_, rfl, rfl⟩
    · refine RStepK.of rfl fun T W L hag hL hJ hLs hd => ?_   -- 12: 58 := Op.move (Operand.tmp 57)
      have d57 : T.getD 57 undef = _ := hd ⟨11, .data⟩ (by simp) rfl _ rfl
      clear hag hd
      go_simp
      exact ⟨_, rfl, rfl⟩
    · refine RStepK.want rfl rfl rfl (by kernel_rfl) (fun v w h => h) fun T W L hag hL hJ hLs hd => ?_   -- 13: 59 := Op.load 29 (Operand.tmp 7)
      have e7 : T.getD 7 undef = _ := (agree_at hag 7 (by kernel_rfl)).trans rfl
      refine wp_loadB (.tmp 7) rfl q7 e7 pk pb HL.out hJ.ba ?_
      exact ⟨_, rfl, rfl, hJ, srefl _⟩
    · refine RStepK.want rfl rfl rfl (by kernel_rfl) (fun v w h => h) fun T W L hag hL hJ hLs hd => ?_   -- 14: 60 := Op.load 29 (Operand.tmp 9)
      have e9 : T.getD 9 undef = _ := (agree_at hag 9 (by kernel_rfl)).trans rfl
      refine wp_loadB (.tmp 9) rfl q9 e9 pk pb HL.out hJ.bb ?_
      exact ⟨_, rfl, rfl, hJ, srefl _⟩
    · refine RStepK.want rfl rfl rfl (by kernel_rfl) (fun v w h => h) fun T W L hag hL hJ hLs hd => ?_   -- 15: 61 := Op.binOp BinOp.eql 29 (Operand.tmp 59) (Operand.tmp 60) 29
      have d59 : T.getD 59 undef = _ := hd ⟨13, .data⟩ (by simp) rfl _ rfl
      have d60 : T.getD 60 undef = _ := hd ⟨14, .data⟩ (by simp) rfl _ rfl
      refine wp_eqlB (.tmp 59) (.tmp 60) _ rfl pk pk pb pb d59 d60 HL.out HL.out HLB.out HLB.out ?_
      rw [show decide (pk = pk ∧ pb = pb) = true by simp]
      exact ⟨_, rfl, rfl, hJ, srefl _⟩
    · refine RStepK.of rfl fun T W L hag hL hJ hLs hd => ?_   -- 16: 62 := Op.pick (Operand.tmp 58) (Operand.tmp 61) (Operand.const (Va
      have d58 : T.getD 58 undef = _ := hd ⟨12, .data⟩ (by simp) rfl _ rfl
      have d61 : T.getD 61 undef = _ := hd ⟨15, .data⟩ (by simp) rfl _ rfl
      clear hag hd
      go_simp
      exact ⟨_, rfl, rfl⟩
    · refine RStepK.of rfl fun T W L hag hL hJ hLs hd => ?_   -- 17: 63 := Op.move (Operand.tmp 62)
      have d62 : T.getD 62 undef = _ := hd ⟨16, .data⟩ (by simp) rfl _ rfl
      clear hag hd
      go_simp
      exact ⟨_, rfl, rfl⟩
    · refine RStepK.want rfl rfl rfl (by kernel_rfl) (fun v w h => h) fun T W L hag hL hJ hLs hd => ?_   -- 18: 64 := Op.move (Operand.tmp 8)
      have e8 : T.getD 8 undef = _ := (agree_at hag 8 (by kernel_rfl)).trans rfl
      clear hag hd
      go_simp
      exact ⟨_, rfl, rfl⟩
    · refine RStepK.want rfl rfl rfl (by kernel_rfl) (fun v w h => h) fun T W L hag hL hJ hLs hd => ?_   -- 19: 65 := Op.move (Operand.tmp 10)
      have e10 : T.getD 10 undef = _ := (agree_at hag 10 (by kernel_rfl)).trans rfl
      clear hag hd
      go_simp
      exact ⟨_, rfl, rfl⟩
    · refine RStepK.want rfl rfl rfl (by kernel_rfl) (fun v w h => h) fun T W L hag hL hJ hLs hd => ?_   -- 20: 66 := Op.binOp BinOp.eql 4 (Operand.tmp 64) (Operand.tmp 65) 4
      have d64 : T.getD 64 undef = _ := hd ⟨18, .data⟩ (by simp) rfl _ rfl
      have d65 : T.getD 65 undef = _ := hd ⟨19, .data⟩ (by simp) rfl _ rfl
      clear hag hd
      go_simp
      exact ⟨_, rfl, rfl⟩
    · refine RStepK.of rfl fun T W L hag hL hJ hLs hd => ?_   -- 21: 67 := Op.pick (Operand.tmp 63) (Operand.tmp 66) (Operand.const (Va
      have d63 : T.getD 63 undef = _ := hd ⟨17, .data⟩ (by simp) rfl _ rfl
      have d66 : T.getD 66 undef = _ := hd ⟨20, .data⟩ (by simp) rfl _ rfl
      clear hag hd
      go_simp
      exact ⟨_, rfl, rfl⟩
    · refine RStepK.of rfl fun T W L hag hL hJ hLs hd => ?_   -- 22: 68 := Op.move (Operand.tmp 67)
      have d67 : T.getD 67 undef = _ := hd ⟨21, .data⟩ (by simp) rfl _ rfl
      clear hag hd
      go_simp
      exact ⟨_, rfl, rfl⟩
    · refine RStepK.want rfl rfl rfl (by kernel_rfl) (fun v w h => h) fun T W L hag hL hJ hLs hd => ?_   -- 23: 69 := Op.load 26 (Operand.tmp 11)
      have e11 : T.getD 11 undef = _ := (agree_at hag 11 (by kernel_rfl)).trans rfl
      refine wp_loadE (.tmp 11) rfl q11 e11 t hJ.nc ?_
      exact ⟨_, rfl, rfl, hJ, srefl _⟩
    · refine RStepK.want rfl rfl rfl (by kernel_rfl) (fun v w h => h) fun T W L hag hL hJ hLs hd => ?_   -- 24: 70 := Op.load 26 (Operand.tmp 13)
      have e13 : T.getD 13 undef = _ := (agree_at hag 13 (by kernel_rfl)).trans rfl
      refine wp_loadE (.tmp 13) rfl q13 e13 t hJ.nd ?_
      exact ⟨_, rfl, rfl, hJ, srefl _⟩
    · refine RStepK.want rfl rfl rfl (by kernel_rfl) (fun v w h => h) fun T W L hag hL hJ hLs hd => ?_   -- 25: 71 := Op.binOp BinOp.eql 26 (Operand.tmp 69) (Operand.tmp 70) 26
      have d69 : T.getD 69 undef = _ := hd ⟨23, .data⟩ (by simp) rfl _ rfl
      have d70 : T.getD 70 undef = _ := hd ⟨24, .data⟩ (by simp) rfl _ rfl
      refine wp_eqlE (.tmp 69) (.tmp 70) _ rfl t t d69 d70 HTO.out HTO.out ?_
      rw [show decide (t = t) = true by simp]
      exact ⟨_, rfl, rfl, hJ, srefl _⟩
    · refine RStepK.of rfl fun T W L hag hL hJ hLs hd => ?_   -- 26: 72 := Op.pick (Operand.tmp 68) (Operand.tmp 71) (Operand.const (Va
      have d68 : T.getD 68 undef = _ := hd ⟨22, .data⟩ (by simp) rfl _ rfl
      have d71 : T.getD 71 undef = _ := hd ⟨25, .data⟩ (by simp) rfl _ rfl
      clear hag hd
      go_simp
      exact ⟨_, rfl, rfl⟩
    · refine RStepK.of rfl fun T W L hag hL hJ hLs hd => ?_   -- 27: 73 := Op.move (Operand.tmp 72)
      have d72 : T.getD 72 undef = _ := hd ⟨26, .data⟩ (by simp) rfl _ rfl
      clear hag hd
      go_simp
      exact ⟨_, rfl, rfl⟩
    · refine RStepK.want rfl rfl rfl (by kernel_rfl) (fun v w h => h) fun T W L hag hL hJ hLs hd => ?_   -- 28: 74 := Op.move (Operand.tmp 12)
      have e12 : T.getD 12 undef = _ := (agree_at hag 12 (by kernel_rfl)).trans rfl
      clear hag hd
      go_simp
      exact ⟨_, rfl, rfl⟩
    · refine RStepK.want rfl rfl rfl (by kernel_rfl) (fun v w h => h) fun T W L hag hL hJ hLs hd => ?_   -- 29: 75 := Op.move (Operand.tmp 14)
      have e14 : T.getD 14 undef = _ := (agree_at hag 14 (by kernel_rfl)).trans rfl
      clear hag hd
      go_simp
      exact ⟨_, rfl, rfl⟩
    · refine RStepK.want rfl rfl rfl (by kernel_rfl) (fun v w h => h) fun T W L hag hL hJ hLs hd => ?_   -- 30: 76 := Op.binOp BinOp.eql 4 (Operand.tmp 74) (Operand.tmp 75) 4
      have d74 : T.getD 74 undef = _ := hd ⟨28, .data⟩ (by simp) rfl _ rfl
      have d75 : T.getD 75 undef = _ := hd ⟨29, .data⟩ (by simp) rfl _ rfl
      clear hag hd
      go_simp
      exact ⟨_, rfl, rfl⟩
    · refine RStepK.of rfl fun T W L hag hL hJ hLs hd => ?_   -- 31: 77 := Op.pick (Operand.tmp 73) (Operand.tmp 76) (Operand.const (Va
      have d73 : T.getD 73 undef = _ := hd ⟨27, .data⟩ (by simp) rfl _ rfl
      have d76 : T.getD 76 undef = _ := hd ⟨30, .data⟩ (by simp) rfl _ rfl
      clear hag hd
      go_simp
      exact ⟨_, rfl, rfl⟩
    · refine RLastK.of rfl fun T W L hag hLs hL hJ hd => ?_   -- 32: 6 := Op.assign (Operand.tmp 77)
      have d77 : T.getD 77 undef = _ := hd 31 _ (by simp) rfl
      obtain ⟨f, hf, hT⟩ := agree_fn hag
      have h77 := (hf 77).trans d77
      have HJ := Lib.hid hJ
      clear hag hd d77 hJ hf
      rw [hT]
      clear hT
      simp only [List.pop_toArray, List.dropLast_cons_cons, List.dropLast_singleton, List.filterMap_cons, List.filterMap_nil, List.foldl_cons, List.foldl_nil, List.setIfInBounds_toArray, List.set_cons_succ, List.set_cons_zero, h77]
      go_wp2_with fail
      go_ret
      exact ⟨rfl, by rw [HP.out]; exact HJ.out.bel⟩

set_option maxRecDepth 100000 in
theorem lifted (os : Os) (started : os.Started) (H : Type) (enc : TypeId × Value → H) :
    ReturnsInHanded {} Try.checked os 3 .any (Rows.entryAllSpec.pre6 enc Try.prog Try.f3 Rows.entryAllRow.domain false) (Rows.entryAllSpec.post enc Try.prog Try.f3 false true false false) := by
  refine returnsInHanded_of_change (C := Try.checked) own started (by kernel_rfl) Try.func3
    (ChangeSpec.witness6 (enc := enc) (C := Try.checked) false ⟨#[], #[.agg (enA en0), .string (strOfNums []), .agg (blkA 0 zBs)], []⟩ 8 (by kernel_rfl) (by kernel_rfl) (by kernel_rfl) (by kernel_rfl)) ?_
  intro W base args ds gs before hval0 hW hcnd _
  have hval : ∀ (j : Nat) t v, Try.f3.params[j]? = some t → args[j]? = some v → Value.okWide Try.prog W .any base t v := hval0
  have hW' := hW
  obtain ⟨p, q, hA0, hV, rfl, hfz, hnd⟩ := hW
  have hA : DataW.TrodAll enc Try.prog W 0 (fun _ => true) true Try.f3.params.toList args.toList ds p := hA0
  rw [Try.params3] at hA hval
  obtain ⟨v0, vs0, d0, ds0, p0, q0, hargs, rfl, rfl, h0, r0⟩ := trodAll_cons hA
  obtain ⟨v1, vs1, d1, ds1, p1, q1, rfl, rfl, rfl, h1, r1⟩ := trodAll_cons r0
  obtain ⟨v2, vs2, d2, ds2, p2, q2, rfl, rfl, rfl, h2, r2⟩ := trodAll_cons r1
  obtain ⟨rfl, rfl, rfl⟩ := trodAll_nil r2
  obtain rfl : args = #[v0, v1, v2] := by cases args; simp_all
  obtain ⟨rfl, rfl⟩ := trodVars_none hV
  obtain ⟨cs0, rfl, _⟩ := okWide_struct Try.underlying26 (hval 0 26 v0 rfl rfl)
  obtain ⟨st1, rfl⟩ := okWide_string Try.underlying9 (hval 1 9 v1 rfl rfl)
  obtain ⟨cs2, rfl, _⟩ := okWide_struct Try.underlying29 (hval 2 29 v2 rfl rfl)
  clear hA0 hval0
  simp only [List.append_nil] at hW'
  have hlt0 : ∀ y ∈ p0, y.block < W.heap.size := fun y hy => by simpa using hW'.lt y (by simp [hy])
  have harg0 : ∀ W' : World, Below W.heap.size W W' → DataW.Trod enc Try.prog W' 0 (fun b => decide (b < W.heap.size)) true 26 (.agg cs0) d0 p0 :=
    fun W' hn => Below.trod laidOut (by kernel_rfl) (of_decide_eq_true (by kernel_rfl)) h0 hn (fun y hy => hlt0 y hy)
  have hlt1 : ∀ y ∈ p1, y.block < W.heap.size := fun y hy => by simpa using hW'.lt y (by simp [hy])
  have harg1 : ∀ W' : World, Below W.heap.size W W' → DataW.Trod enc Try.prog W' 0 (fun b => decide (b < W.heap.size)) true 9 (.string st1) d1 p1 :=
    fun W' hn => Below.trod laidOut (by kernel_rfl) (of_decide_eq_true (by kernel_rfl)) h1 hn (fun y hy => hlt1 y hy)
  have hlt2 : ∀ y ∈ p2, y.block < W.heap.size := fun y hy => by simpa using hW'.lt y (by simp [hy])
  have harg2 : ∀ W' : World, Below W.heap.size W W' → DataW.Trod enc Try.prog W' 0 (fun b => decide (b < W.heap.size)) true 29 (.agg cs2) d2 p2 :=
    fun W' hn => Below.trod laidOut (by kernel_rfl) (of_decide_eq_true (by kernel_rfl)) h2 hn (fun y hy => hlt2 y hy)
  obtain ⟨fu0, hf0⟩ := h0
  obtain ⟨n0, e0, hn0⟩ := open_en hf0
  obtain rfl : cs0 = enA n0 := by
    apply Array.ext'; rw [← e0]; simp [Value.cells]
  obtain ⟨s1, rfl, hs1, _⟩ := str_nums st1
  obtain ⟨fu2, hf2⟩ := h2
  obtain ⟨k2, g2, e2, hL2, hk2, hB2⟩ := open_blk hf2
  obtain rfl : cs2 = blkA k2 g2 := by
    unfold blkA; rw [← e2]; simp [Value.cells]
  refine (walk n0 s1 k2 g2 W hn0 hs1 hk2 hL2 hB2).mono fun e W' ⟨he, bel⟩ => ?_
  subst he
  exact ⟨_, rfl, _, _, _, [], _, [], hW', (trodAll_cons_mk (shut_bool Try.underlying4 _) trodAll_mk0), (trodAll_cons_mk (harg0 _ bel) (trodAll_cons_mk (harg1 _ bel) (trodAll_cons_mk (harg2 _ bel) trodAll_mk0))), rfl, bel.frame _, fun h => by cases h⟩

theorem over : Rows.entryAllRow.holds Try.pinned (OpenSpec.ofChange Rows.entryAllSpec) :=
  OpenClaim.holds_of_wide 3 Try.f3 rfl rfl rfl rfl rfl rfl rfl ⟨rfl, rfl, rfl, rfl, rfl⟩ rfl rfl rfl rfl rfl (by kernel_rfl) Try.func3 (by kernel_rfl)
    (of_decide_eq_true (by kernel_rfl)) (by unfold Func.isWrapper; first | (rw [if_pos (by decide +kernel)]; kernel_rfl) | (rw [if_neg (by decide +kernel)]; exact ⟨rfl, rfl⟩))
    (fun os started H enc _ => lifted os started H enc)

theorem proved : Rows.EntryAllSaid :=
  over
#print axioms proved
end Go.Proofs.Ytcmmopngjeonfaa.entryAll
