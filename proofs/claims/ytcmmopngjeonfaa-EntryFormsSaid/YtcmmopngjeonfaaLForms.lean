/- The law EntryForms answers true and leaves its arguments alone. No condition. -/
import Derived.Test.YtcmmopngjeonfaaRows
import Derived.Test.YtcmmopngjeonfaaYj
import Derived.WalkKit
import Derived.ProofKit
import Derived.OpenShut
namespace Go.Proofs.Ytcmmopngjeonfaa.entryForms
open Go.ChangeShapes Go.WideShapes Go.ChangeAt Go.RowKit Go.Joins
set_option linter.unusedVariables false
theorem own : ownKnob Try.prog.godebug = none := by kernel_rfl
theorem laidOut : laidOutB Try.prog = true := by kernel_rfl
def badC : Array Value := #[.string { data := #[] }, .string { data := #[46] }, .string { data := #[46, 46] }, .string { data := #[97, 47, 98] }, .string { data := #[97, 32, 98] }, .string { data := #[127] }, .string { data := #[102, 105, 102, 116, 101, 101, 110, 45, 98, 121, 116, 101, 115, 45, 120] }, .string { data := #[195, 164] }]
theorem forms_at : ∀ j, j < 8 → ∃ t : List Int, badC[j]? = some (.string (strOfNums t)) ∧ AllB t ∧ ¬ NmM t ∧ t.length ≤ 30
  | 0, _ => ⟨[], rfl, by unfold AllB; decide, by decide, by decide⟩
  | 1, _ => ⟨[46], rfl, by unfold AllB; decide, by decide, by decide⟩
  | 2, _ => ⟨[46, 46], rfl, by unfold AllB; decide, by decide, by decide⟩
  | 3, _ => ⟨[97, 47, 98], rfl, by unfold AllB; decide, by decide, by decide⟩
  | 4, _ => ⟨[97, 32, 98], rfl, by unfold AllB; decide, by decide, by decide⟩
  | 5, _ => ⟨[127], rfl, by unfold AllB; decide, by decide, by decide⟩
  | 6, _ => ⟨[102, 105, 102, 116, 101, 101, 110, 45, 98, 121, 116, 101, 115, 45, 120], rfl, by unfold AllB; decide, by decide, by decide⟩
  | 7, _ => ⟨[195, 164], rfl, by unfold AllB; decide, by decide, by decide⟩
  | j + 8, h => absurd h (by omega)
def t14 : List Int := [102, 111, 117, 114, 116, 101, 101, 110, 45, 98, 121, 116, 101, 115]
def nF : En := ⟨1, 2, 3, t14, 158, 258⟩
theorem t14_ok : AllB t14 := by unfold AllB; decide
theorem ok_of (l a g : Int) (t : List Int) (p n : Int) (ht : AllB t) (hl : t.length ≤ 9223372036854775807) (h : (-2 ^ 63 ≤ l ∧ l ≤ 2 ^ 63) ∧ (-2 ^ 63 ≤ a ∧ a ≤ 2 ^ 63) ∧ (0 ≤ g ∧ g ≤ 4294967295) ∧ (-2 ^ 63 ≤ p ∧ p ≤ 2 ^ 63) ∧ (0 ≤ n ∧ n ≤ 4294967295)) : EnOk ⟨l, a, g, t, p, n⟩ := ⟨h.1, h.2.1, h.2.2.1, ht, hl, h.2.2.2.1, h.2.2.2.2⟩
theorem nF_ok : EnOk nF := ok_of _ _ _ _ _ _ t14_ok (by decide) (by decide)
theorem nF_may : MayE nF := by decide
theorem nF_x : ¬ MayE ⟨0, 0, 0, t14, 158, 258⟩ := by decide
theorem nF_y : ¬ MayE ⟨1, 2, 3, t14, 0, 258⟩ := by decide
theorem nF_z : ¬ MayE ⟨1, 2, 3, t14, 158, 0⟩ := by decide
theorem seg28 : seg (putEB nF) 0 28 = [1, 0, 2, 0, 0, 0, 3, 0, 158, 0, 0, 1, 2, 14, 102, 111, 117, 114, 116, 101, 101, 110, 45, 98, 121, 116, 101, 115] := by decide +kernel
theorem str28 : ((strOfNums (seg (putEB nF) 0 28)).toList == ([1, 0, 2, 0, 0, 0, 3, 0, 158, 0, 0, 1, 2, 14, 102, 111, 117, 114, 116, 101, 101, 110, 45, 98, 121, 116, 101, 115] : List UInt8)) = true := by
  rw [seg28, strOfNums_toList]; decide +kernel
theorem builtEF : Try.prog.built 26 [(0, idV 1 2 3), (1, .string { data := #[102, 111, 117, 114, 116, 101, 101, 110, 45, 98, 121, 116, 101, 115] }), (2, .int .i64 158), (3, .int .u32 258)] = some (enA nF) := by kernel_rfl
theorem wpList_buildEF {ops : Array Oper} {rest : List Oper} {o : Oper} {ac : Act} {w : World} {Q : Exit → Act → World → Prop} (hgd : o.guard = none) (x : Operand) (ho : o.op = .build 26 #[(0, x), (1, .const (.string { data := #[102, 111, 117, 114, 116, 101, 101, 110, 45, 98, 121, 116, 101, 115] })), (2, .const (.int .i64 158)), (3, .const (.int .u32 258))]) (hx : ac.eval x = idV 1 2 3)
    (h : wpList Try.prog ops Q rest (ac.put o.dst (.agg (enA nF))) w) : wpList Try.prog ops Q (o :: rest) ac w :=
  wpList_plain hgd fun _ hK => by
    unfold Oper.wp execOp
    have hb := run_build (P := Try.prog) w 26 #[(0, idV 1 2 3), (1, .string { data := #[102, 111, 117, 114, 116, 101, 101, 110, 45, 98, 121, 116, 101, 115] }), (2, .int .i64 158), (3, .int .u32 258)] _ builtEF
    simp only [ho, List.map_toArray, List.map_cons, List.map_nil, hx, Sem.run_bind]
    simp only [Act.eval] at hb ⊢
    rw [hb]
    exact hK _ _ h
structure JF (w : World) (p g : Nat) (W : World) : Prop where
  bel : Below p w W
  sz : p ≤ W.heap.size
  row : W.heap[g]? = some (.cells badC 9 (0, 0))
theorem JF.next {w : World} {p g : Nat} {W W' : World} (h : JF w p g W) (hb : Below W.heap.size W W') : JF w p g W' :=
  ⟨h.bel.trans (hb.mono h.sz), Nat.le_trans h.sz hb.size, kb hb h.row⟩
def VF7 (g j : Nat) (t : List Int) (i : Nat) (v : Value) (W : World) : Prop :=
  match i with
  | 0 | 7 => v = .slice (some ⟨g, 0, none⟩) 8 8
  | 1 | 8 => v = .int .i64 j
  | 2 | 9 => v = .pointer (some ⟨g, j, none⟩)
  | 3 | 10 => v = .string (strOfNums t)
  | 4 | 5 | 12 => v = .bool false
  | 6 => v = idV (-1) 0 0
  | 11 => v = .agg (enA ⟨-1, 0, 0, t, 1, 1⟩)
  | _ => True
set_option maxRecDepth 100000 in
set_option maxHeartbeats 6400000 in
theorem walk  (w : World)  :
    Calls Try.prog 5 #[] w fun e w' => e = .returned (.bool true) ∧ Below w.heap.size w w' := by
  have HRT := Lib.hid rroot_any
  go_enter Try.func5, Try.ntmps5
  go_wp2_with fail
  refine (ebegun_any _).mono ?_
  rintro e W1 ⟨rfl, hb1⟩
  have HJ0 : Hid (JF w w.heap.size W1.heap.size (W1.alloc (.cells badC 9))) :=
    ⟨keepB hb1 (bel1 _), Nat.le_trans hb1.size (bel1 _).size, heap_alloc_new W1 _⟩
  have HBC : Hid (badC = #[.string { data := #[] }, .string { data := #[46] }, .string { data := #[46, 46] }, .string { data := #[97, 47, 98] }, .string { data := #[97, 32, 98] }, .string { data := #[127] }, .string { data := #[102, 105, 102, 116, 101, 101, 110, 45, 98, 121, 116, 101, 115, 45, 120] }, .string { data := #[195, 164] }]) := rfl
  rw [HBC.out] at HJ0
  clear hb1
  go_upto_region 4 with fail
  generalize W1.alloc _ = W2 at *
  generalize W1.heap.size = g at *
  clear HBC
  go_wp2_with fail
  go_loopw [2] (fun i wr => ∃ j : Nat, j ≤ 8 ∧ i = .int .i64 j ∧ Hid (JF w w.heap.size g wr)) (fun i _ => (8 - intOf i).toNat)
  case atStart => exact ⟨0, by omega, rfl, HJ0⟩
  case round =>
    obtain ⟨j, hj, rfl, HJ1⟩ := hrel
    obtain ⟨wk, rfl⟩ : ∃ wk, wk = wr := ⟨wr, rfl⟩
    clear HJ0
    by_cases hlt : j < 8
    · obtain ⟨t, htj, htB, htN, htl⟩ := forms_at j hlt
      have HTJ := Lib.hid htj
      have HMN := Lib.hid (fun W => mayname_any t W htB)
      rw [decide_eq_false htN] at HMN
      have hno : ¬ MayE ⟨-1, 0, 0, t, 1, 1⟩ := fun h => htN h.1.2
      have HME := Lib.hid (fun W => enmay_any ⟨-1, 0, 0, t, 1, 1⟩ W (ok_of _ _ _ _ _ _ htB (by omega) (by decide)))
      rw [decide_eq_false hno] at HME
      clear htj htB htN htl hno
      go_upto_region 7 with fail
      have hJ1 : JF w w.heap.size g wk.drew := ⟨HJ1.out.bel.drew, HJ1.out.sz, HJ1.out.row⟩
      refine wp_region_rgk (VF7 g j t) (fun _ W => JF w w.heap.size g W) (fun _ w w' => w.grownBy w' none) (by kernel_rfl) (by kernel_rfl) (fun i j v' w' w'' hij hind h hg => h) hJ1 ?_
      have srefl : ∀ (W : World), W.grownBy W none := fun W => World.grownBy.refl _ _
      clear hJ1 HJ1
      simp only [RAll]
      refine ⟨?_, ?_, ?_, ?_, ?_, ?_, ?_, ?_, ?_, ?_, ?_, ?_, ?_, ?_⟩
      · refine RStepK.of rfl fun T W L hag hL hJ hLs hd => ?_   -- 0: 18 := Op.move (Operand.tmp 1)
        have e1 : T.getD 1 undef = _ := (agree_at hag 1 (by kernel_rfl)).trans rfl
        clear hag hd
        go_simp
        exact ⟨_, rfl, rfl⟩
      · refine RStepK.of rfl fun T W L hag hL hJ hLs hd => ?_   -- 1: 19 := Op.move (Operand.tmp 2)
        have e2 : T.getD 2 undef = _ := (agree_at hag 2 (by kernel_rfl)).trans rfl
        clear hag hd
        go_simp
        exact ⟨_, rfl, rfl⟩
      · refine RStepK.of rfl fun T W L hag hL hJ hLs hd => ?_   -- 2: 20 := Op.indexAddr 39 (Operand.tmp 18) (Operand.tmp 19)
        have d18 : T.getD 18 undef = _ := hd ⟨0, .data⟩ (by simp) rfl _ rfl
        have d19 : T.getD 19 undef = _ := hd ⟨1, .data⟩ (by simp) rfl _ rfl
        clear hag hd
        go_simp
        exact ⟨_, rfl, rfl⟩
      · refine RStepK.of rfl fun T W L hag hL hJ hLs hd => ?_   -- 3: 21 := Op.load 9 (Operand.tmp 20)
        have d20 : T.getD 20 undef = _ := hd ⟨2, .data⟩ (by simp) rfl _ rfl
        have fct0 := (show W.cell? ⟨g, j, none⟩ = some (.string (strOfNums t)) from (blk_cell hJ.row j).trans HTJ.out)
        clear hag hd
        go_simp
        exact ⟨_, rfl, rfl⟩
      · refine RStepK.of rfl fun T W L hag hL hJ hLs hd => ?_   -- 4: 22 := Op.call { callee := Callee.value (Operand.func 11), args := 
        have d21 : T.getD 21 undef = _ := hd ⟨3, .data⟩ (by simp) rfl _ rfl
        clear hag hd
        go_simp
        refine (HMN.out W).mono ?_
        rintro en w' ⟨rfl, rfl⟩
        exact ⟨_, rfl, rfl, hJ, srefl _⟩
      · refine RStepK.of rfl fun T W L hag hL hJ hLs hd => ?_   -- 5: 23 := Op.move (Operand.tmp 22)
        have d22 : T.getD 22 undef = _ := hd ⟨4, .data⟩ (by simp) rfl _ rfl
        clear hag hd
        go_simp
        exact ⟨_, rfl, rfl⟩
      · refine RStepK.want rfl rfl rfl (by kernel_rfl) (fun v w h => h) fun T W L hag hL hJ hLs hd => ?_   -- 6: 24 := Op.call { callee := Callee.value (Operand.func 15), args := 
        clear hag hd
        go_simp
        refine (HRT.out W).mono ?_
        rintro en w' ⟨rfl, hb⟩
        exact ⟨_, rfl, rfl, hJ.next hb, growN hb⟩
      · refine RStepK.want rfl rfl rfl (by kernel_rfl) (fun v w h => h) fun T W L hag hL hJ hLs hd => ?_   -- 7: 25 := Op.move (Operand.tmp 1)
        have e1 : T.getD 1 undef = _ := (agree_at hag 1 (by kernel_rfl)).trans rfl
        clear hag hd
        go_simp
        exact ⟨_, rfl, rfl⟩
      · refine RStepK.want rfl rfl rfl (by kernel_rfl) (fun v w h => h) fun T W L hag hL hJ hLs hd => ?_   -- 8: 26 := Op.move (Operand.tmp 2)
        have e2 : T.getD 2 undef = _ := (agree_at hag 2 (by kernel_rfl)).trans rfl
        clear hag hd
        go_simp
        exact ⟨_, rfl, rfl⟩
      · refine RStepK.want rfl rfl rfl (by kernel_rfl) (fun v w h => h) fun T W L hag hL hJ hLs hd => ?_   -- 9: 27 := Op.indexAddr 39 (Operand.tmp 25) (Operand.tmp 26)
        have d25 : T.getD 25 undef = _ := hd ⟨7, .data⟩ (by simp) rfl _ rfl
        have d26 : T.getD 26 undef = _ := hd ⟨8, .data⟩ (by simp) rfl _ rfl
        clear hag hd
        go_simp
        exact ⟨_, rfl, rfl⟩
      · refine RStepK.want rfl rfl rfl (by kernel_rfl) (fun v w h => h) fun T W L hag hL hJ hLs hd => ?_   -- 10: 28 := Op.load 9 (Operand.tmp 27)
        have d27 : T.getD 27 undef = _ := hd ⟨9, .data⟩ (by simp) rfl _ rfl
        have fct0 := (show W.cell? ⟨g, j, none⟩ = some (.string (strOfNums t)) from (blk_cell hJ.row j).trans HTJ.out)
        clear hag hd
        go_simp
        exact ⟨_, rfl, rfl⟩
      · refine RStepK.want rfl rfl rfl (by kernel_rfl) (fun v w h => h) fun T W L hag hL hJ hLs hd => ?_   -- 11: 29 := Op.build 26 #[(0, Operand.tmp 24), (1, Operand.tmp 28), (2, 
        have d24 : T.getD 24 undef = _ := hd ⟨6, .data⟩ (by simp) rfl _ rfl
        have d28 : T.getD 28 undef = _ := hd ⟨10, .data⟩ (by simp) rfl _ rfl
        clear hag hd
        have hbu := fun W => run_build (P := Try.prog) W 26 #[(0, idV (-1) 0 0), (1, .string (strOfNums t)), (2, .int .i64 1), (3, .int .u32 1)] _ (builtE4 (-1) 0 0 t 1 1)
        simp only [Array.getD_eq_getD_getElem?] at d24 d28
        go_simp
        first | exact ⟨_, rfl, rfl⟩ | exact ⟨_, rfl, rfl, hJ, srefl _⟩ | exact ⟨_, rfl, rfl, srefl _⟩
      · refine RStepK.want rfl rfl rfl (by kernel_rfl) (fun v w h => h) fun T W L hag hL hJ hLs hd => ?_   -- 12: 30 := Op.call { callee := Callee.value (Operand.func 13), args := 
        have d29 : T.getD 29 undef = _ := hd ⟨11, .data⟩ (by simp) rfl _ rfl
        clear hag hd
        go_simp
        refine (HME.out W).mono ?_
        rintro en w' ⟨rfl, hb⟩
        exact ⟨_, rfl, rfl, hJ.next hb, growN hb⟩
      · refine RLastK.of rfl fun T W L hag hLs hL hJ hd => ?_   -- 13: 31 := Op.pick (Operand.tmp 23) (Operand.const (Value.bool true)) (
        have d23 : T.getD 23 undef = _ := hd 5 _ (by simp) rfl
        have d30 : T.getD 30 undef = _ := hd 12 _ (by simp) rfl
        obtain ⟨f, hf, hT⟩ := agree_fn hag
        have h23 := (hf 23).trans d23
        have h30 := (hf 30).trans d30
        have HJ := Lib.hid hJ
        clear hag hd d23 d30 hJ hf
        rw [hT]
        clear hT
        simp only [List.pop_toArray, List.dropLast_cons_cons, List.dropLast_singleton, List.filterMap_cons, List.filterMap_nil, List.foldl_cons, List.foldl_nil, List.setIfInBounds_toArray, List.set_cons_succ, List.set_cons_zero, h23, h30]
        have HJn := Lib.hid HJ.out
        go_wp2_with fail
        go_roundw
        case rel => exact ⟨j + 1, by omega, by go_num, HJn⟩
        case measure => simp [intOf]; omega
    · obtain rfl : j = 8 := by omega
      have HB2 := Lib.hid HJ1.out.bel
      clear HJ1
      have HPUT : Hid (∀ W : World, Calls Try.prog 7 #[.agg (enA nF)] W fun e w' => e = .returned (.tuple #[.agg (blkA 6 (putEB nF)), .bool true]) ∧ Below W.heap.size W w') := fun W => by
        have h := enput_any nF W nF_ok
        rwa [decide_eq_true nF_may, putEK_may nF_may] at h
      have HL : Hid ((putEB nF).length = 56) := putEB_len
      have HS28 := Lib.hid str28
      have HCV : Hid (∀ (q : Nat) (W : World), W.heap[q]? = some (.cells (blkA 6 (putEB nF)) 29 (0, 0)) → (convert 41 9 (.slice (some ⟨q, 1, none⟩) 28 56)).run Try.prog W = .ok (.string (strOfNums (seg (putEB nF) 0 28))) W) := fun q W h =>
        conv_any (c := 56) (byt_seg h 0 28) (show (seg (putEB nF) 0 28).length = 28 from seg_len putEB_len (by omega))
      generalize putEB nF = pb at *
      generalize seg pb 0 28 = s28 at *
      have HX : Hid (∀ W : World, Calls Try.prog 13 #[.agg (enA ⟨0, 0, 0, t14, 158, 258⟩)] W fun e w' => e = .returned (.bool false) ∧ Below W.heap.size W w') := fun W => by
        have h := enmay_any ⟨0, 0, 0, t14, 158, 258⟩ W (ok_of _ _ _ _ _ _ t14_ok (by decide) (by decide))
        rwa [decide_eq_false nF_x] at h
      have HY : Hid (∀ W : World, Calls Try.prog 13 #[.agg (enA ⟨1, 2, 3, t14, 0, 258⟩)] W fun e w' => e = .returned (.bool false) ∧ Below W.heap.size W w') := fun W => by
        have h := enmay_any ⟨1, 2, 3, t14, 0, 258⟩ W (ok_of _ _ _ _ _ _ t14_ok (by decide) (by decide))
        rwa [decide_eq_false nF_y] at h
      have HZ : Hid (∀ W : World, Calls Try.prog 13 #[.agg (enA ⟨1, 2, 3, t14, 158, 0⟩)] W fun e w' => e = .returned (.bool false) ∧ Below W.heap.size W w') := fun W => by
        have h := enmay_any ⟨1, 2, 3, t14, 158, 0⟩ W (ok_of _ _ _ _ _ _ t14_ok (by decide) (by decide))
        rwa [decide_eq_false nF_z] at h
      have HA1 : Hid (∀ W : World, Calls Try.prog 11 #[.string { data := #[46, 46, 46] }] W fun e w' => e = .returned (.bool true) ∧ W = w') := fun W => by
        have h := mayname_any [46, 46, 46] W (by unfold AllB; decide)
        rwa [decide_eq_true (show NmM [46, 46, 46] by decide)] at h
      have HA2 : Hid (∀ W : World, Calls Try.prog 11 #[.string { data := #[33, 126] }] W fun e w' => e = .returned (.bool true) ∧ W = w') := fun W => by
        have h := mayname_any [33, 126] W (by unfold AllB; decide)
        rwa [decide_eq_true (show NmM [33, 126] by decide)] at h
      have hz3 := EnAt.new wk en0
      have b3 := below_setRow (bel1 (w := wk) (Obj.cells (enA en0) 26)) (Nat.le_refl wk.heap.size) (enA nF)
      have HQ3 := Lib.hid (hz3.set nF)
      have HB3 := Lib.hid (HB2.out.trans (b3.mono HB2.out.size))
      have HP3 := Lib.hid HB2.out.size
      clear b3 HB2
      go_upto_region 10 with (first
        | (refine wpList_buildEF rfl (.tmp 32) rfl rfl ?_)
        | (refine wpList_allocE rfl rfl ?_)
        | (refine wpList_storeE rfl (.tmp 3) (.tmp 33) rfl wk.heap.size rfl nF en0 rfl hz3 ?_))
      clear hz3
      generalize (wk.alloc (Obj.cells (enA en0) 26)).setRow wk.heap.size (enA nF) = Y3 at *
      generalize wk.heap.size = q3 at *
      go_wp2_with (refine wpList_loadE rfl (.tmp 3) rfl q3 rfl nF HQ3.out ?_)
      refine (HPUT.out _).mono ?_; rintro e X4 ⟨rfl, hb⟩
      have hz4 := heap_alloc_new X4 (Obj.cells (blkA 0 zBs) 29)
      have b2 : Below X4.heap.size X4 ((X4.alloc (Obj.cells (blkA 0 zBs) 29)).setRow X4.heap.size (blkA 6 pb)) := below_setRow (bel1 _) (Nat.le_refl _) _
      have HQ4 := Lib.hid (setRow_blk (D := blkA 6 pb) hz4)
      have HB4 := Lib.hid ((HB3.out.trans (hb.mono HB3.out.size)).trans (b2.mono (Nat.le_trans HB3.out.size hb.size)))
      have HR3 := Lib.hid ((HQ3.out.below hb).below b2)
      clear hb b2 HQ3 HB3
      go_upto_region 11 with (first
        | (refine wpList_allocB rfl rfl ?_)
        | (refine wpList_storeB rfl (.tmp 4) (.tmp 37) rfl X4.heap.size rfl 6 0 pb zBs rfl HL.out zBs_len hz4 ?_))
      clear hz4
      generalize (X4.alloc (Obj.cells (blkA 0 zBs) 29)).setRow X4.heap.size (blkA 6 pb) = Y4 at *
      generalize X4.heap.size = q4 at *
      have HLTR3 : Hid (q3 < Y4.heap.size) := room_lt HR3.out
      have HLTQ4 : Hid (q4 < Y4.heap.size) := room_lt HQ4.out
      have hz := EnAt.new Y4 en0
      have b2 := below_setRow (bel1 (w := Y4) (Obj.cells (enA en0) 26)) (Nat.le_refl Y4.heap.size) (enA nF)
      have HQ6 := Lib.hid (hz.set nF)
      have HS6 := HB4.out.size
      have HB6 := Lib.hid (HB4.out.trans (b2.mono HS6))
      have HS6 := Lib.hid HS6
      have HKR3 := Lib.hid (EnAt.below HR3.out b2)
      have HKQ4 := Lib.hid (kb b2 HQ4.out)
      go_upto_region 12 with (first
        | (refine wpList_loadE rfl (.tmp 3) rfl q3 rfl nF HR3.out ?_)
        | (refine wpList_allocE rfl rfl ?_)
        | (refine wpList_storeE rfl (.tmp 6) (.tmp 39) rfl Y4.heap.size rfl nF en0 rfl hz ?_))
      clear hz b2 HR3 HQ4 HB4
      have HR3 := HKR3
      clear HKR3
      have HQ4 := HKQ4
      clear HKQ4
      generalize (Y4.alloc (Obj.cells (enA en0) 26)).setRow Y4.heap.size (enA nF) = Y6 at *
      have HP6 := Lib.hid (room_lt HQ6.out)
      have HLR3 : Hid (q3 < Y4.heap.size) := HLTR3
      have HLQ4 : Hid (q4 < Y4.heap.size) := HLTQ4
      generalize Y4.heap.size = q6 at *
      have HM6 : Hid (EnAt (Y6.setCells q6 0 [.int .i64 0, .int .i64 0, .int .u32 0]) q6 ⟨0, 0, 0, t14, 158, 258⟩) := by unfold Hid EnAt; rw [heap_setCells _ _ _ _ HQ6.out (by rw [enA_size]; show 0 + 3 ≤ 6; omega)]; rfl
      have HN6 : Hid (Below w.heap.size w (Y6.setCells q6 0 [.int .i64 0, .int .i64 0, .int .u32 0])) := below_setCells _ _ HB6.out HS6.out
      have HKR3 : Hid (EnAt (Y6.setCells q6 0 [.int .i64 0, .int .i64 0, .int .u32 0]) q3 nF) := by unfold Hid EnAt; rw [heap_setCells_other (show q3 ≠ q6 by have := HLR3.out; omega)]; exact HR3.out
      have HKQ4 : Hid ((Y6.setCells q6 0 [.int .i64 0, .int .i64 0, .int .u32 0]).heap[q4]? = some (.cells (blkA 6 pb) 29 (0, 0))) := by unfold Hid; rw [heap_setCells_other (show q4 ≠ q6 by have := HLQ4.out; omega)]; exact HQ4.out
      go_upto_region 13 with (first
        | (refine wpList_storeDir rfl (.tmp 41) (.tmp 40) rfl q6 0 0 0 rfl rfl HQ6.out ?_
           generalize Y6.setCells q6 0 [.int .i64 0, .int .i64 0, .int .u32 0] = Z6 at *))
      clear HQ6 HB6 HS6 HR3 HQ4
      have HR3 := HKR3
      clear HKR3
      have HQ4 := HKQ4
      clear HKQ4
      have HQ6 := HM6
      have HB6 := HN6
      clear HM6 HN6
      have HLTR3 : Hid (q3 < Z6.heap.size) := room_lt HR3.out
      have HLTQ4 : Hid (q4 < Z6.heap.size) := room_lt HQ4.out
      have HLTQ6 : Hid (q6 < Z6.heap.size) := room_lt HQ6.out
      have hz := EnAt.new Z6 en0
      have b2 := below_setRow (bel1 (w := Z6) (Obj.cells (enA en0) 26)) (Nat.le_refl Z6.heap.size) (enA nF)
      have HQ7 := Lib.hid (hz.set nF)
      have HS7 := HB6.out.size
      have HB7 := Lib.hid (HB6.out.trans (b2.mono HS7))
      have HS7 := Lib.hid HS7
      have HKR3 := Lib.hid (EnAt.below HR3.out b2)
      have HKQ4 := Lib.hid (kb b2 HQ4.out)
      have HKQ6 := Lib.hid (EnAt.below HQ6.out b2)
      go_upto_region 14 with (first
        | (refine wpList_loadE rfl (.tmp 3) rfl q3 rfl nF HR3.out ?_)
        | (refine wpList_allocE rfl rfl ?_)
        | (refine wpList_storeE rfl (.tmp 7) (.tmp 42) rfl Z6.heap.size rfl nF en0 rfl hz ?_))
      clear hz b2 HR3 HQ4 HQ6 HB6
      have HR3 := HKR3
      clear HKR3
      have HQ4 := HKQ4
      clear HKQ4
      have HQ6 := HKQ6
      clear HKQ6
      generalize (Z6.alloc (Obj.cells (enA en0) 26)).setRow Z6.heap.size (enA nF) = Y7 at *
      have HP7 := Lib.hid (room_lt HQ7.out)
      have HLR3 : Hid (q3 < Z6.heap.size) := HLTR3
      have HLQ4 : Hid (q4 < Z6.heap.size) := HLTQ4
      have HLQ6 : Hid (q6 < Z6.heap.size) := HLTQ6
      generalize Z6.heap.size = q7 at *
      have c4 : Y7.cell? ⟨q7, 4, none⟩ = some (.int .i64 158) := HQ7.out.cells.2.1
      have f4 : Y7.frozen? ⟨q7, 4, none⟩ = false := blk_free HQ7.out _
      have HM7 : Hid (EnAt (Y7.setCell ⟨q7, 4, none⟩ (.int .i64 0)) q7 ⟨1, 2, 3, t14, 0, 258⟩) := by unfold Hid EnAt; rw [heap_setCell_same' HQ7.out]; rfl
      have HN7 : Hid (Below w.heap.size w (Y7.setCell ⟨q7, 4, none⟩ (.int .i64 0))) := HB7.out.setCell HS7.out _
      have HKR3 : Hid (EnAt (Y7.setCell ⟨q7, 4, none⟩ (.int .i64 0)) q3 nF) := by unfold Hid EnAt; rw [heap_setCell_other _ _ _ _ (show q3 ≠ q7 by have := HLR3.out; omega)]; exact HR3.out
      have HKQ4 : Hid ((Y7.setCell ⟨q7, 4, none⟩ (.int .i64 0)).heap[q4]? = some (.cells (blkA 6 pb) 29 (0, 0))) := by unfold Hid; rw [heap_setCell_other _ _ _ _ (show q4 ≠ q7 by have := HLQ4.out; omega)]; exact HQ4.out
      have HKQ6 : Hid (EnAt (Y7.setCell ⟨q7, 4, none⟩ (.int .i64 0)) q6 ⟨0, 0, 0, t14, 158, 258⟩) := by unfold Hid EnAt; rw [heap_setCell_other _ _ _ _ (show q6 ≠ q7 by have := HLQ6.out; omega)]; exact HQ6.out
      go_upto_region 15 with fail
      clear c4 f4
      generalize Y7.setCell ⟨q7, 4, none⟩ (.int .i64 0) = Z7 at *
      clear HQ7 HB7 HS7 HR3 HQ4 HQ6
      have HR3 := HKR3
      clear HKR3
      have HQ4 := HKQ4
      clear HKQ4
      have HQ6 := HKQ6
      clear HKQ6
      have HQ7 := HM7
      have HB7 := HN7
      clear HM7 HN7
      have HLTR3 : Hid (q3 < Z7.heap.size) := room_lt HR3.out
      have HLTQ4 : Hid (q4 < Z7.heap.size) := room_lt HQ4.out
      have HLTQ6 : Hid (q6 < Z7.heap.size) := room_lt HQ6.out
      have HLTQ7 : Hid (q7 < Z7.heap.size) := room_lt HQ7.out
      have hz := EnAt.new Z7 en0
      have b2 := below_setRow (bel1 (w := Z7) (Obj.cells (enA en0) 26)) (Nat.le_refl Z7.heap.size) (enA nF)
      have HQ8 := Lib.hid (hz.set nF)
      have HS8 := HB7.out.size
      have HB8 := Lib.hid (HB7.out.trans (b2.mono HS8))
      have HS8 := Lib.hid HS8
      have HKR3 := Lib.hid (EnAt.below HR3.out b2)
      have HKQ4 := Lib.hid (kb b2 HQ4.out)
      have HKQ6 := Lib.hid (EnAt.below HQ6.out b2)
      have HKQ7 := Lib.hid (EnAt.below HQ7.out b2)
      go_upto_region 16 with (first
        | (refine wpList_loadE rfl (.tmp 3) rfl q3 rfl nF HR3.out ?_)
        | (refine wpList_allocE rfl rfl ?_)
        | (refine wpList_storeE rfl (.tmp 8) (.tmp 44) rfl Z7.heap.size rfl nF en0 rfl hz ?_))
      clear hz b2 HR3 HQ4 HQ6 HQ7 HB7
      have HR3 := HKR3
      clear HKR3
      have HQ4 := HKQ4
      clear HKQ4
      have HQ6 := HKQ6
      clear HKQ6
      have HQ7 := HKQ7
      clear HKQ7
      generalize (Z7.alloc (Obj.cells (enA en0) 26)).setRow Z7.heap.size (enA nF) = Y8 at *
      have HP8 := Lib.hid (room_lt HQ8.out)
      have HLR3 : Hid (q3 < Z7.heap.size) := HLTR3
      have HLQ4 : Hid (q4 < Z7.heap.size) := HLTQ4
      have HLQ6 : Hid (q6 < Z7.heap.size) := HLTQ6
      have HLQ7 : Hid (q7 < Z7.heap.size) := HLTQ7
      generalize Z7.heap.size = q8 at *
      have c5 : Y8.cell? ⟨q8, 5, none⟩ = some (.int .u32 258) := HQ8.out.cells.2.2
      have f5 : Y8.frozen? ⟨q8, 5, none⟩ = false := blk_free HQ8.out _
      have HM8 : Hid (EnAt (Y8.setCell ⟨q8, 5, none⟩ (.int .u32 0)) q8 ⟨1, 2, 3, t14, 158, 0⟩) := by unfold Hid EnAt; rw [heap_setCell_same' HQ8.out]; rfl
      have HN8 : Hid (Below w.heap.size w (Y8.setCell ⟨q8, 5, none⟩ (.int .u32 0))) := HB8.out.setCell HS8.out _
      have HKR3 : Hid (EnAt (Y8.setCell ⟨q8, 5, none⟩ (.int .u32 0)) q3 nF) := by unfold Hid EnAt; rw [heap_setCell_other _ _ _ _ (show q3 ≠ q8 by have := HLR3.out; omega)]; exact HR3.out
      have HKQ4 : Hid ((Y8.setCell ⟨q8, 5, none⟩ (.int .u32 0)).heap[q4]? = some (.cells (blkA 6 pb) 29 (0, 0))) := by unfold Hid; rw [heap_setCell_other _ _ _ _ (show q4 ≠ q8 by have := HLQ4.out; omega)]; exact HQ4.out
      have HKQ6 : Hid (EnAt (Y8.setCell ⟨q8, 5, none⟩ (.int .u32 0)) q6 ⟨0, 0, 0, t14, 158, 258⟩) := by unfold Hid EnAt; rw [heap_setCell_other _ _ _ _ (show q6 ≠ q8 by have := HLQ6.out; omega)]; exact HQ6.out
      have HKQ7 : Hid (EnAt (Y8.setCell ⟨q8, 5, none⟩ (.int .u32 0)) q7 ⟨1, 2, 3, t14, 0, 258⟩) := by unfold Hid EnAt; rw [heap_setCell_other _ _ _ _ (show q7 ≠ q8 by have := HLQ7.out; omega)]; exact HQ7.out
      go_upto_region 17 with fail
      clear c5 f5
      generalize Y8.setCell ⟨q8, 5, none⟩ (.int .u32 0) = Z8 at *
      clear HQ8 HB8 HS8 HR3 HQ4 HQ6 HQ7
      have HR3 := HKR3
      clear HKR3
      have HQ4 := HKQ4
      clear HKQ4
      have HQ6 := HKQ6
      clear HKQ6
      have HQ7 := HKQ7
      clear HKQ7
      have HQ8 := HM8
      have HB8 := HN8
      clear HM8 HN8
      have hcv := HCV.out q4 Z8 HQ4.out
      have hs28 := HS28.out
      go_wp2_with fail
      refine (HA1.out _).mono ?_; rintro e w9 ⟨rfl, rfl⟩
      go_wp2_with fail
      refine (HA2.out _).mono ?_; rintro e w9 ⟨rfl, rfl⟩
      go_wp2_with (refine wpList_loadEw (by rfl) (.tmp 6) rfl q6 rfl ⟨0, 0, 0, t14, 158, 258⟩ HQ6.out ?_)
      refine (HX.out _).mono ?_; rintro e V6 ⟨rfl, hb⟩
      have HB9 := Lib.hid (HB8.out.trans (hb.mono HB8.out.size))
      have HQ7' := Lib.hid (EnAt.below HQ7.out hb)
      have HQ8' := Lib.hid (EnAt.below HQ8.out hb)
      clear hb HB8 HQ7 HQ8 HQ6 HQ4 HR3 hcv
      go_wp2_with (refine wpList_loadEw (by rfl) (.tmp 7) rfl q7 rfl ⟨1, 2, 3, t14, 0, 258⟩ HQ7'.out ?_)
      refine (HY.out _).mono ?_; rintro e V7 ⟨rfl, hb⟩
      have HB10 := Lib.hid (HB9.out.trans (hb.mono HB9.out.size))
      have HQ9' := Lib.hid (EnAt.below HQ8'.out hb)
      clear hb HB9 HQ7' HQ8'
      go_wp2_with (refine wpList_loadEw (by rfl) (.tmp 8) rfl q8 rfl ⟨1, 2, 3, t14, 158, 0⟩ HQ9'.out ?_)
      refine (HZ.out _).mono ?_; rintro e V8 ⟨rfl, hb⟩
      have HB11 := Lib.hid (HB10.out.trans (hb.mono HB10.out.size))
      clear hb HB10 HQ9'
      go_wp2_with fail
      go_ret
      exact ⟨rfl, HB11.out⟩

set_option maxRecDepth 100000 in
theorem lifted (os : Os) (started : os.Started) (H : Type) (enc : TypeId × Value → H) :
    ReturnsInHanded {} Try.checked os 5 .any (Rows.entryFormsSpec.pre6 enc Try.prog Try.f5 Rows.entryFormsRow.domain false) (Rows.entryFormsSpec.post enc Try.prog Try.f5 false true false false) := by
  refine returnsInHanded_of_change (C := Try.checked) own started (by kernel_rfl) Try.func5
    (ChangeSpec.witness6 (enc := enc) (C := Try.checked) false ⟨#[], #[], []⟩ 8 (by kernel_rfl) (by kernel_rfl) (by kernel_rfl) (by kernel_rfl)) ?_
  intro W base args ds gs before hval0 hW hcnd _
  have hW' := hW
  obtain ⟨p, q, hA0, hV, rfl, hfz, hnd⟩ := hW
  have hA : DataW.TrodAll enc Try.prog W 0 (fun _ => true) true Try.f5.params.toList args.toList ds p := hA0
  rw [Try.params5] at hA
  obtain ⟨rfl, rfl, rfl⟩ := trodAll_none hA
  obtain ⟨rfl, rfl⟩ := trodVars_none hV
  clear hA0 hval0
  simp only [List.append_nil] at hW'
  refine (walk W).mono fun e W' ⟨he, bel⟩ => ?_
  subst he
  exact ⟨_, rfl, _, _, _, [], _, [], hW', (trodAll_cons_mk (shut_bool Try.underlying4 _) trodAll_mk0), rfl, rfl, bel.frame _, fun h => by cases h⟩

theorem over : Rows.entryFormsRow.holds Try.pinned (OpenSpec.ofChange Rows.entryFormsSpec) :=
  OpenClaim.holds_of_wide 5 Try.f5 rfl rfl rfl rfl rfl rfl rfl ⟨rfl, rfl, rfl, rfl, rfl⟩ rfl rfl rfl rfl rfl (by kernel_rfl) Try.func5 (by kernel_rfl)
    (of_decide_eq_true (by kernel_rfl)) (by unfold Func.isWrapper; first | (rw [if_pos (by decide +kernel)]; kernel_rfl) | (rw [if_neg (by decide +kernel)]; exact ⟨rfl, rfl⟩))
    (fun os started H enc _ => lifted os started H enc)

theorem proved : Rows.EntryFormsSaid :=
  over
#print axioms proved
end Go.Proofs.Ytcmmopngjeonfaa.entryForms
