/- Contract: the reference's TakeEntry. -/
import Derived.Test.YtcmmopngjeonfaaYg
namespace Go.Proofs.Ytcmmopngjeonfaa
open Go.ChangeShapes Go.WideShapes Go.ChangeAt Go.RowKit
set_option linter.unusedVariables false
theorem run_slice_bodyE (g : Nat) {m : Nat} (h : m ≤ 42) (w : World) : (Instr.slice 41 (.slice (some ⟨g, 1, none⟩) 56 56) (some (.int .i64 14)) (some (.int .i64 (14 + (m : Int)))) none).run Try.prog w = .ok (.slice (some ⟨g, 15, none⟩) m 42) w := by
  have z3 := Try.sizeOf5
  have e2 : Try.prog.elem 41 = 5 := by kernel_rfl
  have e3 : Try.prog.underlying 41 = some (.slice (Try.prog.elem 41)) := by kernel_rfl
  rw [run_slice_lh w 41 _ 56 56 e3 .i64 .i64 14 (14 + (m : Int)) (by omega) (by omega) (by omega), e2]
  have hm : (14 + (m : Int)).toNat = 14 + m := by omega
  simp [z3, sliced, add_off, hm]
theorem builtE4 (l a g : Int) (t : List Int) (x y : Int) : Try.prog.built 26 [(0, idV l a g), (1, .string (strOfNums t)), (2, .int .i64 x), (3, .int .u32 y)] = some (enA ⟨l, a, g, t, x, y⟩) := by kernel_rfl
theorem wp_allocE {o : Oper} {ac : Act} {w : World} {K : Act → World → Prop} {Q : Exit → Act → World → Prop} (ho : o.op = .alloc 26)
    (h : K (ac.put o.dst (.pointer (some ⟨w.heap.size, 0, none⟩))) (w.alloc (.cells (enA en0) 26))) : o.wp Try.prog ac w K Q := by
  obtain ⟨i0, hi, hz0, hz1⟩ : ∃ i, Try.prog.info? 26 = some i ∧ i.zero = some (.agg (enA en0)) ∧ i.size = 6 := by
    have h := infoE
    cases hq : Try.prog.info? 26 with
    | none => rw [hq] at h; cases h
    | some i => rw [hq] at h; simp only [Option.map_some, Option.some.injEq, Prod.mk.injEq] at h; exact ⟨i, rfl, h.1, h.2⟩
  exact wp_alloc_of 26 ho i0 _ hi hz0 h
/-- The region's world: with the new name, or without. -/
def JTE (W0 : World) (b : Bool) (W : World) : Prop := W = (if b = true then W0.alloc (.cells (enA en0) 26) else W0)
theorem JTE.blk {W0 W : World} {b : Bool} {g : Nat} {o : Obj} (h : JTE W0 b W) (hg : W0.heap[g]? = some o) : W.heap[g]? = some o := by
  unfold JTE at h; subst h; split
  · exact kb (bel1 _) hg
  · exact hg
theorem JTE.id_ {W0 W : World} {b : Bool} {q : Nat} {l a g : Int} (h : JTE W0 b W) (hg : IdAt W0 q l a g) : IdAt W q l a g := h.blk hg
/-- Where TakeEntry stands: the block, the result. -/
structure TF0 (w : World) (p : Nat) (k : Int) (bs : List Int) (W : World) : Prop where
  bel : Below p w W
  blk : W.heap[p]? = some (.cells (blkA k bs) 29 (0, 0))
  res : EnAt W (p + 1) en0
/-- .. and the name that is made. -/
structure TF (w : World) (p q : Nat) (k : Int) (bs : List Int) (m : En) (W : World) : Prop where
  hq : p + 1 < q
  to0 : TF0 w p k bs W
  nd : EnAt W q m
section
variable {w W W' : World} {p q : Nat} {k : Int} {bs : List Int} {m : En}
theorem TF0.sz (h : TF0 w p k bs W) : p + 1 < W.heap.size := room_lt h.res
theorem TF0.below (h : TF0 w p k bs W) (hb : Below W.heap.size W W') : TF0 w p k bs W' :=
  ⟨h.bel.trans (hb.mono (by have := h.sz; omega)), kb hb h.blk, h.res.below hb⟩
theorem TF.below (h : TF w p q k bs m W) (hb : Below W.heap.size W W') : TF w p q k bs m W' := ⟨h.hq, h.to0.below hb, h.nd.below hb⟩
theorem TF0.made (h : TF0 w p k bs W) : TF w p W.heap.size k bs m ((W.alloc (.cells (enA en0) 26)).setRow W.heap.size (enA m)) := by
  have hsz := h.sz
  exact ⟨hsz, ⟨below_setRow (h.bel.alloc (by omega) _) (by omega) _, by rw [setRow_other _ _ _ _ (by omega)]; exact kb (bel1 _) h.blk, (h.res.alloc _).other _ (by omega)⟩, (EnAt.new W en0).set m⟩
end
def VTE (p q : Nat) (bs : List Int) (l a g : Int) (yn : Nat) (W0 : World) (i : Nat) (v : Value) (W : World) : Prop :=
  match i with
  | 0 => v = idV l a g
  | 1 | 2 | 9 | 13 => v = .slice (some ⟨p, 1, none⟩) 56 56
  | 3 => v = .pointer (some ⟨p, 14, none⟩)
  | 4 => v = .int .u8 yn
  | 5 => v = .int .i64 yn
  | 6 => v = .int .i64 (14 + (yn : Int))
  | 7 => v = .slice (some ⟨p, 15, none⟩) yn 42
  | 8 => v = .string (strOfNums (seg bs 14 yn))
  | 10 => v = .slice (some ⟨p, 8, none⟩) 2 49
  | 11 => v = .int .u64 (numV (seg bs 7 2))
  | 12 => v = .int .i64 (numV (seg bs 7 2))
  | 14 => v = .slice (some ⟨p, 10, none⟩) 4 47
  | 15 => v = .int .u64 (numV (seg bs 9 4))
  | 16 => v = .int .u32 (numV (seg bs 9 4))
  | 17 => v = .agg (enA ⟨l, a, g, seg bs 14 yn, numV (seg bs 7 2), numV (seg bs 9 4)⟩)
  | 18 => v = .pointer (some ⟨W0.heap.size, 0, none⟩)
  | _ => True
set_option maxRecDepth 100000 in
set_option maxHeartbeats 6400000 in
theorem rentake_any (k : Int) (bs : List Int) (w : World) (hk : i64 k) (h56 : bs.length = 56) (hB : AllB bs) : Calls Try.prog 10 #[.agg (blkA k bs)] w fun e w' => e = .returned (.tuple #[.agg (enA (takeE k bs)), .bool (decide (ETaken k bs))]) ∧ Below w.heap.size w w' := by
  have hok := rdE_ok h56 hB
  have HIT : Hid (∀ W : World, W.heap[w.heap.size]? = some (.cells (blkA k bs) 29 (0, 0)) → Calls Try.prog 23 #[.slice (some ⟨w.heap.size, 1, none⟩) 7 56] W fun e w' => e = .returned (.tuple #[takeV (seg bs 0 7), .bool (decide (ITaken (seg bs 0 7)))]) ∧ Below W.heap.size W w') := fun W h => by
    have h7 := seg_len (o := 0) (m := 7) h56 (by omega)
    have h1 := irtake_any (some ⟨w.heap.size, 1, none⟩) (seg bs 0 7) 56 W (by rw [h7]; omega) (by omega) (seg_allB hB _ _) (byt_seg h 0 7)
    rwa [h7] at h1
  have HT := Lib.hid (fun o m n d W hg hn h2 h3 => numseg_any w.heap.size k bs h56 hB o m n d W hg hn h2 h3)
  have H56 := Lib.hid h56
  have HBB := Lib.hid hB
  have HT0 : Hid (TF0 w w.heap.size k bs ((w.alloc (Obj.cells (blkA k bs) 29)).alloc (Obj.cells (enA en0) 26))) := by
    have s1 : (w.alloc (Obj.cells (blkA k bs) 29)).heap.size = w.heap.size + 1 := size_alloc' _ _
    have B1 := bel1 (w := w) (Obj.cells (blkA k bs) 29)
    have H1 := EnAt.new (w.alloc (Obj.cells (blkA k bs) 29)) en0
    rw [s1] at H1
    exact ⟨B1.alloc B1.size _, kb (bel1 _) (heap_alloc_new w _), H1⟩
  have hy := getD_byte hB 13
  obtain ⟨yn, hyn⟩ : ∃ yn : Nat, bs.getD 13 0 = (yn : Int) := ⟨(bs.getD 13 0).toNat, by omega⟩
  have hx13 : bs[13]? = some (yn : Int) := by
    rw [← hyn, List.getD, List.getElem?_eq_getElem (by omega)]; rfl
  have HC13 : Hid (∀ W : World, W.heap[w.heap.size]? = some (.cells (blkA k bs) 29 (0, 0)) → W.cell? ⟨w.heap.size, 14, none⟩ = some (.int .u8 yn)) := fun W h => by
    rw [blk_cell h, ← Array.getElem?_toList, blkA_list]; exact Bs_at (i := 13) hx13
  have HCV : Hid (yn ≤ 42 → ∀ W : World, W.heap[w.heap.size]? = some (.cells (blkA k bs) 29 (0, 0)) → (convert 41 9 (.slice (some ⟨w.heap.size, 15, none⟩) yn 42)).run Try.prog W = .ok (.string (strOfNums (seg bs 14 yn))) W) := fun hy42 W h =>
    conv_any (c := 42) (byt_seg h 14 yn) (show (seg bs 14 yn).length = yn from seg_len h56 (by omega))
  have HTS : Hid (rdE bs = ⟨(rdE bs).l, (rdE bs).a, (rdE bs).g, seg bs 14 yn, numV (seg bs 7 2), numV (seg bs 9 4)⟩) := by unfold Hid rdE; rw [hyn]; rfl
  have HTD : Hid (ETaken k bs ↔ ((yn : Int) ≤ 14 ∧ MayE (rdE bs) ∧ k = 6 ∧ pad (bytesE (rdE bs)) = bs)) := by unfold Hid ETaken; rw [hyn]
  have HTL : Hid (yn ≤ 42 → (rdE bs).t.length = yn) := fun h => by rw [HTS.out]; exact seg_len H56.out (by omega)
  have HPUT := Lib.hid (fun (h : yn ≤ 42) w => renput_any (rdE bs) w hok (by rw [HTL.out h]; omega))
  have HIS := Lib.hid (itaken_seg h56)
  have HTV : Hid (ITaken (seg bs 0 7) → takeV (seg bs 0 7) = idV (rdE bs).l (rdE bs).a (rdE bs).g) := takeV_seg
  have hyl : yn < 256 := by omega
  have hn2 := numV2_lt (o := 7) h56 hB (by omega)
  have hn4 := numV4_lt (o := 9) h56 hB (by omega)
  have wy : IntKind.i64.wrap (yn : Int) = yn := IntWalk.i64_in _ (by omega)
  have wy2 : IntKind.i64.wrap (14 + (yn : Int)) = 14 + (yn : Int) := IntWalk.i64_in _ (by omega)
  have wn2 : IntKind.i64.wrap (numV (seg bs 7 2) : Int) = numV (seg bs 7 2) := IntWalk.i64_in _ (by omega)
  have wn4 : IntKind.u32.wrap (numV (seg bs 9 4) : Int) = numV (seg bs 9 4) := IntWalk.u32_in _ (by omega)
  clear hk hy hyn hx13 hn2 hn4 h56 hB
  have HY : Hid (ETaken k bs → takeE k bs = rdE bs) := fun h => by unfold takeE; rw [if_pos h]
  have HNO : Hid (¬ ETaken k bs → takeE k bs = en0) := fun h => by unfold takeE; rw [if_neg h]
  go_enter Try.func10, Try.ntmps10
  go_upto_region 2 with (refine wpList_allocE rfl rfl ?_; try simp only [size_alloc'])
  generalize (w.alloc (Obj.cells (blkA k bs) 29)).alloc (Obj.cells (enA en0) 26) = W at *
  generalize hp : w.heap.size = p at *
  by_cases hit : ITaken (seg bs 0 7)
  · have HVE := Lib.hid (HTV.out hit)
    have HDI := Lib.hid (decide_eq_true hit)
    have HMI := Lib.hid (HIS.out.1 hit)
    rw [HVE.out, HDI.out] at HIT
    clear hit
    generalize hL1 : (rdE bs).l = l at *
    generalize hA1 : (rdE bs).a = a at *
    generalize hG1 : (rdE bs).g = g at *
    clear hL1 hA1 hG1
    go_wp2_with fail
    refine (HIT.out _ HT0.out.blk).mono ?_; rintro e w1 ⟨rfl, hb1⟩
    have HT1 := Lib.hid (HT0.out.below hb1)
    clear hb1 HT0
    have HI0 := IdAt.new w1 0 0 0
    have HTR0 : Hid (TF0 w p k bs ((w1.alloc (Obj.cells #[.int .i64 0, .int .i64 0, .int .u32 0] 24)).setRow w1.heap.size (idA l a g))) := HT1.out.below (below_setRow (bel1 _) (Nat.le_refl _) _)
    have HID := Lib.hid (HI0.set l a g)
    go_upto_region 3 with (first
      | (refine wpList_storeI rfl (.tmp 5) (.tmp 16) rfl w1.heap.size rfl l a g rfl 0 0 0 HI0 ?_
         generalize (w1.alloc (Obj.cells #[.int .i64 0, .int .i64 0, .int .u32 0] 24)).setRow w1.heap.size (idA l a g) = w2 at *))
    clear HT1 HI0
    generalize w1.heap.size = q at *
    have c13 := HC13.out w2 HTR0.out.blk
    by_cases h14 : 14 < yn
    · have hq := h14
      have hno : ¬ ETaken k bs := fun h => by have := (HTD.out.1 h).1; omega
      have HE := Lib.hid (HNO.out hno)
      have HD := Lib.hid (decide_eq_false hno)
      clear hno
      go_wp2_with (first
        | (refine wpList_buildE0 rfl rfl ?_)
        | (refine wpList_storeE rfl (.tmp 2) (.tmp 27) rfl (p + 1) rfl en0 en0 rfl HTR0.out.res ?_))
      refine bodyPost_ret (results_enu rfl _ _ (p + 1) en0 rfl (HTR0.out.res.set _)) rfl ?_
      have hbl := below_setRow HTR0.out.bel (show p ≤ p + 1 by omega) (enA en0)
      exact ⟨by rw [HE.out, HD.out]; rfl, by first | exact hbl | (rw [hp]; exact hbl)⟩
    have hy42 : yn ≤ 42 := by omega
    have HCV := Lib.hid (HCV.out hy42)
    have HPUT := Lib.hid (HPUT.out hy42)
    go_upto_region 5 with fail
    clear c13
    go_cut [7] (fun s wx => ∃ r, s = .pointer (some ⟨r, 0, none⟩) ∧ TF w p r k bs (rdE bs) wx)
    case first =>
      have hblk : w2.drew.heap[p]? = some (.cells (blkA k bs) 29 (0, 0)) := HTR0.out.blk
      have hid : IdAt w2.drew q l a g := HID.out
      have hJ0 : JTE w2.drew false w2.drew := rfl
      have HTR0 : Hid (TF0 w p k bs w2.drew) := ⟨HTR0.out.bel.drew, HTR0.out.blk, HTR0.out.res⟩
      refine wp_region_rgk (VTE p q bs l a g yn w2.drew) (fun L W2 => JTE w2.drew (L 18) W2) (fun _ _ _ => True) (by kernel_rfl) (by kernel_rfl) (fun i j v' w' w'' _ _ hv _ => hv) hJ0 ?_
      clear hJ0 HID
      generalize w2.drew = W0 at *
      simp only [RAll]
      refine ⟨?_, ?_, ?_, ?_, ?_, ?_, ?_, ?_, ?_, ?_, ?_, ?_, ?_, ?_, ?_, ?_, ?_, ?_, ?_, ?_⟩
      · refine RStepK.of rfl fun T W L hag hL hJ hLs hd => ?_   -- 0: 28 := Op.load 24 (Operand.tmp 5)
        have e5 : T.getD 5 undef = _ := (agree_at hag 5 (by kernel_rfl)).trans rfl
        clear hag hd
        refine wp_loadI (.tmp 5) rfl q e5 l a g (hJ.id_ hid) ?_
        exact ⟨_, rfl, rfl, hJ, trivial⟩
      · refine RStepK.of rfl fun T W L hag hL hJ hLs hd => ?_   -- 1: 29 := Op.move (Operand.tmp 4)
        have e4 : T.getD 4 undef = _ := (agree_at hag 4 (by kernel_rfl)).trans rfl
        clear hag hd
        go_simp
        exact ⟨_, rfl, rfl⟩
      · refine RStepK.of rfl fun T W L hag hL hJ hLs hd => ?_   -- 2: 30 := Op.move (Operand.tmp 4)
        have e4 : T.getD 4 undef = _ := (agree_at hag 4 (by kernel_rfl)).trans rfl
        clear hag hd
        go_simp
        exact ⟨_, rfl, rfl⟩
      · refine RStepK.of rfl fun T W L hag hL hJ hLs hd => ?_   -- 3: 31 := Op.indexAddr 41 (Operand.tmp 30) (Operand.const (Value.int I
        have d30 : T.getD 30 undef = _ := hd ⟨2, .data⟩ (by simp) rfl _ rfl
        clear hag hd
        go_simp
        exact ⟨_, rfl, rfl⟩
      · refine RStepK.of rfl fun T W L hag hL hJ hLs hd => ?_   -- 4: 32 := Op.load 5 (Operand.tmp 31)
        have d31 : T.getD 31 undef = _ := hd ⟨3, .data⟩ (by simp) rfl _ rfl
        have fct0 := HC13.out W (hJ.blk hblk)
        clear hag hd
        go_simp
        exact ⟨_, rfl, rfl⟩
      · refine RStepK.of rfl fun T W L hag hL hJ hLs hd => ?_   -- 5: 33 := Op.convert 5 3 (Operand.tmp 32)
        have d32 : T.getD 32 undef = _ := hd ⟨4, .data⟩ (by simp) rfl _ rfl
        have fct0 := wy
        clear hag hd
        go_simp
        exact ⟨_, rfl, rfl⟩
      · refine RStepK.of rfl fun T W L hag hL hJ hLs hd => ?_   -- 6: 34 := Op.binOp BinOp.add 3 (Operand.const (Value.int IntKind.i64 1
        have d33 : T.getD 33 undef = _ := hd ⟨5, .data⟩ (by simp) rfl _ rfl
        have fct0 := wy2
        clear hag hd
        go_simp
        exact ⟨_, rfl, rfl⟩
      · refine RStepK.of rfl fun T W L hag hL hJ hLs hd => ?_   -- 7: 35 := Op.slice 41 (Operand.tmp 29) (some (Operand.const (Value.int
        have d29 : T.getD 29 undef = _ := hd ⟨1, .data⟩ (by simp) rfl _ rfl
        have d34 : T.getD 34 undef = _ := hd ⟨6, .data⟩ (by simp) rfl _ rfl
        have fct0 := (fun W => run_slice_bodyE p (m := yn) hy42 W)
        clear hag hd
        go_simp
        exact ⟨_, rfl, rfl⟩
      · refine RStepK.of rfl fun T W L hag hL hJ hLs hd => ?_   -- 8: 36 := Op.convert 41 9 (Operand.tmp 35)
        have d35 : T.getD 35 undef = _ := hd ⟨7, .data⟩ (by simp) rfl _ rfl
        have fct0 := HCV.out W (hJ.blk hblk)
        clear hag hd
        go_simp
        exact ⟨_, rfl, rfl⟩
      · refine RStepK.of rfl fun T W L hag hL hJ hLs hd => ?_   -- 9: 37 := Op.move (Operand.tmp 4)
        have e4 : T.getD 4 undef = _ := (agree_at hag 4 (by kernel_rfl)).trans rfl
        clear hag hd
        go_simp
        exact ⟨_, rfl, rfl⟩
      · refine RStepK.of rfl fun T W L hag hL hJ hLs hd => ?_   -- 10: 38 := Op.slice 41 (Operand.tmp 37) (some (Operand.const (Value.int
        have d37 : T.getD 37 undef = _ := hd ⟨9, .data⟩ (by simp) rfl _ rfl
        clear hag hd
        go_simp
        exact ⟨_, rfl, rfl⟩
      · refine RStepK.of rfl fun T W L hag hL hJ hLs hd => ?_   -- 11: 39 := Op.call { callee := Callee.value (Operand.func 24), args := 
        have d38 : T.getD 38 undef = _ := hd ⟨10, .data⟩ (by simp) rfl _ rfl
        clear hag hd
        go_simp
        refine (HT.out 7 2 2 49 W (hJ.blk hblk) rfl (by omega) (by omega)).mono ?_
        rintro en w' ⟨rfl, rfl⟩
        exact ⟨_, rfl, rfl, hJ⟩
      · refine RStepK.of rfl fun T W L hag hL hJ hLs hd => ?_   -- 12: 40 := Op.convert 45 3 (Operand.tmp 39)
        have d39 : T.getD 39 undef = _ := hd ⟨11, .data⟩ (by simp) rfl _ rfl
        have fct0 := wn2
        clear hag hd
        go_simp
        exact ⟨_, rfl, rfl⟩
      · refine RStepK.of rfl fun T W L hag hL hJ hLs hd => ?_   -- 13: 41 := Op.move (Operand.tmp 4)
        have e4 : T.getD 4 undef = _ := (agree_at hag 4 (by kernel_rfl)).trans rfl
        clear hag hd
        go_simp
        exact ⟨_, rfl, rfl⟩
      · refine RStepK.of rfl fun T W L hag hL hJ hLs hd => ?_   -- 14: 42 := Op.slice 41 (Operand.tmp 41) (some (Operand.const (Value.int
        have d41 : T.getD 41 undef = _ := hd ⟨13, .data⟩ (by simp) rfl _ rfl
        clear hag hd
        go_simp
        exact ⟨_, rfl, rfl⟩
      · refine RStepK.of rfl fun T W L hag hL hJ hLs hd => ?_   -- 15: 43 := Op.call { callee := Callee.value (Operand.func 24), args := 
        have d42 : T.getD 42 undef = _ := hd ⟨14, .data⟩ (by simp) rfl _ rfl
        clear hag hd
        go_simp
        refine (HT.out 9 4 4 47 W (hJ.blk hblk) rfl (by omega) (by omega)).mono ?_
        rintro en w' ⟨rfl, rfl⟩
        exact ⟨_, rfl, rfl, hJ⟩
      · refine RStepK.of rfl fun T W L hag hL hJ hLs hd => ?_   -- 16: 44 := Op.convert 45 22 (Operand.tmp 43)
        have d43 : T.getD 43 undef = _ := hd ⟨15, .data⟩ (by simp) rfl _ rfl
        have fct0 := wn4
        clear hag hd
        go_simp
        exact ⟨_, rfl, rfl⟩
      · refine RStepK.of rfl fun T W L hag hL hJ hLs hd => ?_   -- 17: 45 := Op.build 26 #[(0, Operand.tmp 28), (1, Operand.tmp 36), (2, 
        have d28 : T.getD 28 undef = _ := hd ⟨0, .data⟩ (by simp) rfl _ rfl
        have d36 : T.getD 36 undef = _ := hd ⟨8, .data⟩ (by simp) rfl _ rfl
        have d40 : T.getD 40 undef = _ := hd ⟨12, .data⟩ (by simp) rfl _ rfl
        have d44 : T.getD 44 undef = _ := hd ⟨16, .data⟩ (by simp) rfl _ rfl
        clear hag hd
        have hbu := fun W => run_build (P := Try.prog) W 26 #[(0, idV l a g), (1, .string (strOfNums (seg bs 14 yn))), (2, .int .i64 (numV (seg bs 7 2))), (3, .int .u32 (numV (seg bs 9 4)))] _ (builtE4 l a g (seg bs 14 yn) (numV (seg bs 7 2)) (numV (seg bs 9 4)))
        simp only [Array.getD_eq_getD_getElem?] at d28 d36 d40 d44
        go_simp
        exact ⟨_, rfl, rfl, hJ⟩
      · refine RStepK.of rfl fun T W L hag hL hJ hLs hd => ?_   -- 18: 7 := Op.alloc 26
        have hJ0 : W = W0 := by have h := hJ; unfold JTE at h; rw [show L 18 = false from hL] at h; exact h
        subst hJ0
        clear hag hd
        refine wp_allocE rfl ?_
        exact ⟨_, rfl, rfl, rfl, trivial⟩
      · refine RLastK.of rfl fun T W L hag hLs hL hJ hd => ?_   -- 19: None := Op.store 26 (Operand.tmp 7) (Operand.tmp 45)
        have d7 : T.getD 7 undef = _ := hd 18 _ (by simp) rfl
        have d45 : T.getD 45 undef = _ := hd 17 _ (by simp) rfl
        obtain ⟨f, hf, hT⟩ := agree_fn hag
        have h7 := (hf 7).trans d7
        have h45 := (hf 45).trans d45
        have HJ := Lib.hid hJ
        clear hag hd d7 d45 hJ hf
        rw [hT]
        clear hT
        simp only [List.pop_toArray, List.dropLast_cons_cons, List.dropLast_singleton, List.filterMap_cons, List.filterMap_nil, List.foldl_cons, List.foldl_nil, List.setIfInBounds_toArray, List.set_cons_succ, List.set_cons_zero, h7, h45]
        have hJ0 : W = W0.alloc (.cells (enA en0) 26) := by have h := HJ.out; unfold JTE at h; rw [show L 18 = true from hLs 18 (by decide)] at h; exact h
        subst hJ0
        have HN0 := EnAt.new W0 en0
        refine wp_storeE (.tmp 7) (.tmp 45) rfl W0.heap.size rfl ⟨l, a, g, seg bs 14 yn, numV (seg bs 7 2), numV (seg bs 9 4)⟩ en0 rfl HN0 ?_
        rename_i hJc hKc
        go_wp2_with fail
        refine hJc _ _ ?_
        repeat apply Exists.intro
        exact ⟨⟨_, rfl, by rw [HTS.out]; exact HTR0.out.made⟩, rfl⟩
    case rest =>
      obtain ⟨r, rfl, htr⟩ := hcut
      have HT3 := Lib.hid htr
      clear htr HTR0 HID wn2 wn4
      go_wp2_with (refine wpList_loadE rfl (.tmp 7) rfl r rfl (rdE bs) HT3.out.nd ?_)
      refine (HPUT.out _).mono ?_; rintro e w6 ⟨rfl, hb6⟩
      have HT6 := Lib.hid (HT3.out.below hb6)
      have hlt6 : p + 1 < w6.heap.size := HT6.out.to0.sz
      clear hb6 HT3
      have HQ0 := heap_alloc_new w6 (Obj.cells (blkA 0 zBs) 29)
      by_cases hm : MayE (rdE bs)
      · have HPK : Hid (putEK (rdE bs) = 6) := by unfold Hid putEK; rw [if_pos hm]
        have HPB : Hid (putEB (rdE bs) = pad (bytesE (rdE bs))) := by unfold Hid putEB; rw [if_pos hm]
        have HL : Hid ((pad (bytesE (rdE bs))).length = 56) := by unfold Hid; rw [← HPB.out]; exact putEB_len
        have HLB : Hid (AllB (pad (bytesE (rdE bs)))) := by unfold Hid; rw [← HPB.out]; exact putEB_allB hok.t
        rw [HPK.out, HPB.out, decide_eq_true hm]
        have HTE : Hid (ETaken k bs ↔ (6 = k ∧ pad (bytesE (rdE bs)) = bs)) := HTD.out.trans ⟨fun h => ⟨h.2.2.1.symm, h.2.2.2⟩, fun h => ⟨by omega, hm, h.1.symm, h.2⟩⟩
        clear hm HPK HPB HTD
        generalize pad (bytesE (rdE bs)) = cs at *
        have b7 := below_setRow (bel1 (w := w6) (Obj.cells (blkA 0 zBs) 29)) (Nat.le_refl w6.heap.size) (blkA 6 cs)
        have HT7 := Lib.hid (HT6.out.below b7)
        have HQ7 := Lib.hid (setRow_blk (D := blkA 6 cs) HQ0)
        clear b7 HT6
        go_upto_region 7 with (first
          | (refine wpList_allocB rfl rfl ?_)
          | (refine wpList_storeB rfl (.tmp 8) (.tmp 49) rfl w6.heap.size rfl 6 0 cs zBs rfl HL.out zBs_len HQ0 ?_
             generalize (w6.alloc (Obj.cells (blkA 0 zBs) 29)).setRow w6.heap.size (blkA 6 cs) = w7 at *))
        clear HQ0
        generalize w6.heap.size = s at *
        by_cases hc : 6 = k ∧ cs = bs
        · have HQ : Hid ((!(decide (6 = k ∧ cs = bs))) = false) := by unfold Hid; simp [hc]
          have HE := Lib.hid (HY.out (HTE.out.2 hc))
          have HD := Lib.hid (decide_eq_true (HTE.out.2 hc))
          clear hc
          go_wp2_with (first
            | (refine wpList_loadBw (by rfl) (.tmp 8) rfl s rfl 6 cs HL.out HQ7.out ?_)
            | (refine wpList_loadBw (by rfl) (.tmp 1) rfl p rfl k bs H56.out HT7.out.to0.blk ?_)
            | (refine wpList_neqBw (by rfl) (.tmp 54) (.tmp 55) _ rfl 6 k cs bs rfl rfl HL.out H56.out HLB.out HBB.out ?_; rw [HQ.out])
            | (refine wpList_loadE rfl (.tmp 7) rfl r rfl (rdE bs) HT7.out.nd ?_)
            | (refine wpList_storeE rfl (.tmp 2) (.tmp 59) rfl (p + 1) rfl (rdE bs) en0 rfl HT7.out.to0.res ?_))
          refine bodyPost_ret (results_enu rfl _ _ (p + 1) (rdE bs) rfl (HT7.out.to0.res.set _)) rfl ?_
          have hbl := below_setRow HT7.out.to0.bel (show p ≤ p + 1 by omega) (enA (rdE bs))
          exact ⟨by rw [HE.out, HD.out]; rfl, by first | exact hbl | (rw [hp]; exact hbl)⟩
        · have HQ : Hid ((!(decide (6 = k ∧ cs = bs))) = true) := by unfold Hid; rw [decide_eq_false hc]; rfl
          have hno : ¬ ETaken k bs := fun h => hc (HTE.out.1 h)
          have HE := Lib.hid (HNO.out hno)
          have HD := Lib.hid (decide_eq_false hno)
          clear hno
          clear hc
          go_wp2_with (first
            | (refine wpList_loadBw (by rfl) (.tmp 8) rfl s rfl 6 cs HL.out HQ7.out ?_)
            | (refine wpList_loadBw (by rfl) (.tmp 1) rfl p rfl k bs H56.out HT7.out.to0.blk ?_)
            | (refine wpList_neqBw (by rfl) (.tmp 54) (.tmp 55) _ rfl 6 k cs bs rfl rfl HL.out H56.out HLB.out HBB.out ?_; rw [HQ.out])
            | (refine wpList_buildE0 rfl rfl ?_)
            | (refine wpList_storeE rfl (.tmp 2) (.tmp 58) rfl (p + 1) rfl en0 en0 rfl HT7.out.to0.res ?_))
          refine bodyPost_ret (results_enu rfl _ _ (p + 1) en0 rfl (HT7.out.to0.res.set _)) rfl ?_
          have hbl := below_setRow HT7.out.to0.bel (show p ≤ p + 1 by omega) (enA en0)
          exact ⟨by rw [HE.out, HD.out]; rfl, by first | exact hbl | (rw [hp]; exact hbl)⟩
      · have HPK : Hid (putEK (rdE bs) = 0) := by unfold Hid putEK; rw [if_neg hm]
        have HPB : Hid (putEB (rdE bs) = zBs) := by unfold Hid putEB; rw [if_neg hm]
        rw [HPK.out, HPB.out, decide_eq_false hm]
        have hno : ¬ ETaken k bs := fun h => hm (HTD.out.1 h).2.1
        have HE := Lib.hid (HNO.out hno)
        have HD := Lib.hid (decide_eq_false hno)
        clear hno
        clear hm HPK HPB HTD
        have b7 := below_setRow (bel1 (w := w6) (Obj.cells (blkA 0 zBs) 29)) (Nat.le_refl w6.heap.size) (blkA 0 zBs)
        have HT7 := Lib.hid (HT6.out.below b7)
        clear b7 HT6
        go_wp2_with (first
          | (refine wpList_allocB rfl rfl ?_)
          | (refine wpList_storeB rfl (.tmp 8) (.tmp 49) rfl w6.heap.size rfl 0 0 zBs zBs rfl zBs_len zBs_len HQ0 ?_
             generalize (w6.alloc (Obj.cells (blkA 0 zBs) 29)).setRow w6.heap.size (blkA 0 zBs) = w7 at *)
          | (refine wpList_buildE0 rfl rfl ?_)
          | (refine wpList_storeE rfl (.tmp 2) (.tmp 58) rfl (p + 1) rfl en0 en0 rfl HT7.out.to0.res ?_))
        refine bodyPost_ret (results_enu rfl _ _ (p + 1) en0 rfl (HT7.out.to0.res.set _)) rfl ?_
        have hbl := below_setRow HT7.out.to0.bel (show p ≤ p + 1 by omega) (enA en0)
        exact ⟨by rw [HE.out, HD.out]; rfl, by first | exact hbl | (rw [hp]; exact hbl)⟩
  · have HVE := Lib.hid (takeV_no hit)
    have HDI := Lib.hid (decide_eq_false hit)
    have hno : ¬ ETaken k bs := fun h => hit (HIS.out.2 (HTD.out.1 h).2.1.1.1)
    have HE := Lib.hid (HNO.out hno)
    have HD := Lib.hid (decide_eq_false hno)
    rw [HVE.out, HDI.out] at HIT
    clear hit hno
    go_wp2_with fail
    refine (HIT.out _ HT0.out.blk).mono ?_; rintro e w1 ⟨rfl, hb1⟩
    have HT1 := Lib.hid (HT0.out.below hb1)
    clear hb1 HT0
    have HI0 := IdAt.new w1 0 0 0
    have HTR0 : Hid (TF0 w p k bs ((w1.alloc (Obj.cells #[.int .i64 0, .int .i64 0, .int .u32 0] 24)).setRow w1.heap.size (idA 0 0 0))) := HT1.out.below (below_setRow (bel1 _) (Nat.le_refl _) _)
    go_wp2_with (first
      | (refine wpList_storeI rfl (.tmp 5) (.tmp 16) rfl w1.heap.size rfl 0 0 0 rfl 0 0 0 HI0 ?_
         generalize (w1.alloc (Obj.cells #[.int .i64 0, .int .i64 0, .int .u32 0] 24)).setRow w1.heap.size (idA 0 0 0) = w2 at *)
      | (refine wpList_buildE0 rfl rfl ?_)
      | (refine wpList_storeE rfl (.tmp 2) (.tmp 27) rfl (p + 1) rfl en0 en0 rfl HTR0.out.res ?_))
    refine bodyPost_ret (results_enu rfl _ _ (p + 1) en0 rfl (HTR0.out.res.set _)) rfl ?_
    have hbl := below_setRow HTR0.out.bel (show p ≤ p + 1 by omega) (enA en0)
    exact ⟨by rw [HE.out, HD.out]; rfl, by first | exact hbl | (rw [hp]; exact hbl)⟩
end Go.Proofs.Ytcmmopngjeonfaa
