/- Contracts: node.takeNumber, takeNumbers. -/
import Derived.Test.YtebahdiiokfkfaaGh
namespace Go.Proofs.Ytebahdiiokfkfaa
open Go.ChangeShapes Go.WideShapes Go.ChangeAt Go.RowKit
set_option linter.unusedVariables false
theorem takenum_any (A : Option Addr) (xs : List Int) (n d : Nat) (w : World) (hn : xs.length = n) (hl : n ≤ 4) (hB : AllB xs) (hy : Byt w A xs) :
    Calls Try.prog 25 #[.slice A n d] w fun e w' => e = .returned (.int .u32 (numV xs)) ∧ w = w' := by
  have HY := Lib.hid hy
  have HN := Lib.hid hn
  have HB := Lib.hid hB
  clear hn hB hy
  go_enter Try.func25, Try.ntmps25
  go_wp2
  go_loop [3, 8] (fun z i => ∃ k : Nat, k ≤ n ∧ i = .int .i64 k ∧ z = .int .u32 (numV (xs.take k) : Nat)) (fun _ i => n - (intOf i).toNat)
  case atStart => exact ⟨0, Nat.zero_le _, rfl, rfl⟩
  case round =>
    obtain ⟨k, hk, rfl, rfl⟩ := hrel
    by_cases hlt : k < n
    · obtain ⟨x, hx⟩ : ∃ x, xs[k]? = some x := ⟨_, List.getElem?_eq_getElem (by rw [HN.out]; exact hlt)⟩
      obtain ⟨ad, rfl, hc0⟩ := HY.out k x hx
      have hxb := HB.out x (List.mem_of_getElem? hx)
      obtain ⟨y, rfl⟩ : ∃ y : Nat, x = (y : Int) := ⟨x.toNat, by omega⟩
      have hyb : y < 256 := by omega
      have HS : Hid (numV (xs.take (k + 1)) = numV (xs.take k) * 256 + y) := by
        unfold Hid; rw [take_snoc' hx, numV_snoc, Int.toNat_natCast]
      have hv := numV_lt k (xs.take k) (by rw [List.length_take, HN.out]; omega) (fun z hz => HB.out z (List.mem_of_mem_take hz))
      have hv2 : 256 ^ k ≤ 256 ^ 3 := Nat.pow_le_pow_right (by omega) (by omega)
      have hv3 : numV (xs.take k) < 16777216 := by omega
      clear hx hxb hv hv2
      generalize numV (xs.take k) = a at *
      have wy : IntKind.u32.wrap (y : Int) = y := IntWalk.u32_in _ (by omega)
      have wa : IntKind.u32.wrap ((a : Int) * 256) = (a : Int) * 256 := IntWalk.u32_in _ (by omega)
      have wb := or_byte a y hv3 hyb
      go_wp2
      go_round
      case rel => exact ⟨k + 1, by omega, by go_num, by rw [HS.out]; go_num⟩
      case measure => simp [intOf]; omega
    · have e : xs.take k = xs := List.take_of_length_le (by rw [HN.out]; omega)
      rw [e]
      go_wp2
      go_ret
      exact ⟨rfl, rfl⟩
/-- A part of a body, in memory. -/
theorem byt_seg {W : World} {g : Nat} {k : Int} {bs : List Int} (h : W.heap[g]? = some (.cells (blkA k bs) 28 (0, 0))) (o m : Nat) : Byt W (some ⟨g, 1 + o, none⟩) ((bs.drop o).take m) := by
  intro i x hi
  refine ⟨_, rfl, ?_⟩
  rw [List.getElem?_take] at hi
  split at hi
  · rw [List.getElem?_drop] at hi
    rw [add_off, blk_cell h, ← Array.getElem?_toList, blkA_list]
    unfold blkL
    rw [show 1 + o + i = (o + i) + 1 by omega]
    exact Bs_at hi
  · cases hi
def seg (bs : List Int) (o m : Nat) : List Int := (bs.drop o).take m
theorem seg_len {bs : List Int} (h : bs.length = 56) {o m : Nat} (hm : o + m ≤ 56) : (seg bs o m).length = m := by unfold seg; rw [List.length_take, List.length_drop]; omega
theorem seg_allB {bs : List Int} (h : AllB bs) (o m : Nat) : AllB (seg bs o m) := fun x hx => h x (List.mem_of_mem_drop (List.mem_of_mem_take hx))
def plV (bs : List Int) (i : Nat) : Int := (numV (seg bs (10 + 2 * i) 2) : Int) - 1
/-- What the first bytes tell, j places told. -/
def rdJ (bs : List Int) (j : Nat) : Nd := ⟨numV (seg bs 0 4), numV (seg bs 4 2), numV (seg bs 6 4), if 0 < j then plV bs 0 else 0, if 1 < j then plV bs 1 else 0, if 2 < j then plV bs 2 else 0, if 3 < j then plV bs 3 else 0, if 4 < j then plV bs 4 else 0, []⟩
theorem numV2_lt {bs : List Int} (h : bs.length = 56) (hB : AllB bs) {o : Nat} (ho : o + 2 ≤ 56) : numV (seg bs o 2) < 65536 := numV_lt 2 _ (seg_len h ho) (seg_allB hB _ _)
theorem numV4_lt {bs : List Int} (h : bs.length = 56) (hB : AllB bs) {o : Nat} (ho : o + 4 ≤ 56) : numV (seg bs o 4) < 4294967296 := numV_lt 4 _ (seg_len h ho) (seg_allB hB _ _)
theorem builtN3 (g l s : Int) : Try.prog.built 25 [(0, .int .u32 g), (1, .int .i64 l), (2, .int .i64 s)] = some (ndA ⟨g, l, s, 0, 0, 0, 0, 0, []⟩) := by kernel_rfl
def slN (g i : Nat) : Value := .slice (some ⟨g, 11 + 2 * i, none⟩) (10 - 2 * i) (46 - 2 * i)
theorem wp_allocN {o : Oper} {ac : Act} {w : World} {K : Act → World → Prop} {Q : Exit → Act → World → Prop} (ho : o.op = .alloc 25)
    (h : K (ac.put o.dst (.pointer (some ⟨w.heap.size, 0, none⟩))) (w.alloc (.cells (ndA nd0) 25))) : o.wp Try.prog ac w K Q := by
  obtain ⟨i0, hi, hz0, hz1⟩ : ∃ i, Try.prog.info? 25 = some i ∧ i.zero = some (.agg (ndA nd0)) ∧ i.size = 9 := by
    have h := infoN
    cases hq : Try.prog.info? 25 with
    | none => rw [hq] at h; cases h
    | some i => rw [hq] at h; simp only [Option.map_some, Option.some.injEq, Prod.mk.injEq] at h; exact ⟨i, rfl, h.1, h.2⟩
  exact wp_alloc_of 25 ho i0 _ hi hz0 h
/-- The region's world: with the new node, or without. -/
def JTN (W0 : World) (b : Bool) (W : World) : Prop := W = (if b = true then W0.alloc (.cells (ndA nd0) 25) else W0)
theorem JTN.blk {W0 W : World} {b : Bool} {g : Nat} {k : Int} {bs : List Int} (h : JTN W0 b W) (hg : W0.heap[g]? = some (.cells (blkA k bs) 28 (0, 0))) : W.heap[g]? = some (.cells (blkA k bs) 28 (0, 0)) := by
  unfold JTN at h
  subst h
  cases b
  · exact hg
  · exact kb (bel1 _) hg
def VTN (g : Nat) (bs : List Int) (W0 : World) (i : Nat) (v : Value) (W : World) : Prop :=
  match i with
  | 0 | 3 | 7 => v = .slice (some ⟨g, 1, none⟩) 20 56
  | 1 => v = .slice (some ⟨g, 1, none⟩) 4 56
  | 2 => v = .int .u32 (numV (seg bs 0 4))
  | 4 => v = .slice (some ⟨g, 5, none⟩) 2 52
  | 5 => v = .int .u32 (numV (seg bs 4 2))
  | 6 => v = .int .i64 (numV (seg bs 4 2))
  | 8 => v = .slice (some ⟨g, 7, none⟩) 4 50
  | 9 => v = .int .u32 (numV (seg bs 6 4))
  | 10 => v = .int .i64 (numV (seg bs 6 4))
  | 11 => v = .agg (ndA (rdJ bs 0))
  | 12 => v = .pointer (some ⟨W0.heap.size, 0, none⟩)
  | _ => True
theorem takeseg_any (g : Nat) (k : Int) (bs : List Int) (h56 : bs.length = 56) (hB : AllB bs) (o m n d : Nat) (w : World) (hg : w.heap[g]? = some (.cells (blkA k bs) 28 (0, 0))) (hn : m = n) (ho : o + m ≤ 56) (hm : m ≤ 4) :
    Calls Try.prog 25 #[.slice (some ⟨g, 1 + o, none⟩) n d] w fun e w' => e = .returned (.int .u32 (numV (seg bs o m))) ∧ w = w' :=
  takenum_any _ (seg bs o m) n d w (by rw [seg_len h56 ho]; exact hn) (by omega) (seg_allB hB _ _) (byt_seg hg o m)
set_option maxRecDepth 100000 in
set_option maxHeartbeats 6400000 in
theorem takenums_any (g : Nat) (k : Int) (bs : List Int) (w : World) (h56 : bs.length = 56) (hB : AllB bs) (hg : w.heap[g]? = some (.cells (blkA k bs) 28 (0, 0))) :
    Calls Try.prog 18 #[.slice (some ⟨g, 1, none⟩) 20 56] w fun e w' => e = .returned (.agg (ndA (rdJ bs 5))) ∧ Below w.heap.size w w' := by
  have HT := Lib.hid (fun o m n d W hg hn h2 h3 => takeseg_any g k bs h56 hB o m n d W hg hn h2 h3)
  have HN2 := Lib.hid (fun o ho => numV2_lt (o := o) h56 hB ho)
  have HN4 := Lib.hid (fun o ho => numV4_lt (o := o) h56 hB ho)
  have wc1 : IntKind.i64.wrap (numV (seg bs 4 2) : Int) = numV (seg bs 4 2) := IntWalk.i64_in _ (by have := HN2.out 4 (by omega); omega)
  have wc2 : IntKind.i64.wrap (numV (seg bs 6 4) : Int) = numV (seg bs 6 4) := IntWalk.i64_in _ (by have := HN4.out 6 (by omega); omega)
  have HR := Lib.hid (NdAt.new w nd0)
  have HB := Lib.hid (bel1 (w := w) (Obj.cells (ndA nd0) 25))
  have HG := Lib.hid (kb (bel1 (Obj.cells (ndA nd0) 25)) hg)
  have hlt : g < w.heap.size := room_lt hg
  have HG0 := Lib.hid hg
  clear hg
  go_enter Try.func18, Try.ntmps18
  go_upto_region 1 with (refine wpList_allocN rfl rfl ?_; go_simp)
  generalize w.alloc (Obj.cells (ndA nd0) 25) = W at *
  go_cut [3] (fun s wx => ∃ q, s = .pointer (some ⟨q, 0, none⟩) ∧ w.heap.size < q ∧ NdAt wx q (rdJ bs 0) ∧ NdAt wx w.heap.size nd0 ∧ Below w.heap.size w wx)
  case first =>
    have hblk : W.drew.heap[g]? = some (.cells (blkA k bs) 28 (0, 0)) := HG.out
    have hJ0 : JTN W.drew false W.drew := rfl
    have HRD : Hid (NdAt W.drew w.heap.size nd0) := HR
    have HBD : Hid (Below w.heap.size w W.drew) := HB.out.drew
    have hlw : w.heap.size < W.drew.heap.size := room_lt HRD.out
    refine wp_region_rgk (VTN g bs W.drew) (fun L W2 => JTN W.drew (L 12) W2) (fun _ _ _ => True) (by kernel_rfl) (by kernel_rfl) (fun i j v' w' w'' _ _ hv _ => hv) hJ0 ?_
    clear hJ0 HR HB HG
    generalize W.drew = W0 at *
    simp only [RAll]
    refine ⟨?_, ?_, ?_, ?_, ?_, ?_, ?_, ?_, ?_, ?_, ?_, ?_, ?_, ?_⟩
    · refine RStepK.of rfl fun T W L hag hL hJ hLs hd => ?_   -- 0: 5 := Op.move (Operand.tmp 0)
      have e0 : T.getD 0 undef = _ := (agree_at hag 0 (by kernel_rfl)).trans rfl
      clear hag hd
      go_simp
      exact ⟨_, rfl, rfl⟩
    · refine RStepK.of rfl fun T W L hag hL hJ hLs hd => ?_   -- 1: 6 := Op.slice 37 (Operand.tmp 5) none (some (Operand.const (Value
      have d5 : T.getD 5 undef = _ := hd ⟨0, .data⟩ (by simp) rfl _ rfl
      clear hag hd
      go_simp
      exact ⟨_, rfl, rfl⟩
    · refine RStepK.of rfl fun T W L hag hL hJ hLs hd => ?_   -- 2: 7 := Op.call { callee := Callee.value (Operand.func 25), args := 
      have d6 : T.getD 6 undef = _ := hd ⟨1, .data⟩ (by simp) rfl _ rfl
      clear hag hd
      go_simp
      refine (HT.out 0 4 4 56 W (hJ.blk hblk) rfl (by omega) (by omega)).mono ?_
      rintro en w' ⟨rfl, rfl⟩
      exact ⟨_, rfl, rfl, hJ⟩
    · refine RStepK.of rfl fun T W L hag hL hJ hLs hd => ?_   -- 3: 8 := Op.move (Operand.tmp 0)
      have e0 : T.getD 0 undef = _ := (agree_at hag 0 (by kernel_rfl)).trans rfl
      clear hag hd
      go_simp
      exact ⟨_, rfl, rfl⟩
    · refine RStepK.of rfl fun T W L hag hL hJ hLs hd => ?_   -- 4: 9 := Op.slice 37 (Operand.tmp 8) (some (Operand.const (Value.int 
      have d8 : T.getD 8 undef = _ := hd ⟨3, .data⟩ (by simp) rfl _ rfl
      clear hag hd
      go_simp
      exact ⟨_, rfl, rfl⟩
    · refine RStepK.of rfl fun T W L hag hL hJ hLs hd => ?_   -- 5: 10 := Op.call { callee := Callee.value (Operand.func 25), args := 
      have d9 : T.getD 9 undef = _ := hd ⟨4, .data⟩ (by simp) rfl _ rfl
      clear hag hd
      go_simp
      refine (HT.out 4 2 2 52 W (hJ.blk hblk) rfl (by omega) (by omega)).mono ?_
      rintro en w' ⟨rfl, rfl⟩
      exact ⟨_, rfl, rfl, hJ⟩
    · refine RStepK.of rfl fun T W L hag hL hJ hLs hd => ?_   -- 6: 11 := Op.convert 22 3 (Operand.tmp 10)
      have d10 : T.getD 10 undef = _ := hd ⟨5, .data⟩ (by simp) rfl _ rfl
      have fct0 := wc1
      clear hag hd
      go_simp
      exact ⟨_, rfl, rfl⟩
    · refine RStepK.of rfl fun T W L hag hL hJ hLs hd => ?_   -- 7: 12 := Op.move (Operand.tmp 0)
      have e0 : T.getD 0 undef = _ := (agree_at hag 0 (by kernel_rfl)).trans rfl
      clear hag hd
      go_simp
      exact ⟨_, rfl, rfl⟩
    · refine RStepK.of rfl fun T W L hag hL hJ hLs hd => ?_   -- 8: 13 := Op.slice 37 (Operand.tmp 12) (some (Operand.const (Value.int
      have d12 : T.getD 12 undef = _ := hd ⟨7, .data⟩ (by simp) rfl _ rfl
      clear hag hd
      go_simp
      exact ⟨_, rfl, rfl⟩
    · refine RStepK.of rfl fun T W L hag hL hJ hLs hd => ?_   -- 9: 14 := Op.call { callee := Callee.value (Operand.func 25), args := 
      have d13 : T.getD 13 undef = _ := hd ⟨8, .data⟩ (by simp) rfl _ rfl
      clear hag hd
      go_simp
      refine (HT.out 6 4 4 50 W (hJ.blk hblk) rfl (by omega) (by omega)).mono ?_
      rintro en w' ⟨rfl, rfl⟩
      exact ⟨_, rfl, rfl, hJ⟩
    · refine RStepK.of rfl fun T W L hag hL hJ hLs hd => ?_   -- 10: 15 := Op.convert 22 3 (Operand.tmp 14)
      have d14 : T.getD 14 undef = _ := hd ⟨9, .data⟩ (by simp) rfl _ rfl
      have fct0 := wc2
      clear hag hd
      go_simp
      exact ⟨_, rfl, rfl⟩
    · refine RStepK.of rfl fun T W L hag hL hJ hLs hd => ?_   -- 11: 16 := Op.build 25 #[(0, Operand.tmp 7), (1, Operand.tmp 11), (2, O
      have d7 : T.getD 7 undef = _ := hd ⟨2, .data⟩ (by simp) rfl _ rfl
      have d11 : T.getD 11 undef = _ := hd ⟨6, .data⟩ (by simp) rfl _ rfl
      have d15 : T.getD 15 undef = _ := hd ⟨10, .data⟩ (by simp) rfl _ rfl
      clear hag hd
      have hbu := fun W => run_build (P := Try.prog) W 25 #[(0, .int .u32 (numV (seg bs 0 4))), (1, .int .i64 (numV (seg bs 4 2))), (2, .int .i64 (numV (seg bs 6 4)))] _ (builtN3 _ _ _)
      simp only [Array.getD_eq_getD_getElem?] at d7 d11 d15
      go_simp
      exact ⟨_, rfl, rfl⟩
    · refine RStepK.of rfl fun T W L hag hL hJ hLs hd => ?_   -- 12: 3 := Op.alloc 25
      have hJ0 : W = W0 := by have h := hJ; unfold JTN at h; rw [show L 12 = false from hL] at h; exact h
      subst hJ0
      clear hag hd
      refine wp_allocN rfl ?_
      exact ⟨_, rfl, rfl, rfl, trivial⟩
    · refine RLastK.of rfl fun T W L hag hLs hL hJ hd => ?_   -- 13: None := Op.store 25 (Operand.tmp 3) (Operand.tmp 16)
      have d3 : T.getD 3 undef = _ := hd 12 _ (by simp) rfl
      have d16 : T.getD 16 undef = _ := hd 11 _ (by simp) rfl
      obtain ⟨f, hf, hT⟩ := agree_fn hag
      have h3 := (hf 3).trans d3
      have h16 := (hf 16).trans d16
      have HJ := Lib.hid hJ
      clear hag hd d3 d16 hJ hf
      rw [hT]
      clear hT
      simp only [List.pop_toArray, List.dropLast_cons_cons, List.dropLast_singleton, List.filterMap_cons, List.filterMap_nil, List.foldl_cons, List.foldl_nil, List.setIfInBounds_toArray, List.set_cons_succ, List.set_cons_zero, h3, h16]
      have hJ0 : W = W0.alloc (.cells (ndA nd0) 25) := by have h := HJ.out; unfold JTN at h; rw [show L 12 = true from hLs 12 (by decide)] at h; exact h
      subst hJ0
      have HN0 := NdAt.new W0 nd0
      refine wp_storeN (.tmp 3) (.tmp 16) rfl W0.heap.size rfl (rdJ bs 0) nd0 rfl HN0 ?_
      rename_i hJc hKc
      go_wp2_with fail
      refine hJc _ _ ?_
      repeat apply Exists.intro
      exact ⟨⟨_, rfl, hlw, HN0.set _, (HRD.out.alloc _).other _ (by omega), below_setRow (HBD.out.alloc HBD.out.size _) (Nat.le_of_lt hlw) _⟩, rfl⟩
  case rest =>
    obtain ⟨q, rfl, hq, hn, hr, hbel⟩ := hcut
    have HN0 := Lib.hid hn
    have HR0 := Lib.hid hr
    have HB0 := Lib.hid hbel
    clear hn hr hbel HB HG HR
    go_wp2_with fail
    go_loopw [0, 19] (fun c i wr => ∃ j : Nat, j ≤ 4 ∧ i = .int .i64 j ∧ c = slN g j ∧ Hid (NdAt wr q (rdJ bs j)) ∧ Hid (NdAt wr w.heap.size nd0) ∧ Hid (Below w.heap.size w wr)) (fun _ i _ => (4 - intOf i).toNat)
    case atStart => exact ⟨0, by omega, rfl, rfl, HN0, HR0, HB0⟩
    case round =>
      obtain ⟨j, hj, rfl, rfl, HN, HR, HB⟩ := hrel
      clear HN0 HR0 HB0
      have hblk : wr.heap[g]? = some (.cells (blkA k bs) 28 (0, 0)) := (HB.out.block g hlt).trans HG0.out
      have HBLK := Lib.hid hblk
      clear hblk
      have h4 : j = 0 ∨ j = 1 ∨ j = 2 ∨ j = 3 ∨ j = 4 := by omega
      rcases h4 with rfl | rfl | rfl | rfl | rfl
      · rw [show slN g 0 = .slice (some ⟨g, 11, none⟩) 10 46 from rfl]
        have hv := HN2.out 10 (by omega)
        have HTP := Lib.hid (fun W => toplace_any (numV (seg bs 10 2) : Int) W (by omega))
        have c0 : wr.cell? ⟨q, 3, none⟩ = some (.int .i64 0) := (HN.out.cell 3).trans rfl
        have f0 : wr.frozen? ⟨q, 3, none⟩ = false := blk_free HN.out 3
        have HN1 : Hid (NdAt (wr.setCell ⟨q, 3, none⟩ (.int .i64 ((numV (seg bs 10 2) : Int) - 1))) q (rdJ bs 1)) := heap_setCell_same' HN.out _
        have HR1 : Hid (NdAt (wr.setCell ⟨q, 3, none⟩ (.int .i64 ((numV (seg bs 10 2) : Int) - 1))) w.heap.size nd0) := by
          unfold Hid NdAt; rw [heap_setCell_other wr _ _ _ (show w.heap.size ≠ q by omega)]; exact HR.out
        have HB1 : Hid (Below w.heap.size w (wr.setCell ⟨q, 3, none⟩ (.int .i64 ((numV (seg bs 10 2) : Int) - 1)))) := HB.out.setCell (Nat.le_of_lt hq) _
        go_wp2_with fail
        refine (HT.out 10 2 2 46 wr HBLK.out rfl (by omega) (by omega)).mono ?_; rintro e w2 ⟨rfl, rfl⟩
        go_wp2_with fail
        refine (HTP.out _).mono ?_; rintro e w3 ⟨rfl, rfl⟩
        go_wp2_with fail
        go_roundw
        case rel => exact ⟨1, by omega, rfl, rfl, HN1, HR1, HB1⟩
        case measure => simp [intOf]
      · rw [show slN g 1 = .slice (some ⟨g, 13, none⟩) 8 44 from rfl]
        have hv := HN2.out 12 (by omega)
        have HTP := Lib.hid (fun W => toplace_any (numV (seg bs 12 2) : Int) W (by omega))
        have c0 : wr.cell? ⟨q, 4, none⟩ = some (.int .i64 0) := (HN.out.cell 4).trans rfl
        have f0 : wr.frozen? ⟨q, 4, none⟩ = false := blk_free HN.out 4
        have HN1 : Hid (NdAt (wr.setCell ⟨q, 4, none⟩ (.int .i64 ((numV (seg bs 12 2) : Int) - 1))) q (rdJ bs 2)) := heap_setCell_same' HN.out _
        have HR1 : Hid (NdAt (wr.setCell ⟨q, 4, none⟩ (.int .i64 ((numV (seg bs 12 2) : Int) - 1))) w.heap.size nd0) := by
          unfold Hid NdAt; rw [heap_setCell_other wr _ _ _ (show w.heap.size ≠ q by omega)]; exact HR.out
        have HB1 : Hid (Below w.heap.size w (wr.setCell ⟨q, 4, none⟩ (.int .i64 ((numV (seg bs 12 2) : Int) - 1)))) := HB.out.setCell (Nat.le_of_lt hq) _
        go_wp2_with fail
        refine (HT.out 12 2 2 44 wr HBLK.out rfl (by omega) (by omega)).mono ?_; rintro e w2 ⟨rfl, rfl⟩
        go_wp2_with fail
        refine (HTP.out _).mono ?_; rintro e w3 ⟨rfl, rfl⟩
        go_wp2_with fail
        go_roundw
        case rel => exact ⟨2, by omega, rfl, rfl, HN1, HR1, HB1⟩
        case measure => simp [intOf]
      · rw [show slN g 2 = .slice (some ⟨g, 15, none⟩) 6 42 from rfl]
        have hv := HN2.out 14 (by omega)
        have HTP := Lib.hid (fun W => toplace_any (numV (seg bs 14 2) : Int) W (by omega))
        have c0 : wr.cell? ⟨q, 5, none⟩ = some (.int .i64 0) := (HN.out.cell 5).trans rfl
        have f0 : wr.frozen? ⟨q, 5, none⟩ = false := blk_free HN.out 5
        have HN1 : Hid (NdAt (wr.setCell ⟨q, 5, none⟩ (.int .i64 ((numV (seg bs 14 2) : Int) - 1))) q (rdJ bs 3)) := heap_setCell_same' HN.out _
        have HR1 : Hid (NdAt (wr.setCell ⟨q, 5, none⟩ (.int .i64 ((numV (seg bs 14 2) : Int) - 1))) w.heap.size nd0) := by
          unfold Hid NdAt; rw [heap_setCell_other wr _ _ _ (show w.heap.size ≠ q by omega)]; exact HR.out
        have HB1 : Hid (Below w.heap.size w (wr.setCell ⟨q, 5, none⟩ (.int .i64 ((numV (seg bs 14 2) : Int) - 1)))) := HB.out.setCell (Nat.le_of_lt hq) _
        go_wp2_with fail
        refine (HT.out 14 2 2 42 wr HBLK.out rfl (by omega) (by omega)).mono ?_; rintro e w2 ⟨rfl, rfl⟩
        go_wp2_with fail
        refine (HTP.out _).mono ?_; rintro e w3 ⟨rfl, rfl⟩
        go_wp2_with fail
        go_roundw
        case rel => exact ⟨3, by omega, rfl, rfl, HN1, HR1, HB1⟩
        case measure => simp [intOf]
      · rw [show slN g 3 = .slice (some ⟨g, 17, none⟩) 4 40 from rfl]
        have hv := HN2.out 16 (by omega)
        have HTP := Lib.hid (fun W => toplace_any (numV (seg bs 16 2) : Int) W (by omega))
        have c0 : wr.cell? ⟨q, 6, none⟩ = some (.int .i64 0) := (HN.out.cell 6).trans rfl
        have f0 : wr.frozen? ⟨q, 6, none⟩ = false := blk_free HN.out 6
        have HN1 : Hid (NdAt (wr.setCell ⟨q, 6, none⟩ (.int .i64 ((numV (seg bs 16 2) : Int) - 1))) q (rdJ bs 4)) := heap_setCell_same' HN.out _
        have HR1 : Hid (NdAt (wr.setCell ⟨q, 6, none⟩ (.int .i64 ((numV (seg bs 16 2) : Int) - 1))) w.heap.size nd0) := by
          unfold Hid NdAt; rw [heap_setCell_other wr _ _ _ (show w.heap.size ≠ q by omega)]; exact HR.out
        have HB1 : Hid (Below w.heap.size w (wr.setCell ⟨q, 6, none⟩ (.int .i64 ((numV (seg bs 16 2) : Int) - 1)))) := HB.out.setCell (Nat.le_of_lt hq) _
        go_wp2_with fail
        refine (HT.out 16 2 2 40 wr HBLK.out rfl (by omega) (by omega)).mono ?_; rintro e w2 ⟨rfl, rfl⟩
        go_wp2_with fail
        refine (HTP.out _).mono ?_; rintro e w3 ⟨rfl, rfl⟩
        go_wp2_with fail
        go_roundw
        case rel => exact ⟨4, by omega, rfl, rfl, HN1, HR1, HB1⟩
        case measure => simp [intOf]
      · rw [show slN g 4 = .slice (some ⟨g, 19, none⟩) 2 38 from rfl]
        have hv := HN2.out 18 (by omega)
        have HTP := Lib.hid (fun W => toplace_any (numV (seg bs 18 2) : Int) W (by omega))
        have c0 : wr.cell? ⟨q, 7, none⟩ = some (.int .i64 0) := (HN.out.cell 7).trans rfl
        have f0 : wr.frozen? ⟨q, 7, none⟩ = false := blk_free HN.out 7
        have HN1 : Hid (NdAt (wr.setCell ⟨q, 7, none⟩ (.int .i64 ((numV (seg bs 18 2) : Int) - 1))) q (rdJ bs 5)) := heap_setCell_same' HN.out _
        have HR1 : Hid (NdAt (wr.setCell ⟨q, 7, none⟩ (.int .i64 ((numV (seg bs 18 2) : Int) - 1))) w.heap.size nd0) := by
          unfold Hid NdAt; rw [heap_setCell_other wr _ _ _ (show w.heap.size ≠ q by omega)]; exact HR.out
        have HB1 : Hid (Below w.heap.size w (wr.setCell ⟨q, 7, none⟩ (.int .i64 ((numV (seg bs 18 2) : Int) - 1)))) := HB.out.setCell (Nat.le_of_lt hq) _
        go_wp2_with fail
        refine (HT.out 18 2 2 38 wr HBLK.out rfl (by omega) (by omega)).mono ?_; rintro e w2 ⟨rfl, rfl⟩
        go_wp2_with fail
        refine (HTP.out _).mono ?_; rintro e w3 ⟨rfl, rfl⟩
        go_upto_region 10 with fail
        generalize wr.setCell ⟨q, 7, none⟩ (.int .i64 ((numV (seg bs 18 2) : Int) - 1)) = w4 at *
        go_wp2_with (first
          | (refine wpList_loadN rfl (.tmp 3) rfl q rfl _ HN1.out ?_)
          | (refine wpList_storeN rfl (.tmp 2) (.tmp 36) rfl w.heap.size rfl (rdJ bs 5) nd0 rfl HR1.out ?_))
        refine bodyPost_ret (results_nd rfl _ _ w.heap.size (rdJ bs 5) rfl (HR1.out.set _)) rfl ?_
        exact ⟨rfl, below_setRow HB1.out (Nat.le_refl _) _⟩
end Go.Proofs.Ytebahdiiokfkfaa
