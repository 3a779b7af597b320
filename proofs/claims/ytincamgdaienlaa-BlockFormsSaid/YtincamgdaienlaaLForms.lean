/- The law BlockForms answers true and leaves its arguments alone. No condition. -/
import Derived.Test.YtincamgdaienlaaRows
import Derived.Test.YtincamgdaienlaaBj
import Derived.Deep.DeepCutAuto
import Derived.WalkKit
import Derived.ProofKit
import Derived.OpenShut
namespace Go.Proofs.Ytincamgdaienlaa.blockForms
open Go.ChangeShapes Go.WideShapes Go.ChangeAt Go.RowKit Go.Joins
set_option linter.unusedVariables false
theorem own : ownKnob Try.prog.godebug = none := by kernel_rfl
theorem laidOut : laidOutB Try.prog = true := by kernel_rfl
theorem seal_at {l k : Int} {n : Nat} {bs : List Int} (h : bs.length = 56) {j : Nat} {x : Int} (hx : bs[j]? = some x) : (sealB l k n bs)[4 + j]? = some x := by
  have hj : j < 56 := by rw [← h]; exact (List.getElem?_eq_some_iff.1 hx).1
  have h2 : (opBs (sealB l k n bs))[j]? = some x := by rw [opBs_seal h]; exact hx
  unfold opBs at h2
  rw [List.getElem?_take, if_pos hj, List.getElem?_drop] at h2
  exact h2
theorem zeros_no : ¬ Opens 0 0 (List.replicate 64 0) := by decide +kernel
set_option maxRecDepth 100000 in
set_option maxHeartbeats 12800000 in
theorem walk (w : World) :
    Calls Try.prog 5 #[] w fun e w' => e = .returned (.bool true) ∧ Below w.heap.size w w' := by
  go_enter Try.func5, Try.ntmps5
  go_wp2_with fail
  refine (begun6_any _).mono ?_
  rintro e W1 ⟨rfl, hb1⟩
  have HBL1 := Lib.hid hb1
  have HZ1 := Lib.hid (heap_alloc_new W1 (Obj.cells (blkA 0 zBs) 24))
  have HM2 := Lib.hid (setRow_blk (D := blkA 7 zBs) HZ1.out)
  have HBL2 := Lib.hid (keepB hb1 (show Below W1.heap.size W1 ((W1.alloc (Obj.cells (blkA 0 zBs) 24)).setRow W1.heap.size (blkA 7 zBs)) from below_setRow ((Below.refl _ _).alloc (Nat.le_refl _) _) (Nat.le_refl _) _))
  clear hb1
  go_upto_region 4 with (first
    | (refine wpList_allocB rfl rfl ?_)
    | (refine wpList_buildBk rfl (.const (.int .i64 7)) 7 rfl rfl ?_)
    | (refine wpList_storeB rfl (.tmp 1) (.tmp 20) rfl W1.heap.size rfl 7 0 zBs zBs rfl zBs_len zBs_len HZ1.out ?_))
  generalize (W1.alloc (Obj.cells (blkA 0 zBs) 24)).setRow W1.heap.size (blkA 7 zBs) = W2 at *
  have hgl : w.heap.size ≤ W1.heap.size := HBL1.out.size
  generalize W1.heap.size = g at *
  clear HZ1 HBL1
  have c0 : W2.cell? ⟨g, 1, none⟩ = some (.int .u8 0) := by rw [blk_cell HM2.out]; rfl
  have f0 : W2.frozen? ⟨g, 1, none⟩ = false := blk_free HM2.out 1
  have hm3 : (W2.setCell ⟨g, 1, none⟩ (.int .u8 1)).heap[g]? = some (.cells (blkA 7 (zBs.set 0 1)) 24 (0, 0)) := by
    rw [heap_setCell_same' HM2.out]; exact congrArg some (congrArg (fun a => Obj.cells a _ _) (blkA_setB 7 zBs 0 1))
  have c1 : (W2.setCell ⟨g, 1, none⟩ (.int .u8 1)).cell? ⟨g, 56, none⟩ = some (.int .u8 0) := by rw [blk_cell hm3]; rfl
  have f1 : (W2.setCell ⟨g, 1, none⟩ (.int .u8 1)).frozen? ⟨g, 56, none⟩ = false := blk_free hm3 56
  have hm4 : ((W2.setCell ⟨g, 1, none⟩ (.int .u8 1)).setCell ⟨g, 56, none⟩ (.int .u8 2)).heap[g]? = some (.cells (blkA 7 ((zBs.set 0 1).set 55 2)) 24 (0, 0)) := by
    rw [heap_setCell_same' hm3]; exact congrArg some (congrArg (fun a => Obj.cells a _ _) (blkA_setB 7 (zBs.set 0 1) 55 2))
  have HM4 := Lib.hid hm4
  have HBL4 : Hid (Below w.heap.size w ((W2.setCell ⟨g, 1, none⟩ (.int .u8 1)).setCell ⟨g, 56, none⟩ (.int .u8 2))) := (HBL2.out.setCell hgl _).setCell hgl _
  clear hm3 hm4
  go_upto_region 5 with fail
  clear c0 f0 c1 f1 HM2 HBL2
  generalize (W2.setCell ⟨g, 1, none⟩ (.int .u8 1)).setCell ⟨g, 56, none⟩ (.int .u8 2) = W4 at *
  have hb56 : ((zBs.set 0 1).set 55 2).length = 56 := by rw [List.length_set, List.length_set, zBs_len]
  have hbB : AllB ((zBs.set 0 1).set 55 2) := set_allB (set_allB zBs_allB 0 (by omega)) 55 (by omega)
  have hb0 : ((zBs.set 0 1).set 55 2)[0]? = some 1 := rfl
  have hb55 : ((zBs.set 0 1).set 55 2)[55]? = some 2 := rfl
  generalize (zBs.set 0 1).set 55 2 = bs at *
  have HL := Lib.hid hb56
  have HB := Lib.hid hbB
  have HS4 := Lib.hid (seal_at (l := 53) (k := 7) (n := 199) hb56 hb0)
  have HS59 := Lib.hid (seal_at (l := 53) (k := 7) (n := 199) hb56 hb55)
  clear hb56 hbB hb0 hb55
  go_wp2_with (first
    | (refine wpList_loadB rfl (.tmp 1) rfl g rfl 7 bs HL.out HM4.out ?_))
  refine (seal_yes 53 7 199 _ bs W4 (by omega) (by omega) (by omega) (blkA_list _ _) HL.out HB.out).mono ?_
  rintro e W5 ⟨v5, rfl, own5, hb5⟩
  have HSL := Lib.hid (sealB_length (l := 53) (k := 7) (t := 199) HL.out)
  have HSB := Lib.hid (sealB_allB (l := 53) (k := 7) (t := 199) (by omega) (by omega) HB.out)
  obtain ⟨A5, d5, rfl, hle5, hd5, hy5⟩ := byt_own own5 HSL.out
  obtain ⟨ad, rfl, q0⟩ := hy5 0 7 rfl
  have qc : ∀ i x, (sealB 53 7 199 bs)[i]? = some x → W5.cell? (ad.add i) = some (.int .u8 x) := fun i x hx => by
    obtain ⟨a, e, h⟩ := hy5 i x hx
    injection e with e; subst e; exact h
  have q1 := qc 1 53 rfl
  have q2 := qc 2 0 rfl
  have q3 := qc 3 199 rfl
  have q4 := qc 4 1 HS4.out
  have q59 := qc 59 2 HS59.out
  have ea : ad.add 0 = ad := by unfold Addr.add; simp
  rw [ea] at q0
  rw [add_sum ad 0] at q1
  rw [add_sum ad 1] at q2
  rw [add_sum ad 2] at q3
  rw [add_sum ad 3] at q4
  rw [add_sum ad 58] at q59
  have HOWN := Lib.hid (own5.mono HBL4.out.size)
  have HY5 := Lib.hid hy5
  have HM5 := Lib.hid (kb hb5 HM4.out)
  have HBL5 := Lib.hid (keepB HBL4.out hb5)
  have HSZ := Lib.hid hb5.size
  rw [HSL.out] at hle5 ⊢
  clear ea qc own5 hy5 hb5 HM4 HBL4
  go_upto_region 8 with fail
  clear q0 q1 q2 q3 q4 q59 HSZ
  go_wp2_with (first
    | (refine wpList_loadB rfl (.tmp 1) rfl g rfl 7 bs HL.out HM5.out ?_))
  refine (seal_no 0 7 200 _ bs W5 (by omega) (by constructor <;> omega) (by constructor <;> omega) (blkA_list _ _) (by decide)).mono ?_
  rintro e W6 ⟨rfl, hb6⟩
  have HM6 := Lib.hid (kb hb6 HM5.out)
  have HBL6 := Lib.hid (keepB HBL5.out hb6)
  have HY6 := Lib.hid (HY5.out.keep hb6)
  have HOW6 := Lib.hid (ownB HOWN.out hb6)
  clear hb6 HM5 HBL5 HY5 HOWN
  go_wp2_with (first
    | (refine wpList_loadB rfl (.tmp 1) rfl g rfl 7 bs HL.out HM6.out ?_))
  refine (seal_no 0 7 (-1) _ bs W6 (by omega) (by constructor <;> omega) (by constructor <;> omega) (blkA_list _ _) (by decide)).mono ?_
  rintro e W7 ⟨rfl, hb7⟩
  have HBL7 := Lib.hid (keepB HBL6.out hb7)
  have HY7 := Lib.hid (HY6.out.keep hb7)
  have HOW7 := Lib.hid (ownB HOW6.out hb7)
  clear hb7 HM6 HBL6 HY6 HOW6
  go_wp2_with (first
    | (refine wpList_buildBk rfl (.const (.int .i64 8)) 8 rfl rfl ?_))
  refine (seal_no 0 8 0 _ zBs W7 (by omega) (by constructor <;> omega) (by constructor <;> omega) (blkA_list _ _) (by decide)).mono ?_
  rintro e W8 ⟨rfl, hb8⟩
  have HBL8 := Lib.hid (keepB HBL7.out hb8)
  have HY8 := Lib.hid (HY7.out.keep hb8)
  have HOW8 := Lib.hid (ownB HOW7.out hb8)
  clear hb8 HBL7 HY7 HOW7
  go_wp2_with (first
    | (refine wpList_buildBk rfl (.const (.int .i64 (-1))) (-1) rfl rfl ?_))
  refine (seal_no 0 (-1) 0 _ zBs W8 (by omega) (by constructor <;> omega) (by constructor <;> omega) (blkA_list _ _) (by decide)).mono ?_
  rintro e W9 ⟨rfl, hb9⟩
  have HBL9 := Lib.hid (keepB HBL8.out hb9)
  have HY9 := Lib.hid (HY8.out.keep hb9)
  have HOW9 := Lib.hid (ownB HOW8.out hb9)
  clear hb9 HBL8 HY8 HOW8
  have h63 : ((sealB 53 7 199 bs).take 63).length = 63 := by rw [List.length_take, HSL.out]; rfl
  have HO9 := Lib.hid (open_any 53 199 (some ad) ((sealB 53 7 199 bs).take 63) d5 W9 (by omega) (by constructor <;> omega) (by rw [h63]; omega) hd5 (fun x hx => HSB.out x (List.mem_of_mem_take hx)) (HY9.out.take 63))
  have hno9 : ¬ Opens 53 199 ((sealB 53 7 199 bs).take 63) := fun h => by have := h.1; rw [h63] at this; cases this
  have hA9 : openA 53 199 ((sealB 53 7 199 bs).take 63) = blkA 0 zBs := by unfold openA; rw [if_neg hno9]
  rw [hA9, decide_eq_false hno9, h63] at HO9
  clear hno9 hA9 h63
  go_wp2_with fail
  refine HO9.out.mono ?_
  rintro e W10 ⟨rfl, hb10⟩
  have HZ10 := Lib.hid (heap_alloc_new W10 (Obj.cells (blkA 0 zBs) 24))
  have bel11 : Below W10.heap.size W10 ((W10.alloc (Obj.cells (blkA 0 zBs) 24)).setRow W10.heap.size (blkA 0 zBs)) := below_setRow ((Below.refl _ _).alloc (Nat.le_refl _) _) (Nat.le_refl _) _
  have HBL11 := Lib.hid (keepB (keepB HBL9.out hb10) bel11)
  have HOW11 := Lib.hid (ownB (ownB HOW9.out hb10) bel11)
  clear hb10 HBL9 HY9 HOW9 HO9
  go_upto_region 13 with (first
    | (refine wpList_allocB rfl rfl ?_)
    | (refine wpList_storeB rfl (.tmp 12) (.tmp 97) rfl W10.heap.size rfl 0 0 zBs zBs rfl zBs_len zBs_len HZ10.out ?_))
  clear bel11 HZ10
  generalize (W10.alloc (Obj.cells (blkA 0 zBs) 24)).setRow W10.heap.size (blkA 0 zBs) = W11 at *
  generalize W10.heap.size = g12 at *
  rw [HSL.out] at HOW11
  have hbA := HBL11.out.alloc HBL11.out.size (Obj.cells #[.int .u8 0] 5)
  go_wp2_with (first
    | (at_builtin
       refine wpList_app_byt _ rfl (.tmp 100) (.tmp 101) rfl w.heap.size _ 64 (sealB 53 7 199 bs) rfl (HOW11.out.alloc _) (some ⟨W11.heap.size, 0, none⟩) 1 1 [0] rfl (byt_blk (heap_alloc_new _ _) rfl) rfl (by omega) hbA.size ?_
       intro v13 w13 h13 hg13 _
       have HBL13 := Lib.hid (hbA.grown hg13 hbA.size (fun j hj => (HOW11.out.lt j hj).1))
       have h65 : (sealB 53 7 199 bs ++ [0]).length = 65 := by rw [List.length_append, HSL.out]; rfl
       obtain ⟨A13, d13, rfl, hle13, hd13, hy13⟩ := byt_own h13 h65
       have HO13 := Lib.hid (open_any 53 199 A13 (sealB 53 7 199 bs ++ [0]) d13 w13 (by omega) (by constructor <;> omega) hle13 hd13 (AllB.append HSB.out (fun x hx => by rw [List.mem_singleton.1 hx]; omega)) hy13)
       have hno13 : ¬ Opens 53 199 (sealB 53 7 199 bs ++ [0]) := fun h => by have := h.1; rw [h65] at this; cases this
       have hA13 : openA 53 199 (sealB 53 7 199 bs ++ [0]) = blkA 0 zBs := by unfold openA; rw [if_neg hno13]
       rw [hA13, decide_eq_false hno13, h65] at HO13
       rw [h65]
       clear hno13 hA13 h65 h13 hg13 hbA hy13))
  refine HO13.out.mono ?_
  rintro e W14 ⟨rfl, hb14⟩
  have HZ14 := Lib.hid (heap_alloc_new W14 (Obj.cells (blkA 0 zBs) 24))
  have bel15 : Below W14.heap.size W14 ((W14.alloc (Obj.cells (blkA 0 zBs) 24)).setRow W14.heap.size (blkA 0 zBs)) := below_setRow ((Below.refl _ _).alloc (Nat.le_refl _) _) (Nat.le_refl _) _
  have HBL15 := Lib.hid (keepB (keepB HBL13.out hb14) bel15)
  clear hb14 HBL13 HO13 HBL11 HOW11
  go_upto_region 14 with (first
    | (refine wpList_allocB rfl rfl ?_)
    | (refine wpList_storeB rfl (.tmp 14) (.tmp 104) rfl W14.heap.size rfl 0 0 zBs zBs rfl zBs_len zBs_len HZ14.out ?_))
  clear bel15 HZ14
  generalize (W14.alloc (Obj.cells (blkA 0 zBs) 24)).setRow W14.heap.size (blkA 0 zBs) = W15 at *
  generalize W14.heap.size = g14 at *
  obtain ⟨i0, hi, hz0, hz1, hz2⟩ := info_parts info5
  have hmk := fun w : World => run_make (P := Try.prog) w 25 5 i0 _ Try.underlying25 hi hz0 .i64 .i64 64 64 (by omega) (by omega) (by rw [hz2]; omega) (by omega)
  have hM : (madeCells (Value.int .u8 0).cells ((64 : Int).toNat * i0.size)).toList = Bs (List.replicate 64 0) := by
    rw [hz1]
    show (madeCells #[Value.int .u8 0] 64).toList = _
    rw [toList_madeCells_one]
    unfold Bs
    rw [List.map_replicate]
  generalize madeCells (Value.int .u8 0).cells ((64 : Int).toNat * i0.size) = M at *
  rw [show ((64 : Int)).toNat = 64 by omega] at hmk
  have bel16 : Below W15.heap.size W15 (W15.alloc (Obj.cells M 5)) := (Below.refl _ _).alloc (Nat.le_refl _) _
  have hy16 : Byt (W15.alloc (Obj.cells M 5)) (some ⟨W15.heap.size, 0, none⟩) (List.replicate 64 0) := byt_blk (heap_alloc_new _ _) hM
  have HO16 := Lib.hid (open_any 0 0 (some ⟨W15.heap.size, 0, none⟩) (List.replicate 64 0) 64 (W15.alloc (Obj.cells M 5)) (by omega) (by constructor <;> omega) (by simp) (by omega) (fun x hx => by rw [List.eq_of_mem_replicate hx]; omega) hy16)
  have hA16 : openA 0 0 (List.replicate 64 0) = blkA 0 zBs := by unfold openA; rw [if_neg zeros_no]
  rw [hA16, decide_eq_false zeros_no, List.length_replicate] at HO16
  have HBL16 := Lib.hid (keepB HBL15.out bel16)
  clear hA16 hy16 bel16 hM hi hz0 hz1 hz2
  go_wp2_with fail
  generalize W15.alloc (Obj.cells M 5) = W16 at *
  refine HO16.out.mono ?_
  rintro e W17 ⟨rfl, hb17⟩
  have HZ17 := Lib.hid (heap_alloc_new W17 (Obj.cells (blkA 0 zBs) 24))
  have bel18 : Below W17.heap.size W17 ((W17.alloc (Obj.cells (blkA 0 zBs) 24)).setRow W17.heap.size (blkA 0 zBs)) := below_setRow ((Below.refl _ _).alloc (Nat.le_refl _) _) (Nat.le_refl _) _
  have HBL18 := Lib.hid (keepB (keepB HBL16.out hb17) bel18)
  clear hb17 HBL15 HO16 HBL16 hmk
  go_wp2_with (first
    | (refine wpList_allocB rfl rfl ?_)
    | (refine wpList_storeB rfl (.tmp 16) (.tmp 109) rfl W17.heap.size rfl 0 0 zBs zBs rfl zBs_len zBs_len HZ17.out ?_))
  go_ret
  exact ⟨rfl, HBL18.out⟩

set_option maxRecDepth 100000 in
theorem lifted (os : Os) (started : os.Started) (H : Type) (enc : TypeId × Value → H) :
    ReturnsInHanded {} Try.checked os 5 .any (Rows.blockFormsSpec.pre6 enc Try.prog Try.f5 Rows.blockFormsRow.domain false) (Rows.blockFormsSpec.post enc Try.prog Try.f5 false true false false) := by
  refine returnsInHanded_of_change (C := Try.checked) own started (by kernel_rfl) Try.func5
    (ChangeSpec.witness6 (enc := enc) (C := Try.checked) false ⟨#[], #[], []⟩ 8 (by kernel_rfl) (by kernel_rfl) (by kernel_rfl) (by kernel_rfl)) ?_
  intro W base args ds gs before hval0 hW hcnd _
  have hW' := hW
  obtain ⟨p, q, hA0, hV, rfl, hfz, hnd⟩ := hW
  have hA : DataW.TrodAll enc Try.prog W 0 (fun _ => true) true Try.f5.params.toList args.toList ds p := hA0
  rw [Try.params5] at hA
  obtain ⟨rfl, rfl, rfl⟩ := trodAll_none hA
  obtain ⟨rfl, rfl⟩ := trodVars_none hV
  clear hA0 hval0
  simp only [List.append_nil] at hW'
  refine (walk W).mono fun e W' ⟨he, bel⟩ => ?_
  subst he
  exact ⟨_, rfl, _, _, _, [], _, [], hW', (trodAll_cons_mk (shut_bool Try.underlying4 _) trodAll_mk0), rfl, rfl, bel.frame _, fun h => by cases h⟩

theorem over : Rows.blockFormsRow.holds Try.pinned (OpenSpec.ofChange Rows.blockFormsSpec) :=
  OpenClaim.holds_of_wide 5 Try.f5 rfl rfl rfl rfl rfl rfl rfl ⟨rfl, rfl, rfl, rfl, rfl⟩ rfl rfl rfl rfl rfl (by kernel_rfl) Try.func5 (by kernel_rfl)
    (of_decide_eq_true (by kernel_rfl)) (by unfold Func.isWrapper; first | (rw [if_pos (by decide +kernel)]; kernel_rfl) | (rw [if_neg (by decide +kernel)]; exact ⟨rfl, rfl⟩))
    (fun os started H enc _ => lifted os started H enc)

theorem proved : Rows.BlockFormsSaid :=
  over
#print axioms proved
end Go.Proofs.Ytincamgdaienlaa.blockForms
