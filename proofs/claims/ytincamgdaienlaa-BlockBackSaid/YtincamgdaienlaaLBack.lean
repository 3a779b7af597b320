/- The law BlockBack answers true for every input, and leaves its arguments alone. No condition. -/
import Derived.Test.YtincamgdaienlaaRows
import Derived.Test.YtincamgdaienlaaBj
import Derived.Deep.DeepCutAuto
import Derived.WalkKit
import Derived.ProofKit
import Derived.OpenShut
namespace Go.Proofs.Ytincamgdaienlaa.blockBack
open Go.ChangeShapes Go.WideShapes Go.ChangeAt Go.RowKit Go.Joins
set_option linter.unusedVariables false
theorem own : ownKnob Try.prog.godebug = none := by kernel_rfl
theorem laidOut : laidOutB Try.prog = true := by kernel_rfl
set_option maxRecDepth 100000 in
set_option maxHeartbeats 6400000 in
theorem walk (x0 : Int) (x1 : Int) (x2 : Int) (g3 : List Int) (x4 : Int) (x5 : Int) (x6 : Int) (x7 : Int) (w : World) (hx0 : 0 ≤ x0 ∧ x0 ≤ 255) (hx1 : 0 ≤ x1 ∧ x1 ≤ 255) (hx2 : 0 ≤ x2 ∧ x2 ≤ 255) (hL3 : g3.length = 56) (hB3 : AllB g3) (hx4 : 0 ≤ x4 ∧ x4 ≤ 255) (hx5 : 0 ≤ x5 ∧ x5 ≤ 255) (hx6 : 0 ≤ x6 ∧ x6 ≤ 255) (hx7 : 0 ≤ x7 ∧ x7 ≤ 255) :
    Calls Try.prog 4 #[.int .u8 x0, .int .u8 x1, .int .u8 x2, .agg (Bs g3).toArray, .int .u8 x4, .int .u8 x5, .int .u8 x6, .int .u8 x7] w fun e w' => e = .returned (.bool true) ∧ Below w.heap.size w w' := by
  have hbel0 : Below w.heap.size w (w.alloc (Obj.cells (Bs g3).toArray 22)) := (Below.refl _ _).alloc (Nat.le_refl _) _
  have HM0 := Lib.hid (heap_alloc_new w (Obj.cells (Bs g3).toArray 22))
  have HL := Lib.hid hL3
  have HB := Lib.hid hB3
  clear hL3 hB3
  obtain ⟨n1, rfl⟩ : ∃ n : Nat, x1 = (n : Int) := ⟨x1.toNat, by omega⟩
  obtain ⟨n2, rfl⟩ : ∃ n : Nat, x2 = (n : Int) := ⟨x2.toNat, by omega⟩
  obtain ⟨n4, rfl⟩ : ∃ n : Nat, x4 = (n : Int) := ⟨x4.toNat, by omega⟩
  obtain ⟨n6, rfl⟩ : ∃ n : Nat, x6 = (n : Int) := ⟨x6.toNat, by omega⟩
  go_enter Try.func4, Try.ntmps4
  go_wp2_with fail
  refine (begun6_any _).mono ?_
  rintro e W1 ⟨rfl, hb1⟩
  have HM1 := Lib.hid (kb hb1 HM0.out)
  have HBL1 := Lib.hid (keepB hbel0 hb1)
  clear hb1 HM0 hbel0
  go_upto_region 5 with (first
    | (refine wpList_loadRow rfl (.tmp 11) rfl w.heap.size rfl g3 HL.out HM1.out ?_)
    | (refine wpList_buildBkb rfl (.tmp 35) (.tmp 36) ((n2 : Int) % 8) g3 HL.out rfl rfl rfl ?_)
    | (refine wpList_allocB rfl rfl ?_)
    | (refine wpList_storeB rfl (.tmp 18) (.tmp 37) rfl W1.heap.size rfl ((n2 : Int) % 8) 0 g3 zBs rfl HL.out zBs_len (heap_alloc_new W1 _) ?_))
  have hk2 : 0 ≤ (n2 : Int) % 8 ∧ (n2 : Int) % 8 ≤ 7 := by omega
  have em1 : (n1 : Int) % 200 = ((n1 % 200 : Nat) : Int) := by omega
  have hm1 : n1 % 200 < 200 := by omega
  rw [em1]
  generalize (n2 : Int) % 8 = kk at *
  generalize n1 % 200 = m1 at *
  clear em1
  have HM2 := Lib.hid (setRow_blk (D := blkA kk g3) (heap_alloc_new W1 (Obj.cells (blkA 0 zBs) 24)))
  have HBL2 := Lib.hid (keepB HBL1.out (show Below W1.heap.size W1 ((W1.alloc (Obj.cells (blkA 0 zBs) 24)).setRow W1.heap.size (blkA kk g3)) from below_setRow ((Below.refl _ _).alloc (Nat.le_refl _) _) (Nat.le_refl _) _))
  generalize (W1.alloc (Obj.cells (blkA 0 zBs) 24)).setRow W1.heap.size (blkA kk g3) = W2 at *
  generalize W1.heap.size = g2 at *
  clear HM1 HBL1
  go_wp2_with (first
    | (refine wpList_loadB rfl (.tmp 18) rfl g2 rfl kk g3 HL.out HM2.out ?_))
  refine (seal_yes x0 kk m1 _ g3 W2 hx0 hk2 hm1 (blkA_list _ _) HL.out HB.out).mono ?_
  rintro e W3 ⟨v3, rfl, own3, hb3⟩
  have HSL := Lib.hid (sealB_length (l := x0) (k := kk) (t := m1) HL.out)
  have HSB := Lib.hid (sealB_allB (t := m1) hx0 hk2 HB.out)
  obtain ⟨A3, d3, rfl, hle3, hd3, hy3⟩ := byt_own own3 HSL.out
  have HO1 := Lib.hid (fun W (hy : Byt W A3 (sealB x0 kk m1 g3)) => open_any x0 m1 A3 (sealB x0 kk m1 g3) d3 W hx0 (by constructor <;> omega) hle3 hd3 HSB.out hy)
  have hyes : Opens x0 m1 (sealB x0 kk m1 g3) := (opens_iff HL.out hk2 hm1 hm1).2 ⟨rfl, rfl⟩
  have hA1 : openA x0 m1 (sealB x0 kk m1 g3) = blkA kk g3 := by unfold openA; rw [if_pos hyes, opK_seal, opBs_seal HL.out]
  rw [hA1, decide_eq_true hyes, HSL.out] at HO1
  rw [HSL.out] at hle3 ⊢
  have HM3 := Lib.hid (kb hb3 HM2.out)
  have HBL3 := Lib.hid (keepB HBL2.out hb3)
  have HY3 := Lib.hid hy3
  clear hb3 HM2 HBL2 hyes hA1 own3 hy3
  go_wp2_with fail
  refine (HO1.out W3 HY3.out).mono ?_
  rintro e W4 ⟨rfl, hb4⟩
  have HM4 := Lib.hid (kb hb4 HM3.out)
  have HBL4 := Lib.hid (keepB HBL3.out hb4)
  have HY4 := Lib.hid (HY3.out.keep hb4)
  have HZ4 := Lib.hid (heap_alloc_new W4 (Obj.cells (blkA 0 zBs) 24))
  have bel5 : Below W4.heap.size W4 ((W4.alloc (Obj.cells (blkA 0 zBs) 24)).setRow W4.heap.size (blkA kk g3)) := below_setRow ((Below.refl _ _).alloc (Nat.le_refl _) _) (Nat.le_refl _) _
  have HN5 := Lib.hid (setRow_blk (D := blkA kk g3) HZ4.out)
  have HM5 := Lib.hid (kb bel5 HM4.out)
  have HBL5 := Lib.hid (keepB HBL4.out bel5)
  have HY5 := Lib.hid (HY4.out.keep bel5)
  clear hb4 HM3 HBL3 HY3 HO1
  go_upto_region 9 with (first
    | (refine wpList_allocB rfl rfl ?_)
    | (refine wpList_storeB rfl (.tmp 21) (.tmp 57) rfl W4.heap.size rfl kk 0 g3 zBs rfl HL.out zBs_len HZ4.out ?_))
  clear bel5 HM4 HBL4 HY4 HZ4
  generalize (W4.alloc (Obj.cells (blkA 0 zBs) 24)).setRow W4.heap.size (blkA kk g3) = W5 at *
  generalize W4.heap.size = g5 at *
  have own6 := own_new W5 W5.heap.size 5 0 #[] [] (Nat.le_refl _) rfl (by decide) rfl
  have B6 : Below W5.heap.size W5 (W5.alloc (Obj.cells #[] 5)) := (Below.refl _ _).alloc (Nat.le_refl _) _
  go_upto_region 10 with (first
    | (at_builtin
       refine wpList_app_byt _ rfl (.tmp 59) (.tmp 60) rfl W5.heap.size _ 0 [] rfl own6 A3 64 d3 (sealB x0 kk m1 g3) rfl (HY5.out.alloc _) HSL.out (by omega) B6.size ?_
       intro v7 w7 h7 hg7 _
       have B7 : Below W5.heap.size W5 w7 := B6.grown hg7 B6.size (fun j hj => (own6.lt j hj).1)
       have own7 : w7.ownsRow W5.heap.size 5 1 v7 64 (Bs (sealB x0 kk m1 g3)) := h7
       clear h7 hg7 own6 B6))
  obtain ⟨g, cap, rfl, hn7, hcap, hg, hglt, hcells, hfro⟩ := own_at own7 (by omega)
  obtain ⟨x, hx⟩ : ∃ x, (sealB x0 kk m1 g3)[n4 % 64]? = some x := ⟨_, List.getElem?_eq_getElem (by rw [HSL.out]; omega)⟩
  have hxb := HSB.out x (List.mem_of_getElem? hx)
  have c0 : w7.cell? ⟨g, n4 % 64, none⟩ = some (.int .u8 x) := hcells _ _ hx
  have f0 : w7.frozen? ⟨g, n4 % 64, none⟩ = false := hfro _
  have HX := Lib.hid hx
  clear hx hcells hfro
  go_wp2_with fail
  have hxor := xor_byte hxb hx5
  generalize bits .xor .u8 x x5 = y at *
  have own8 : (w7.setCell ⟨g, n4 % 64, none⟩ (.int .u8 y)).ownsRow W5.heap.size 5 1 (.slice (some ⟨g, 0, none⟩) 64 cap) 64 (Bs ((sealB x0 kk m1 g3).set (n4 % 64) y)) := by
    rw [← set_Bs]; exact own_set_at own7 (by omega) _
  have B8 : Below W5.heap.size W5 (w7.setCell ⟨g, n4 % 64, none⟩ (.int .u8 y)) := B7.setCell hg _
  generalize w7.setCell ⟨g, n4 % 64, none⟩ (.int .u8 y) = W8 at *
  have HLS : Hid (((sealB x0 kk m1 g3).set (n4 % 64) y).length = 64) := by unfold Hid; rw [List.length_set, HSL.out]
  obtain ⟨A8, d8, e8, hle8, hd8, hy8⟩ := byt_own own8 HLS.out
  rw [HLS.out] at e8 hle8
  injection e8 with q1 q2 q3
  subst q1; subst q3
  clear q2
  have HBS := Lib.hid (set_allB HSB.out (n4 % 64) hxor.1)
  have ht : decide (Opens x0 m1 ((sealB x0 kk m1 g3).set (n4 % 64) y)) = (x5 == 0) := by
    by_cases h5 : x5 = 0
    · have hy := hxor.2.2 h5
      have e : (sealB x0 kk m1 g3).set (n4 % 64) y = sealB x0 kk m1 g3 := by rw [hy]; exact set_same HX.out
      rw [e, decide_eq_true ((opens_iff HL.out hk2 hm1 hm1).2 ⟨rfl, rfl⟩), h5]; rfl
    · rw [decide_eq_false (opens_turned HL.out hx0 hk2 HB.out HX.out hxor.1 (fun e => h5 (hxor.2.1 e)))]
      symm; rw [beq_eq_false_iff_ne]; exact h5
  obtain ⟨k8, b8, hA8, h856, _⟩ := openA_blk x0 m1 HBS.out
  have HO8 := Lib.hid (open_any x0 m1 (some ⟨g, 0, none⟩) _ cap W8 hx0 (by constructor <;> omega) (by rw [HLS.out]; exact hle8) hcap HBS.out hy8)
  rw [ht, hA8, HLS.out] at HO8
  have H856 := Lib.hid h856
  have HM8 := Lib.hid (kb B8 HM5.out)
  have HN8 := Lib.hid (kb B8 HN5.out)
  have HBL8 := Lib.hid (keepB HBL5.out B8)
  have HY8 := Lib.hid (HY5.out.keep B8)
  clear own7 own8 hy8 B7 B8 ht hA8 h856 HM5 HN5 HBL5 HY5 c0 f0 HX hxor HBS hg hglt
  refine HO8.out.mono ?_
  rintro e W9 ⟨rfl, hb9⟩
  have HZ9 := Lib.hid (heap_alloc_new W9 (Obj.cells (blkA 0 zBs) 24))
  have bel10 : Below W9.heap.size W9 ((W9.alloc (Obj.cells (blkA 0 zBs) 24)).setRow W9.heap.size (blkA k8 b8)) := below_setRow ((Below.refl _ _).alloc (Nat.le_refl _) _) (Nat.le_refl _) _
  have HM10 := Lib.hid (kb bel10 (kb hb9 HM8.out))
  have HN10 := Lib.hid (kb bel10 (kb hb9 HN8.out))
  have HBL10 := Lib.hid (keepB (keepB HBL8.out hb9) bel10)
  have HY10 := Lib.hid ((HY8.out.keep hb9).keep bel10)
  clear hb9 HM8 HN8 HBL8 HY8 HO8
  go_upto_region 12 with (first
    | (refine wpList_allocB rfl rfl ?_)
    | (refine wpList_storeB rfl (.tmp 24) (.tmp 75) rfl W9.heap.size rfl k8 0 b8 zBs rfl H856.out zBs_len HZ9.out ?_))
  clear bel10 HZ9
  generalize (W9.alloc (Obj.cells (blkA 0 zBs) 24)).setRow W9.heap.size (blkA k8 b8) = W10 at *
  generalize W9.heap.size = g10 at *
  have em6 : (n6 : Int) % 200 = ((n6 % 200 : Nat) : Int) := by omega
  have hm6 : n6 % 200 < 200 := by omega
  obtain ⟨k9, b9, hA9, h956, _⟩ := openA_blk x7 ((n6 % 200 : Nat) : Int) HSB.out
  have HO9 := Lib.hid (open_any x7 ((n6 % 200 : Nat) : Int) A3 _ d3 W10 hx7 (by constructor <;> omega) (by rw [HSL.out]; exact hle3) hd3 HSB.out HY10.out)
  rw [hA9, HSL.out] at HO9
  have H956 := Lib.hid h956
  have hmv := opens_iff (l := x0) (l' := x7) (n := m1) (m := n6 % 200) HL.out hk2 hm1 hm6
  clear hA9 h956
  have HE6 := Lib.hid em6
  have hm6' : 0 ≤ (n6 : Int) % 200 := by omega
  clear em6
  have h3 : ∃ b7 b6 : Bool, (x7 == x0) = b7 ∧ ((n6 : Int) % 200 == (m1 : Int)) = b6 ∧ decide (Opens x7 ((n6 % 200 : Nat) : Int) (sealB x0 kk m1 g3)) = (b7 && b6) := by
    refine ⟨_, _, rfl, rfl, ?_⟩
    rw [Bool.eq_iff_iff]
    simp only [decide_eq_true_eq, Bool.and_eq_true, beq_iff_eq]
    rw [hmv, HE6.out]
    constructor
    · rintro ⟨h1, h2⟩; exact ⟨h1, congrArg _ h2⟩
    · rintro ⟨h1, h2⟩; exact ⟨h1, by omega⟩
  obtain ⟨b7, b6, q7, q6, hdm⟩ := h3
  rw [hdm] at HO9
  clear hdm hmv
  have HO9' : ∀ p : Bool, p = (b7 && b6) → Hid (Calls Try.prog 10 #[.int .u8 x7, .int .i64 ((n6 % 200 : Nat) : Int), .slice A3 64 d3] W10 fun e w' => e = .returned (.tuple #[.agg (blkA k9 b9), .bool p]) ∧ Below W10.heap.size W10 w') := fun p hp => by rw [hp]; exact HO9
  have HQ6 := Lib.hid q6
  clear HO9 q6
  cases b7 <;> cases b6
  all_goals
    have HO9 := HO9' _ rfl
    simp only [Bool.and_true, Bool.and_false] at HO9
    clear HO9'
    go_wp2_with fail
    rw [HE6.out]
    refine HO9.out.mono ?_
    rintro e W11 ⟨rfl, hb11⟩
    have HZ11 := Lib.hid (heap_alloc_new W11 (Obj.cells (blkA 0 zBs) 24))
    have bel12 : Below W11.heap.size W11 ((W11.alloc (Obj.cells (blkA 0 zBs) 24)).setRow W11.heap.size (blkA k9 b9)) := below_setRow ((Below.refl _ _).alloc (Nat.le_refl _) _) (Nat.le_refl _) _
    have HM12 := Lib.hid (kb bel12 (kb hb11 HM10.out))
    have HN12 := Lib.hid (kb bel12 (kb hb11 HN10.out))
    have HBL12 := Lib.hid (keepB (keepB HBL10.out hb11) bel12)
    clear hb11 HO9
    go_upto_region 13 with (first
      | (refine wpList_allocB rfl rfl ?_)
      | (refine wpList_storeB rfl (.tmp 26) (.tmp 84) rfl W11.heap.size rfl k9 0 b9 zBs rfl H956.out zBs_len HZ11.out ?_))
    clear bel12 HZ11
    generalize (W11.alloc (Obj.cells (blkA 0 zBs) 24)).setRow W11.heap.size (blkA k9 b9) = W12 at *
    generalize W11.heap.size = g12 at *
    have q6 := HQ6.out
    go_wp2_with (first
      | (refine wpList_loadBw (by rfl) (.tmp 21) rfl g5 rfl kk g3 HL.out HN12.out ?_)
      | (refine wpList_loadBw (by rfl) (.tmp 18) rfl g2 rfl kk g3 HL.out HM12.out ?_)
      | (refine wpList_eqlBw (by rfl) (.tmp 88) (.tmp 89) _ rfl kk kk g3 g3 rfl rfl HL.out HL.out HB.out HB.out ?_))
    go_ret
    exact ⟨rfl, HBL12.out⟩

set_option maxRecDepth 100000 in
theorem lifted (os : Os) (started : os.Started) (H : Type) (enc : TypeId × Value → H) :
    ReturnsInHanded {} Try.checked os 4 .any (Rows.blockBackSpec.pre6 enc Try.prog Try.f4 Rows.blockBackRow.domain false) (Rows.blockBackSpec.post enc Try.prog Try.f4 false true false false) := by
  refine returnsInHanded_of_change (C := Try.checked) own started (by kernel_rfl) Try.func4
    (ChangeSpec.witness6 (enc := enc) (C := Try.checked) false ⟨#[], #[.int .u8 0, .int .u8 0, .int .u8 0, .agg (Bs zBs).toArray, .int .u8 0, .int .u8 0, .int .u8 0, .int .u8 0], []⟩ 8 (by kernel_rfl) (by kernel_rfl) (by kernel_rfl) (by kernel_rfl)) ?_
  intro W base args ds gs before hval0 hW hcnd _
  have hval : ∀ (j : Nat) t v, Try.f4.params[j]? = some t → args[j]? = some v → Value.okWide Try.prog W .any base t v := hval0
  have hW' := hW
  obtain ⟨p, q, hA0, hV, rfl, hfz, hnd⟩ := hW
  have hA : DataW.TrodAll enc Try.prog W 0 (fun _ => true) true Try.f4.params.toList args.toList ds p := hA0
  rw [Try.params4] at hA hval
  obtain ⟨v0, vs0, d0, ds0, p0, q0, hargs, rfl, rfl, h0, r0⟩ := trodAll_cons hA
  obtain ⟨v1, vs1, d1, ds1, p1, q1, rfl, rfl, rfl, h1, r1⟩ := trodAll_cons r0
  obtain ⟨v2, vs2, d2, ds2, p2, q2, rfl, rfl, rfl, h2, r2⟩ := trodAll_cons r1
  obtain ⟨v3, vs3, d3, ds3, p3, q3, rfl, rfl, rfl, h3, r3⟩ := trodAll_cons r2
  obtain ⟨v4, vs4, d4, ds4, p4, q4, rfl, rfl, rfl, h4, r4⟩ := trodAll_cons r3
  obtain ⟨v5, vs5, d5, ds5, p5, q5, rfl, rfl, rfl, h5, r5⟩ := trodAll_cons r4
  obtain ⟨v6, vs6, d6, ds6, p6, q6, rfl, rfl, rfl, h6, r6⟩ := trodAll_cons r5
  obtain ⟨v7, vs7, d7, ds7, p7, q7, rfl, rfl, rfl, h7, r7⟩ := trodAll_cons r6
  obtain ⟨rfl, rfl, rfl⟩ := trodAll_nil r7
  obtain rfl : args = #[v0, v1, v2, v3, v4, v5, v6, v7] := by cases args; simp_all
  obtain ⟨rfl, rfl⟩ := trodVars_none hV
  obtain ⟨x0, rfl, rfl, rfl, wx0⟩ := open_int Try.underlying5 (hval 0 5 v0 rfl rfl) h0
  obtain ⟨x1, rfl, rfl, rfl, wx1⟩ := open_int Try.underlying5 (hval 1 5 v1 rfl rfl) h1
  obtain ⟨x2, rfl, rfl, rfl, wx2⟩ := open_int Try.underlying5 (hval 2 5 v2 rfl rfl) h2
  obtain ⟨cs3, rfl, _⟩ := okWide_row Try.underlying22 (hval 3 22 v3 rfl rfl)
  obtain ⟨x4, rfl, rfl, rfl, wx4⟩ := open_int Try.underlying5 (hval 4 5 v4 rfl rfl) h4
  obtain ⟨x5, rfl, rfl, rfl, wx5⟩ := open_int Try.underlying5 (hval 5 5 v5 rfl rfl) h5
  obtain ⟨x6, rfl, rfl, rfl, wx6⟩ := open_int Try.underlying5 (hval 6 5 v6 rfl rfl) h6
  obtain ⟨x7, rfl, rfl, rfl, wx7⟩ := open_int Try.underlying5 (hval 7 5 v7 rfl rfl) h7
  clear hA0 hval0
  simp only [List.append_nil] at hW'
  have hlt3 : ∀ y ∈ p3, y.block < W.heap.size := fun y hy => by simpa using hW'.lt y (by simp [hy])
  have harg3 : ∀ W' : World, Below W.heap.size W W' → DataW.Trod enc Try.prog W' 0 (fun b => decide (b < W.heap.size)) true 22 (.agg cs3) d3 p3 :=
    fun W' hn => Below.trod laidOut (by kernel_rfl) (of_decide_eq_true (by kernel_rfl)) h3 hn (fun y hy => hlt3 y hy)
  obtain ⟨fu3, hf3⟩ := h3
  obtain ⟨g3, e3, hL3, hB3⟩ := open_body hf3
  obtain rfl : cs3 = (Bs g3).toArray := by
    rw [← e3]; simp [Value.cells]
  refine (walk x0 x1 x2 g3 x4 x5 x6 x7 W (by have := bounds_u8 wx0; omega) (by have := bounds_u8 wx1; omega) (by have := bounds_u8 wx2; omega) hL3 hB3 (by have := bounds_u8 wx4; omega) (by have := bounds_u8 wx5; omega) (by have := bounds_u8 wx6; omega) (by have := bounds_u8 wx7; omega)).mono fun e W' ⟨he, bel⟩ => ?_
  subst he
  exact ⟨_, rfl, _, _, _, [], _, [], hW', (trodAll_cons_mk (shut_bool Try.underlying4 _) trodAll_mk0), (trodAll_cons_mk (shut_int Try.underlying5 wx0) (trodAll_cons_mk (shut_int Try.underlying5 wx1) (trodAll_cons_mk (shut_int Try.underlying5 wx2) (trodAll_cons_mk (harg3 _ bel) (trodAll_cons_mk (shut_int Try.underlying5 wx4) (trodAll_cons_mk (shut_int Try.underlying5 wx5) (trodAll_cons_mk (shut_int Try.underlying5 wx6) (trodAll_cons_mk (shut_int Try.underlying5 wx7) trodAll_mk0)))))))), rfl, bel.frame _, fun h => by cases h⟩

theorem over : Rows.blockBackRow.holds Try.pinned (OpenSpec.ofChange Rows.blockBackSpec) :=
  OpenClaim.holds_of_wide 4 Try.f4 rfl rfl rfl rfl rfl rfl rfl ⟨rfl, rfl, rfl, rfl, rfl⟩ rfl rfl rfl rfl rfl (by kernel_rfl) Try.func4 (by kernel_rfl)
    (of_decide_eq_true (by kernel_rfl)) (by unfold Func.isWrapper; first | (rw [if_pos (by decide +kernel)]; kernel_rfl) | (rw [if_neg (by decide +kernel)]; exact ⟨rfl, rfl⟩))
    (fun os started H enc _ => lifted os started H enc)

theorem proved : Rows.BlockBackSaid :=
  over
#print axioms proved
end Go.Proofs.Ytincamgdaienlaa.blockBack
