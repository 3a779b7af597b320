/- The law RecAnchors answers true for every input, and leaves its arguments alone. No condition. -/
import Derived.Test.YtflldlhfeiamnaaRows
import Derived.Test.YtflldlhfeiamnaaEw
import Derived.Test.YtflldlhfeiamnaaEu
import Derived.WalkKit
import Derived.ProofKit
import Derived.OpenShut
namespace Go.Proofs.Ytflldlhfeiamnaa.recAnchors
open Go.ChangeShapes Go.WideShapes Go.ChangeAt Go.RowKit Go.Joins
set_option linter.unusedVariables false
theorem own : ownKnob Try.prog.godebug = none := by kernel_rfl
theorem laidOut : laidOutB Try.prog = true := by kernel_rfl
set_option maxRecDepth 100000 in
set_option maxHeartbeats 6400000 in
theorem walk (x0 : Int) (x1 : Int) (x2 : Int) (x3 : Int) (x4 : Int) (w : World) (hx0 : 0 ≤ x0 ∧ x0 ≤ 255) (hx1 : 0 ≤ x1 ∧ x1 ≤ 4294967295) (hx2 : 0 ≤ x2 ∧ x2 ≤ 255) (hx3 : 0 ≤ x3 ∧ x3 ≤ 255) (hx4 : 0 ≤ x4 ∧ x4 ≤ 255) :
    Calls Try.prog 6 #[.int .u8 x0, .int .u32 x1, .int .u8 x2, .int .u8 x3, .int .u8 x4] w fun e w' => e = .returned (.bool true) ∧ Below w.heap.size w w' := by
  obtain ⟨e, rfl⟩ : ∃ n : Nat, x1 = (n : Int) := ⟨x1.toNat, by omega⟩
  obtain ⟨k, rfl⟩ : ∃ n : Nat, x3 = (n : Int) := ⟨x3.toNat, by omega⟩
  have he : e < 4294967296 := by omega
  go_enter Try.func6, Try.ntmps6
  go_wp2_with fail
  refine (begun7_any _).mono ?_
  rintro en w1 ⟨rfl, hb1⟩
  go_wp2_with fail
  refine (anchor_any x0 e w1 hx0 he).mono ?_
  rintro en w2 ⟨v2, rfl, own2, hb2⟩
  have HAL := Lib.hid (anchorB_length x0 e)
  have HAB := Lib.hid (anchorB_allB e hx0)
  have HSE := Lib.hid (anchor_sealed x0 e)
  have HT1 := Lib.hid (takenA_anchor (lb := x0) (lb' := x0) he)
  have HT2 := Lib.hid (takenA_anchor (lb := x0) (lb' := x2) he)
  have HTE : Hid (e ≠ 4294967295 → takeA x0 (anchorB x0 e) = e) := fun h => by unfold takeA; rw [if_pos (HT1.out.2 ⟨rfl, h⟩), anE_anchor he]
  obtain ⟨A2, d2, rfl, hd2, hd22, hy2⟩ := byt_own own2 HAL.out
  rw [HAL.out] at hd2 ⊢
  have HY2 := Lib.hid hy2
  have B2 := keepB hb1 hb2
  have HO1 := Lib.hid (fun W (hy : Byt W A2 (anchorB x0 e)) => takea_any x0 A2 (anchorB x0 e) 64 d2 W hx0 HAL.out hd2 hd22 HAB.out hy)
  have HO2 := Lib.hid (fun W (hy : Byt W A2 (anchorB x0 e)) => takea_any x2 A2 (anchorB x0 e) 64 d2 W hx2 HAL.out hd2 hd22 HAB.out hy)
  obtain ⟨bl, hbl, HBL⟩ : ∃ b : Bool, ((e : Int) == 4294967295) = b ∧ Hid (b = decide (e = 4294967295)) := ⟨_, rfl, by unfold Hid; rw [Bool.eq_iff_iff]; simp; omega⟩
  obtain ⟨ba, hba, HBA⟩ : ∃ b : Bool, (x2 == x0) = b ∧ Hid (b = decide (x2 = x0)) := ⟨_, rfl, by unfold Hid; rw [Bool.eq_iff_iff]; simp⟩
  obtain ⟨bz, hbz, HBZ⟩ : ∃ b : Bool, (x4 == 0) = b ∧ Hid (b = decide (x4 = 0)) := ⟨_, rfl, by unfold Hid; rw [Bool.eq_iff_iff]; simp⟩
  have hE1 : decide (TakenA x0 (anchorB x0 e)) = !bl := by
    rw [HBL.out, Bool.eq_iff_iff]; simp [HT1.out]
  have hE2 : decide (TakenA x2 (anchorB x0 e)) = (ba && !bl) := by
    rw [HBL.out, HBA.out, Bool.eq_iff_iff]; simp [HT2.out]
  rw [hE1] at HO1
  rw [hE2] at HO2
  generalize htv : takeA x0 (anchorB x0 e) = tv at *
  generalize htv2 : takeA x2 (anchorB x0 e) = tv2 at *
  clear own2 hy2 hb1 hb2 hE1 hE2 htv htv2 HT2
  go_wp2_with fail
  refine (HO1.out w2 HY2.out).mono ?_
  rintro en w3 ⟨rfl, hb3⟩
  have HY3 := Lib.hid (HY2.out.keep hb3)
  have B3 := keepB B2 hb3
  go_wp2_with fail
  refine (HO2.out w3 HY3.out).mono ?_
  rintro en w4 ⟨rfl, hb4⟩
  have HY4 := Lib.hid (HY3.out.keep hb4)
  have B4 := keepB B3 hb4
  clear HO1 HO2 HY2 HY3 B2 B3 hb3 hb4
  have own6 := own_new w4 w4.heap.size 5 0 #[] [] (Nat.le_refl _) rfl (by decide) rfl
  have B6 : Below w4.heap.size w4 (w4.alloc (Obj.cells #[] 5)) := (Below.refl _ _).alloc (Nat.le_refl _) _
  generalize hax : anchorB x0 e = ax at *
  have HAX := Lib.hid hax
  clear hax
  go_upto_region 9 with (first
    | (at_builtin
       refine wpList_app_byt _ rfl (.tmp 40) (.tmp 41) rfl w4.heap.size _ 0 [] rfl own6 A2 64 d2 ax rfl (HY4.out.alloc _) HAL.out (by omega) B6.size ?_
       intro v7 w7 h7 hg7 _
       have B7 : Below w4.heap.size w4 w7 := B6.grown hg7 B6.size (fun j hj => (own6.lt j hj).1)
       have own7 : w7.ownsRow w4.heap.size 5 1 v7 64 (Bs ax) := h7
       clear h7 hg7 own6 B6))
  obtain ⟨g, cap, rfl, hn7, hcap, hg, hglt, hcells, hfro⟩ := own_at own7 (by omega)
  obtain ⟨x, hx⟩ : ∃ x, ax[k % 64]? = some x := ⟨_, List.getElem?_eq_getElem (by rw [HAL.out]; omega)⟩
  have hxb := HAB.out x (List.mem_of_getElem? hx)
  have c0 : w7.cell? ⟨g, k % 64, none⟩ = some (.int .u8 x) := hcells _ _ hx
  have f0 : w7.frozen? ⟨g, k % 64, none⟩ = false := hfro _
  have HX := Lib.hid hx
  clear hx hcells hfro
  go_upto_region 10 with fail
  have hxor := xor_byte hxb hx4
  generalize bits .xor .u8 x x4 = y at *
  have own8 : (w7.setCell ⟨g, k % 64, none⟩ (.int .u8 y)).ownsRow w4.heap.size 5 1 (.slice (some ⟨g, 0, none⟩) 64 cap) 64 (Bs (ax.set (k % 64) y)) := by
    rw [← set_Bs]; exact own_set_at own7 (by omega) _
  have B8 : Below w4.heap.size w4 (w7.setCell ⟨g, k % 64, none⟩ (.int .u8 y)) := B7.setCell hg _
  generalize w7.setCell ⟨g, k % 64, none⟩ (.int .u8 y) = W8 at *
  have HLS : Hid ((ax.set (k % 64) y).length = 64) := by unfold Hid; rw [List.length_set, HAL.out]
  obtain ⟨A8, d8, e8, hle8, hd8, hy8⟩ := byt_own own8 HLS.out
  rw [HLS.out] at e8 hle8
  injection e8 with q1 q2 q3
  subst q1; subst q3
  clear q2
  have HBS := Lib.hid (set_allB HAB.out (k % 64) hxor.1)
  have ht : decide (TakenA x0 (ax.set (k % 64) y)) = (bz && !bl) := by
    by_cases h5 : x4 = 0
    · have hy := hxor.2.2 h5
      have e9 : ax.set (k % 64) y = ax := by rw [hy]; exact set_same HX.out
      rw [e9, HBZ.out, HBL.out, Bool.eq_iff_iff]; simp [h5, HT1.out]
    · rw [decide_eq_false (fun h => turned_not HSE.out HAB.out HX.out hxor.1 (fun e => h5 (hxor.2.1 e)) (takenA_sealed h)), HBZ.out, decide_eq_false h5]; rfl
  have HO8 := Lib.hid (takea_any x0 (some ⟨g, 0, none⟩) _ 64 cap W8 hx0 HLS.out hle8 hcap HBS.out hy8)
  rw [ht] at HO8
  generalize takeA x0 (ax.set (k % 64) y) = tv8 at *
  have BEL := Lib.hid (keepB B4 B8)
  clear own7 own8 hy8 B7 B8 B4 ht c0 f0 HX hxor HBS hg hglt HT1 HAX HSE hle8 hd8 HLS
  go_wp2_with fail
  refine HO8.out.mono ?_
  rintro en w9 ⟨rfl, hb9⟩
  have BEL9 := Lib.hid (keepB BEL.out hb9)
  clear hb9 BEL HO8 HY4
  cases bl with
  | true =>
    clear HTE
    cases ba <;> cases bz <;> (go_wp2; go_ret; exact ⟨rfl, BEL9.out⟩)
  | false =>
    have htv : tv = e := HTE.out (fun h => by have := HBL.out; rw [decide_eq_true h] at this; cases this)
    subst htv
    cases ba <;> cases bz <;> (go_wp2; go_ret; exact ⟨rfl, BEL9.out⟩)

set_option maxRecDepth 100000 in
theorem lifted (os : Os) (started : os.Started) (H : Type) (enc : TypeId × Value → H) :
    ReturnsInHanded {} Try.checked os 6 .any (Rows.recAnchorsSpec.pre6 enc Try.prog Try.f6 Rows.recAnchorsRow.domain false) (Rows.recAnchorsSpec.post enc Try.prog Try.f6 false true false false) := by
  refine returnsInHanded_of_change (C := Try.checked) own started (by kernel_rfl) Try.func6
    (ChangeSpec.witness6 (enc := enc) (C := Try.checked) false ⟨#[], #[.int .u8 0, .int .u32 0, .int .u8 0, .int .u8 0, .int .u8 0], []⟩ 8 (by kernel_rfl) (by kernel_rfl) (by kernel_rfl) (by kernel_rfl)) ?_
  intro W base args ds gs before hval0 hW hcnd _
  have hval : ∀ (j : Nat) t v, Try.f6.params[j]? = some t → args[j]? = some v → Value.okWide Try.prog W .any base t v := hval0
  have hW' := hW
  obtain ⟨p, q, hA0, hV, rfl, hfz, hnd⟩ := hW
  have hA : DataW.TrodAll enc Try.prog W 0 (fun _ => true) true Try.f6.params.toList args.toList ds p := hA0
  rw [Try.params6] at hA hval
  obtain ⟨v0, vs0, d0, ds0, p0, q0, hargs, rfl, rfl, h0, r0⟩ := trodAll_cons hA
  obtain ⟨v1, vs1, d1, ds1, p1, q1, rfl, rfl, rfl, h1, r1⟩ := trodAll_cons r0
  obtain ⟨v2, vs2, d2, ds2, p2, q2, rfl, rfl, rfl, h2, r2⟩ := trodAll_cons r1
  obtain ⟨v3, vs3, d3, ds3, p3, q3, rfl, rfl, rfl, h3, r3⟩ := trodAll_cons r2
  obtain ⟨v4, vs4, d4, ds4, p4, q4, rfl, rfl, rfl, h4, r4⟩ := trodAll_cons r3
  obtain ⟨rfl, rfl, rfl⟩ := trodAll_nil r4
  obtain rfl : args = #[v0, v1, v2, v3, v4] := by cases args; simp_all
  obtain ⟨rfl, rfl⟩ := trodVars_none hV
  obtain ⟨x0, rfl, rfl, rfl, wx0⟩ := open_int Try.underlying5 (hval 0 5 v0 rfl rfl) h0
  obtain ⟨x1, rfl, rfl, rfl, wx1⟩ := open_int Try.underlying22 (hval 1 22 v1 rfl rfl) h1
  obtain ⟨x2, rfl, rfl, rfl, wx2⟩ := open_int Try.underlying5 (hval 2 5 v2 rfl rfl) h2
  obtain ⟨x3, rfl, rfl, rfl, wx3⟩ := open_int Try.underlying5 (hval 3 5 v3 rfl rfl) h3
  obtain ⟨x4, rfl, rfl, rfl, wx4⟩ := open_int Try.underlying5 (hval 4 5 v4 rfl rfl) h4
  clear hA0 hval0
  simp only [List.append_nil] at hW'
  refine (walk x0 x1 x2 x3 x4 W (by have := bounds_u8 wx0; omega) (by have := bounds_u32 wx1; omega) (by have := bounds_u8 wx2; omega) (by have := bounds_u8 wx3; omega) (by have := bounds_u8 wx4; omega)).mono fun e W' ⟨he, bel⟩ => ?_
  subst he
  exact ⟨_, rfl, _, _, _, [], _, [], hW', (trodAll_cons_mk (shut_bool Try.underlying4 _) trodAll_mk0), (trodAll_cons_mk (shut_int Try.underlying5 wx0) (trodAll_cons_mk (shut_int Try.underlying22 wx1) (trodAll_cons_mk (shut_int Try.underlying5 wx2) (trodAll_cons_mk (shut_int Try.underlying5 wx3) (trodAll_cons_mk (shut_int Try.underlying5 wx4) trodAll_mk0))))), rfl, bel.frame _, fun h => by cases h⟩

theorem over : Rows.recAnchorsRow.holds Try.pinned (OpenSpec.ofChange Rows.recAnchorsSpec) :=
  OpenClaim.holds_of_wide 6 Try.f6 rfl rfl rfl rfl rfl rfl rfl ⟨rfl, rfl, rfl, rfl, rfl⟩ rfl rfl rfl rfl rfl (by kernel_rfl) Try.func6 (by kernel_rfl)
    (of_decide_eq_true (by kernel_rfl)) (by unfold Func.isWrapper; first | (rw [if_pos (by decide +kernel)]; kernel_rfl) | (rw [if_neg (by decide +kernel)]; exact ⟨rfl, rfl⟩))
    (fun os started H enc _ => lifted os started H enc)

theorem proved : Rows.RecAnchorsSaid :=
  over
#print axioms proved
end Go.Proofs.Ytflldlhfeiamnaa.recAnchors
