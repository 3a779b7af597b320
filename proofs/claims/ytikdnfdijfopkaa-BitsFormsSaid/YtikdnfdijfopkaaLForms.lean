/- The law BitsForms answers true and leaves its arguments alone. No condition. -/
import Derived.Test.YtikdnfdijfopkaaRows
import Derived.Test.YtikdnfdijfopkaaTb
import Derived.WalkKit
import Derived.ProofKit
import Derived.OpenShut
namespace Go.Proofs.Ytikdnfdijfopkaa.bitsForms
open Go.ChangeShapes Go.WideShapes Go.ChangeAt Go.RowKit Go.Joins
set_option linter.unusedVariables false
theorem own : ownKnob Try.prog.godebug = none := by kernel_rfl
theorem laidOut : laidOutB Try.prog = true := by kernel_rfl
set_option maxRecDepth 100000 in
set_option maxHeartbeats 3200000 in
theorem walk  (w : World)  :
    Calls Try.prog 5 #[] w fun e w' => e = .returned (.bool true) ∧ Below w.heap.size w w' := by
  go_enter Try.func5, Try.ntmps5
  go_wp2_with fail
  refine (begun_any w).mono ?_
  rintro e w1 ⟨rfl, hb1⟩
  have HB1 := Lib.hid hb1
  clear hb1
  go_wp2_with fail
  refine (new_any (-3) (by constructor <;> omega) w1).mono ?_
  rintro e w2 ⟨g, rfl, hg, h1, hb⟩
  have HG : Hid (w.heap.size ≤ g) := by have := HB1.out.size; unfold Hid; omega
  have HL2 : Hid (g < w2.heap.size) := room_lt h1.hp
  have HA2 : Hid (BitsAt w2 g []) := h1
  have HB2 := Lib.hid (HB1.out.trans (hb.mono HB1.out.size))
  clear hg h1 hb HB1
  go_wp2_with fail
  refine (new_any 1000 (by constructor <;> omega) w2).mono ?_
  rintro e w3 ⟨q, rfl, hq, h1, hb⟩
  have HQ : Hid (w.heap.size ≤ q) := by have := HB2.out.size; unfold Hid; omega
  have HN : Hid (g ≠ q) := by have := HL2.out; unfold Hid; omega
  have HA3 := Lib.hid (HA2.out.below hb)
  obtain ⟨T, hT⟩ : ∃ T, T = List.replicate 200 false := ⟨_, rfl⟩
  have HT := Lib.hid hT
  have HC3 : Hid (BitsAt w3 q T) := by rw [hT]; exact h1
  have HB3 := Lib.hid (HB2.out.trans (hb.mono HB2.out.size))
  clear hq h1 hb HB2 HA2 HL2 hT
  go_wp2_with fail
  refine (first_any HA3.out).mono ?_; rintro e w' ⟨rfl, rfl⟩
  rw [show fstV [] = .tuple #[.int .i64 0, .bool false] from rfl]
  go_wp2_with fail
  refine (left_any HA3.out).mono ?_; rintro e w' ⟨rfl, rfl⟩
  rw [show (([] : List Bool).count false) = 0 from rfl]
  go_wp2_with fail
  refine (set_any HA3.out 0 (by constructor <;> omega)).mono ?_
  rintro e w4 ⟨rfl, h4, ht4⟩
  have HC4 := Lib.hid (HC3.out.touch ht4 (fun e => HN.out e.symm))
  have HB4 := Lib.hid (BitsAt.next (S := []) HB3.out HG.out ht4)
  clear h4 ht4 HB3 HC3 HA3
  rw [show (inB [] 0 && !isB [] 0) = false from rfl]
  go_wp2_with fail
  refine (left_any HC4.out).mono ?_; rintro e w' ⟨rfl, rfl⟩
  have HS1 : Hid (T.count false = 200) := by rw [HT.out]; rfl
  rw [HS1.out]
  go_wp2_with fail
  refine (set_any HC4.out 199 (by constructor <;> omega)).mono ?_
  rintro e w5 ⟨rfl, h5, ht5⟩
  have HC5 := Lib.hid h5
  have HB5 := Lib.hid (BitsAt.next (S := []) HB4.out HQ.out ht5)
  clear h5 ht5 HB4 HC4
  have HS2 : Hid ((inB T 199 && !isB T 199) = true) := by rw [HT.out]; rfl
  rw [HS2.out]
  obtain ⟨U, hU⟩ : ∃ U, U = setB T 199 true := ⟨_, rfl⟩
  rw [← hU] at HC5
  have HU := Lib.hid hU
  clear hU
  go_wp2_with fail
  refine (set_any HC5.out 200 (by constructor <;> omega)).mono ?_
  rintro e w6 ⟨rfl, h6, ht6⟩
  have HS3 : Hid ((inB U 200 && !isB U 200) = false) := by rw [HU.out, HT.out]; rfl
  have HS4 : Hid (setB U 200 true = U) := by rw [HU.out, HT.out]; rfl
  rw [HS4.out] at h6
  have HC6 := Lib.hid h6
  have HB6 := Lib.hid (BitsAt.next (S := []) HB5.out HQ.out ht6)
  clear h6 ht6 HB5 HC5
  rw [HS3.out]
  go_wp2_with fail
  refine (is_any HC6.out 199 (by constructor <;> omega)).mono ?_; rintro e w' ⟨rfl, rfl⟩
  have HS5 : Hid (isB U 199 = true) := by rw [HU.out, HT.out]; rfl
  rw [HS5.out]
  go_wp2_with fail
  refine (is_any HC6.out 198 (by constructor <;> omega)).mono ?_; rintro e w' ⟨rfl, rfl⟩
  have HS6 : Hid (isB U 198 = false) := by rw [HU.out, HT.out]; rfl
  rw [HS6.out]
  go_wp2_with fail
  refine (left_any HC6.out).mono ?_; rintro e w' ⟨rfl, rfl⟩
  have HS7 : Hid (U.count false = 199) := by rw [HU.out, HT.out]; rfl
  rw [HS7.out]
  go_wp2_with fail
  go_ret
  exact ⟨rfl, HB6.out⟩

set_option maxRecDepth 100000 in
theorem lifted (os : Os) (started : os.Started) (H : Type) (enc : TypeId × Value → H) :
    ReturnsInHanded {} Try.checked os 5 .any (Rows.bitsFormsSpec.pre6 enc Try.prog Try.f5 Rows.bitsFormsRow.domain false) (Rows.bitsFormsSpec.post enc Try.prog Try.f5 false true false false) := by
  refine returnsInHanded_of_change (C := Try.checked) own started (by kernel_rfl) Try.func5
    (ChangeSpec.witness6 (enc := enc) (C := Try.checked) false ⟨#[], #[], []⟩ 8 (by kernel_rfl) (by kernel_rfl) (by kernel_rfl) (by kernel_rfl)) ?_
  intro W base args ds gs before hval0 hW hcnd _
  have hW' := hW
  obtain ⟨p, q, hA0, hV, rfl, hfz, hnd⟩ := hW
  have hA : DataW.TrodAll enc Try.prog W 0 (fun _ => true) true Try.f5.params.toList args.toList ds p := hA0
  rw [Try.params5] at hA
  obtain ⟨rfl, rfl, rfl⟩ := trodAll_none hA
  obtain ⟨rfl, rfl⟩ := trodVars_none hV
  clear hA0 hval0
  simp only [List.append_nil] at hW'
  refine (walk W).mono fun e W' ⟨he, bel⟩ => ?_
  subst he
  exact ⟨_, rfl, _, _, _, [], _, [], hW', (trodAll_cons_mk (shut_bool Try.underlying4 _) trodAll_mk0), rfl, rfl, bel.frame _, fun h => by cases h⟩

theorem over : Rows.bitsFormsRow.holds Try.pinned (OpenSpec.ofChange Rows.bitsFormsSpec) :=
  OpenClaim.holds_of_wide 5 Try.f5 rfl rfl rfl rfl rfl rfl rfl ⟨rfl, rfl, rfl, rfl, rfl⟩ rfl rfl rfl rfl rfl (by kernel_rfl) Try.func5 (by kernel_rfl)
    (of_decide_eq_true (by kernel_rfl)) (by unfold Func.isWrapper; first | (rw [if_pos (by decide +kernel)]; kernel_rfl) | (rw [if_neg (by decide +kernel)]; exact ⟨rfl, rfl⟩))
    (fun os started H enc _ => lifted os started H enc)

theorem proved : Rows.BitsFormsSaid :=
  over
#print axioms proved
end Go.Proofs.Ytikdnfdijfopkaa.bitsForms
