/- The law BitsFull answers true for every input, and leaves its arguments alone. No condition. -/
import Derived.Test.YtikdnfdijfopkaaRows
import Derived.Test.YtikdnfdijfopkaaTc
import Derived.WalkKit
import Derived.ProofKit
import Derived.OpenShut
namespace Go.Proofs.Ytikdnfdijfopkaa.bitsFull
open Go.ChangeShapes Go.WideShapes Go.ChangeAt Go.RowKit Go.Joins
set_option linter.unusedVariables false
theorem own : ownKnob Try.prog.godebug = none := by kernel_rfl
theorem laidOut : laidOutB Try.prog = true := by kernel_rfl
set_option maxRecDepth 100000 in
set_option maxHeartbeats 3200000 in
theorem walk (x0 : Int) (A1 : Option Addr) (l1 : List Int) (d1 : Nat) (w : World) (hx0 : 0 ≤ x0 ∧ x0 ≤ 255) (hd1 : l1.length ≤ d1) (hm1 : d1 ≤ 9223372036854775807) (hB1 : AllB l1) (hy1 : Byt w A1 l1) :
    Calls Try.prog 4 #[.int .u8 x0, .slice A1 l1.length d1] w fun e w' => e = .returned (.bool true) ∧ Below w.heap.size w w' := by
  obtain ⟨n0, rfl⟩ : ∃ n : Nat, x0 = (n : Int) := ⟨x0.toNat, by omega⟩
  obtain ⟨k, ek, hk⟩ : ∃ k : Nat, (n0 : Int) % 120 = k ∧ k ≤ 119 := ⟨n0 % 120, by omega, by omega⟩
  have ek2 : Int.tmod (n0 : Int) 120 = k := by rw [Int.tmod_eq_emod_of_nonneg (by omega)]; exact ek
  generalize hn : l1.length = n at *
  have HN := Lib.hid hn
  have HY := Lib.hid hy1
  have HBB := Lib.hid hB1
  clear hn hy1 hB1
  by_cases h40 : n ≤ 40
  · have h40' : ¬ (40 : Int) < (n : Int) := by omega
    go_enter Try.func4, Try.ntmps4
    go_wp2_with fail
    refine (begun_any w).mono ?_
    rintro e w1 ⟨rfl, hb1⟩
    have HB1 := Lib.hid hb1
    clear hb1
    go_wp2_with fail
    refine (new_any (k : Int) (by constructor <;> omega) w1).mono ?_
    rintro e w2 ⟨g, rfl, hg, h1, hb⟩
    have HG : Hid (w.heap.size ≤ g) := by have := HB1.out.size; unfold Hid; omega
    have HA : Hid (BitsAt w2 g (List.replicate k false)) := by rw [show (min (max (k : Int) 0) 200).toNat = k by omega] at h1; exact h1
    have HB2 := Lib.hid (HB1.out.trans (hb.mono HB1.out.size))
    clear hg h1 hb HB1 ek ek2
    go_wp2_with fail
    go_loopw [7, 8] (fun l i wr => ∃ (j : Nat) (S : List Bool) (c : Nat), i = .int .i64 j ∧ j ≤ n ∧ l = .int .i64 c ∧ c ≤ 119 ∧ Hid (S.count false = c) ∧ Hid (S.length = k) ∧ Hid (BitsAt wr g S) ∧ Hid (Below w.heap.size w wr)) (fun _ i _ => n - (intOf i).toNat)
    case atStart => exact ⟨0, _, k, rfl, Nat.zero_le _, rfl, hk, by unfold Hid; simp, by unfold Hid; simp, HA.out, HB2.out⟩
    case round =>
      clear HA HB2
      obtain ⟨j, S, c, rfl, hj, rfl, hc, HC, HL, HA, HB⟩ := hrel
      obtain ⟨W, rfl⟩ : ∃ W, W = wr := ⟨wr, rfl⟩
      by_cases hlt : j < n
      · obtain ⟨x, hx⟩ : ∃ x, l1[j]? = some x := ⟨_, List.getElem?_eq_getElem (by rw [HN.out]; exact hlt)⟩
        obtain ⟨a, rfl, hcx⟩ := HY.out.keep HB.out j x hx
        have hxb := HBB.out x (List.mem_of_getElem? hx)
        have hjl : (j : Int) < n := by omega
        have hcv : IntKind.i64.wrap x = x := IntWalk.i64_in _ (by omega)
        have HSC := Lib.hid (setB_count S x)
        clear hx
        go_wp2_with fail
        refine (set_any HA.out x (by constructor <;> omega)).mono ?_
        rintro e w3 ⟨rfl, h3, ht3⟩
        have HA3 := Lib.hid h3
        have HB3 := Lib.hid (BitsAt.next (S := []) HB.out HG.out ht3)
        have HL3 : Hid ((setB S x true).length = k) := by rw [setB_len]; exact HL.out
        clear h3 ht3
        rcases HSC.out with ⟨e1, e2⟩ | ⟨e1, e2⟩
        · rw [e1]
          have hcp : 0 < c := by have := HC.out; omega
          have HC3 : Hid ((setB S x true).count false = c - 1) := by have := HC.out; unfold Hid; omega
          have wr1 : IntKind.i64.wrap ((c : Int) - 1) = ((c - 1 : Nat) : Int) := by rw [IntWalk.i64_in _ (by omega)]; omega
          clear e1 e2
          go_wp2_with fail
          go_roundw
          case rel => exact ⟨j + 1, _, c - 1, by go_num, by omega, by go_num, by omega, HC3, HL3, HA3, HB3⟩
          case measure => simp [intOf]; omega
        · rw [e1]
          have HC3 : Hid ((setB S x true).count false = c) := by have := HC.out; unfold Hid; omega
          clear e1 e2
          go_wp2_with fail
          go_roundw
          case rel => exact ⟨j + 1, _, c, by go_num, by omega, rfl, by omega, HC3, HL3, HA3, HB3⟩
          case measure => simp [intOf]; omega
      · have hjl : ¬ (j : Int) < n := by omega
        go_wp2_with fail
        go_loopw [7, 9] (fun l i wr => ∃ (lt : Int) (S : List Bool) (c : Nat), i = .int .i64 lt ∧ -1 ≤ lt ∧ lt ≤ 200 ∧ l = .int .i64 c ∧ c ≤ 119 ∧ Hid (S.count false = c) ∧ Hid (∀ q : Nat, (q : Int) ≤ lt → S[q]? = some true) ∧ Hid (BitsAt wr g S) ∧ Hid (Below w.heap.size w wr)) (fun l _ _ => (intOf l).toNat)
        case atStart => exact ⟨-1, S, c, rfl, by omega, by omega, rfl, hc, HC, (fun q hq => by omega), HA, HB⟩
        case round =>
          clear HC HA HB hc
          obtain ⟨lt, S, c, rfl, hl1, hl2, rfl, hc, HC, HQ, HA, HB⟩ := hrel
          obtain ⟨W, rfl⟩ : ∃ W, W = wr := ⟨wr, rfl⟩
          have HFI := Lib.hid (first_any HA.out)
          have HLE := Lib.hid (left_any HA.out)
          rw [HC.out] at HLE
          by_cases hc0 : c = 0
          · subst hc0
            have hn : ¬ (0 : Int) < ((0 : Nat) : Int) := by omega
            have hF : fstV S = .tuple #[.int .i64 0, .bool false] := by
              unfold fstV; rw [if_neg]; rw [fstB_has, HC.out]; omega
            rw [hF] at HFI
            clear hF
            go_wp2_with fail
            refine HFI.out.mono ?_; rintro e w' ⟨rfl, rfl⟩
            go_wp2_with fail
            refine HLE.out.mono ?_; rintro e w' ⟨rfl, rfl⟩
            go_wp2_with fail
            go_ret
            exact ⟨rfl, HB.out⟩
          · have hcp : (0 : Int) < (c : Int) := by omega
            have hfl : fstB S < S.length := by rw [fstB_has, HC.out]; omega
            have hF : fstV S = .tuple #[.int .i64 (fstB S), .bool true] := by unfold fstV; rw [if_pos hfl]
            have hfa := fstB_at hfl
            have hbf : ∀ q, q < fstB S → S[q]? = some true := fun q h => fstB_lt h
            have hSL := HA.out.len
            generalize fstB S = f at *
            rw [hF] at HFI
            have hgt : ¬ (f : Int) ≤ lt := fun hle => by have := HQ.out f hle; rw [hfa] at this; cases this
            have HSE := Lib.hid (set_any HA.out (f : Int) (by constructor <;> omega))
            have hrs : (inB S (f : Int) && !isB S (f : Int)) = true := by rw [inB_of hfl, isB_at hfa]; rfl
            rw [hrs, setB_in hfl] at HSE
            have HC3 : Hid ((S.set f true).count false = c - 1) := by have := count_set_true hfa; have := HC.out; unfold Hid; omega
            have HQ3 : Hid (∀ q : Nat, (q : Int) ≤ (f : Int) → (S.set f true)[q]? = some true) := fun q hq => by
              by_cases e : q = f
              · subst e; rw [List.getElem?_set_self hfl]
              · rw [List.getElem?_set_ne (fun h => e h.symm)]; exact hbf q (by omega)
            have wr1 : IntKind.i64.wrap ((c : Int) - 1) = ((c - 1 : Nat) : Int) := by rw [IntWalk.i64_in _ (by omega)]; omega
            have hf200 : (f : Int) ≤ 200 := by omega
            clear hF hfa hbf hrs HC HQ
            go_wp2_with fail
            refine HFI.out.mono ?_; rintro e w' ⟨rfl, rfl⟩
            go_wp2_with fail
            refine HLE.out.mono ?_; rintro e w' ⟨rfl, rfl⟩
            go_wp2_with fail
            refine HSE.out.mono ?_
            rintro e w3 ⟨rfl, h3, ht3⟩
            have HA3 := Lib.hid h3
            have HB3 := Lib.hid (BitsAt.next (S := []) HB.out HG.out ht3)
            clear h3 ht3 HA HB HFI HLE HSE
            go_wp2_with fail
            go_roundw
            case rel => exact ⟨f, _, c - 1, rfl, by omega, hf200, by go_num, by omega, HC3, HQ3, HA3, HB3⟩
            case measure => simp [intOf]; omega
  · have h40' : (40 : Int) < (n : Int) := by omega
    go_enter Try.func4, Try.ntmps4
    go_wp2_with fail
    refine (begun_any w).mono ?_
    rintro e w1 ⟨rfl, hb1⟩
    have HB1 := Lib.hid hb1
    clear hb1
    go_wp2_with fail
    go_ret
    exact ⟨rfl, HB1.out⟩

set_option maxRecDepth 100000 in
theorem lifted (os : Os) (started : os.Started) (H : Type) (enc : TypeId × Value → H) :
    ReturnsInHanded {} Try.checked os 4 .any (Rows.bitsFullSpec.pre6 enc Try.prog Try.f4 Rows.bitsFullRow.domain false) (Rows.bitsFullSpec.post enc Try.prog Try.f4 false true false false) := by
  refine returnsInHanded_of_change (C := Try.checked) own started (by kernel_rfl) Try.func4
    (ChangeSpec.witness6 (enc := enc) (C := Try.checked) false ⟨#[], #[.int .u8 0, .slice none 0 0], []⟩ 8 (by kernel_rfl) (by kernel_rfl) (by kernel_rfl) (by kernel_rfl)) ?_
  intro W base args ds gs before hval0 hW hcnd _
  have hval : ∀ (j : Nat) t v, Try.f4.params[j]? = some t → args[j]? = some v → Value.okWide Try.prog W .any base t v := hval0
  have hW' := hW
  obtain ⟨p, q, hA0, hV, rfl, hfz, hnd⟩ := hW
  have hA : DataW.TrodAll enc Try.prog W 0 (fun _ => true) true Try.f4.params.toList args.toList ds p := hA0
  rw [Try.params4] at hA hval
  obtain ⟨v0, vs0, d0, ds0, p0, q0, hargs, rfl, rfl, h0, r0⟩ := trodAll_cons hA
  obtain ⟨v1, vs1, d1, ds1, p1, q1, rfl, rfl, rfl, h1, r1⟩ := trodAll_cons r0
  obtain ⟨rfl, rfl, rfl⟩ := trodAll_nil r1
  obtain rfl : args = #[v0, v1] := by cases args; simp_all
  obtain ⟨rfl, rfl⟩ := trodVars_none hV
  obtain ⟨x0, rfl, rfl, rfl, wx0⟩ := open_int Try.underlying5 (hval 0 5 v0 rfl rfl) h0
  obtain ⟨a1, len1, cap1, rfl⟩ := okWide_slice Try.underlying33 (hval 1 33 v1 rfl rfl)
  clear hA0 hval0
  simp only [List.append_nil] at hW'
  have hlt1 : ∀ y ∈ p1, y.block < W.heap.size := fun y hy => by simpa using hW'.lt y (by simp [hy])
  have harg1 : ∀ W' : World, Below W.heap.size W W' → DataW.Trod enc Try.prog W' 0 (fun b => decide (b < W.heap.size)) true 33 (.slice a1 len1 cap1) d1 p1 :=
    fun W' hn => Below.trod laidOut (by kernel_rfl) (of_decide_eq_true (by kernel_rfl)) h1 hn (fun y hy => hlt1 y hy)
  obtain ⟨fu1, hf1⟩ := h1
  obtain ⟨A1, l1, c1, e1, hd1, hm1, hy1, hB1⟩ := open_byt hf1
  simp [Value.cells] at e1
  obtain ⟨rfl, rfl, rfl⟩ := e1
  refine (walk x0 a1 l1 cap1 W (by have := bounds_u8 wx0; omega) hd1 hm1 hB1 hy1).mono fun e W' ⟨he, bel⟩ => ?_
  subst he
  exact ⟨_, rfl, _, _, _, [], _, [], hW', (trodAll_cons_mk (shut_bool Try.underlying4 _) trodAll_mk0), (trodAll_cons_mk (shut_int Try.underlying5 wx0) (trodAll_cons_mk (harg1 _ bel) trodAll_mk0)), rfl, bel.frame _, fun h => by cases h⟩

theorem over : Rows.bitsFullRow.holds Try.pinned (OpenSpec.ofChange Rows.bitsFullSpec) :=
  OpenClaim.holds_of_wide 4 Try.f4 rfl rfl rfl rfl rfl rfl rfl ⟨rfl, rfl, rfl, rfl, rfl⟩ rfl rfl rfl rfl rfl (by kernel_rfl) Try.func4 (by kernel_rfl)
    (of_decide_eq_true (by kernel_rfl)) (by unfold Func.isWrapper; first | (rw [if_pos (by decide +kernel)]; kernel_rfl) | (rw [if_neg (by decide +kernel)]; exact ⟨rfl, rfl⟩))
    (fun os started H enc _ => lifted os started H enc)

theorem proved : Rows.BitsFullSaid :=
  over
#print axioms proved
end Go.Proofs.Ytikdnfdijfopkaa.bitsFull
