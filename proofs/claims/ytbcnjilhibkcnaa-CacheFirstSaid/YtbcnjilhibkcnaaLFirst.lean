/- The law CacheFirst answers true for every input, and leaves its arguments alone. No condition. -/
import Derived.Test.YtbcnjilhibkcnaaRows
import Derived.Test.YtbcnjilhibkcnaaKu
import Derived.Deep.DeepCutAuto
import Derived.WalkKit
import Derived.ProofKit
import Derived.OpenShut
namespace Go.Proofs.Ytbcnjilhibkcnaa.cacheFirst
open Go.ChangeShapes Go.WideShapes Go.ChangeAt Go.RowKit Go.Joins
set_option linter.unusedVariables false
theorem own : ownKnob Try.prog.godebug = none := by kernel_rfl
theorem laidOut : laidOutB Try.prog = true := by kernel_rfl
set_option maxRecDepth 100000 in
set_option maxHeartbeats 6400000 in
theorem walk (x0 : Int) (x1 : Int) (x2 : Int) (w : World) (hx0 : 0 ≤ x0 ∧ x0 ≤ 255) (hx1 : 0 ≤ x1 ∧ x1 ≤ 255) (hx2 : 0 ≤ x2 ∧ x2 ≤ 255) :
    Calls Try.prog 6 #[.int .u8 x0, .int .u8 x1, .int .u8 x2] w fun e w' => e = .returned (.bool true) ∧ Below w.heap.size w w' := by
  obtain ⟨n0, rfl⟩ : ∃ n : Nat, x0 = (n : Int) := ⟨x0.toNat, by omega⟩
  obtain ⟨n1, rfl⟩ : ∃ n : Nat, x1 = (n : Int) := ⟨x1.toNat, by omega⟩
  obtain ⟨n2, rfl⟩ : ∃ n : Nat, x2 = (n : Int) := ⟨x2.toNat, by omega⟩
  obtain ⟨f0, ef, hf0⟩ : ∃ f0 : Nat, (n1 : Int) % 8 = f0 ∧ f0 ≤ 7 := ⟨n1 % 8, by omega, by omega⟩
  obtain ⟨k, ek, hk59⟩ : ∃ k : Nat, (n0 : Int) % 60 = k ∧ k ≤ 59 := ⟨n0 % 60, by omega, by omega⟩
  obtain ⟨v, ev, hvk⟩ : ∃ v : Nat, (n2 : Int) % ((k : Int) + 1) = v ∧ v ≤ k := ⟨n2 % (k + 1), (Int.natCast_emod n2 (k + 1)).symm, by have := Nat.mod_lt n2 (show 0 < k + 1 by omega); omega⟩
  have ef2 : Int.tmod (n1 : Int) 8 = f0 := by rw [Int.tmod_eq_emod_of_nonneg (by omega)]; exact ef
  have ek2 : Int.tmod (n0 : Int) 60 = k := by rw [Int.tmod_eq_emod_of_nonneg (by omega)]; exact ek
  have ev2 : Int.tmod (n2 : Int) ((k : Int) + 1) = v := by rw [Int.tmod_eq_emod_of_nonneg (by omega)]; exact ev
  obtain ⟨f, ff⟩ : ∃ f : Nat, 2 + (f0 : Int) = f := ⟨2 + f0, by omega⟩
  have hf2 : 2 ≤ f ∧ f ≤ 9 := by omega
  have wf : IntKind.i64.wrap (2 + (f0 : Int)) = f := by rw [IntWalk.i64_in _ (by omega)]; exact ff
  go_enter Try.func6, Try.ntmps6
  go_wp2_with fail
  refine (begun8_any _).mono ?_
  rintro e W1 ⟨rfl, hb1⟩
  have wk : IntKind.i64.wrap ((k : Int) + 1) = (k : Int) + 1 := IntWalk.i64_in _ (by omega)
  have nk : ¬ (k : Int) + 1 = 0 := by omega
  have nk2 : ((k : Int) + 1 == 0) = false := by simp; omega
  have wv : IntKind.i64.wrap (v : Int) = v := IntWalk.i64_in _ (by omega)
  obtain ⟨m, hm⟩ : ∃ m, moreOf (f : Int) = m := ⟨_, rfl⟩
  have hm1 : m + 1 = f := by rw [← hm]; unfold moreOf; omega
  go_wp2_with fail
  refine (new_s f (by constructor <;> omega) W1 w.heap.size hb1.size).mono ?_
  rintro e W2 ⟨g, R2, rfl, h2, hlo2, hb2⟩
  rw [hm] at h2
  have H2 := Lib.hid h2
  have HB2 := Lib.hid (keepB hb1 hb2)
  clear h2 hlo2 hb1 hb2 hm
  go_wp2_with fail
  clear ef ek ev ef2 ek2 ev2 wf hx0 hx1 hx2 wk nk nk2 wv ff
  go_loopw [11] (fun i wr => ∃ (j : Nat) (R : Nat → Prop), i = .int .i64 j ∧ j ≤ k ∧ Hid (St w.heap.size wr g m (LF f v j) R) ∧ Hid (Below w.heap.size w wr)) (fun i _ => k - (intOf i).toNat)
  case atStart => exact ⟨0, R2, rfl, Nat.zero_le _, by
    have e : LF f v 0 = [] := by unfold LF kF; rw [if_pos (Nat.zero_le _)]; rfl
    rw [e]; exact H2, HB2⟩
  case round =>
    obtain ⟨j, R, rfl, hj, HS, HB⟩ := hrel
    obtain ⟨W, rfl⟩ : ∃ W, W = wr := ⟨wr, rfl⟩
    clear H2 HB2
    by_cases hlt : j < k
    · have hlt2 : (j : Int) < k := by omega
      have hok : (⟨(j : Int), (j : Int), zBs⟩ : Wr).Ok := ⟨by constructor <;> (show _; simp only; omega), by constructor <;> (show _; simp only; omega), zBs_len, zBs_allB⟩
      have HOK := Lib.hid hok
      clear hok
      have hzb := zBs_len
      go_wp2_with (first
        | (refine wpList_buildBk rfl (.tmp 41) (j : Int) rfl rfl ?_))
      refine (put_s HS.out HB.out.size ⟨(j : Int), (j : Int), zBs⟩ HOK.out false).mono ?_
      rintro e W3 ⟨R3, rfl, h3, hl3⟩
      rw [LF_put hm1] at h3
      have H3 := Lib.hid h3
      have HB3 := Lib.hid (hl3.below HB.out HB.out.size HS.out.lo)
      generalize toldE (outM m (LF f v j) _) = tv at *
      clear h3 hl3 HS HB
      by_cases hv : v ≤ j
      · have hge : (v : Int) ≤ j := by omega
        obtain ⟨hg1, hg2⟩ := LF_get hf2.1 hv
        go_wp2_with fail
        refine (get_s H3.out HB3.out.size v (by constructor <;> omega)).mono ?_
        rintro e W4 ⟨R4, rfl, h4, hl4⟩
        rw [hg1] at h4
        rw [ansM_ent, if_pos hg2]
        unfold ansB
        have HB4 := hl4.below HB3.out HB3.out.size H3.out.lo
        have H5 := Lib.hid (h4.below (new_bk_below W4 v zBs))
        have HB5 := Lib.hid (keepB HB4 (new_bk_below W4 v zBs))
        have HK5 := Lib.hid (new_bk W4 v zBs)
        have HZ4 := Lib.hid (heap_alloc_new W4 (.cells (blkA 0 zBs) 32))
        clear h4 hl4 hg1 hg2 HB4 H3 HB3
        go_upto_region 13 with (first
          | (refine wpList_allocB rfl rfl ?_)
          | (refine wpList_storeB rfl (.tmp 12) (.tmp 51) rfl W4.heap.size rfl v 0 zBs zBs rfl hzb hzb HZ4.out ?_))
        clear HZ4
        generalize (W4.alloc (.cells (blkA 0 zBs) 32)).setRow W4.heap.size (blkA v zBs) = W5 at *
        generalize W4.heap.size = g4 at *
        have q0 : W5.cell? ⟨g4, 0, none⟩ = some (.int .i64 v) := by rw [blk_cell HK5.out]; rfl
        go_wp2_with fail
        go_roundw
        case rel => exact ⟨j + 1, R4, by go_num, by omega, H5, HB5⟩
        case measure => simp [intOf]; omega
      · have hge : ¬ (v : Int) ≤ j := by omega
        go_wp2_with fail
        go_roundw
        case rel => exact ⟨j + 1, R3, by go_num, by omega, by rw [← LF_low hf2.1 (by omega)]; exact H3, HB3⟩
        case measure => simp [intOf]; omega
    · obtain rfl : j = k := by omega
      have hnn : ¬ (j : Int) < j := by omega
      have HLN := Lib.hid (len_m HS.out.c)
      have wkf : IntKind.i64.wrap ((j : Int) - f) = (j : Int) - f := IntWalk.i64_in _ (by omega)
      have hz := zBs_len
      have hlen : (LF f v j).length = min j f := LF_len hf2.1
      generalize (LF f v j).length = ln at *
      go_upto_region 15 with fail
      go_cut [66] (fun s wx => s = .bool false ∧ wx = W)
      case first =>
        by_cases hfk : (f : Int) < j
        · obtain rfl : ln = f := by omega
          have hq : ((ln : Int) == ln) = true := by simp
          clear hlen
          go_wp2_with fail
          refine HLN.out.mono ?_; rintro e w' ⟨rfl, rfl⟩
          go_wp2_with fail
          go_meet
          case rel => exact ⟨by simp; omega, rfl⟩
        · obtain rfl : ln = j := by omega
          have hfk2 : decide ((f : Int) < ln) = false := decide_eq_false hfk
          clear hlen
          go_wp2_with fail
          refine HLN.out.mono ?_; rintro e w' ⟨rfl, rfl⟩
          go_wp2_with fail
          go_meet
          case rel => exact ⟨by simp; omega, rfl⟩
      case rest =>
        obtain ⟨e66, rfl⟩ := hcut
        subst e66
        clear HLN hlen
        go_wp2_with fail
        go_loopw [14] (fun i wr => ∃ (q : Nat), i = .int .i64 q ∧ q ≤ j ∧ Hid (St w.heap.size wr g m (LF f v j) R) ∧ Hid (Below w.heap.size w wr)) (fun i _ => j - (intOf i).toNat)
        case atStart => exact ⟨0, rfl, Nat.zero_le _, HS, HB⟩
        case round =>
          obtain ⟨q, rfl, hq, HS, HB⟩ := hrel
          obtain ⟨W6, rfl⟩ : ∃ W6, W6 = wr := ⟨wr, rfl⟩
          by_cases hlt : q < j
          · have hlt2 : (q : Int) < j := by omega
            obtain ⟨b, hb⟩ : ∃ b : Bool, b = decide (q ∈ kF f v j) := ⟨_, rfl⟩
            obtain ⟨kk, hans⟩ : ∃ kk, ansM (LF f v j) q = ansB kk zBs b := by
              rw [hb]
              unfold LF
              rw [ansM_ent]
              by_cases hm' : q ∈ kF f v j
              · exact ⟨q, by rw [if_pos hm', decide_eq_true hm']⟩
              · exact ⟨0, by rw [if_neg hm', decide_eq_false hm']⟩
            have HPK := Lib.hid (peek_m HS.out.c q (by constructor <;> omega))
            rw [hans] at HPK
            unfold ansB at HPK
            have hmem := kF_mem (f := f) (v := v) (n := j) (t := q) hf2.1 hlt hvk
            clear hans
            have HLT : Hid (q + 1 ≤ j) := hlt
            by_cases hA : (v : Int) < (j : Int) - f
            · rw [if_pos hA] at hmem
              by_cases hB : q = v
              · obtain rfl : b = true := by rw [hb]; exact decide_eq_true (hmem.2 (.inl hB))
                have dB : ((q : Int) == v) = true := by simp [hB]
                obtain ⟨bD, dD⟩ : ∃ b : Bool, decide ((j : Int) - f ≤ q) = b := ⟨_, rfl⟩
                clear hmem hb hB hj hvk hq
                go_wp2_with fail
                refine HPK.out.mono ?_
                rintro e W7 ⟨rfl, hb7⟩
                have hb8 := keepB hb7 (new_bk_below W7 kk zBs)
                have H8 := Lib.hid (HS.out.below hb8)
                have HB8 := Lib.hid (keepB HB.out hb8)
                have HZ7 := Lib.hid (heap_alloc_new W7 (.cells (blkA 0 zBs) 32))
                clear hb7 hb8
                go_wp2_with (first
                  | (refine wpList_allocB rfl rfl ?_)
                  | (refine wpList_storeB rfl (.tmp 16) (.tmp 96) rfl W7.heap.size rfl kk 0 zBs zBs rfl hz hz HZ7.out ?_))
                go_roundw
                case rel => exact ⟨q + 1, by go_num, HLT.out, H8, HB8⟩
                case measure => simp [intOf]; have := HLT.out; omega
              · have dB : ((q : Int) == v) = false := by simp; omega
                have hC : decide ((j : Int) - f < q) = b := by
                  rw [hb, decide_eq_decide, hmem]
                  exact ⟨.inr, fun h => h.elim (fun h => absurd h hB) id⟩
                obtain ⟨bD, dD⟩ : ∃ b : Bool, decide ((j : Int) - f ≤ q) = b := ⟨_, rfl⟩
                clear hmem hb hB hj hvk hq
                cases b
                all_goals
                  go_wp2_with fail
                  refine HPK.out.mono ?_
                  rintro e W7 ⟨rfl, hb7⟩
                  have hb8 := keepB hb7 (new_bk_below W7 kk zBs)
                  have H8 := Lib.hid (HS.out.below hb8)
                  have HB8 := Lib.hid (keepB HB.out hb8)
                  have HZ7 := Lib.hid (heap_alloc_new W7 (.cells (blkA 0 zBs) 32))
                  clear hb7 hb8
                  go_wp2_with (first
                    | (refine wpList_allocB rfl rfl ?_)
                    | (refine wpList_storeB rfl (.tmp 16) (.tmp 96) rfl W7.heap.size rfl kk 0 zBs zBs rfl hz hz HZ7.out ?_))
                  go_roundw
                  case rel => exact ⟨q + 1, by go_num, HLT.out, H8, HB8⟩
                  case measure => simp [intOf]; have := HLT.out; omega
            · rw [if_neg hA] at hmem
              have dA : decide ((v : Int) < (j : Int) - f) = false := decide_eq_false hA
              have dD : decide ((j : Int) - f ≤ q) = b := by rw [hb, decide_eq_decide, hmem]
              clear hmem hb hj hvk hq
              cases b
              all_goals
                go_wp2_with fail
                refine HPK.out.mono ?_
                rintro e W7 ⟨rfl, hb7⟩
                have hb8 := keepB hb7 (new_bk_below W7 kk zBs)
                have H8 := Lib.hid (HS.out.below hb8)
                have HB8 := Lib.hid (keepB HB.out hb8)
                have HZ7 := Lib.hid (heap_alloc_new W7 (.cells (blkA 0 zBs) 32))
                clear hb7 hb8
                go_wp2_with (first
                  | (refine wpList_allocB rfl rfl ?_)
                  | (refine wpList_storeB rfl (.tmp 16) (.tmp 96) rfl W7.heap.size rfl kk 0 zBs zBs rfl hz hz HZ7.out ?_))
                go_roundw
                case rel => exact ⟨q + 1, by go_num, HLT.out, H8, HB8⟩
                case measure => simp [intOf]; have := HLT.out; omega
          · obtain rfl : q = j := by omega
            have hnn : ¬ (q : Int) < q := by omega
            go_wp2_with fail
            go_ret
            exact ⟨rfl, HB.out⟩

set_option maxRecDepth 100000 in
theorem lifted (os : Os) (started : os.Started) (H : Type) (enc : TypeId × Value → H) :
    ReturnsInHanded {} Try.checked os 6 .any (Rows.cacheFirstSpec.pre6 enc Try.prog Try.f6 Rows.cacheFirstRow.domain false) (Rows.cacheFirstSpec.post enc Try.prog Try.f6 false true false false) := by
  refine returnsInHanded_of_change (C := Try.checked) own started (by kernel_rfl) Try.func6
    (ChangeSpec.witness6 (enc := enc) (C := Try.checked) false ⟨#[], #[.int .u8 0, .int .u8 0, .int .u8 0], []⟩ 8 (by kernel_rfl) (by kernel_rfl) (by kernel_rfl) (by kernel_rfl)) ?_
  intro W base args ds gs before hval0 hW hcnd _
  have hval : ∀ (j : Nat) t v, Try.f6.params[j]? = some t → args[j]? = some v → Value.okWide Try.prog W .any base t v := hval0
  have hW' := hW
  obtain ⟨p, q, hA0, hV, rfl, hfz, hnd⟩ := hW
  have hA : DataW.TrodAll enc Try.prog W 0 (fun _ => true) true Try.f6.params.toList args.toList ds p := hA0
  rw [Try.params6] at hA hval
  obtain ⟨v0, vs0, d0, ds0, p0, q0, hargs, rfl, rfl, h0, r0⟩ := trodAll_cons hA
  obtain ⟨v1, vs1, d1, ds1, p1, q1, rfl, rfl, rfl, h1, r1⟩ := trodAll_cons r0
  obtain ⟨v2, vs2, d2, ds2, p2, q2, rfl, rfl, rfl, h2, r2⟩ := trodAll_cons r1
  obtain ⟨rfl, rfl, rfl⟩ := trodAll_nil r2
  obtain rfl : args = #[v0, v1, v2] := by cases args; simp_all
  obtain ⟨rfl, rfl⟩ := trodVars_none hV
  obtain ⟨x0, rfl, rfl, rfl, wx0⟩ := open_int Try.underlying5 (hval 0 5 v0 rfl rfl) h0
  obtain ⟨x1, rfl, rfl, rfl, wx1⟩ := open_int Try.underlying5 (hval 1 5 v1 rfl rfl) h1
  obtain ⟨x2, rfl, rfl, rfl, wx2⟩ := open_int Try.underlying5 (hval 2 5 v2 rfl rfl) h2
  clear hA0 hval0
  simp only [List.append_nil] at hW'
  refine (walk x0 x1 x2 W (by have := bounds_u8 wx0; omega) (by have := bounds_u8 wx1; omega) (by have := bounds_u8 wx2; omega)).mono fun e W' ⟨he, bel⟩ => ?_
  subst he
  exact ⟨_, rfl, _, _, _, [], _, [], hW', (trodAll_cons_mk (shut_bool Try.underlying4 _) trodAll_mk0), (trodAll_cons_mk (shut_int Try.underlying5 wx0) (trodAll_cons_mk (shut_int Try.underlying5 wx1) (trodAll_cons_mk (shut_int Try.underlying5 wx2) trodAll_mk0))), rfl, bel.frame _, fun h => by cases h⟩

theorem over : Rows.cacheFirstRow.holds Try.pinned (OpenSpec.ofChange Rows.cacheFirstSpec) :=
  OpenClaim.holds_of_wide 6 Try.f6 rfl rfl rfl rfl rfl rfl rfl ⟨rfl, rfl, rfl, rfl, rfl⟩ rfl rfl rfl rfl rfl (by kernel_rfl) Try.func6 (by kernel_rfl)
    (of_decide_eq_true (by kernel_rfl)) (by unfold Func.isWrapper; first | (rw [if_pos (by decide +kernel)]; kernel_rfl) | (rw [if_neg (by decide +kernel)]; exact ⟨rfl, rfl⟩))
    (fun os started H enc _ => lifted os started H enc)

theorem proved : Rows.CacheFirstSaid :=
  over
#print axioms proved
end Go.Proofs.Ytbcnjilhibkcnaa.cacheFirst
