/- The law RecOld answers true for every input, and leaves its arguments alone. No condition. -/
import Derived.Test.YtflldlhfeiamnaaRows
import Derived.Test.YtflldlhfeiamnaaEx
import Derived.Test.YtflldlhfeiamnaaEu
import Derived.Test.YtflldlhfeiamnaaEh
import Derived.WalkKit
import Derived.ProofKit
import Derived.OpenShut
namespace Go.Proofs.Ytflldlhfeiamnaa.recOld
open Go.ChangeShapes Go.WideShapes Go.ChangeAt Go.RowKit Go.Joins
set_option linter.unusedVariables false
theorem own : ownKnob Try.prog.godebug = none := by kernel_rfl
theorem laidOut : laidOutB Try.prog = true := by kernel_rfl
set_option maxRecDepth 100000 in
set_option maxHeartbeats 6400000 in
theorem walk (x0 : Int) (x1 : Int) (x2 : Int) (x3 : Int) (A4 : Option Addr) (l4 : List Wr) (d4 : Nat) (A5 : Option Addr) (l5 : List Wr) (d5 : Nat) (w : World) (hx0 : 0 ≤ x0 ∧ x0 ≤ 255) (hx1 : 0 ≤ x1 ∧ x1 ≤ 65535) (hx2 : 0 ≤ x2 ∧ x2 ≤ 65535) (hx3 : 0 ≤ x3 ∧ x3 ≤ 255) (hd4 : l4.length ≤ d4) (hm4 : d4 ≤ 9223372036854775807) (hB4 : WrsOk l4) (hy4 : Wrs w A4 l4) (hd5 : l5.length ≤ d5) (hm5 : d5 ≤ 9223372036854775807) (hB5 : WrsOk l5) (hy5 : Wrs w A5 l5) :
    Calls Try.prog 5 #[.int .u8 x0, .int .u16 x1, .int .u16 x2, .int .u8 x3, .slice A4 l4.length d4, .slice A5 l5.length d5] w fun e w' => e = .returned (.bool true) ∧ Below w.heap.size w w' := by
  obtain ⟨e, rfl⟩ : ∃ n : Nat, x1 = (n : Int) := ⟨x1.toNat, by omega⟩
  obtain ⟨s, rfl⟩ : ∃ n : Nat, x2 = (n : Int) := ⟨x2.toNat, by omega⟩
  obtain ⟨m, rfl⟩ : ∃ n : Nat, x3 = (n : Int) := ⟨x3.toNat, by omega⟩
  have H4 := Lib.hid hy4
  have H5 := Lib.hid hy5
  have HO4 := Lib.hid hB4
  have HO5 := Lib.hid hB5
  have we : IntKind.u32.wrap (e : Int) = e := IntWalk.u32_in _ (by omega)
  have ws : IntKind.u32.wrap (s : Int) = s := IntWalk.u32_in _ (by omega)
  have wm : IntKind.u32.wrap (m : Int) = m := IntWalk.u32_in _ (by omega)
  obtain ⟨p, hp, HPP⟩ : ∃ p : Nat, (e : Int) + m = p ∧ Hid (p = e + m) := ⟨e + m, by omega, rfl⟩
  have wp : IntKind.u32.wrap (p : Int) = p := IntWalk.u32_in _ (by omega)
  have hp32 : p < 4294967296 := by omega
  clear hy4 hy5 hB4 hB5
  generalize hn4 : l4.length = n4 at *
  generalize hn5 : l5.length = n5 at *
  have HN4 := Lib.hid hn4
  have HN5 := Lib.hid hn5
  clear hn4 hn5
  have HM4 := Lib.hid (fun W (h : Wrs W A4 l4) => rmay_any A4 l4 n4 d4 W HN4.out hd4 hm4 HO4.out h)
  have HM5 := Lib.hid (fun W (h : Wrs W A5 l5) => rmay_any A5 l5 n5 d5 W HN5.out hd5 hm5 HO5.out h)
  go_enter Try.func5, Try.ntmps5
  go_wp2_with fail
  refine (begun7_any _).mono ?_
  rintro en w1 ⟨rfl, hb1⟩
  have H41 := Lib.hid (H4.out.keep hb1)
  have H51 := Lib.hid (H5.out.keep hb1)
  clear H4 H5
  by_cases q4 : MayL l4
  · have HQ4 := Lib.hid q4
    rw [decide_eq_true q4] at HM4
    clear q4
    go_wp2_with fail
    refine (HM4.out w1 H41.out).mono ?_
    rintro en w2 ⟨rfl, hb2⟩
    have H42 := Lib.hid (H41.out.keep hb2)
    have H52 := Lib.hid (H51.out.keep hb2)
    have B2 := keepB hb1 hb2
    clear H41 H51 HM4 hb1 hb2
    by_cases q5 : MayL l5
    · have HQ5 := Lib.hid q5
      rw [decide_eq_true q5] at HM5
      clear q5
      go_wp2_with fail
      refine (HM5.out w2 H52.out).mono ?_
      rintro en w3 ⟨rfl, hb3⟩
      have H43 := Lib.hid (H42.out.keep hb3)
      have H53 := Lib.hid (H52.out.keep hb3)
      have B3 := keepB B2 hb3
      clear H42 H52 HM5 B2 hb3
      by_cases qn : n4 = n5
      · subst qn
        by_cases qm : m = 0
        · subst qm
          go_wp2
          go_ret
          exact ⟨rfl, B3⟩
        have hqm : ((m : Int) == 0) = false := by simp; omega
        have hn12 : 1 ≤ n4 ∧ n4 ≤ 12 := by rw [← HN4.out]; exact HQ4.out.1
        have HP4 := Lib.hid (fun W (h : Wrs W A4 l4) => put_any x0 e s A4 l4 n4 d4 W hx0 (by omega) (by omega) HN4.out hd4 hm4 HO4.out h)
        have HP5 := Lib.hid (fun W (h : Wrs W A5 l5) => put_any x0 p s A5 l5 n4 d5 W hx0 hp32 (by omega) HN5.out hd5 hm5 HO5.out h)
        rw [decide_eq_true HQ4.out, putX_may HQ4.out] at HP4
        rw [decide_eq_true HQ5.out, putX_may HQ5.out] at HP5
        have HL4 : Hid ((putL x0 e s l4).length = n4 + 1) := by unfold Hid; rw [putL_length, HN4.out]; omega
        have HL5 : Hid ((putL x0 p s l5).length = n4 + 1) := by unfold Hid; rw [putL_length, HN5.out]; omega
        have HT5 := Lib.hid (putL_txOk p s hx0 HQ5.out HO5.out)
        have HT4 := Lib.hid (putL_txOk e s hx0 HQ4.out HO4.out)
        have HNOT : Hid (∀ i b, i < n4 → (putL x0 e s l4)[1 + i]? = some b → ¬ Taken x0 p s ((putL x0 p s l5).set (1 + i) b)) := fun i b hi hb => by
          unfold putL at hb
          rw [Nat.add_comm, List.getElem?_cons_succ, List.getElem?_map] at hb
          obtain ⟨y, hy, rfl⟩ := Option.map_eq_some_iff.1 hb
          exact not_taken_old HQ5.out (by rw [HN5.out]; exact hi) (HO4.out y (List.mem_of_getElem? hy)).len (by rw [HPP.out]; omega)
        have H64 : Hid (∀ b ∈ putL x0 e s l4, b.length = 64) := fun b hb => putL_64 HQ4.out HO4.out hb
        generalize putL x0 e s l4 = po at *
        generalize putL x0 p s l5 = pf at *
        go_wp2_with fail
        refine (HP4.out w3 H43.out).mono ?_
        rintro en w4 ⟨v4, rfl, ot4, hb4⟩
        have H54 := Lib.hid (H53.out.keep hb4)
        have ot4' := ot4.mono B3.size
        have B4 := keepB B3 hb4
        obtain ⟨g4, c4, ys4, rfl, hc4, hcm4, hg4, hgl4, nm4, cl4, fr4⟩ := ot4'.parts (by rw [HL4.out]; omega)
        rw [HL4.out] at hc4 ⊢
        have HNM4 := Lib.hid nm4
        have HCL4 := Lib.hid cl4
        clear ot4 ot4' H43 H53 hb4 nm4 cl4 fr4 HP4 B3
        go_wp2_with fail
        refine (HP5.out w4 H54.out).mono ?_
        rintro en w5 ⟨v5, rfl, ot5, hb5⟩
        have HNM5 := Lib.hid (HNM4.out.keep hb5)
        have HCL5 : Hid (∀ (j : Nat) (u : Value), ys4[j]? = some u → w5.cell? ⟨g4, j, none⟩ = some u) := fun j u hj => keepC hb5 (HCL4.out j u hj)
        have ot5' := ot5.mono B4.size
        have B5 := keepB B4 hb5
        obtain ⟨g5, c5, ys5, rfl, hc5, hcm5, hg5, hgl5, nm5, cl5, fr5⟩ := ot5'.parts (by rw [HL5.out]; omega)
        rw [HL5.out] at hc5 ⊢
        have HNF := Lib.hid nm5
        have HCF := Lib.hid cl5
        clear ot5 ot5' H54 hb5 nm5 cl5 fr5 HP5 B4 HNM4 HCL4
        obtain ⟨q, hq, HQQ⟩ : ∃ q : Nat, n4 + 1 = q ∧ Hid (q = n4 + 1) := ⟨n4 + 1, rfl, rfl⟩
        rw [hq] at HL4 HL5 hc4 hc5 ⊢
        have hq13 : q ≤ 13 := by omega
        clear hq
        go_wp2_with fail
        go_loopw [17] (fun i wr => ∃ k : Nat, i = .int .i64 k ∧ 1 ≤ k ∧ k ≤ q ∧ Below w5.heap.size w5 wr) (fun i _ => q - (intOf i).toNat)
        case atStart => exact ⟨1, rfl, Nat.le_refl _, by have := HQQ.out; omega, Below.refl _ _⟩
        case round =>
          obtain ⟨k, rfl, hk1, hk, hbr⟩ := hrel
          obtain ⟨w6, rfl⟩ : ∃ w6, w6 = wr := ⟨wr, rfl⟩
          by_cases hlt : k < q
          · have hkq : (k : Int) < q := by omega
            have HNF6 := Lib.hid (HNF.out.keep hbr)
            have HCF6 : Hid (∀ (j : Nat) (u : Value), ys5[j]? = some u → w6.cell? ⟨g5, j, none⟩ = some u) := fun j u hj => keepC hbr (HCF.out j u hj)
            obtain ⟨bo, hbo⟩ : ∃ bo, po[k]? = some bo := ⟨_, List.getElem?_eq_getElem (by rw [HL4.out]; exact hlt)⟩
            have hbo64 := H64.out bo (List.mem_of_getElem? hbo)
            have hbor := hbo
            rw [show k = 1 + (k - 1) by omega] at hbor
            have hnot := HNOT.out (k - 1) bo (by have := HQQ.out; omega) hbor
            rw [show 1 + (k - 1) = k by omega] at hnot
            have HNT := Lib.hid hnot
            obtain ⟨go', do', hyo, hro⟩ := (HNM5.out.keep hbr).at64 hbo hbo64
            have co := keepC hbr (HCL5.out k _ hyo)
            have HRO := Lib.hid hro
            have HBO := Lib.hid (HT4.out bo (List.mem_of_getElem? hbo))
            have B6 := B5.trans (hbr.mono B5.size)
            have own0 := own_empty w6 w.heap.size B6.size
            have B60 : Below w6.heap.size w6 (w6.alloc (Obj.cells #[] 25)) := (Below.refl _ _).alloc (Nat.le_refl _) _
            clear hbo hbo64 hbor hnot hyo hro
            go_upto_region 13 with (first
              | (at_builtin
                 refine wpList_app_txs _ rfl (.tmp 85) (.tmp 86) rfl w.heap.size _ [] rfl own0 ⟨g5, 0, none⟩ q c5 rfl ys5 pf HL5.out (HNF6.out.keep B60) (fun j u hj => by rw [add_at]; exact keepC B60 (HCF6.out j u hj)) (by simp only [List.length_nil]; omega) (Nat.le_trans B6.size B60.size) ?_
                 intro v7 w7 ot7 hgr7 hnr7
                 have B7 : Below w6.heap.size w6 w7 := B60.grown hgr7 B60.size (fun j hj => by have hj' : some w6.heap.size = some j := hj; injection hj' with hj'; exact Nat.le_of_eq hj')
                 have HNR : Hid (∀ k, v7.ownBlock = some k → w6.heap.size ≤ k) := fun k hk => by
                   rcases hnr7 with h | h
                   · rw [h] at hk; have hj' : some w6.heap.size = some k := hk; injection hj' with hj'; exact Nat.le_of_eq hj'
                   · have := h k hk; rw [size_alloc'] at this; omega
                 have OT7 := Lib.hid (show OwnTx w7 w.heap.size v7 pf from ot7)
                 clear ot7 hgr7 hnr7 own0 B60))
            obtain ⟨g7, c7, ys7, rfl, hc7, hcm7, hg7, hgl7, nm7, cl7, fr7⟩ := OT7.out.parts (by rw [HL5.out]; omega)
            rw [HL5.out] at hc7 OT7 HNR ⊢
            have hg7w : w6.heap.size ≤ g7 := HNR.out g7 rfl
            have co7 := keepC B7 co
            obtain ⟨u7, hu7⟩ : ∃ u7, ys7[k]? = some u7 := ⟨_, List.getElem?_eq_getElem (by rw [nm7.1, HL5.out]; exact hlt)⟩
            have cx7 := cl7 k u7 hu7
            have fx7 := fr7 k
            clear nm7 cl7 fr7 hu7 co
            go_upto_region 14 with fail
            have OT8 := Lib.hid (OT7.out.set HL5.out hlt (ownB HRO.out B7))
            have B8 : Below w6.heap.size w6 (w7.setCell ⟨g7, k, none⟩ (.slice (some ⟨go', 0, none⟩) 64 do')) := B7.setCell hg7w _
            generalize w7.setCell ⟨g7, k, none⟩ (.slice (some ⟨go', 0, none⟩) 64 do') = w8 at *
            have HLS : Hid ((pf.set k bo).length = q) := by unfold Hid; rw [List.length_set, HL5.out]
            obtain ⟨A8, d8, e8, hd8, hdm8, htx8⟩ := OT8.out.tx
            rw [HLS.out] at e8 hd8
            injection e8 with z1 z2 z3
            subst z1; subst z3
            clear z2
            have HTS : Hid (TxOk (pf.set k bo)) := fun b hb => by
              rcases List.mem_or_eq_of_mem_set hb with h | h
              · exact HT5.out b h
              · rw [h]; exact HBO.out
            have HTK := Lib.hid (take_any x0 p s (some ⟨g7, 0, none⟩) (pf.set k bo) q c7 w8 hx0 hp32 (by omega) HLS.out hd8 hdm8 HTS.out htx8)
            rw [decide_eq_false HNT.out, (takeV_no HNT.out).1, (takeV_no HNT.out).2] at HTK
            clear htx8 OT8 OT7 HRO HNF6 HCF6 cx7 fx7 B7 co7
            go_wp2_with fail
            refine HTK.out.mono ?_
            rintro en w9 ⟨v9, rfl, ow9, hb9⟩
            have B9 := hbr.trans ((keepB B8 hb9).mono hbr.size)
            clear ow9 hb9 B8
            go_wp2_with fail
            go_roundw
            case rel => exact ⟨k + 1, by go_num, by omega, by omega, B9⟩
            case measure => simp [intOf]; omega
          · obtain rfl : k = q := by omega
            have hge : ¬ ((k : Int) < k) := by omega
            go_wp2
            go_ret
            exact ⟨rfl, B5.trans (hbr.mono B5.size)⟩
      · go_wp2
        go_ret
        exact ⟨rfl, B3⟩
    · rw [decide_eq_false q5] at HM5
      clear q5
      go_wp2_with fail
      refine (HM5.out w2 H52.out).mono ?_
      rintro en w3 ⟨rfl, hb3⟩
      have B3 := keepB B2 hb3
      go_wp2
      go_ret
      exact ⟨rfl, B3⟩
  · rw [decide_eq_false q4] at HM4
    clear q4
    go_wp2_with fail
    refine (HM4.out w1 H41.out).mono ?_
    rintro en w2 ⟨rfl, hb2⟩
    have B2 := keepB hb1 hb2
    go_wp2
    go_ret
    exact ⟨rfl, B2⟩

set_option maxRecDepth 100000 in
theorem lifted (os : Os) (started : os.Started) (H : Type) (enc : TypeId × Value → H) :
    ReturnsInHanded {} Try.checked os 5 .any (Rows.recOldSpec.pre6 enc Try.prog Try.f5 Rows.recOldRow.domain false) (Rows.recOldSpec.post enc Try.prog Try.f5 false true false false) := by
  refine returnsInHanded_of_change (C := Try.checked) own started (by kernel_rfl) Try.func5
    (ChangeSpec.witness6 (enc := enc) (C := Try.checked) false ⟨#[], #[.int .u8 0, .int .u16 0, .int .u16 0, .int .u8 0, .slice none 0 0, .slice none 0 0], []⟩ 8 (by kernel_rfl) (by kernel_rfl) (by kernel_rfl) (by kernel_rfl)) ?_
  intro W base args ds gs before hval0 hW hcnd _
  have hval : ∀ (j : Nat) t v, Try.f5.params[j]? = some t → args[j]? = some v → Value.okWide Try.prog W .any base t v := hval0
  have hW' := hW
  obtain ⟨p, q, hA0, hV, rfl, hfz, hnd⟩ := hW
  have hA : DataW.TrodAll enc Try.prog W 0 (fun _ => true) true Try.f5.params.toList args.toList ds p := hA0
  rw [Try.params5] at hA hval
  obtain ⟨v0, vs0, d0, ds0, p0, q0, hargs, rfl, rfl, h0, r0⟩ := trodAll_cons hA
  obtain ⟨v1, vs1, d1, ds1, p1, q1, rfl, rfl, rfl, h1, r1⟩ := trodAll_cons r0
  obtain ⟨v2, vs2, d2, ds2, p2, q2, rfl, rfl, rfl, h2, r2⟩ := trodAll_cons r1
  obtain ⟨v3, vs3, d3, ds3, p3, q3, rfl, rfl, rfl, h3, r3⟩ := trodAll_cons r2
  obtain ⟨v4, vs4, d4, ds4, p4, q4, rfl, rfl, rfl, h4, r4⟩ := trodAll_cons r3
  obtain ⟨v5, vs5, d5, ds5, p5, q5, rfl, rfl, rfl, h5, r5⟩ := trodAll_cons r4
  obtain ⟨rfl, rfl, rfl⟩ := trodAll_nil r5
  obtain rfl : args = #[v0, v1, v2, v3, v4, v5] := by cases args; simp_all
  obtain ⟨rfl, rfl⟩ := trodVars_none hV
  obtain ⟨x0, rfl, rfl, rfl, wx0⟩ := open_int Try.underlying5 (hval 0 5 v0 rfl rfl) h0
  obtain ⟨x1, rfl, rfl, rfl, wx1⟩ := open_int Try.underlying39 (hval 1 39 v1 rfl rfl) h1
  obtain ⟨x2, rfl, rfl, rfl, wx2⟩ := open_int Try.underlying39 (hval 2 39 v2 rfl rfl) h2
  obtain ⟨x3, rfl, rfl, rfl, wx3⟩ := open_int Try.underlying5 (hval 3 5 v3 rfl rfl) h3
  obtain ⟨a4, len4, cap4, rfl⟩ := okWide_slice Try.underlying23 (hval 4 23 v4 rfl rfl)
  obtain ⟨a5, len5, cap5, rfl⟩ := okWide_slice Try.underlying23 (hval 5 23 v5 rfl rfl)
  clear hA0 hval0
  simp only [List.append_nil] at hW'
  have hlt4 : ∀ y ∈ p4, y.block < W.heap.size := fun y hy => by simpa using hW'.lt y (by simp [hy])
  have harg4 : ∀ W' : World, Below W.heap.size W W' → DataW.Trod enc Try.prog W' 0 (fun b => decide (b < W.heap.size)) true 23 (.slice a4 len4 cap4) d4 p4 :=
    fun W' hn => Below.trod laidOut (by kernel_rfl) (of_decide_eq_true (by kernel_rfl)) h4 hn (fun y hy => hlt4 y hy)
  have hlt5 : ∀ y ∈ p5, y.block < W.heap.size := fun y hy => by simpa using hW'.lt y (by simp [hy])
  have harg5 : ∀ W' : World, Below W.heap.size W W' → DataW.Trod enc Try.prog W' 0 (fun b => decide (b < W.heap.size)) true 23 (.slice a5 len5 cap5) d5 p5 :=
    fun W' hn => Below.trod laidOut (by kernel_rfl) (of_decide_eq_true (by kernel_rfl)) h5 hn (fun y hy => hlt5 y hy)
  obtain ⟨fu4, hf4⟩ := h4
  obtain ⟨A4, l4, c4, e4, hd4, hm4, hy4, hB4⟩ := open_wrs hf4
  simp [Value.cells] at e4
  obtain ⟨rfl, rfl, rfl⟩ := e4
  obtain ⟨fu5, hf5⟩ := h5
  obtain ⟨A5, l5, c5, e5, hd5, hm5, hy5, hB5⟩ := open_wrs hf5
  simp [Value.cells] at e5
  obtain ⟨rfl, rfl, rfl⟩ := e5
  refine (walk x0 x1 x2 x3 a4 l4 cap4 a5 l5 cap5 W (by have := bounds_u8 wx0; omega) (by have := bounds_u16 wx1; omega) (by have := bounds_u16 wx2; omega) (by have := bounds_u8 wx3; omega) hd4 hm4 hB4 hy4 hd5 hm5 hB5 hy5).mono fun e W' ⟨he, bel⟩ => ?_
  subst he
  exact ⟨_, rfl, _, _, _, [], _, [], hW', (trodAll_cons_mk (shut_bool Try.underlying4 _) trodAll_mk0), (trodAll_cons_mk (shut_int Try.underlying5 wx0) (trodAll_cons_mk (shut_int Try.underlying39 wx1) (trodAll_cons_mk (shut_int Try.underlying39 wx2) (trodAll_cons_mk (shut_int Try.underlying5 wx3) (trodAll_cons_mk (harg4 _ bel) (trodAll_cons_mk (harg5 _ bel) trodAll_mk0)))))), rfl, bel.frame _, fun h => by cases h⟩

theorem over : Rows.recOldRow.holds Try.pinned (OpenSpec.ofChange Rows.recOldSpec) :=
  OpenClaim.holds_of_wide 5 Try.f5 rfl rfl rfl rfl rfl rfl rfl ⟨rfl, rfl, rfl, rfl, rfl⟩ rfl rfl rfl rfl rfl (by kernel_rfl) Try.func5 (by kernel_rfl)
    (of_decide_eq_true (by kernel_rfl)) (by unfold Func.isWrapper; first | (rw [if_pos (by decide +kernel)]; kernel_rfl) | (rw [if_neg (by decide +kernel)]; exact ⟨rfl, rfl⟩))
    (fun os started H enc _ => lifted os started H enc)

theorem proved : Rows.RecOldSaid :=
  over
#print axioms proved
end Go.Proofs.Ytflldlhfeiamnaa.recOld
