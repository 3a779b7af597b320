/- The law IndexAll answers true for every input, and leaves its arguments alone. No condition. -/
import Derived.Test.YthkohckofodmnaaRows
import Derived.Test.YthkohckofodmnaaIl
import Derived.WalkKit
import Derived.ProofKit
import Derived.OpenShut
namespace Go.Proofs.Ythkohckofodmnaa.indexAll
open Go.ChangeShapes Go.WideShapes Go.ChangeAt Go.RowKit Go.Joins
set_option linter.unusedVariables false
theorem own : ownKnob Try.prog.godebug = none := by kernel_rfl
theorem laidOut : laidOutB Try.prog = true := by kernel_rfl
set_option maxRecDepth 100000 in
set_option maxHeartbeats 6400000 in
theorem walk (x0 : Int) (A1 : Option Addr) (l1 : List Int) (d1 : Nat) (k2 : Int) (g2 : List Int) (x3 : Int) (x4 : Int) (w : World) (hx0 : -9223372036854775808 ≤ x0 ∧ x0 ≤ 9223372036854775807) (hd1 : l1.length ≤ d1) (hm1 : d1 ≤ 9223372036854775807) (hB1 : AllI l1) (hy1 : Nts w A1 l1) (hk2 : i64 k2) (hL2 : g2.length = 56) (hB2 : AllB g2) (hx3 : -9223372036854775808 ≤ x3 ∧ x3 ≤ 9223372036854775807) (hx4 : -9223372036854775808 ≤ x4 ∧ x4 ≤ 9223372036854775807) :
    Calls Try.prog 3 #[.int .i64 x0, .slice A1 l1.length d1, .agg (blkA k2 g2), .int .i64 x3, .int .i64 x4] w fun e w' => e = .returned (.bool true) ∧ Below w.heap.size w w' := by
  have HK0 : Hid ((w.alloc (.cells (blkA k2 g2) 25)).heap[w.heap.size]? = some (.cells (blkA k2 g2) 25 (0, 0))) := heap_alloc_new w _
  have HB0 := Lib.hid (bel1 (w := w) (.cells (blkA k2 g2) 25))
  have HL2 := Lib.hid hL2
  have HBB := Lib.hid hB2
  obtain ⟨n, hn⟩ : ∃ n, n = l1.length := ⟨_, rfl⟩
  have HN := Lib.hid hn.symm
  have HY1 := Lib.hid hy1
  rw [← hn] at hd1 ⊢
  clear hn hy1 hB1
  have HWH : Hid (∀ W : World, Calls Try.prog 8 #[.int .i64 x0] W fun e w' => e = .returned (.tuple #[.int .i64 (whD x0), .int .i64 (whI x0), .bool (decide (0 ≤ x0 ∧ x0 < 20))]) ∧ W = w') := fun W => where_any x0 W hx0
  have HRW : Hid (∀ W : World, Calls Try.prog 9 #[.int .i64 x0] W fun e w' => e = .returned (.tuple #[.int .i64 (whD x0), .int .i64 (whI x0), .bool (decide (0 ≤ x0 ∧ x0 < 20))]) ∧ W = w') := fun W => rwhere_any x0 W hx0
  have HPC := Lib.hid (fun W => pieces_any x3 x4 W hx3 hx4)
  have HRP := Lib.hid (fun W => rpieces_any x3 x4 W hx3 hx4)
  have HPU : Hid (∀ W : World, Nts W A1 l1 → Calls Try.prog 10 #[.slice A1 n d1] W fun e w' => e = .returned (.tuple #[.agg (blkA (ixK l1) (ixB l1)), .bool (mayB l1)]) ∧ Below W.heap.size W w') := fun W h => ixput_any A1 l1 n d1 W HN.out h
  have HRU : Hid (∀ W : World, Nts W A1 l1 → Calls Try.prog 11 #[.slice A1 n d1] W fun e w' => e = .returned (.tuple #[.agg (blkA (ixK l1) (ixB l1)), .bool (mayB l1)]) ∧ Below W.heap.size W w') := fun W h => rixput_any A1 l1 n d1 W HN.out h
  have HTK := Lib.hid (fun W => ixtake_any k2 g2 W hL2 hB2)
  have HRT := Lib.hid (fun W => rixtake_any k2 g2 W hL2 hB2)
  have HLB := Lib.hid (ixB_len l1)
  have HAB := Lib.hid (ixB_allB l1)
  clear hL2 hB2 hx0 hx3 hx4 hk2 hm1
  generalize whD x0 = dd at *
  generalize whI x0 = di at *
  generalize decide (0 ≤ x0 ∧ x0 < 20) = db at *
  generalize ixK l1 = pk at *
  generalize ixB l1 = pb at *
  generalize mayB l1 = po at *
  have hL16 : (tkL k2 g2).length ≤ 16 := tkL_len k2 g2
  have hP20 : (pcM x3 x4).length ≤ 20 := pcM_len x3 x4
  generalize tkB k2 g2 = ok at *
  generalize tkL k2 g2 = L at *
  generalize pcM x3 x4 = P at *
  obtain ⟨m, hm⟩ : ∃ m, m = L.length := ⟨_, rfl⟩
  obtain ⟨q, hq⟩ : ∃ q, q = P.length := ⟨_, rfl⟩
  have HM := Lib.hid hm.symm
  have HQ := Lib.hid hq.symm
  rw [← hm] at HTK HRT hL16
  rw [← hq] at HPC HRP hP20
  clear hm hq
  go_enter Try.func3, Try.ntmps3
  go_upto_region 1 with fail
  generalize w.alloc (.cells (blkA k2 g2) 25) = W0 at *
  go_wp2_with fail
  refine (begun_any _).mono ?_
  rintro e W1 ⟨rfl, hb1⟩
  have HK1 := Lib.hid (kb hb1 HK0.out)
  have HB1 := Lib.hid (keepB HB0.out hb1)
  clear hb1 HK0 HB0
  by_cases hbig : n > 20
  · go_wp2_with fail
    go_ret
    exact ⟨rfl, HB1.out⟩
  go_wp2_with fail
  refine (HWH.out _).mono ?_
  rintro e W2 ⟨rfl, rfl⟩
  clear HWH
  go_wp2_with fail
  refine (HRW.out _).mono ?_
  rintro e W2 ⟨rfl, rfl⟩
  clear HRW
  go_wp2_with fail
  refine (HPU.out _ (HY1.out.keep HB1.out)).mono ?_
  rintro e W3 ⟨rfl, hb3⟩
  have HK3 := Lib.hid (kb hb3 HK1.out)
  have HB3 := Lib.hid (keepB HB1.out hb3)
  clear hb3 HK1 HB1 HPU
  have h4 := heap_alloc_new W3 (.cells (blkA 0 zBs) 25)
  have HX4 : Hid (((W3.alloc (.cells (blkA 0 zBs) 25)).setRow W3.heap.size (blkA pk pb)).heap[W3.heap.size]? = some (.cells (blkA pk pb) 25 (0, 0))) := setRow_blk h4
  have hb4 : Below W3.heap.size W3 ((W3.alloc (.cells (blkA 0 zBs) 25)).setRow W3.heap.size (blkA pk pb)) := below_setRow (bel1 _) (Nat.le_refl _) _
  have HK4 := Lib.hid (kb hb4 HK3.out)
  have HB4 := Lib.hid (keepB HB3.out hb4)
  go_upto_region 8 with (first
    | (refine wpList_allocB rfl rfl ?_)
    | (refine wpList_storeB rfl (.tmp 17) (.tmp 49) rfl W3.heap.size rfl pk 0 pb zBs rfl HLB.out zBs_len h4 ?_))
  clear h4 hb4 HK3 HB3
  generalize (W3.alloc (.cells (blkA 0 zBs) 25)).setRow W3.heap.size (blkA pk pb) = W4 at *
  generalize W3.heap.size = r17 at *
  go_wp2_with fail
  refine (HRU.out _ (HY1.out.keep HB4.out)).mono ?_
  rintro e W5 ⟨rfl, hb5⟩
  have HK5 := Lib.hid (kb hb5 HK4.out)
  have HX5 := Lib.hid (kb hb5 HX4.out)
  have HB5 := Lib.hid (keepB HB4.out hb5)
  clear hb5 HK4 HX4 HB4 HRU
  have h6 := heap_alloc_new W5 (.cells (blkA 0 zBs) 25)
  have HZ6 : Hid (((W5.alloc (.cells (blkA 0 zBs) 25)).setRow W5.heap.size (blkA pk pb)).heap[W5.heap.size]? = some (.cells (blkA pk pb) 25 (0, 0))) := setRow_blk h6
  have hb6 : Below W5.heap.size W5 ((W5.alloc (.cells (blkA 0 zBs) 25)).setRow W5.heap.size (blkA pk pb)) := below_setRow (bel1 _) (Nat.le_refl _) _
  have HK6 := Lib.hid (kb hb6 HK5.out)
  have HX6 := Lib.hid (kb hb6 HX5.out)
  have HB6 := Lib.hid (keepB HB5.out hb6)
  go_upto_region 9 with (first
    | (refine wpList_allocB rfl rfl ?_)
    | (refine wpList_storeB rfl (.tmp 19) (.tmp 54) rfl W5.heap.size rfl pk 0 pb zBs rfl HLB.out zBs_len h6 ?_))
  clear h6 hb6 HK5 HX5 HB5
  generalize (W5.alloc (.cells (blkA 0 zBs) 25)).setRow W5.heap.size (blkA pk pb) = W6 at *
  generalize W5.heap.size = r19 at *
  go_wp2_with (refine wpList_loadB rfl (.tmp 7) rfl w.heap.size rfl k2 g2 HL2.out HK6.out ?_)
  refine (HTK.out _).mono ?_
  rintro e W7 ⟨v7, rfl, ho7, hb7⟩
  obtain ⟨A7, c7, rfl⟩ := own_val1 ho7
  have HO7 := Lib.hid ho7
  have HK7 := Lib.hid (kb hb7 HK6.out)
  have HX7 := Lib.hid (kb hb7 HX6.out)
  have HZ7 := Lib.hid (kb hb7 HZ6.out)
  have HB7 := Lib.hid (keepB HB6.out hb7)
  clear ho7 hb7 HK6 HX6 HZ6 HB6 HTK
  go_wp2_with (refine wpList_loadB rfl (.tmp 7) rfl w.heap.size rfl k2 g2 HL2.out HK7.out ?_)
  refine (HRT.out _).mono ?_
  rintro e W8 ⟨v8, rfl, ho8, hb8⟩
  obtain ⟨A8, c8, rfl⟩ := own_val1 ho8
  have HR8 := Lib.hid (ho8.mono (Nat.zero_le _))
  have HO8 := Lib.hid ((ownB HO7.out hb8).mono (Nat.zero_le _))
  have HX8 := Lib.hid (kb hb8 HX7.out)
  have HZ8 := Lib.hid (kb hb8 HZ7.out)
  have HB8 := Lib.hid (keepB HB7.out hb8)
  clear ho8 hb8 HO7 HK7 HX7 HZ7 HB7 HRT
  go_wp2_with (first
    | (refine wpList_loadBw (by rfl) (.tmp 17) rfl r17 rfl pk pb HLB.out HX8.out ?_)
    | (refine wpList_loadBw (by rfl) (.tmp 19) rfl r19 rfl pk pb HLB.out HZ8.out ?_)
    | (refine wpList_neqBw (by rfl) (.tmp 80) (.tmp 81) _ rfl pk pk pb pb rfl rfl HLB.out HLB.out HAB.out HAB.out ?_; rw [show (!(decide (pk = pk ∧ pb = pb))) = false by simp]))
  clear HX8 HZ8
  go_loopw [25] (fun i wr => ∃ j : Nat, j ≤ m ∧ i = .int .i64 j ∧ Hid (wr.ownsRow 0 3 1 (.slice A7 m c7) m (Is L)) ∧ Hid (wr.ownsRow 0 3 1 (.slice A8 m c8) m (Is L)) ∧ Hid (Below w.heap.size w wr)) (fun i _ => (m - intOf i).toNat)
  case atStart => exact ⟨0, by omega, rfl, HO8, HR8, HB8⟩
  case round =>
    obtain ⟨j, hj, rfl, HO, HR, HB⟩ := hrel
    obtain ⟨wk, rfl⟩ : ∃ wk, wk = wr := ⟨wr, rfl⟩
    clear HO8 HR8 HB8
    by_cases hlt : j < m
    · obtain ⟨x, hx⟩ : ∃ x, L[j]? = some x := ⟨_, List.getElem?_eq_getElem (by rw [HM.out]; exact hlt)⟩
      obtain ⟨ga, ca, hva, _, _⟩ := own_pos HO.out (by omega)
      obtain ⟨gb, cb, hvb, _, _⟩ := own_pos HR.out (by omega)
      injection hva with hv1 _ hv3
      subst hv1; subst hv3
      injection hvb with hv1 _ hv3
      subst hv1; subst hv3
      have k1 : ∀ q, (wk.drewN q).cell? ⟨ga, j, none⟩ = some (.int .i64 x) := fun q => own_cell HO.out (Is_at hx)
      have k2' : ∀ q, (wk.drewN q).cell? ⟨gb, j, none⟩ = some (.int .i64 x) := fun q => own_cell HR.out (Is_at hx)
      have HO2 := Lib.hid (fun q => ownB HO.out (below_refl' wk q))
      have HR2 := Lib.hid (fun q => ownB HR.out (below_refl' wk q))
      have HB2 := Lib.hid (fun q => keepB HB.out (below_refl' wk q))
      clear hx HO HR HB
      go_upto_region 16 with fail
      go_quiet (fail)
      rename_i nq
      have HO3 := Lib.hid (HO2.out nq)
      have HR3 := Lib.hid (HR2.out nq)
      have HB3 := Lib.hid (HB2.out nq)
      clear k1 k2' HO2 HR2 HB2
      generalize wk.drewN nq = W9 at *
      go_wp2_with fail
      go_roundw
      case rel => exact ⟨j + 1, by omega, by go_num, HO3.out, HR3.out, HB3.out⟩
      case measure => simp [intOf]; omega
    · obtain rfl : m = j := by omega
      clear HO HR
      go_wp2_with fail
      refine (HPC.out _).mono ?_
      rintro e W10 ⟨v10, rfl, ho10, hb10⟩
      obtain ⟨A10, c10, rfl⟩ := own_val2 ho10
      have HO10 := Lib.hid ho10
      have HB10 := Lib.hid (keepB HB.out hb10)
      clear ho10 hb10 HB HPC
      go_wp2_with fail
      refine (HRP.out _).mono ?_
      rintro e W11 ⟨v11, rfl, ho11, hb11⟩
      obtain ⟨A11, c11, rfl⟩ := own_val2 ho11
      have HR11 := Lib.hid (ho11.mono (Nat.zero_le _))
      have HO11 := Lib.hid ((ownB HO10.out hb11).mono (Nat.zero_le _))
      have HB11 := Lib.hid (keepB HB10.out hb11)
      clear ho11 hb11 HO10 HB10 HRP
      go_wp2_with fail
      go_loopw [28] (fun i wr => ∃ j : Nat, j ≤ q ∧ i = .int .i64 j ∧ Hid (wr.ownsRow 0 38 3 (.slice A10 q c10) q (rowL encP P)) ∧ Hid (wr.ownsRow 0 39 3 (.slice A11 q c11) q (rowL encP P)) ∧ Hid (Below w.heap.size w wr)) (fun i _ => (q - intOf i).toNat)
      case atStart => exact ⟨0, by omega, rfl, HO11, HR11, HB11⟩
      case round =>
        obtain ⟨j, hj2, rfl, HO, HR, HB⟩ := hrel
        obtain ⟨wk, rfl⟩ : ∃ wk, wk = wr := ⟨wr, rfl⟩
        clear HO11 HR11 HB11
        by_cases hlt2 : j < q
        · obtain ⟨⟨K, F, T⟩, hx⟩ : ∃ x, P[j]? = some x := ⟨_, List.getElem?_eq_getElem (by rw [HQ.out]; exact hlt2)⟩
          obtain ⟨ga, ca, hva, _, _⟩ := own_pos HO.out (by omega)
          obtain ⟨gb, cb, hvb, _, _⟩ := own_pos HR.out (by omega)
          injection hva with hv1 _ hv3
          subst hv1; subst hv3
          injection hvb with hv1 _ hv3
          subst hv1; subst hv3
          have k0 : ∀ q, (wk.drewN q).cell? ⟨ga, j * 3, none⟩ = some (.int .i64 K) := fun q => own_cell HO.out (rowL_at (encP_fits _) hx (j := 0) rfl)
          have k1 : ∀ q, (wk.drewN q).cell? ⟨ga, j * 3 + 1, none⟩ = some (.int .i64 F) := fun q => own_cell HO.out (rowL_at (encP_fits _) hx (j := 1) rfl)
          have k2 : ∀ q, (wk.drewN q).cell? ⟨ga, j * 3 + 2, none⟩ = some (.int .i64 T) := fun q => own_cell HO.out (rowL_at (encP_fits _) hx (j := 2) rfl)
          have l0 : ∀ q, (wk.drewN q).cell? ⟨gb, j * 3, none⟩ = some (.int .i64 K) := fun q => own_cell HR.out (rowL_at (encP_fits _) hx (j := 0) rfl)
          have l1 : ∀ q, (wk.drewN q).cell? ⟨gb, j * 3 + 1, none⟩ = some (.int .i64 F) := fun q => own_cell HR.out (rowL_at (encP_fits _) hx (j := 1) rfl)
          have l2 : ∀ q, (wk.drewN q).cell? ⟨gb, j * 3 + 2, none⟩ = some (.int .i64 T) := fun q => own_cell HR.out (rowL_at (encP_fits _) hx (j := 2) rfl)
          have HO2 := Lib.hid (fun q => ownB HO.out (below_refl' wk q))
          have HR2 := Lib.hid (fun q => ownB HR.out (below_refl' wk q))
          have HB2 := Lib.hid (fun q => keepB HB.out (below_refl' wk q))
          clear hx HO HR HB
          go_upto_region 24 with fail
          go_quiet (fail)
          rename_i nq
          have HO3 := Lib.hid (HO2.out nq)
          have HR3 := Lib.hid (HR2.out nq)
          have HB3 := Lib.hid (HB2.out nq)
          clear k0 k1 k2 l0 l1 l2 HO2 HR2 HB2
          generalize wk.drewN nq = W9 at *
          go_wp2_with fail
          go_roundw
          case rel => exact ⟨j + 1, by omega, by go_num, HO3.out, HR3.out, HB3.out⟩
          case measure => simp [intOf]; omega
        · go_wp2_with fail
          go_ret
          exact ⟨rfl, HB.out⟩

set_option maxRecDepth 100000 in
theorem lifted (os : Os) (started : os.Started) (H : Type) (enc : TypeId × Value → H) :
    ReturnsInHanded {} Try.checked os 3 .any (Rows.indexAllSpec.pre6 enc Try.prog Try.f3 Rows.indexAllRow.domain false) (Rows.indexAllSpec.post enc Try.prog Try.f3 false true false false) := by
  refine returnsInHanded_of_change (C := Try.checked) own started (by kernel_rfl) Try.func3
    (ChangeSpec.witness6 (enc := enc) (C := Try.checked) false ⟨#[], #[.int .i64 0, .slice none 0 0, .agg (blkA 0 zBs), .int .i64 0, .int .i64 0], []⟩ 8 (by kernel_rfl) (by kernel_rfl) (by kernel_rfl) (by kernel_rfl)) ?_
  intro W base args ds gs before hval0 hW hcnd _
  have hval : ∀ (j : Nat) t v, Try.f3.params[j]? = some t → args[j]? = some v → Value.okWide Try.prog W .any base t v := hval0
  have hW' := hW
  obtain ⟨p, q, hA0, hV, rfl, hfz, hnd⟩ := hW
  have hA : DataW.TrodAll enc Try.prog W 0 (fun _ => true) true Try.f3.params.toList args.toList ds p := hA0
  rw [Try.params3] at hA hval
  obtain ⟨v0, vs0, d0, ds0, p0, q0, hargs, rfl, rfl, h0, r0⟩ := trodAll_cons hA
  obtain ⟨v1, vs1, d1, ds1, p1, q1, rfl, rfl, rfl, h1, r1⟩ := trodAll_cons r0
  obtain ⟨v2, vs2, d2, ds2, p2, q2, rfl, rfl, rfl, h2, r2⟩ := trodAll_cons r1
  obtain ⟨v3, vs3, d3, ds3, p3, q3, rfl, rfl, rfl, h3, r3⟩ := trodAll_cons r2
  obtain ⟨v4, vs4, d4, ds4, p4, q4, rfl, rfl, rfl, h4, r4⟩ := trodAll_cons r3
  obtain ⟨rfl, rfl, rfl⟩ := trodAll_nil r4
  obtain rfl : args = #[v0, v1, v2, v3, v4] := by cases args; simp_all
  obtain ⟨rfl, rfl⟩ := trodVars_none hV
  obtain ⟨x0, rfl, rfl, rfl, wx0⟩ := open_int Try.underlying3 (hval 0 3 v0 rfl rfl) h0
  obtain ⟨a1, len1, cap1, rfl⟩ := okWide_slice Try.underlying22 (hval 1 22 v1 rfl rfl)
  obtain ⟨cs2, rfl, _⟩ := okWide_struct Try.underlying25 (hval 2 25 v2 rfl rfl)
  obtain ⟨x3, rfl, rfl, rfl, wx3⟩ := open_int Try.underlying3 (hval 3 3 v3 rfl rfl) h3
  obtain ⟨x4, rfl, rfl, rfl, wx4⟩ := open_int Try.underlying3 (hval 4 3 v4 rfl rfl) h4
  clear hA0 hval0
  simp only [List.append_nil] at hW'
  have hlt1 : ∀ y ∈ p1, y.block < W.heap.size := fun y hy => by simpa using hW'.lt y (by simp [hy])
  have harg1 : ∀ W' : World, Below W.heap.size W W' → DataW.Trod enc Try.prog W' 0 (fun b => decide (b < W.heap.size)) true 22 (.slice a1 len1 cap1) d1 p1 :=
    fun W' hn => Below.trod laidOut (by kernel_rfl) (of_decide_eq_true (by kernel_rfl)) h1 hn (fun y hy => hlt1 y hy)
  have hlt2 : ∀ y ∈ p2, y.block < W.heap.size := fun y hy => by simpa using hW'.lt y (by simp [hy])
  have harg2 : ∀ W' : World, Below W.heap.size W W' → DataW.Trod enc Try.prog W' 0 (fun b => decide (b < W.heap.size)) true 25 (.agg cs2) d2 p2 :=
    fun W' hn => Below.trod laidOut (by kernel_rfl) (of_decide_eq_true (by kernel_rfl)) h2 hn (fun y hy => hlt2 y hy)
  obtain ⟨fu1, hf1⟩ := h1
  obtain ⟨A1, l1, c1, e1, hd1, hm1, hy1, hB1⟩ := open_nts hf1
  simp [Value.cells] at e1
  obtain ⟨rfl, rfl, rfl⟩ := e1
  obtain ⟨fu2, hf2⟩ := h2
  obtain ⟨k2, g2, e2, hL2, hk2, hB2⟩ := open_blk hf2
  obtain rfl : cs2 = blkA k2 g2 := by
    unfold blkA; rw [← e2]; simp [Value.cells]
  refine (walk x0 a1 l1 cap1 k2 g2 x3 x4 W (by have := bounds_i64 wx0; omega) hd1 hm1 hB1 hy1 hk2 hL2 hB2 (by have := bounds_i64 wx3; omega) (by have := bounds_i64 wx4; omega)).mono fun e W' ⟨he, bel⟩ => ?_
  subst he
  exact ⟨_, rfl, _, _, _, [], _, [], hW', (trodAll_cons_mk (shut_bool Try.underlying4 _) trodAll_mk0), (trodAll_cons_mk (shut_int Try.underlying3 wx0) (trodAll_cons_mk (harg1 _ bel) (trodAll_cons_mk (harg2 _ bel) (trodAll_cons_mk (shut_int Try.underlying3 wx3) (trodAll_cons_mk (shut_int Try.underlying3 wx4) trodAll_mk0))))), rfl, bel.frame _, fun h => by cases h⟩

theorem over : Rows.indexAllRow.holds Try.pinned (OpenSpec.ofChange Rows.indexAllSpec) :=
  OpenClaim.holds_of_wide 3 Try.f3 rfl rfl rfl rfl rfl rfl rfl ⟨rfl, rfl, rfl, rfl, rfl⟩ rfl rfl rfl rfl rfl (by kernel_rfl) Try.func3 (by kernel_rfl)
    (of_decide_eq_true (by kernel_rfl)) (by unfold Func.isWrapper; first | (rw [if_pos (by decide +kernel)]; kernel_rfl) | (rw [if_neg (by decide +kernel)]; exact ⟨rfl, rfl⟩))
    (fun os started H enc _ => lifted os started H enc)

theorem proved : Rows.IndexAllSaid :=
  over
#print axioms proved
end Go.Proofs.Ythkohckofodmnaa.indexAll
