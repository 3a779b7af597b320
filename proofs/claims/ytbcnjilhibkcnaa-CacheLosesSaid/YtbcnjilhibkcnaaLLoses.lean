/- The law CacheLoses answers true for every input, and leaves its arguments alone. No condition. -/
import Derived.Test.YtbcnjilhibkcnaaRows
import Derived.Test.YtbcnjilhibkcnaaKv
import Derived.WalkKit
import Derived.ProofKit
import Derived.OpenShut
namespace Go.Proofs.Ytbcnjilhibkcnaa.cacheLoses
open Go.ChangeShapes Go.WideShapes Go.ChangeAt Go.RowKit Go.Joins
set_option linter.unusedVariables false
theorem own : ownKnob Try.prog.godebug = none := by kernel_rfl
theorem laidOut : laidOutB Try.prog = true := by kernel_rfl
set_option maxRecDepth 100000 in
set_option maxHeartbeats 6400000 in
theorem walk (x0 : Int) (A1 : Option Addr) (l1 : List Int) (d1 : Nat) (w : World) (hx0 : 0 ≤ x0 ∧ x0 ≤ 255) (hd1 : l1.length ≤ d1) (hm1 : d1 ≤ 9223372036854775807) (hB1 : AllB l1) (hy1 : Byt w A1 l1) :
    Calls Try.prog 5 #[.int .u8 x0, .slice A1 l1.length d1] w fun e w' => e = .returned (.bool true) ∧ Below w.heap.size w w' := by
  obtain ⟨n0, rfl⟩ : ∃ n : Nat, x0 = (n : Int) := ⟨x0.toNat, by omega⟩
  obtain ⟨f0, ef, hf0⟩ : ∃ f0 : Nat, (n0 : Int) % 9 = f0 ∧ f0 ≤ 8 := ⟨n0 % 9, by omega, by omega⟩
  have ef2 : Int.tmod (n0 : Int) 9 = f0 := by rw [Int.tmod_eq_emod_of_nonneg (by omega)]; exact ef
  have wf : IntKind.i64.wrap (1 + (f0 : Int)) = 1 + (f0 : Int) := IntWalk.i64_in _ (by omega)
  have HY := Lib.hid hy1
  have HBA := Lib.hid hB1
  have hzb := zBs_len
  have hz := zW_len
  clear hy1 hB1
  generalize hn : l1.length = n at *
  have HN := Lib.hid hn
  clear hn
  go_enter Try.func5, Try.ntmps5
  go_wp2_with fail
  refine (begun8_any _).mono ?_
  rintro e W1 ⟨rfl, hb1⟩
  by_cases hlong : 60 < n
  · have hlong2 : (60 : Int) < n := by omega
    go_wp2_with fail
    go_ret
    exact ⟨rfl, hb1⟩
  · have hlong2 : ¬ (60 : Int) < n := by omega
    go_wp2_with fail
    refine (new_s (1 + (f0 : Int)) (by constructor <;> omega) W1 w.heap.size hb1.size).mono ?_
    rintro e W2 ⟨g, R2, rfl, h2, hlo2, hb2⟩
    obtain ⟨m, hm⟩ : ∃ m, moreOf (1 + (f0 : Int)) = m := ⟨_, rfl⟩
    have hmf : m = f0 := by rw [← hm]; unfold moreOf; omega
    rw [hm] at h2
    have hB2 := keepB hb1 hb2
    have hs2 := size_alloc' W2 (.cells (IsA (List.replicate 16 0)) 49)
    have hb3 : Below W2.heap.size W2 ((W2.alloc (.cells (IsA (List.replicate 16 0)) 49)).alloc (.cells (IsA (List.replicate 16 0)) 49)) := ((Below.refl _ _).alloc (Nat.le_refl _) _).alloc (by rw [hs2]; omega) _
    have H3 := Lib.hid (h2.below hb3)
    have HB3 := Lib.hid (keepB hB2 hb3)
    have HO3 : Hid (((W2.alloc (.cells (IsA (List.replicate 16 0)) 49)).alloc (.cells (IsA (List.replicate 16 0)) 49)).heap[W2.heap.size]? = some (.cells (IsA (List.replicate 16 0)) 49 (0, 0)) ∧ ¬ R2 W2.heap.size) := ⟨heap_alloc_old' _ _ (heap_alloc_new W2 _), fun e => by have := h2.hi _ e; omega⟩
    have HW3 : Hid (((W2.alloc (.cells (IsA (List.replicate 16 0)) 49)).alloc (.cells (IsA (List.replicate 16 0)) 49)).heap[W2.heap.size + 1]? = some (.cells (IsA (List.replicate 16 0)) 49 (0, 0)) ∧ ¬ R2 (W2.heap.size + 1)) := ⟨by rw [← hs2]; exact heap_alloc_new _ _, fun e => by have := h2.hi _ e; omega⟩
    have HLO : Hid (w.heap.size ≤ W2.heap.size) := hB2.size
    have hlong3 : decide ((60 : Int) < n) = false := decide_eq_false (by omega)
    have HEF := Lib.hid ef
    have HEF2 := Lib.hid ef2
    have HWF := Lib.hid wf
    clear h2 hlo2 hb1 hb2 hB2 hb3 hm ef ef2 hx0
    go_upto_region 7 with (first
      | (refine wpList_alloc16 rfl rfl ?_))
    try rw [hs2]
    clear hs2
    generalize (W2.alloc (.cells (IsA (List.replicate 16 0)) 49)).alloc (.cells (IsA (List.replicate 16 0)) 49) = W3 at *
    generalize W2.heap.size = ga at *
    go_wp2_with fail
    go_loopw [8] (fun i wr => ∃ (j : Nat) (L : List Ent) (O Wn : List Int) (R : Nat → Prop), i = .int .i64 j ∧ j ≤ n ∧ Hid (St w.heap.size wr g m L R) ∧ Hid (Kept16 L O Wn) ∧ Hid (wr.heap[ga]? = some (.cells (IsA O) 49 (0, 0)) ∧ ¬ R ga) ∧ Hid (wr.heap[ga + 1]? = some (.cells (IsA Wn) 49 (0, 0)) ∧ ¬ R (ga + 1)) ∧ Hid (Below w.heap.size w wr)) (fun i _ => n - (intOf i).toNat)
    case atStart => exact ⟨0, [], _, _, R2, rfl, Nat.zero_le _, H3, Kept16.start, HO3, HW3, HB3⟩
    case round =>
      obtain ⟨j, L, O, Wn, R, rfl, hj, HS, HK, HO, HW, HB⟩ := hrel
      obtain ⟨W, rfl⟩ : ∃ W, W = wr := ⟨wr, rfl⟩
      clear H3 HO3 HW3 HB3
      by_cases hlt : j < n
      · have hlt2 : (j : Int) < n := by omega
        obtain ⟨x, hx⟩ : ∃ x, l1[j]? = some x := ⟨_, List.getElem?_eq_getElem (by rw [HN.out]; exact hlt)⟩
        have hxb := HBA.out x (List.mem_of_getElem? hx)
        obtain ⟨ad, rfl, hcx⟩ := (HY.out.keep HB.out) j x hx
        obtain ⟨x, rfl⟩ : ∃ q : Nat, x = (q : Int) := ⟨x.toNat, by omega⟩
        obtain ⟨t, et, ht⟩ : ∃ t : Nat, (x : Int) % 16 = t ∧ t < 16 := ⟨x % 16, by omega, by omega⟩
        have et2 : Int.tmod (x : Int) 16 = t := by rw [Int.tmod_eq_emod_of_nonneg (by omega)]; exact et
        have HT : Hid (t < 16) := ht
        obtain ⟨old, hold⟩ : ∃ old, Wn[t]? = some old := ⟨_, List.getElem?_eq_getElem (by rw [HK.out.lw]; exact ht)⟩
        have cw : W.cell? ⟨ga + 1, t, none⟩ = some (.int .i64 old) := by rw [blk_cell HW.out.1]; exact IsA_at hold
        have fw : W.frozen? ⟨ga + 1, t, none⟩ = false := blk_free HW.out.1 t
        have wj : IntKind.i64.wrap ((j : Int) + 1) = (j : Int) + 1 := IntWalk.i64_in _ (by omega)
        have ht16 : (t : Int) < 16 := by omega
        clear hx hold
        go_upto_region 12 with fail
        have hsp := stp_set W (ga + 1) t (.int .i64 ((j : Int) + 1))
        have H4 := Lib.hid (HS.out.kept hsp (fun k hk e => HW.out.2 (by rw [← e]; exact hk)))
        have HO4 : Hid ((W.setCell ⟨ga + 1, t, none⟩ (.int .i64 ((j : Int) + 1))).heap[ga]? = some (.cells (IsA O) 49 (0, 0)) ∧ ¬ R ga) := ⟨by rw [heap_setCell_other _ _ _ _ (by show ga ≠ ga + 1; omega)]; exact HO.out.1, HO.out.2⟩
        have HW4 : Hid ((W.setCell ⟨ga + 1, t, none⟩ (.int .i64 ((j : Int) + 1))).heap[ga + 1]? = some (.cells (IsA (Wn.set t ((j : Int) + 1))) 49 (0, 0)) ∧ ¬ R (ga + 1)) := ⟨by rw [heap_setCell_same' HW.out.1, IsA_set], HW.out.2⟩
        have HB4 : Hid (Below w.heap.size w (W.setCell ⟨ga + 1, t, none⟩ (.int .i64 ((j : Int) + 1)))) := HB.out.setCell (by show w.heap.size ≤ ga + 1; have := HLO.out; omega) _
        clear hsp HS HO HW HB cw fw hcx et et2 hxb
        generalize W.setCell ⟨ga + 1, t, none⟩ (.int .i64 ((j : Int) + 1)) = W4 at *
        have hok : (⟨(t : Int), (j : Int) + 1, zBs⟩ : Wr).Ok := ⟨by constructor <;> (show _; simp only; omega), by constructor <;> (show _; simp only; omega), zBs_len, zBs_allB⟩
        have HOK := Lib.hid hok
        obtain ⟨hk2, hk3⟩ := HK.out.put H4.out.c.dis H4.out.c.len ht (c := (j : Int) + 1) (by omega)
        have HK2 := Lib.hid hk2
        have HK3 := Lib.hid hk3
        have hy56 := outM_len H4.out.c.ok m (t : Int)
        clear hok hk2 hk3 ht HK
        go_wp2_with (first
          | (refine wpList_buildBk rfl (.tmp 46) ((j : Int) + 1) rfl rfl ?_))
        refine (put_s H4.out HB4.out.size ⟨(t : Int), (j : Int) + 1, zBs⟩ HOK.out true).mono ?_
        rintro e W5 ⟨R5, rfl, h5, hl5⟩
        rw [toldE_is]
        obtain ⟨y, hy⟩ : ∃ y, outM m L (t : Int) = y := ⟨_, rfl⟩
        rw [show outM m L (⟨(t : Int), (j : Int) + 1, zBs⟩ : Wr).t = y from hy]
        rw [hy] at HK2 HK3 hy56
        obtain ⟨ho5, hno5⟩ := hl5.heap HO4.out.1 HO4.out.2
        obtain ⟨hw5, hnw5⟩ := hl5.heap HW4.out.1 HW4.out.2
        have hy562 : (outW y).bs.length = 56 := by unfold outW; split; exact hy56; exact hz
        have H6 := Lib.hid (h5.below (new_wr_below W5 (outW y)))
        have HB6 := Lib.hid (keepB (hl5.below HB4.out HB4.out.size H4.out.lo) (new_wr_below W5 (outW y)))
        have HO6 := Lib.hid (And.intro (kb (new_wr_below W5 (outW y)) ho5) hno5)
        have HW6 := Lib.hid (And.intro (kb (new_wr_below W5 (outW y)) hw5) hnw5)
        have HN6 := Lib.hid (new_wr W5 (outW y))
        have HZ5 := Lib.hid (heap_alloc_new W5 (.cells (wrA zW) 36))
        clear h5 hl5 ho5 hno5 hw5 hnw5 H4 HO4 HW4 HB4 hy HOK
        go_upto_region 13 with (first
          | (refine wpList_allocW rfl rfl ?_)
          | (refine wpList_storeW rfl (.tmp 10) (.tmp 49) rfl W5.heap.size rfl (outW y) zW rfl hy562 hz HZ5.out ?_))
        clear HZ5
        generalize (W5.alloc (.cells (wrA zW) 36)).setRow W5.heap.size (wrA (outW y)) = W6 at *
        generalize W5.heap.size = g5 at *
        obtain ⟨L2, hL2⟩ : ∃ L2, L2 = putM m L ⟨(t : Int), (j : Int) + 1, zBs⟩ true := ⟨_, rfl⟩
        rw [← hL2] at H6 HK2
        clear hL2
        rcases Bool.eq_false_or_eq_true y.2 with hd | hd
        · obtain ⟨h0, h15, hne⟩ := HK3.out hd
          have eo : outW y = y.1 := by unfold outW; rw [if_pos hd]
          obtain ⟨u, hu⟩ : ∃ u : Nat, y.1.t = (u : Int) := ⟨y.1.t.toNat, by omega⟩
          rw [eo] at HN6
          have q0 : W6.cell? ⟨g5, 0, none⟩ = some (.int .i64 u) := by rw [← hu]; exact (wrAt_blk HN6.out).c0
          have q1 : W6.cell? ⟨g5, 1, none⟩ = some (.int .i64 y.1.k) := (wrAt_blk HN6.out).c1
          rw [hu] at h0 h15 hne
          have d1' : decide ((u : Int) < 0) = false := decide_eq_false (by omega)
          have d2' : decide ((15 : Int) < u) = false := decide_eq_false (by omega)
          have d3' : ((u : Int) == t) = false := by simp; omega
          have hu16 : (u : Int) < 16 := by omega
          obtain ⟨old, hold⟩ : ∃ old, O[u]? = some old := by
            have := HK2.out.lo
            unfold outO at this
            rw [if_pos hd, List.length_set] at this
            exact ⟨_, List.getElem?_eq_getElem (by omega)⟩
          have cw : W6.cell? ⟨ga, u, none⟩ = some (.int .i64 old) := by rw [blk_cell HO6.out.1]; exact IsA_at hold
          have fw : W6.frozen? ⟨ga, u, none⟩ = false := blk_free HO6.out.1 u
          have hsp := stp_set W6 ga u (.int .i64 y.1.k)
          have H7 := Lib.hid (H6.out.kept hsp (fun k hk e => HO6.out.2 (by rw [← e]; exact hk)))
          have HO7 : Hid ((W6.setCell ⟨ga, u, none⟩ (.int .i64 y.1.k)).heap[ga]? = some (.cells (IsA (outO O y)) 49 (0, 0)) ∧ ¬ R5 ga) := ⟨by rw [heap_setCell_same' HO6.out.1, IsA_set]; unfold outO; rw [if_pos hd, hu]; rfl, HO6.out.2⟩
          have HW7 : Hid ((W6.setCell ⟨ga, u, none⟩ (.int .i64 y.1.k)).heap[ga + 1]? = some (.cells (IsA (Wn.set t ((j : Int) + 1))) 49 (0, 0)) ∧ ¬ R5 (ga + 1)) := ⟨by rw [heap_setCell_other _ _ _ _ (by show ga + 1 ≠ ga; omega)]; exact HW6.out.1, HW6.out.2⟩
          have HB7 : Hid (Below w.heap.size w (W6.setCell ⟨ga, u, none⟩ (.int .i64 y.1.k))) := HB6.out.setCell (by show w.heap.size ≤ ga; exact HLO.out) _
          have HU := Lib.hid hu
          rw [hd]
          clear hsp hold hd hu h0 h15 hne HN6 H6 HO6 HW6 HB6 eo
          generalize y.1.k = yk at *
          go_wp2_with fail
          go_roundw
          case rel => exact ⟨j + 1, L2, _, _, R5, by go_num, by omega, H7, HK2, HO7, HW7, HB7⟩
          case measure => simp [intOf]; omega
        · have eo : outO O y = O := by unfold outO; rw [hd]; rfl
          rw [eo] at HK2
          rw [hd]
          clear hd eo
          go_wp2_with fail
          go_roundw
          case rel => exact ⟨j + 1, L2, _, _, R5, by go_num, by omega, H6, HK2, HO6, HW6, HB6⟩
          case measure => simp [intOf]; omega
      · obtain rfl : j = n := by omega
        have hnn : ¬ (j : Int) < j := by omega
        go_wp2_with fail
        go_loopw [12] (fun i wr => ∃ q : Nat, i = .int .i64 q ∧ q ≤ 16 ∧ Hid (St w.heap.size wr g m L R) ∧ Hid (wr.heap[ga]? = some (.cells (IsA O) 49 (0, 0))) ∧ Hid (wr.heap[ga + 1]? = some (.cells (IsA Wn) 49 (0, 0))) ∧ Hid (Below w.heap.size w wr)) (fun i _ => 16 - (intOf i).toNat)
        case atStart => exact ⟨0, rfl, Nat.zero_le _, HS, HO.out.1, HW.out.1, HB⟩
        case round =>
          clear HS HO HW HB
          obtain ⟨q, rfl, hq, HS, HO, HW, HB⟩ := hrel
          obtain ⟨W, rfl⟩ : ∃ W, W = wr := ⟨wr, rfl⟩
          by_cases hlt : q < 16
          · have hlt2 : (q : Int) < 16 := by omega
            obtain ⟨g1, hg1⟩ : ∃ g1, Wn[q]? = some g1 := ⟨_, List.getElem?_eq_getElem (by rw [HK.out.lw]; exact hlt)⟩
            obtain ⟨o1, ho1⟩ : ∃ o1, O[q]? = some o1 := ⟨_, List.getElem?_eq_getElem (by rw [HK.out.lo]; exact hlt)⟩
            have HPK := Lib.hid (peek_m HS.out.c q (by constructor <;> omega))
            obtain ⟨kk, bs, b, hans, hbs, hcase⟩ : ∃ kk bs b, ansM L q = ansB kk bs b ∧ bs.length = 56 ∧ ((b = true ∧ kk = g1) ∨ (b = false ∧ o1 = g1)) := by
              rcases HK.out.peek HS.out.c.dis hg1 ho1 with ⟨bs, h1, h2⟩ | ⟨h1, h2⟩ | ⟨x, hx, h1⟩
              · exact ⟨g1, bs, true, h2, h1, .inl ⟨rfl, rfl⟩⟩
              · exact ⟨0, zBs, false, h1, zBs_len, .inr ⟨rfl, h2⟩⟩
              · exact absurd (HS.out.c.ok x hx).len h1
            rw [hans] at HPK
            unfold ansB at HPK
            have HCO := Lib.hid (IsA_at ho1)
            have HCW := Lib.hid (IsA_at hg1)
            clear hans hg1 ho1
            go_wp2_with fail
            refine HPK.out.mono ?_
            rintro e W7 ⟨rfl, hb7⟩
            have hb8 := keepB hb7 (new_bk_below W7 kk bs)
            have H8 := Lib.hid (HS.out.below hb8)
            have HB8 := Lib.hid (keepB HB.out hb8)
            have HO8 := Lib.hid (kb hb8 HO.out)
            have HW8 := Lib.hid (kb hb8 HW.out)
            have HK8 := Lib.hid (new_bk W7 kk bs)
            have HZ7 := Lib.hid (heap_alloc_new W7 (.cells (blkA 0 zBs) 32))
            clear hb7 hb8
            go_upto_region 21 with (first
              | (refine wpList_allocB rfl rfl ?_)
              | (refine wpList_storeB rfl (.tmp 13) (.tmp 80) rfl W7.heap.size rfl kk 0 bs zBs rfl hbs hzb HZ7.out ?_))
            clear HZ7
            generalize (W7.alloc (.cells (blkA 0 zBs) 32)).setRow W7.heap.size (blkA kk bs) = W8 at *
            generalize W7.heap.size = g7 at *
            have q0 : W8.cell? ⟨g7, 0, none⟩ = some (.int .i64 kk) := by rw [blk_cell HK8.out]; rfl
            have q1 : W8.cell? ⟨ga, q, none⟩ = some (.int .i64 o1) := by rw [blk_cell HO8.out]; exact HCO.out
            have q2 : W8.cell? ⟨ga + 1, q, none⟩ = some (.int .i64 g1) := by rw [blk_cell HW8.out]; exact HCW.out
            clear hq
            rcases hcase with ⟨rfl, rfl⟩ | ⟨rfl, rfl⟩
            all_goals
              go_wp2_with fail
              go_roundw
              case rel => exact ⟨q + 1, by go_num, hlt, H8, HO8, HW8, HB8⟩
              case measure => simp [intOf]; omega
          · obtain rfl : q = 16 := by omega
            have hln := HS.out.c.len
            have HLN := Lib.hid (len_m HS.out.c)
            generalize L.length = ln at *
            have hle : (ln : Int) ≤ 1 + (f0 : Int) := by omega
            have ef := HEF.out
            have ef2 := HEF2.out
            have wf2 := HWF.out
            go_wp2_with fail
            refine HLN.out.mono ?_; rintro e w' ⟨rfl, rfl⟩
            go_wp2_with fail
            go_ret
            exact ⟨rfl, HB.out⟩

set_option maxRecDepth 100000 in
theorem lifted (os : Os) (started : os.Started) (H : Type) (enc : TypeId × Value → H) :
    ReturnsInHanded {} Try.checked os 5 .any (Rows.cacheLosesSpec.pre6 enc Try.prog Try.f5 Rows.cacheLosesRow.domain false) (Rows.cacheLosesSpec.post enc Try.prog Try.f5 false true false false) := by
  refine returnsInHanded_of_change (C := Try.checked) own started (by kernel_rfl) Try.func5
    (ChangeSpec.witness6 (enc := enc) (C := Try.checked) false ⟨#[], #[.int .u8 0, .slice none 0 0], []⟩ 8 (by kernel_rfl) (by kernel_rfl) (by kernel_rfl) (by kernel_rfl)) ?_
  intro W base args ds gs before hval0 hW hcnd _
  have hval : ∀ (j : Nat) t v, Try.f5.params[j]? = some t → args[j]? = some v → Value.okWide Try.prog W .any base t v := hval0
  have hW' := hW
  obtain ⟨p, q, hA0, hV, rfl, hfz, hnd⟩ := hW
  have hA : DataW.TrodAll enc Try.prog W 0 (fun _ => true) true Try.f5.params.toList args.toList ds p := hA0
  rw [Try.params5] at hA hval
  obtain ⟨v0, vs0, d0, ds0, p0, q0, hargs, rfl, rfl, h0, r0⟩ := trodAll_cons hA
  obtain ⟨v1, vs1, d1, ds1, p1, q1, rfl, rfl, rfl, h1, r1⟩ := trodAll_cons r0
  obtain ⟨rfl, rfl, rfl⟩ := trodAll_nil r1
  obtain rfl : args = #[v0, v1] := by cases args; simp_all
  obtain ⟨rfl, rfl⟩ := trodVars_none hV
  obtain ⟨x0, rfl, rfl, rfl, wx0⟩ := open_int Try.underlying5 (hval 0 5 v0 rfl rfl) h0
  obtain ⟨a1, len1, cap1, rfl⟩ := okWide_slice Try.underlying48 (hval 1 48 v1 rfl rfl)
  clear hA0 hval0
  simp only [List.append_nil] at hW'
  have hlt1 : ∀ y ∈ p1, y.block < W.heap.size := fun y hy => by simpa using hW'.lt y (by simp [hy])
  have harg1 : ∀ W' : World, Below W.heap.size W W' → DataW.Trod enc Try.prog W' 0 (fun b => decide (b < W.heap.size)) true 48 (.slice a1 len1 cap1) d1 p1 :=
    fun W' hn => Below.trod laidOut (by kernel_rfl) (of_decide_eq_true (by kernel_rfl)) h1 hn (fun y hy => hlt1 y hy)
  obtain ⟨fu1, hf1⟩ := h1
  obtain ⟨A1, l1, c1, e1, hd1, hm1, hy1, hB1⟩ := open_byt hf1
  simp [Value.cells] at e1
  obtain ⟨rfl, rfl, rfl⟩ := e1
  refine (walk x0 a1 l1 cap1 W (by have := bounds_u8 wx0; omega) hd1 hm1 hB1 hy1).mono fun e W' ⟨he, bel⟩ => ?_
  subst he
  exact ⟨_, rfl, _, _, _, [], _, [], hW', (trodAll_cons_mk (shut_bool Try.underlying4 _) trodAll_mk0), (trodAll_cons_mk (shut_int Try.underlying5 wx0) (trodAll_cons_mk (harg1 _ bel) trodAll_mk0)), rfl, bel.frame _, fun h => by cases h⟩

theorem over : Rows.cacheLosesRow.holds Try.pinned (OpenSpec.ofChange Rows.cacheLosesSpec) :=
  OpenClaim.holds_of_wide 5 Try.f5 rfl rfl rfl rfl rfl rfl rfl ⟨rfl, rfl, rfl, rfl, rfl⟩ rfl rfl rfl rfl rfl (by kernel_rfl) Try.func5 (by kernel_rfl)
    (of_decide_eq_true (by kernel_rfl)) (by unfold Func.isWrapper; first | (rw [if_pos (by decide +kernel)]; kernel_rfl) | (rw [if_neg (by decide +kernel)]; exact ⟨rfl, rfl⟩))
    (fun os started H enc _ => lifted os started H enc)

theorem proved : Rows.CacheLosesSaid :=
  over
#print axioms proved
end Go.Proofs.Ytbcnjilhibkcnaa.cacheLoses
