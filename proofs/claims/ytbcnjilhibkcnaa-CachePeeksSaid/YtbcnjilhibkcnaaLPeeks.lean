/- The law CachePeeks answers true for every input, and leaves its arguments alone. No condition. -/
import Derived.Test.YtbcnjilhibkcnaaRows
import Derived.Test.YtbcnjilhibkcnaaKw
import Derived.WalkKit
import Derived.ProofKit
import Derived.OpenShut
namespace Go.Proofs.Ytbcnjilhibkcnaa.cachePeeks
open Go.ChangeShapes Go.WideShapes Go.ChangeAt Go.RowKit Go.Joins
set_option linter.unusedVariables false
theorem own : ownKnob Try.prog.godebug = none := by kernel_rfl
theorem laidOut : laidOutB Try.prog = true := by kernel_rfl
set_option maxRecDepth 100000 in
set_option maxHeartbeats 6400000 in
theorem walk (x0 : Int) (A1 : Option Addr) (l1 : List Cd) (d1 : Nat) (A2 : Option Addr) (l2 : List Int) (d2 : Nat) (w : World) (hx0 : 0 ≤ x0 ∧ x0 ≤ 255) (hd1 : l1.length ≤ d1) (hm1 : d1 ≤ 9223372036854775807) (hB1 : CdsOk l1) (hy1 : Cds w A1 l1) (hd2 : l2.length ≤ d2) (hm2 : d2 ≤ 9223372036854775807) (hB2 : AllI l2) (hy2 : Nts w A2 l2) :
    Calls Try.prog 4 #[.int .u8 x0, .slice A1 l1.length d1, .slice A2 l2.length d2] w fun e w' => e = .returned (.bool true) ∧ Below w.heap.size w w' := by
  obtain ⟨n0, rfl⟩ : ∃ n : Nat, x0 = (n : Int) := ⟨x0.toNat, by omega⟩
  obtain ⟨f0, ef, hf0⟩ : ∃ f0 : Nat, (n0 : Int) % 9 = f0 ∧ f0 ≤ 8 := ⟨n0 % 9, by omega, by omega⟩
  have ef2 : Int.tmod (n0 : Int) 9 = f0 := by rw [Int.tmod_eq_emod_of_nonneg (by omega)]; exact ef
  have wf : IntKind.i64.wrap (f0 : Int) = f0 := IntWalk.i64_in _ (by omega)
  have HY := Lib.hid hy1
  have HBA := Lib.hid hB1
  have HZ := Lib.hid hy2
  have HBZ := Lib.hid hB2
  have hzb := zBs_len
  have hz := zW_len
  clear hy1 hB1 hy2 hB2
  generalize hn : l1.length = n at *
  generalize hq : l2.length = nq at *
  have HN := Lib.hid hn
  have HQ := Lib.hid hq
  clear hn hq
  go_enter Try.func4, Try.ntmps4
  go_wp2_with fail
  refine (begun8_any _).mono ?_
  rintro e W1 ⟨rfl, hb1⟩
  by_cases hlong : 50 < n
  · have hlong2 : (50 : Int) < n := by omega
    go_wp2_with fail
    go_ret
    exact ⟨rfl, hb1⟩
  have hlong2 : ¬ (50 : Int) < n := by omega
  by_cases hfew : nq < n
  · have hfew2 : (nq : Int) < n := by omega
    go_wp2_with fail
    go_ret
    exact ⟨rfl, hb1⟩
  have hfew2 : ¬ (nq : Int) < n := by omega
  go_wp2_with fail
  refine (new_s (f0 : Int) (by constructor <;> omega) W1 w.heap.size hb1.size).mono ?_
  rintro e W2 ⟨g, R2, rfl, h2, hlo2, hb2⟩
  have hB2 := keepB hb1 hb2
  go_wp2_with fail
  refine (new_s (f0 : Int) (by constructor <;> omega) W2 w.heap.size hB2.size).mono ?_
  rintro e W3 ⟨g3, R3, rfl, h3, hlo3, hb3⟩
  have H3 : Hid (S2 w.heap.size W3 g (moreOf f0) [] R2 g3 (moreOf f0) [] R3) := ⟨h2.below hb3, h3, fun k hk hn => by have := h2.hi k hk; have := hlo3 k hn; omega⟩
  have HB3 := Lib.hid (keepB hB2 hb3)
  clear h2 h3 hlo2 hlo3 hb1 hb2 hB2 hb3 ef ef2 hx0
  generalize moreOf f0 = m at *
  go_wp2_with fail
  go_loopw [9] (fun i wr => ∃ (j : Nat) (L : List Ent) (R R' : Nat → Prop), i = .int .i64 j ∧ j ≤ n ∧ Hid (S2 w.heap.size wr g m L R g3 m L R') ∧ Hid (Below w.heap.size w wr)) (fun i _ => n - (intOf i).toNat)
  case atStart => exact ⟨0, _, _, _, rfl, Nat.zero_le _, H3, HB3⟩
  case round =>
    obtain ⟨j, L, R, R', rfl, hj, HS, HB⟩ := hrel
    obtain ⟨W, rfl⟩ : ∃ W, W = wr := ⟨wr, rfl⟩
    clear H3 HB3
    by_cases hlt : j < n
    · have hlt2 : (j : Int) < n := by omega
      have hlt3 : (j : Int) < nq := by omega
      obtain ⟨x, hx⟩ : ∃ x, l1[j]? = some x := ⟨_, List.getElem?_eq_getElem (by rw [HN.out]; exact hlt)⟩
      obtain ⟨y, hy⟩ : ∃ y, l2[j]? = some y := ⟨_, List.getElem?_eq_getElem (by rw [HQ.out]; omega)⟩
      have HOK := Lib.hid (HBA.out x (List.mem_of_getElem? hx))
      have hyi := HBZ.out y (List.mem_of_getElem? hy)
      obtain ⟨ay, rfl, cy⟩ := (HZ.out.keep HB.out) j y hy
      go_upto_region 9 with fail
      go_wp2_with fail
      refine (peek_m HS.out.a.c y hyi).mono ?_
      rintro e W4 ⟨rfl, hb4⟩
      have hB4 := keepB HB.out hb4
      obtain ⟨ax, rfl, hat⟩ := (HY.out.keep hB4) j x hx
      have c0 := hat.c0
      have c1 := hat.c1
      have c2 := hat.c2
      have c3 := hat.c3
      have H4 := Lib.hid (HS.out.below hb4)
      clear hx hy hat hb4 cy hyi
      generalize ansM L y = av
      go_upto_region 11 with fail
      have hdb : (W4.alloc (Obj.cells #[.int .i64 x.k, .int .i64 x.t, .int .i64 x.c, .bool x.d] 29)).heap[W4.heap.size]? = some (.cells #[.int .i64 x.k, .int .i64 x.t, .int .i64 x.c, .bool x.d] 29 (0, 0)) := heap_alloc_new _ _
      have hbl : Below W4.heap.size W4 (W4.alloc (Obj.cells #[.int .i64 x.k, .int .i64 x.t, .int .i64 x.c, .bool x.d] 29)) := (Below.refl _ _).alloc (Nat.le_refl _) _
      have HD5 := Lib.hid hdb
      have H5 := Lib.hid (H4.out.below hbl)
      have HB5 := Lib.hid (keepB hB4 hbl)
      have HN5 : Hid (¬ R W4.heap.size ∧ ¬ R' W4.heap.size) := ⟨fun e => by have := H4.out.a.hi _ e; omega, fun e => by have := H4.out.b.hi _ e; omega⟩
      clear c0 c1 c2 c3 hdb hbl hB4 H4 HS HB
      generalize W4.alloc (Obj.cells #[.int .i64 x.k, .int .i64 x.t, .int .i64 x.c, .bool x.d] 29) = W5 at *
      generalize W4.heap.size = gd at *
      have q0 : W5.cell? ⟨gd, 0, none⟩ = some (.int .i64 x.k) := by rw [blk_cell HD5.out]; rfl
      have q1 : W5.cell? ⟨gd, 1, none⟩ = some (.int .i64 x.t) := by rw [blk_cell HD5.out]; rfl
      have q3 : W5.cell? ⟨gd, 3, none⟩ = some (.bool x.d) := by rw [blk_cell HD5.out]; rfl
      obtain ⟨r, hr, hbr⟩ := and1_8 x.k
      have wj : IntKind.i64.wrap ((j : Int) + 1) = (j : Int) + 1 := IntWalk.i64_in _ (by omega)
      rcases (show r = 0 ∨ r = 1 by omega) with rfl | rfl
      · have hok : (⟨x.t, (j : Int), zBs⟩ : Wr).Ok := ⟨HOK.out.t, by constructor <;> (show _; simp only; omega), zBs_len, zBs_allB⟩
        have HW := Lib.hid hok
        clear hok
        go_upto_region 12 with fail
        go_wp2_with (first
          | (refine wpList_buildBk rfl (.tmp 63) (j : Int) rfl rfl ?_))
        refine (put_s H5.out.a HB5.out.size ⟨x.t, (j : Int), zBs⟩ HW.out x.d).mono ?_
        rintro e W6 ⟨R6, rfl, h6, hl6⟩
        rw [toldE_is]
        have hyo := outM_ok H5.out.a.c.ok m x.t
        obtain ⟨yv, hy⟩ : ∃ yv, outM m L x.t = yv := ⟨_, rfl⟩
        rw [show outM m L (⟨x.t, (j : Int), zBs⟩ : Wr).t = yv from hy]
        rw [hy] at hyo
        have HYO := Lib.hid hyo
        have HYV := Lib.hid hy
        have y56 : (outW yv).bs.length = 56 := hyo.len
        obtain ⟨hd6, hn6⟩ := hl6.heap HD5.out HN5.out.1
        have H7 := Lib.hid ((H5.out.fst h6 hl6).below (new_wr_below W6 (outW yv)))
        have HB7 := Lib.hid (keepB (hl6.below HB5.out HB5.out.size H5.out.a.lo) (new_wr_below W6 (outW yv)))
        have HD7 := Lib.hid (kb (new_wr_below W6 (outW yv)) hd6)
        have HN7 := Lib.hid (And.intro hn6 HN5.out.2)
        have HX7 := Lib.hid (new_wr W6 (outW yv))
        have HM7 : Hid (¬ R' W6.heap.size) := fun e => by have := (H5.out.fst h6 hl6).b.hi _ e; omega
        have HZ6 := Lib.hid (heap_alloc_new W6 (.cells (wrA zW) 36))
        clear h6 hl6 hd6 hn6 H5 HB5 HD5 HN5 hy hyo q0 q1 q3
        go_upto_region 13 with (first
          | (refine wpList_allocW rfl rfl ?_)
          | (refine wpList_storeW rfl (.tmp 11) (.tmp 68) rfl W6.heap.size rfl (outW yv) zW rfl y56 hz HZ6.out ?_))
        clear HZ6
        generalize (W6.alloc (.cells (wrA zW) 36)).setRow W6.heap.size (wrA (outW yv)) = W7 at *
        generalize W6.heap.size = g6 at *
        have q1 : W7.cell? ⟨gd, 1, none⟩ = some (.int .i64 x.t) := by rw [blk_cell HD7.out]; rfl
        have q3 : W7.cell? ⟨gd, 3, none⟩ = some (.bool x.d) := by rw [blk_cell HD7.out]; rfl
        go_wp2_with (first
          | (refine wpList_buildBk rfl (.tmp 74) (j : Int) rfl rfl ?_))
        refine (put_s H7.out.b HB7.out.size ⟨x.t, (j : Int), zBs⟩ HW.out x.d).mono ?_
        rintro e W8 ⟨R8, rfl, h8, hl8⟩
        rw [toldE_is]
        rw [show outM m L (⟨x.t, (j : Int), zBs⟩ : Wr).t = yv from HYV.out]
        obtain ⟨hx8, hnx8⟩ := hl8.heap HX7.out HM7.out
        have H9 := Lib.hid ((H7.out.snd h8 hl8).below (new_wr_below W8 (outW yv)))
        have HB9 := Lib.hid (keepB (hl8.below HB7.out HB7.out.size H7.out.b.lo) (new_wr_below W8 (outW yv)))
        have HX9 := Lib.hid (kb (new_wr_below W8 (outW yv)) hx8)
        have HV9 := Lib.hid (new_wr W8 (outW yv))
        have HZ8 := Lib.hid (heap_alloc_new W8 (.cells (wrA zW) 36))
        clear h8 hl8 hx8 hnx8 H7 HB7 HD7 HN7 HX7 HM7 q1 q3
        go_upto_region 14 with (first
          | (refine wpList_allocW rfl rfl ?_)
          | (refine wpList_storeW rfl (.tmp 13) (.tmp 79) rfl W8.heap.size rfl (outW yv) zW rfl y56 hz HZ8.out ?_))
        clear HZ8
        generalize (W8.alloc (.cells (wrA zW) 36)).setRow W8.heap.size (wrA (outW yv)) = W9 at *
        generalize W8.heap.size = g8 at *
        obtain ⟨L2, hL2⟩ : ∃ L2, L2 = putM m L ⟨x.t, (j : Int), zBs⟩ x.d := ⟨_, rfl⟩
        rw [← hL2] at H9
        have HLA := Lib.hid (len_m H9.out.a.c)
        have HLB := Lib.hid (len_m H9.out.b.c)
        clear hL2
        generalize L2.length = ln at *
        generalize yv.2 = yb at *
        go_wp2_with (first
          | (refine wpList_loadWw (by rfl) (.tmp 11) rfl g6 rfl (outW yv) y56 HX9.out ?_)
          | (refine wpList_loadWw (by rfl) (.tmp 13) rfl g8 rfl (outW yv) y56 HV9.out ?_)
          | (refine wpList_neqW8 (by rfl) (.tmp 81) (.tmp 82) _ rfl (outW yv) rfl rfl HYO.out ?_))
        refine HLA.out.mono ?_; rintro e w' ⟨rfl, rfl⟩
        go_wp2_with fail
        refine HLB.out.mono ?_; rintro e w' ⟨rfl, rfl⟩
        go_wp2_with fail
        go_roundw
        case rel => exact ⟨j + 1, L2, R6, R8, by go_num, hlt, H9, HB9⟩
        case measure => simp [intOf]; omega
      · obtain ⟨kk, bs, b, hans, hbs, hbB⟩ := ansM_cases H5.out.a.c.ok x.t
        have HA := Lib.hid hans
        have HBB := Lib.hid hbB
        clear hans hbB
        go_upto_region 16 with fail
        go_wp2_with fail
        refine (get_s H5.out.a HB5.out.size x.t HOK.out.t).mono ?_
        rintro e W6 ⟨R6, rfl, h6, hl6⟩
        rw [HA.out]
        unfold ansB
        obtain ⟨hd6, hn6⟩ := hl6.heap HD5.out HN5.out.1
        have H7 := Lib.hid ((H5.out.fst h6 hl6).below (new_bk_below W6 kk bs))
        have HB7 := Lib.hid (keepB (hl6.below HB5.out HB5.out.size H5.out.a.lo) (new_bk_below W6 kk bs))
        have HD7 := Lib.hid (kb (new_bk_below W6 kk bs) hd6)
        have HN7 := Lib.hid (And.intro hn6 HN5.out.2)
        have HX7 := Lib.hid (new_bk W6 kk bs)
        have HM7 : Hid (¬ R' W6.heap.size) := fun e => by have := (H5.out.fst h6 hl6).b.hi _ e; omega
        have HZ6 := Lib.hid (heap_alloc_new W6 (.cells (blkA 0 zBs) 32))
        clear h6 hl6 hd6 hn6 H5 HB5 HD5 HN5 q0 q1 q3
        go_upto_region 17 with (first
          | (refine wpList_allocB rfl rfl ?_)
          | (refine wpList_storeB rfl (.tmp 15) (.tmp 94) rfl W6.heap.size rfl kk 0 bs zBs rfl hbs hzb HZ6.out ?_))
        clear HZ6
        generalize (W6.alloc (.cells (blkA 0 zBs) 32)).setRow W6.heap.size (blkA kk bs) = W7 at *
        generalize W6.heap.size = g6 at *
        have q1 : W7.cell? ⟨gd, 1, none⟩ = some (.int .i64 x.t) := by rw [blk_cell HD7.out]; rfl
        go_wp2_with fail
        refine (get_s H7.out.b HB7.out.size x.t HOK.out.t).mono ?_
        rintro e W8 ⟨R8, rfl, h8, hl8⟩
        rw [HA.out]
        unfold ansB
        obtain ⟨hx8, hnx8⟩ := hl8.heap HX7.out HM7.out
        have H9 := Lib.hid ((H7.out.snd h8 hl8).below (new_bk_below W8 kk bs))
        have HB9 := Lib.hid (keepB (hl8.below HB7.out HB7.out.size H7.out.b.lo) (new_bk_below W8 kk bs))
        have HX9 := Lib.hid (kb (new_bk_below W8 kk bs) hx8)
        have HV9 := Lib.hid (new_bk W8 kk bs)
        have HZ8 := Lib.hid (heap_alloc_new W8 (.cells (blkA 0 zBs) 32))
        clear h8 hl8 hx8 hnx8 H7 HB7 HD7 HN7 HX7 HM7 q1
        go_upto_region 18 with (first
          | (refine wpList_allocB rfl rfl ?_)
          | (refine wpList_storeB rfl (.tmp 17) (.tmp 101) rfl W8.heap.size rfl kk 0 bs zBs rfl hbs hzb HZ8.out ?_))
        clear HZ8
        generalize (W8.alloc (.cells (blkA 0 zBs) 32)).setRow W8.heap.size (blkA kk bs) = W9 at *
        generalize W8.heap.size = g8 at *
        obtain ⟨L2, hL2⟩ : ∃ L2, L2 = getM L x.t := ⟨_, rfl⟩
        rw [← hL2] at H9
        have HLA := Lib.hid (len_m H9.out.a.c)
        have HLB := Lib.hid (len_m H9.out.b.c)
        clear hL2
        generalize L2.length = ln at *
        go_wp2_with (first
          | (refine wpList_loadB8 (by rfl) (.tmp 15) rfl g6 rfl kk bs hbs HX9.out ?_)
          | (refine wpList_loadB8 (by rfl) (.tmp 17) rfl g8 rfl kk bs hbs HV9.out ?_)
          | (refine wpList_neqB8 (by rfl) (.tmp 103) (.tmp 104) _ rfl kk bs rfl rfl hbs HBB.out ?_))
        refine HLA.out.mono ?_; rintro e w' ⟨rfl, rfl⟩
        go_wp2_with fail
        refine HLB.out.mono ?_; rintro e w' ⟨rfl, rfl⟩
        go_wp2_with fail
        go_roundw
        case rel => exact ⟨j + 1, L2, R6, R8, by go_num, hlt, H9, HB9⟩
        case measure => simp [intOf]; omega
    · obtain rfl : j = n := by omega
      have hnn : ¬ (j : Int) < j := by omega
      go_wp2_with fail
      go_ret
      exact ⟨rfl, HB.out⟩

set_option maxRecDepth 100000 in
theorem lifted (os : Os) (started : os.Started) (H : Type) (enc : TypeId × Value → H) :
    ReturnsInHanded {} Try.checked os 4 .any (Rows.cachePeeksSpec.pre6 enc Try.prog Try.f4 Rows.cachePeeksRow.domain false) (Rows.cachePeeksSpec.post enc Try.prog Try.f4 false true false false) := by
  refine returnsInHanded_of_change (C := Try.checked) own started (by kernel_rfl) Try.func4
    (ChangeSpec.witness6 (enc := enc) (C := Try.checked) false ⟨#[], #[.int .u8 0, .slice none 0 0, .slice none 0 0], []⟩ 8 (by kernel_rfl) (by kernel_rfl) (by kernel_rfl) (by kernel_rfl)) ?_
  intro W base args ds gs before hval0 hW hcnd _
  have hval : ∀ (j : Nat) t v, Try.f4.params[j]? = some t → args[j]? = some v → Value.okWide Try.prog W .any base t v := hval0
  have hW' := hW
  obtain ⟨p, q, hA0, hV, rfl, hfz, hnd⟩ := hW
  have hA : DataW.TrodAll enc Try.prog W 0 (fun _ => true) true Try.f4.params.toList args.toList ds p := hA0
  rw [Try.params4] at hA hval
  obtain ⟨v0, vs0, d0, ds0, p0, q0, hargs, rfl, rfl, h0, r0⟩ := trodAll_cons hA
  obtain ⟨v1, vs1, d1, ds1, p1, q1, rfl, rfl, rfl, h1, r1⟩ := trodAll_cons r0
  obtain ⟨v2, vs2, d2, ds2, p2, q2, rfl, rfl, rfl, h2, r2⟩ := trodAll_cons r1
  obtain ⟨rfl, rfl, rfl⟩ := trodAll_nil r2
  obtain rfl : args = #[v0, v1, v2] := by cases args; simp_all
  obtain ⟨rfl, rfl⟩ := trodVars_none hV
  obtain ⟨x0, rfl, rfl, rfl, wx0⟩ := open_int Try.underlying5 (hval 0 5 v0 rfl rfl) h0
  obtain ⟨a1, len1, cap1, rfl⟩ := okWide_slice Try.underlying22 (hval 1 22 v1 rfl rfl)
  obtain ⟨a2, len2, cap2, rfl⟩ := okWide_slice Try.underlying46 (hval 2 46 v2 rfl rfl)
  clear hA0 hval0
  simp only [List.append_nil] at hW'
  have hlt1 : ∀ y ∈ p1, y.block < W.heap.size := fun y hy => by simpa using hW'.lt y (by simp [hy])
  have harg1 : ∀ W' : World, Below W.heap.size W W' → DataW.Trod enc Try.prog W' 0 (fun b => decide (b < W.heap.size)) true 22 (.slice a1 len1 cap1) d1 p1 :=
    fun W' hn => Below.trod laidOut (by kernel_rfl) (of_decide_eq_true (by kernel_rfl)) h1 hn (fun y hy => hlt1 y hy)
  have hlt2 : ∀ y ∈ p2, y.block < W.heap.size := fun y hy => by simpa using hW'.lt y (by simp [hy])
  have harg2 : ∀ W' : World, Below W.heap.size W W' → DataW.Trod enc Try.prog W' 0 (fun b => decide (b < W.heap.size)) true 46 (.slice a2 len2 cap2) d2 p2 :=
    fun W' hn => Below.trod laidOut (by kernel_rfl) (of_decide_eq_true (by kernel_rfl)) h2 hn (fun y hy => hlt2 y hy)
  obtain ⟨fu1, hf1⟩ := h1
  obtain ⟨A1, l1, c1, e1, hd1, hm1, hy1, hB1⟩ := open_cds hf1
  simp [Value.cells] at e1
  obtain ⟨rfl, rfl, rfl⟩ := e1
  obtain ⟨fu2, hf2⟩ := h2
  obtain ⟨A2, l2, c2, e2, hd2, hm2, hy2, hB2⟩ := open_nts hf2
  simp [Value.cells] at e2
  obtain ⟨rfl, rfl, rfl⟩ := e2
  refine (walk x0 a1 l1 cap1 a2 l2 cap2 W (by have := bounds_u8 wx0; omega) hd1 hm1 hB1 hy1 hd2 hm2 hB2 hy2).mono fun e W' ⟨he, bel⟩ => ?_
  subst he
  exact ⟨_, rfl, _, _, _, [], _, [], hW', (trodAll_cons_mk (shut_bool Try.underlying4 _) trodAll_mk0), (trodAll_cons_mk (shut_int Try.underlying5 wx0) (trodAll_cons_mk (harg1 _ bel) (trodAll_cons_mk (harg2 _ bel) trodAll_mk0))), rfl, bel.frame _, fun h => by cases h⟩

theorem over : Rows.cachePeeksRow.holds Try.pinned (OpenSpec.ofChange Rows.cachePeeksSpec) :=
  OpenClaim.holds_of_wide 4 Try.f4 rfl rfl rfl rfl rfl rfl rfl ⟨rfl, rfl, rfl, rfl, rfl⟩ rfl rfl rfl rfl rfl (by kernel_rfl) Try.func4 (by kernel_rfl)
    (of_decide_eq_true (by kernel_rfl)) (by unfold Func.isWrapper; first | (rw [if_pos (by decide +kernel)]; kernel_rfl) | (rw [if_neg (by decide +kernel)]; exact ⟨rfl, rfl⟩))
    (fun os started H enc _ => lifted os started H enc)

theorem proved : Rows.CachePeeksSaid :=
  over
#print axioms proved
end Go.Proofs.Ytbcnjilhibkcnaa.cachePeeks
