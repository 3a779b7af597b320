/- The law CacheAll answers true for every input, and leaves its arguments alone. No condition. -/
import Derived.Test.YtbcnjilhibkcnaaRows
import Derived.Test.YtbcnjilhibkcnaaMi
import Derived.Deep.DeepCutAuto
import Derived.Deep.CutBlock
import Derived.BigQuiet
import Derived.WalkKit
import Derived.ProofKit
import Derived.OpenShut
namespace Go.Proofs.Ytbcnjilhibkcnaa.cacheAll
open Go.ChangeShapes Go.WideShapes Go.ChangeAt Go.RowKit Go.Joins
set_option linter.unusedVariables false
theorem own : ownKnob Try.prog.godebug = none := by kernel_rfl
theorem laidOut : laidOutB Try.prog = true := by kernel_rfl
theorem kind7 (k : Int) : ∃ t kk : Int, Int.tmod k 7 = t ∧ -7 < t ∧ t < 7 ∧ Int.tmod (t + 7) 7 = kk ∧ 0 ≤ kk ∧ kk ≤ 6 := by
  have h1 := Int.tmod_lt_of_pos k (show (0 : Int) < 7 by omega)
  have h2 := Int.lt_tmod_of_pos k (show (0 : Int) < 7 by omega)
  refine ⟨_, _, rfl, h2, h1, rfl, ?_⟩
  rw [Int.tmod_eq_emod_of_nonneg (by omega)]
  omega
def V36 (ba bb dn ca cb k : Nat) (y : Wr) (i : Nat) (v : Value) (w : World) : Prop :=
  match i with
  | 0 => v = .slice (some ⟨ba, 0, none⟩) dn ca
  | 1 | 5 => v = .int .i64 (k : Int)
  | 2 => v = .pointer (some ⟨ba, k * 58, none⟩)
  | 3 | 7 => v = .agg (wrA y)
  | 4 => v = .slice (some ⟨bb, 0, none⟩) dn cb
  | 6 => v = .pointer (some ⟨bb, k * 58, none⟩)
  | _ => True
set_option maxRecDepth 100000 in
set_option maxHeartbeats 6400000 in
theorem walk (x0 : Int) (A1 : Option Addr) (l1 : List Cd) (d1 : Nat) (w : World) (hx0 : -9223372036854775808 ≤ x0 ∧ x0 ≤ 9223372036854775807) (hd1 : l1.length ≤ d1) (hm1 : d1 ≤ 9223372036854775807) (hB1 : CdsOk l1) (hy1 : Cds w A1 l1) :
    Calls Try.prog 3 #[.int .i64 x0, .slice A1 l1.length d1] w fun e w' => e = .returned (.bool true) ∧ Below w.heap.size w w' := by
  have hx0' : i64 x0 := by constructor <;> omega
  have HY := Lib.hid hy1
  have HBA := Lib.hid hB1
  have hzb := zBs_len
  have hz := zW_len
  clear hy1 hB1
  generalize hn : l1.length = n at *
  have HN := Lib.hid hn
  clear hn
  go_enter Try.func3, Try.ntmps3
  go_wp2_with fail
  refine (begun8_any _).mono ?_
  rintro e W1 ⟨rfl, hb1⟩
  by_cases hlong : 50 < n
  · have hlong2 : (50 : Int) < n := by omega
    go_wp2_with fail
    go_ret
    exact ⟨rfl, hb1⟩
  have hlong2 : ¬ (50 : Int) < n := by omega
  go_wp2_with fail
  refine (new_s x0 hx0' W1 w.heap.size hb1.size).mono ?_
  rintro e W2 ⟨g, R2, rfl, h2, hlo2, hb2⟩
  have hB2 := keepB hb1 hb2
  go_wp2_with fail
  refine (rnew_any x0 hx0' W2).mono ?_
  rintro e W3 ⟨h, R3, rfl, h3, hlo3, hb3⟩
  have H3 : Hid (CR w.heap.size W3 g (moreOf x0) [] R2 h R3) := ⟨h2.below hb3, h3, fun k hk => (hlo3 k hk).2, fun k hk => Nat.le_trans hB2.size (hlo3 k hk).1, fun k hk hn => by have := h2.hi k hk; have := (hlo3 k hn).1; omega, moreOf_le x0⟩
  have HB3 := Lib.hid (keepB hB2 hb3)
  clear h2 h3 hlo2 hlo3 hb1 hb2 hB2 hb3 hx0 hx0'
  generalize moreOf x0 = m at *
  go_wp2_with fail
  go_loopw [7] (fun i wr => ∃ (j : Nat) (L : List Ent) (R R' : Nat → Prop), i = .int .i64 j ∧ j ≤ n ∧ Hid (CR w.heap.size wr g m L R h R') ∧ Hid (Below w.heap.size w wr)) (fun i _ => n - (intOf i).toNat)
  case atStart => exact ⟨0, _, _, _, rfl, Nat.zero_le _, H3, HB3⟩
  case round =>
    obtain ⟨j, L, R, R', rfl, hj, HS, HB⟩ := hrel
    obtain ⟨W, rfl⟩ : ∃ W, W = wr := ⟨wr, rfl⟩
    clear H3 HB3
    by_cases hlt : j < n
    · have hlt2 : (j : Int) < n := by omega
      obtain ⟨x, hx⟩ : ∃ x, l1[j]? = some x := ⟨_, List.getElem?_eq_getElem (by rw [HN.out]; exact hlt)⟩
      have HOK := Lib.hid (HBA.out x (List.mem_of_getElem? hx))
      obtain ⟨ax, rfl, hat⟩ := (HY.out.keep HB.out) j x hx
      have c0 := hat.c0
      have c1 := hat.c1
      have c2 := hat.c2
      have c3 := hat.c3
      clear hx hat
      go_upto_region 10 with fail
      have hdb : (W.alloc (Obj.cells #[.int .i64 x.k, .int .i64 x.t, .int .i64 x.c, .bool x.d] 29)).heap[W.heap.size]? = some (.cells #[.int .i64 x.k, .int .i64 x.t, .int .i64 x.c, .bool x.d] 29 (0, 0)) := heap_alloc_new _ _
      have hbl : Below W.heap.size W (W.alloc (Obj.cells #[.int .i64 x.k, .int .i64 x.t, .int .i64 x.c, .bool x.d] 29)) := (Below.refl _ _).alloc (Nat.le_refl _) _
      have HD5 := Lib.hid hdb
      have H5 := Lib.hid (HS.out.below hbl)
      have HB5 := Lib.hid (keepB HB.out hbl)
      have HN5 : Hid (¬ R W.heap.size ∧ ¬ R' W.heap.size) := ⟨fun e => by have := HS.out.a.hi _ e; omega, fun e => by have := HS.out.rhi _ e; omega⟩
      clear c0 c1 c2 c3 hdb hbl HS HB
      generalize W.alloc (Obj.cells #[.int .i64 x.k, .int .i64 x.t, .int .i64 x.c, .bool x.d] 29) = W5 at *
      generalize W.heap.size = gd at *
      have q0 : W5.cell? ⟨gd, 0, none⟩ = some (.int .i64 x.k) := by rw [blk_cell HD5.out]; rfl
      obtain ⟨t, kk, ht, ht1, ht2, hkk, hk0, hk1⟩ := kind7 x.k
      have hwt : IntKind.i64.wrap t = t := IntWalk.i64_in _ (by omega)
      have hwt2 : IntKind.i64.wrap (t + 7) = t + 7 := IntWalk.i64_in _ (by omega)
      have hwk : IntKind.i64.wrap kk = kk := IntWalk.i64_in _ (by omega)
      go_cut [55] (fun s wx => s = .int .i64 kk ∧ wx = W5)
      case first =>
        go_wp2_with fail
        go_meet
        case rel => exact ⟨rfl, rfl⟩
      case rest =>
      obtain ⟨rfl, rfl⟩ := hcut
      clear q0 ht hkk hwt hwt2 hwk ht1 ht2
      go_upto_block 2 with fail
      go_cut [] (fun wx => ∃ (L2 : List Ent) (R2 R2' : Nat → Prop), Hid (CR w.heap.size wx g m L2 R2 h R2') ∧ Hid (Below w.heap.size w wx))
      case first =>
        have q1 : wc.cell? ⟨gd, 1, none⟩ = some (.int .i64 x.t) := by rw [blk_cell HD5.out]; rfl
        have q2 : wc.cell? ⟨gd, 2, none⟩ = some (.int .i64 x.c) := by rw [blk_cell HD5.out]; rfl
        have q3 : wc.cell? ⟨gd, 3, none⟩ = some (.bool x.d) := by rw [blk_cell HD5.out]; rfl
        have hcases : kk = 4 ∨ kk = 5 ∨ kk = 6 ∨ kk ≤ 3 := by omega
        clear hk0 hk1
        rcases hcases with rfl | rfl | rfl | hle3
        · obtain ⟨kq, bs, b, hans, hbs, hbB⟩ := ansM_cases H5.out.a.c.ok x.t
          have HA := Lib.hid hans
          have HBB := Lib.hid hbB
          clear hans hbB q2 q3
          go_upto_region 18 with fail
          go_wp2_with fail
          refine (get_s H5.out.a HB5.out.size x.t HOK.out.t).mono ?_
          rintro e W6 ⟨R6, rfl, h6, hl6⟩
          rw [HA.out]
          unfold ansB
          obtain ⟨hd6, hn6⟩ := hl6.heap HD5.out HN5.out.1
          have H7 := Lib.hid ((H5.out.fst h6 hl6).below (new_bk_below W6 kq bs))
          have HB7 := Lib.hid (keepB (hl6.below HB5.out HB5.out.size H5.out.a.lo) (new_bk_below W6 kq bs))
          have HD7 := Lib.hid (kb (new_bk_below W6 kq bs) hd6)
          have HX7 := Lib.hid (new_bk W6 kq bs)
          have HM7 : Hid (¬ R' W6.heap.size) := fun e => by have := (H5.out.fst h6 hl6).rhi _ e; omega
          have HZ6 := Lib.hid (heap_alloc_new W6 (.cells (blkA 0 zBs) 32))
          clear h6 hl6 hd6 hn6 H5 HB5 HD5 q1
          go_upto_region 19 with (first
            | (refine wpList_allocB rfl rfl ?_)
            | (refine wpList_storeB rfl (.tmp 9) (.tmp 99) rfl W6.heap.size rfl kq 0 bs zBs rfl hbs hzb HZ6.out ?_))
          clear HZ6
          generalize (W6.alloc (.cells (blkA 0 zBs) 32)).setRow W6.heap.size (blkA kq bs) = W7 at *
          generalize W6.heap.size = g6 at *
          have q1 : W7.cell? ⟨gd, 1, none⟩ = some (.int .i64 x.t) := by rw [blk_cell HD7.out]; rfl
          have HGC := Lib.hid (rget_any H7.out.r H7.out.rhi x.t HOK.out.t)
          rw [HA.out] at HGC
          unfold ansB at HGC
          go_wp2_with fail
          refine HGC.out.mono ?_
          rintro e W8 ⟨rfl, h8, hs8⟩
          have H9 := Lib.hid ((H7.out.snd HB7.out.size h8 hs8).below (new_bk_below W8 kq bs))
          have HB9 := Lib.hid (keepB (H7.out.bel HB7.out HB7.out.size hs8) (new_bk_below W8 kq bs))
          have HX9 := Lib.hid (kb (new_bk_below W8 kq bs) (hs8.heap HX7.out HM7.out))
          have HV9 := Lib.hid (new_bk W8 kq bs)
          have HZ8 := Lib.hid (heap_alloc_new W8 (.cells (blkA 0 zBs) 32))
          clear h8 hs8 H7 HB7 HD7 HX7 HM7 q1 HGC
          go_upto_region 20 with (first
            | (refine wpList_allocB rfl rfl ?_)
            | (refine wpList_storeB rfl (.tmp 11) (.tmp 106) rfl W8.heap.size rfl kq 0 bs zBs rfl hbs hzb HZ8.out ?_))
          clear HZ8
          generalize (W8.alloc (.cells (blkA 0 zBs) 32)).setRow W8.heap.size (blkA kq bs) = W9 at *
          generalize W8.heap.size = g8 at *
          go_wp2_with (first
            | (refine wpList_loadB8 (by rfl) (.tmp 9) rfl g6 rfl kq bs hbs HX9.out ?_)
            | (refine wpList_loadB8 (by rfl) (.tmp 11) rfl g8 rfl kq bs hbs HV9.out ?_)
            | (refine wpList_neqB8 (by rfl) (.tmp 108) (.tmp 109) _ rfl kq bs rfl rfl hbs HBB.out ?_))
          go_meet
          case rel => exact ⟨_, _, _, H9, HB9⟩
        · obtain ⟨kq, bs, b, hans, hbs, hbB⟩ := ansM_cases H5.out.a.c.ok x.t
          have HA := Lib.hid hans
          have HBB := Lib.hid hbB
          clear hans hbB q2 q3
          go_upto_region 23 with fail
          go_wp2_with fail
          refine (peek_m H5.out.a.c x.t HOK.out.t).mono ?_
          rintro e W6 ⟨rfl, hb6⟩
          rw [HA.out]
          unfold ansB
          have H7 := Lib.hid ((H5.out.below hb6).below (new_bk_below W6 kq bs))
          have HB7 := Lib.hid (keepB (keepB HB5.out hb6) (new_bk_below W6 kq bs))
          have HD7 := Lib.hid (kb (new_bk_below W6 kq bs) (kb hb6 HD5.out))
          have HX7 := Lib.hid (new_bk W6 kq bs)
          have HZ6 := Lib.hid (heap_alloc_new W6 (.cells (blkA 0 zBs) 32))
          clear hb6 H5 HB5 HD5 q1
          go_upto_region 24 with (first
            | (refine wpList_allocB rfl rfl ?_)
            | (refine wpList_storeB rfl (.tmp 13) (.tmp 123) rfl W6.heap.size rfl kq 0 bs zBs rfl hbs hzb HZ6.out ?_))
          clear HZ6
          generalize (W6.alloc (.cells (blkA 0 zBs) 32)).setRow W6.heap.size (blkA kq bs) = W7 at *
          generalize W6.heap.size = g6 at *
          have q1 : W7.cell? ⟨gd, 1, none⟩ = some (.int .i64 x.t) := by rw [blk_cell HD7.out]; rfl
          have HGC := Lib.hid (rpeek_any H7.out.r x.t HOK.out.t)
          rw [HA.out] at HGC
          unfold ansB at HGC
          go_wp2_with fail
          refine HGC.out.mono ?_
          rintro e W8 ⟨rfl, hb8⟩
          have H9 := Lib.hid ((H7.out.below hb8).below (new_bk_below W8 kq bs))
          have HB9 := Lib.hid (keepB (keepB HB7.out hb8) (new_bk_below W8 kq bs))
          have HX9 := Lib.hid (kb (new_bk_below W8 kq bs) (kb hb8 HX7.out))
          have HV9 := Lib.hid (new_bk W8 kq bs)
          have HZ8 := Lib.hid (heap_alloc_new W8 (.cells (blkA 0 zBs) 32))
          clear hb8 H7 HB7 HD7 HX7 q1 HGC
          go_upto_region 25 with (first
            | (refine wpList_allocB rfl rfl ?_)
            | (refine wpList_storeB rfl (.tmp 15) (.tmp 130) rfl W8.heap.size rfl kq 0 bs zBs rfl hbs hzb HZ8.out ?_))
          clear HZ8
          generalize (W8.alloc (.cells (blkA 0 zBs) 32)).setRow W8.heap.size (blkA kq bs) = W9 at *
          generalize W8.heap.size = g8 at *
          go_wp2_with (first
            | (refine wpList_loadB8 (by rfl) (.tmp 13) rfl g6 rfl kq bs hbs HX9.out ?_)
            | (refine wpList_loadB8 (by rfl) (.tmp 15) rfl g8 rfl kq bs hbs HV9.out ?_)
            | (refine wpList_neqB8 (by rfl) (.tmp 132) (.tmp 133) _ rfl kq bs rfl rfl hbs HBB.out ?_))
          go_meet
          case rel => exact ⟨_, _, _, H9, HB9⟩
        · have HCC := Lib.hid (clean_s H5.out.a)
          clear q1 q2 q3
          go_wp2_with fail
          refine HCC.out.mono ?_
          rintro e W6 ⟨rfl, h6, hs6⟩
          have hl6 : Left R R wc W6 := ⟨hs6, fun k _ hn => hn⟩
          have H7 := Lib.hid (H5.out.fst h6 hl6)
          have HB7 := Lib.hid (hl6.below HB5.out HB5.out.size H5.out.a.lo)
          clear h6 hs6 hl6 HCC H5 HB5 HD5
          have HRC := Lib.hid (rclean_any H7.out.r)
          go_wp2_with fail
          refine HRC.out.mono ?_
          rintro e W8 ⟨rfl, h8, hs8⟩
          have H9 := Lib.hid (H7.out.snd0 h8 hs8)
          have HB9 := Lib.hid (H7.out.bel HB7.out HB7.out.size hs8)
          clear h8 hs8 H7 HB7 HRC
          go_wp2_with fail
          go_meet
          case rel => exact ⟨_, _, _, H9, HB9⟩
        · have n4 : (kk == 4) = false := by simp; omega
          have n5 : (kk == 5) = false := by simp; omega
          have n6 : (kk == 6) = false := by simp; omega
          clear hle3
          have HZ0 := Lib.hid (heap_alloc_new wc (.cells (blkA 0 zBs) 32))
          go_upto_region 12 with (first
            | (refine wpList_allocB rfl rfl ?_)
            | (refine wpList_buildBk rfl (.tmp 57) x.c rfl rfl ?_)
            | (refine wpList_storeB rfl (.tmp 17) (.tmp 58) rfl wc.heap.size rfl x.c 0 zBs zBs rfl hzb hzb HZ0.out ?_))
          have H6 := Lib.hid (H5.out.below (new_bk_below wc x.c zBs))
          have HB6 := Lib.hid (keepB HB5.out (new_bk_below wc x.c zBs))
          have HD6 := Lib.hid (kb (new_bk_below wc x.c zBs) HD5.out)
          have HK6 := Lib.hid (new_bk wc x.c zBs)
          have HG6 : Hid (¬ R wc.heap.size ∧ ¬ R' wc.heap.size ∧ w.heap.size ≤ wc.heap.size ∧ gd ≠ wc.heap.size) := ⟨fun e => by have := H5.out.a.hi _ e; omega, fun e => by have := H5.out.rhi _ e; omega, HB5.out.size, fun e => by have := room_lt HD5.out; omega⟩
          clear HZ0 q1 q2 q3 H5 HB5 HD5
          generalize (wc.alloc (.cells (blkA 0 zBs) 32)).setRow wc.heap.size (blkA x.c zBs) = W6 at *
          generalize wc.heap.size = g17 at *
          have q2 : W6.cell? ⟨gd, 2, none⟩ = some (.int .i64 x.c) := by rw [blk_cell HD6.out]; rfl
          have c4 : W6.cell? ⟨g17, 4, none⟩ = some (.int .u8 0) := by rw [blk_cell HK6.out]; rfl
          have f4 : W6.frozen? ⟨g17, 4, none⟩ = false := blk_free HK6.out 4
          go_upto_region 13 with fail
          obtain ⟨bx, hbx⟩ : ∃ bx, bx = zBs.set 3 (x.c % 256) := ⟨_, rfl⟩
          have hbl : bx.length = 56 := by rw [hbx, List.length_set]; exact hzb
          have hbB : AllB bx := fun y hy => by
            rw [hbx] at hy
            rcases List.mem_or_eq_of_mem_set hy with h1 | rfl
            · exact zBs_allB y h1
            · omega
          have hbA : (blkA x.c zBs).setIfInBounds 4 (.int .u8 (x.c % 256)) = blkA x.c bx := by
            rw [hbx]; unfold blkA blkL Bs
            rw [List.setIfInBounds_toArray, List.set_cons_succ, List.map_set]
          have hsp := stp_set W6 g17 4 (.int .u8 (x.c % 256))
          have H7 : Hid (CR w.heap.size (W6.setCell ⟨g17, 4, none⟩ (.int .u8 (x.c % 256))) g m L R h R') := ⟨H6.out.a.kept hsp (fun k hk e => HG6.out.1 (by rw [← e]; exact hk)), H6.out.r.kept hsp (fun k hk e => HG6.out.2.1 (by rw [← e]; exact hk)), fun k hk => Nat.lt_of_lt_of_le (H6.out.rhi k hk) hsp.size, H6.out.rlo, H6.out.dis, H6.out.few⟩
          have HB7 : Hid (Below w.heap.size w (W6.setCell ⟨g17, 4, none⟩ (.int .u8 (x.c % 256)))) := HB6.out.setCell HG6.out.2.2.1 _
          have HD7 : Hid ((W6.setCell ⟨g17, 4, none⟩ (.int .u8 (x.c % 256))).heap[gd]? = some (.cells #[.int .i64 x.k, .int .i64 x.t, .int .i64 x.c, .bool x.d] 29 (0, 0))) := by
            unfold Hid; rw [heap_setCell_other _ _ _ _ HG6.out.2.2.2]; exact HD6.out
          have HK7 : Hid ((W6.setCell ⟨g17, 4, none⟩ (.int .u8 (x.c % 256))).heap[g17]? = some (.cells (blkA x.c bx) 32 (0, 0))) := by
            unfold Hid; rw [heap_setCell_same' HK6.out, hbA]
          have HOKX : Hid ((⟨x.t, x.c, bx⟩ : Wr).Ok) := ⟨HOK.out.t, HOK.out.c, hbl, hbB⟩
          clear hsp hbA hbB hbx q2 c4 f4 H6 HB6 HD6 HK6
          generalize W6.setCell ⟨g17, 4, none⟩ (.int .u8 (x.c % 256)) = W7 at *
          have q1 : W7.cell? ⟨gd, 1, none⟩ = some (.int .i64 x.t) := by rw [blk_cell HD7.out]; rfl
          have q3 : W7.cell? ⟨gd, 3, none⟩ = some (.bool x.d) := by rw [blk_cell HD7.out]; rfl
          go_wp2_with (first
            | (refine wpList_loadB rfl (.tmp 17) rfl g17 rfl x.c bx hbl HK7.out ?_))
          refine (put_s H7.out.a HB7.out.size ⟨x.t, x.c, bx⟩ HOKX.out x.d).mono ?_
          rintro e W8 ⟨R8, rfl, h8, hl8⟩
          rw [toldE_is]
          have hyo := outM_ok H7.out.a.c.ok m x.t
          obtain ⟨yv, hy⟩ : ∃ yv, outM m L x.t = yv := ⟨_, rfl⟩
          rw [show outM m L (⟨x.t, x.c, bx⟩ : Wr).t = yv from hy]
          rw [hy] at hyo
          have HYO := Lib.hid hyo
          have HYV := Lib.hid hy
          have y56 : (outW yv).bs.length = 56 := hyo.len
          obtain ⟨hd8, hn8⟩ := hl8.heap HD7.out HN5.out.1
          obtain ⟨hk8, hnk8⟩ := hl8.heap HK7.out HG6.out.1
          have H9 := Lib.hid ((H7.out.fst h8 hl8).below (new_wr_below W8 (outW yv)))
          have HB9 := Lib.hid (keepB (hl8.below HB7.out HB7.out.size H7.out.a.lo) (new_wr_below W8 (outW yv)))
          have HD9 := Lib.hid (kb (new_wr_below W8 (outW yv)) hd8)
          have HK9 := Lib.hid (kb (new_wr_below W8 (outW yv)) hk8)
          have HX9 := Lib.hid (new_wr W8 (outW yv))
          have HM9 : Hid (¬ R' W8.heap.size) := fun e => by have := (H7.out.fst h8 hl8).rhi _ e; omega
          have HZ8 := Lib.hid (heap_alloc_new W8 (.cells (wrA zW) 36))
          clear h8 hl8 hd8 hn8 hk8 hnk8 H7 HB7 HD7 HK7 hy hyo q1 q3
          go_upto_region 14 with (first
            | (refine wpList_allocW rfl rfl ?_)
            | (refine wpList_storeW rfl (.tmp 18) (.tmp 72) rfl W8.heap.size rfl (outW yv) zW rfl y56 hz HZ8.out ?_))
          clear HZ8
          generalize (W8.alloc (.cells (wrA zW) 36)).setRow W8.heap.size (wrA (outW yv)) = W9 at *
          generalize W8.heap.size = g8 at *
          have q1 : W9.cell? ⟨gd, 1, none⟩ = some (.int .i64 x.t) := by rw [blk_cell HD9.out]; rfl
          have q3 : W9.cell? ⟨gd, 3, none⟩ = some (.bool x.d) := by rw [blk_cell HD9.out]; rfl
          have HPC := Lib.hid (rput_m H9.out.r H9.out.rhi ⟨x.t, x.c, bx⟩ HOKX.out x.d H9.out.len H9.out.few)
          rw [show outM m L (⟨x.t, x.c, bx⟩ : Wr).t = yv from HYV.out, toldE_is] at HPC
          go_wp2_with (first
            | (refine wpList_loadB rfl (.tmp 17) rfl g17 rfl x.c bx hbl HK9.out ?_))
          refine HPC.out.mono ?_
          rintro e W10 ⟨rfl, h10, hs10⟩
          have H11 := Lib.hid ((H9.out.snd HB9.out.size h10 hs10).below (new_wr_below W10 (outW yv)))
          have HB11 := Lib.hid (keepB (H9.out.bel HB9.out HB9.out.size hs10) (new_wr_below W10 (outW yv)))
          have HX11 := Lib.hid (kb (new_wr_below W10 (outW yv)) (hs10.heap HX9.out HM9.out))
          have HV11 := Lib.hid (new_wr W10 (outW yv))
          have HZ10 := Lib.hid (heap_alloc_new W10 (.cells (wrA zW) 36))
          clear h10 hs10 H9 HB9 HD9 HK9 HX9 HM9 q1 q3 HPC
          go_upto_region 15 with (first
            | (refine wpList_allocW rfl rfl ?_)
            | (refine wpList_storeW rfl (.tmp 20) (.tmp 82) rfl W10.heap.size rfl (outW yv) zW rfl y56 hz HZ10.out ?_))
          clear HZ10
          generalize (W10.alloc (.cells (wrA zW) 36)).setRow W10.heap.size (wrA (outW yv)) = W11 at *
          generalize W10.heap.size = g10 at *
          clear HYV
          generalize yv.2 = yb at *
          go_wp2_with (first
            | (refine wpList_loadWw (by rfl) (.tmp 18) rfl g8 rfl (outW yv) y56 HX11.out ?_)
            | (refine wpList_loadWw (by rfl) (.tmp 20) rfl g10 rfl (outW yv) y56 HV11.out ?_)
            | (refine wpList_neqW8 (by rfl) (.tmp 84) (.tmp 85) _ rfl (outW yv) rfl rfl HYO.out ?_))
          go_meet
          case rel => exact ⟨_, _, _, H11, HB11⟩
      case rest =>
        obtain ⟨L2, R2, R2', HC, HBC⟩ := hcut
        clear H5 HB5 HD5 HN5
        obtain ⟨W6, rfl⟩ : ∃ W6, W6 = wc := ⟨wc, rfl⟩
        go_wp2_with fail
        refine (dirty_m HC.out.a.c).mono ?_
        rintro e W7 ⟨va, D, rfl, hpa, hsa, hoa, hb7⟩
        have HC7 := Lib.hid (HC.out.below hb7)
        have HPA := Lib.hid hpa
        have HSA := Lib.hid hsa
        have HOA := Lib.hid hoa
        have HB7 := Lib.hid (keepB HBC.out hb7)
        clear hpa hsa hoa hb7 HC HBC
        go_wp2_with fail
        refine (rdirty_any HC7.out.r).mono ?_
        rintro e W8 ⟨vb, D', rfl, hpb, hsb, hob, hb8⟩
        obtain rfl : D = D' := dirty_one HC7.out.a.c.dis HPA.out hpb HSA.out hsb
        have HDO := Lib.hid (dirtyE_ok HC7.out.a.c.ok HPA.out)
        have HC8 := Lib.hid (HC7.out.below hb8)
        have HB8 := Lib.hid (keepB HB7.out hb8)
        have hoa8 : W8.ownsRow W6.heap.size 36 58 va D.length (wrsL D) := ownB HOA.out hb8
        obtain ⟨Aa, ca, rfl, hca, hca2, hAa0, hAa⟩ := own_val hoa8
        obtain ⟨Ab, cb, rfl, hcb, hcb2, hAb0, hAb⟩ := own_val hob
        have HOB8 : Hid (W8.ownsRow W7.heap.size 36 58 (.slice Ab D.length cb) D.length (wrsL D)) := hob
        have HOA8 := Lib.hid hoa8
        clear hpb hsb hob hb8 HC7 HB7 HPA HSA HOA hoa8
        obtain ⟨vx, hrv⟩ := HC8.out.r
        obtain ⟨Ax, cx, rfl, _, _, _⟩ := hrv.val
        have q1 := fun q => (show ((W8.drewN q).cell? ⟨h, 1, none⟩ = _) from hrv.c1)
        have HLN : Hid (∀ q, Calls Try.prog 20 #[.pointer (some ⟨g, 0, none⟩)] (W8.drewN q) fun e w' => e = .returned (.int .i64 (L2.length : Nat)) ∧ w' = W8.drewN q) := fun q => (len_m (HC8.out.below (bdn (Below.refl _ _) q)).a.c).mono fun _ _ h => ⟨h.1, h.2.symm⟩
        generalize hdn : D.length = dn at *
        have HDN := Lib.hid hdn
        clear hrv hdn
        generalize L2.length = ln at *
        have e1 : ((dn : Int) != dn) = false := by simp
        have e2 : ((ln : Int) != ln) = false := by simp
        go_upto_region 31 with fail
        go_quiet ((first | (go_at_call 20; with_reducible exact Calls.quiet_of_same (HLN.out _))))
        have HC9 := Lib.hid (HC8.out.below (bdn (Below.refl _ _) nq))
        have HB9 := Lib.hid (keepB HB8.out (bdn (Below.refl _ _) nq))
        have HOA9 : Hid ((W8.drewN nq).ownsRow W6.heap.size 36 58 (.slice Aa dn ca) dn (wrsL D)) := HOA8.out
        have HOB9 : Hid ((W8.drewN nq).ownsRow W7.heap.size 36 58 (.slice Ab dn cb) dn (wrsL D)) := HOB8.out
        clear q1 HLN HC8 HB8 HOA8 HOB8 e1 e2
        generalize W8.drewN nq = W9 at *
        go_wp2_with fail
        go_loopw [24] (fun i wr => ∃ k : Nat, i = .int .i64 k ∧ k ≤ dn ∧ Hid (Below W9.heap.size W9 wr)) (fun i _ => dn - (intOf i).toNat)
        case atStart => exact ⟨0, rfl, Nat.zero_le _, Below.refl _ _⟩
        case round =>
          obtain ⟨k, rfl, hk, HW⟩ := hrel
          obtain ⟨W10, rfl⟩ : ∃ W10, W10 = wr := ⟨wr, rfl⟩
          by_cases hkd : k < dn
          · have hkd2 : (k : Int) < dn := by omega
            have hk0 : (0 : Int) ≤ k := by omega
            obtain ⟨y, hy⟩ : ∃ y, D[k]? = some y := ⟨_, List.getElem?_eq_getElem (by rw [HDN.out]; exact hkd)⟩
            have hyo := HDO.out y (List.mem_of_getElem? hy)
            have hy56 := hyo.len
            have HYB := Lib.hid hyo.b
            have hfit : Fits wrL 58 D := fun z hz => wrL_length (HDO.out z hz).len
            obtain ⟨ba, eA⟩ : ∃ ba : Nat, Aa = some ⟨ba, 0, none⟩ := by
              cases Aa with
              | none => have := (hAa0 rfl).1; omega
              | some ad => obtain ⟨b2, rfl⟩ := hAa ad rfl; exact ⟨b2, rfl⟩
            obtain ⟨bb, eB⟩ : ∃ bb : Nat, Ab = some ⟨bb, 0, none⟩ := by
              cases Ab with
              | none => have := (hAb0 rfl).1; omega
              | some ad => obtain ⟨b2, rfl⟩ := hAb ad rfl; exact ⟨b2, rfl⟩
            subst eA; subst eB
            have HRA : Hid (∀ W, Below W10.heap.size W10 W → W.rangeAt ba (k * 58) (wrL y)) := fun W hb j u hj => own_cell (ownB HOA9.out (HW.out.trans (hb.mono HW.out.size))) (by rw [wrs_row]; exact rowL_at hfit hy hj)
            have HRB : Hid (∀ W, Below W10.heap.size W10 W → W.rangeAt bb (k * 58) (wrL y)) := fun W hb j u hj => own_cell (ownB HOB9.out (HW.out.trans (hb.mono HW.out.size))) (by rw [wrs_row]; exact rowL_at hfit hy hj)
            have hJ0 : Below W10.heap.size W10 W10.drew := (Below.refl _ _).drew
            clear hy hyo hfit
            go_upto_region 36 with fail
            refine wp_region_rgk (V36 ba bb dn ca cb k y) (fun L W => Below W10.heap.size W10 W) (fun _ _ _ => True) (by kernel_rfl) (by kernel_rfl) (fun i j v' w' w'' _ _ hv _ => hv) hJ0 ?_
            clear hJ0
            simp only [RAll]
            refine ⟨?_, ?_, ?_, ?_, ?_, ?_, ?_, ?_, ?_⟩
            · refine RStepK.of rfl fun T W L hag hL hJ hLs hd => ?_   -- 0: 171 := Op.move (Operand.tmp 22)
              have e22 : T.getD 22 undef = _ := (agree_at hag 22 (by kernel_rfl)).trans rfl
              clear hag hd
              go_simp
              exact ⟨_, rfl, rfl⟩
            · refine RStepK.of rfl fun T W L hag hL hJ hLs hd => ?_   -- 1: 172 := Op.move (Operand.tmp 24)
              have e24 : T.getD 24 undef = _ := (agree_at hag 24 (by kernel_rfl)).trans rfl
              clear hag hd
              go_simp
              exact ⟨_, rfl, rfl⟩
            · refine RStepK.of rfl fun T W L hag hL hJ hLs hd => ?_   -- 2: 173 := Op.indexAddr 39 (Operand.tmp 171) (Operand.tmp 172)
              have d171 : T.getD 171 undef = _ := hd ⟨0, .data⟩ (by simp) rfl _ rfl
              have d172 : T.getD 172 undef = _ := hd ⟨1, .data⟩ (by simp) rfl _ rfl
              clear hag hd
              go_simp
              exact ⟨_, rfl, rfl⟩
            · refine RStepK.of rfl fun T W L hag hL hJ hLs hd => ?_   -- 3: 174 := Op.load 36 (Operand.tmp 173)
              have d173 : T.getD 173 undef = _ := hd ⟨2, .data⟩ (by simp) rfl _ rfl
              clear hag hd
              exact wp_load_mid 36 (.tmp 173) rfl ba (k * 58) d173 (wrL y) _ (HRA.out W hJ) Try.underlying36 rfl (by rw [wrL_length hy56]; exact sizeW) ⟨_, rfl, rfl, hJ, trivial⟩
            · refine RStepK.of rfl fun T W L hag hL hJ hLs hd => ?_   -- 4: 175 := Op.move (Operand.tmp 23)
              have e23 : T.getD 23 undef = _ := (agree_at hag 23 (by kernel_rfl)).trans rfl
              clear hag hd
              go_simp
              exact ⟨_, rfl, rfl⟩
            · refine RStepK.of rfl fun T W L hag hL hJ hLs hd => ?_   -- 5: 176 := Op.move (Operand.tmp 24)
              have e24 : T.getD 24 undef = _ := (agree_at hag 24 (by kernel_rfl)).trans rfl
              clear hag hd
              go_simp
              exact ⟨_, rfl, rfl⟩
            · refine RStepK.of rfl fun T W L hag hL hJ hLs hd => ?_   -- 6: 177 := Op.indexAddr 39 (Operand.tmp 175) (Operand.tmp 176)
              have d175 : T.getD 175 undef = _ := hd ⟨4, .data⟩ (by simp) rfl _ rfl
              have d176 : T.getD 176 undef = _ := hd ⟨5, .data⟩ (by simp) rfl _ rfl
              clear hag hd
              go_simp
              exact ⟨_, rfl, rfl⟩
            · refine RStepK.of rfl fun T W L hag hL hJ hLs hd => ?_   -- 7: 178 := Op.load 36 (Operand.tmp 177)
              have d177 : T.getD 177 undef = _ := hd ⟨6, .data⟩ (by simp) rfl _ rfl
              clear hag hd
              exact wp_load_mid 36 (.tmp 177) rfl bb (k * 58) d177 (wrL y) _ (HRB.out W hJ) Try.underlying36 rfl (by rw [wrL_length hy56]; exact sizeW) ⟨_, rfl, rfl, hJ, trivial⟩
            · refine RLastK.of rfl fun T W L hag hLs hL hJ hd => ?_   -- 8: 179 := Op.binOp BinOp.neq 36 (Operand.tmp 174) (Operand.tmp 178) 36
              have d174 : T.getD 174 undef = _ := hd 3 _ (by simp) rfl
              have d178 : T.getD 178 undef = _ := hd 7 _ (by simp) rfl
              obtain ⟨f, hf, hT⟩ := agree_fn hag
              have h174 := (hf 174).trans d174
              have h178 := (hf 178).trans d178
              have HJ := Lib.hid hJ
              clear hag hd d174 d178 hJ hf
              rw [hT]
              clear hT
              simp only [List.pop_toArray, List.dropLast_cons_cons, List.dropLast_singleton, List.filterMap_cons, List.filterMap_nil, List.foldl_cons, List.foldl_nil, List.setIfInBounds_toArray, List.set_cons_succ, List.set_cons_zero, h174, h178]
              refine wp_neqW (.tmp 174) (.tmp 178) _ rfl y y rfl rfl hy56 hy56 HYB.out HYB.out ?_
              rw [decide_eq_true rfl]
              (try simp only [Exit.then])
              go_wp2_with fail
              go_roundw
              case rel => exact ⟨k + 1, by go_num, hkd, keepB HW.out HJ.out⟩
              case measure => simp [intOf]; omega
          · obtain rfl : k = dn := by omega
            have hnd : ¬ (k : Int) < k := by omega
            have HCE := Lib.hid (HC9.out.below HW.out)
            have HBE := Lib.hid (keepB HB9.out HW.out)
            go_wp2_with fail
            go_roundw
            case rel => exact ⟨j + 1, L2, R2, R2', by go_num, hlt, HCE, HBE⟩
            case measure => simp [intOf]; omega
    · obtain rfl : j = n := by omega
      have hnn : ¬ (j : Int) < j := by omega
      go_upto_region 39 with fail
      go_wp2_with fail
      refine (get_nil 1 W).mono ?_
      rintro e W2 ⟨rfl, hb2⟩
      unfold ansB
      have HB2 := Lib.hid (keepB (keepB HB.out hb2) (new_bk_below W2 0 zBs))
      have HZ2 := Lib.hid (heap_alloc_new W2 (.cells (blkA 0 zBs) 32))
      clear hb2 HB HS
      go_upto_region 40 with (first
        | (refine wpList_allocB rfl rfl ?_)
        | (refine wpList_storeB rfl (.tmp 26) (.tmp 183) rfl W2.heap.size rfl 0 0 zBs zBs rfl hzb hzb HZ2.out ?_))
      clear HZ2
      generalize (W2.alloc (.cells (blkA 0 zBs) 32)).setRow W2.heap.size (blkA 0 zBs) = W3 at *
      go_wp2_with fail
      refine (peek_nil 1 W3).mono ?_
      rintro e W4 ⟨rfl, hb4⟩
      unfold ansB
      have HB4 := Lib.hid (keepB (keepB HB2.out hb4) (new_bk_below W4 0 zBs))
      have HZ4 := Lib.hid (heap_alloc_new W4 (.cells (blkA 0 zBs) 32))
      clear hb4 HB2
      go_upto_region 41 with (first
        | (refine wpList_allocB rfl rfl ?_)
        | (refine wpList_storeB rfl (.tmp 28) (.tmp 188) rfl W4.heap.size rfl 0 0 zBs zBs rfl hzb hzb HZ4.out ?_))
      clear HZ4
      generalize (W4.alloc (.cells (blkA 0 zBs) 32)).setRow W4.heap.size (blkA 0 zBs) = W5 at *
      go_wp2_with (first
        | (refine wpList_buildB0 rfl rfl ?_))
      refine (put_nil W5 1 0 zBs true).mono ?_
      rintro e W6 ⟨rfl, hb6⟩
      unfold ansW
      have HB6 := Lib.hid (keepB (keepB HB4.out hb6) (new_wr_below W6 zW))
      have HZ6 := Lib.hid (heap_alloc_new W6 (.cells (wrA zW) 36))
      clear hb6 HB4
      go_upto_region 42 with (first
        | (refine wpList_allocW rfl rfl ?_)
        | (refine wpList_storeW rfl (.tmp 30) (.tmp 194) rfl W6.heap.size rfl zW zW rfl hz hz HZ6.out ?_))
      clear HZ6
      generalize (W6.alloc (.cells (wrA zW) 36)).setRow W6.heap.size (wrA zW) = W7 at *
      go_wp2_with fail
      refine (clean_nil W7).mono ?_
      rintro e w' ⟨rfl, rfl⟩
      go_wp2_with fail
      refine (dirty_nil W7).mono ?_
      rintro e w' ⟨rfl, rfl⟩
      go_wp2_with fail
      refine (len_nil W7).mono ?_
      rintro e w' ⟨rfl, rfl⟩
      go_wp2_with fail
      go_ret
      exact ⟨rfl, HB6.out⟩

set_option maxRecDepth 100000 in
theorem lifted (os : Os) (started : os.Started) (H : Type) (enc : TypeId × Value → H) :
    ReturnsInHanded {} Try.checked os 3 .any (Rows.cacheAllSpec.pre6 enc Try.prog Try.f3 Rows.cacheAllRow.domain false) (Rows.cacheAllSpec.post enc Try.prog Try.f3 false true false false) := by
  refine returnsInHanded_of_change (C := Try.checked) own started (by kernel_rfl) Try.func3
    (ChangeSpec.witness6 (enc := enc) (C := Try.checked) false ⟨#[], #[.int .i64 0, .slice none 0 0], []⟩ 8 (by kernel_rfl) (by kernel_rfl) (by kernel_rfl) (by kernel_rfl)) ?_
  intro W base args ds gs before hval0 hW hcnd _
  have hval : ∀ (j : Nat) t v, Try.f3.params[j]? = some t → args[j]? = some v → Value.okWide Try.prog W .any base t v := hval0
  have hW' := hW
  obtain ⟨p, q, hA0, hV, rfl, hfz, hnd⟩ := hW
  have hA : DataW.TrodAll enc Try.prog W 0 (fun _ => true) true Try.f3.params.toList args.toList ds p := hA0
  rw [Try.params3] at hA hval
  obtain ⟨v0, vs0, d0, ds0, p0, q0, hargs, rfl, rfl, h0, r0⟩ := trodAll_cons hA
  obtain ⟨v1, vs1, d1, ds1, p1, q1, rfl, rfl, rfl, h1, r1⟩ := trodAll_cons r0
  obtain ⟨rfl, rfl, rfl⟩ := trodAll_nil r1
  obtain rfl : args = #[v0, v1] := by cases args; simp_all
  obtain ⟨rfl, rfl⟩ := trodVars_none hV
  obtain ⟨x0, rfl, rfl, rfl, wx0⟩ := open_int Try.underlying3 (hval 0 3 v0 rfl rfl) h0
  obtain ⟨a1, len1, cap1, rfl⟩ := okWide_slice Try.underlying22 (hval 1 22 v1 rfl rfl)
  clear hA0 hval0
  simp only [List.append_nil] at hW'
  have hlt1 : ∀ y ∈ p1, y.block < W.heap.size := fun y hy => by simpa using hW'.lt y (by simp [hy])
  have harg1 : ∀ W' : World, Below W.heap.size W W' → DataW.Trod enc Try.prog W' 0 (fun b => decide (b < W.heap.size)) true 22 (.slice a1 len1 cap1) d1 p1 :=
    fun W' hn => Below.trod laidOut (by kernel_rfl) (of_decide_eq_true (by kernel_rfl)) h1 hn (fun y hy => hlt1 y hy)
  obtain ⟨fu1, hf1⟩ := h1
  obtain ⟨A1, l1, c1, e1, hd1, hm1, hy1, hB1⟩ := open_cds hf1
  simp [Value.cells] at e1
  obtain ⟨rfl, rfl, rfl⟩ := e1
  refine (walk x0 a1 l1 cap1 W (by have := bounds_i64 wx0; omega) hd1 hm1 hB1 hy1).mono fun e W' ⟨he, bel⟩ => ?_
  subst he
  exact ⟨_, rfl, _, _, _, [], _, [], hW', (trodAll_cons_mk (shut_bool Try.underlying4 _) trodAll_mk0), (trodAll_cons_mk (shut_int Try.underlying3 wx0) (trodAll_cons_mk (harg1 _ bel) trodAll_mk0)), rfl, bel.frame _, fun h => by cases h⟩

theorem over : Rows.cacheAllRow.holds Try.pinned (OpenSpec.ofChange Rows.cacheAllSpec) :=
  OpenClaim.holds_of_wide 3 Try.f3 rfl rfl rfl rfl rfl rfl rfl ⟨rfl, rfl, rfl, rfl, rfl⟩ rfl rfl rfl rfl rfl (by kernel_rfl) Try.func3 (by kernel_rfl)
    (of_decide_eq_true (by kernel_rfl)) (by unfold Func.isWrapper; first | (rw [if_pos (by decide +kernel)]; kernel_rfl) | (rw [if_neg (by decide +kernel)]; exact ⟨rfl, rfl⟩))
    (fun os started H enc _ => lifted os started H enc)

theorem proved : Rows.CacheAllSaid :=
  over
#print axioms proved
end Go.Proofs.Ytbcnjilhibkcnaa.cacheAll
