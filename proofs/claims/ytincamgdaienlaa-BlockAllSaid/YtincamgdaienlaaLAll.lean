/- The law BlockAll answers true for every input, and leaves its arguments alone. No condition. -/
import Derived.Test.YtincamgdaienlaaRows
import Derived.Test.YtincamgdaienlaaBi
import Derived.Deep.DeepCutAuto
import Derived.WalkKit
import Derived.ProofKit
import Derived.OpenShut
namespace Go.Proofs.Ytincamgdaienlaa.blockAll
open Go.ChangeShapes Go.WideShapes Go.ChangeAt Go.RowKit Go.Joins
set_option linter.unusedVariables false
theorem own : ownKnob Try.prog.godebug = none := by kernel_rfl
theorem laidOut : laidOutB Try.prog = true := by kernel_rfl
set_option maxRecDepth 100000 in
set_option maxHeartbeats 6400000 in
theorem walk (x0 : Int) (x1 : Int) (k2 : Int) (g2 : List Int) (A3 : Option Addr) (l3 : List Int) (d3 : Nat) (w : World) (hx0 : 0 ≤ x0 ∧ x0 ≤ 255) (hx1 : -9223372036854775808 ≤ x1 ∧ x1 ≤ 9223372036854775807) (hk2 : i64 k2) (hL2 : g2.length = 56) (hB2 : AllB g2) (hd3 : l3.length ≤ d3) (hm3 : d3 ≤ 9223372036854775807) (hB3 : AllB l3) (hy3 : Byt w A3 l3) :
    Calls Try.prog 3 #[.int .u8 x0, .int .i64 x1, .agg (blkA k2 g2), .slice A3 l3.length d3] w fun e w' => e = .returned (.bool true) ∧ Below w.heap.size w w' := by
  have hbel0 : Below w.heap.size w (w.alloc (Obj.cells (blkA k2 g2) 24)) := (Below.refl _ _).alloc (Nat.le_refl _) _
  have HM0 := Lib.hid (heap_alloc_new w (Obj.cells (blkA k2 g2) 24))
  have HY := Lib.hid hy3
  have HB := Lib.hid hB3
  have HL2 := Lib.hid hL2
  have HB2 := Lib.hid hB2
  have H64 : i64 x1 := by constructor <;> omega
  have HSL := Lib.hid (fun W => seal_any x0 k2 x1 g2 W hx0 hk2 H64 hL2 hB2)
  have HRS := Lib.hid (fun W => rseal_any x0 k2 x1 g2 W hx0 hk2 H64 hL2 hB2)
  have HSX := Lib.hid (sealX_allB (k := k2) (t := x1) hx0 hB2)
  clear hy3 hL2 hB2
  by_cases hl80 : 80 < l3.length
  · clear HSL HRS
    generalize hn : l3.length = n at *
    clear hn
    go_enter Try.func3, Try.ntmps3
    go_wp2_with fail
    refine (begun6_any _).mono ?_
    rintro e W1 ⟨rfl, hb1⟩
    go_wp2_with fail
    go_ret
    exact ⟨rfl, keepB hbel0 hb1⟩
  · have HOUT := Lib.hid (fun W (h : Byt W A3 l3) => out_any A3 l3 d3 W (by omega) hB3 h)
    have HOP := Lib.hid (fun W g (h : Byt W (some ⟨g, 0, none⟩) l3) => open_any x0 x1 (some ⟨g, 0, none⟩) l3 (l3.length + 7) W hx0 H64 (by omega) (by omega) hB3 h)
    have HRO := Lib.hid (fun W (h : Byt W A3 l3) => ropen_any x0 x1 A3 l3 d3 W hx0 H64 hd3 hm3 hB3 h)
    have HIN := Lib.hid (fun W g C (h : Byt W A3 l3) hblk hR => intact_any A3 l3 d3 g C W (by omega) hB3 h hblk hR)
    have HOA : Hid ((openA x0 x1 l3 = blkA (opK l3) (opBs l3) ∨ openA x0 x1 l3 = blkA 0 zBs) ∧ ∀ k bs, openA x0 x1 l3 = blkA k bs → True) := ⟨by unfold openA; split; exact Or.inl rfl; exact Or.inr rfl, fun _ _ _ => trivial⟩
    have hopen : ∃ k bs, openA x0 x1 l3 = blkA k bs ∧ bs.length = 56 ∧ AllB bs := by
      unfold openA
      split
      · rename_i h; exact ⟨_, _, rfl, opBs_len h.1, opBs_allB hB3⟩
      · exact ⟨_, _, rfl, zBs_len, zBs_allB⟩
    obtain ⟨ko, bo, hoA, ho56, hoB⟩ := hopen
    have HO56 := Lib.hid ho56
    have HOB := Lib.hid hoB
    rw [hoA] at HOP HRO
    clear HOA hoA ho56 hoB
    generalize decide (Opens x0 x1 l3) = q at *
    generalize hn : l3.length = n at *
    have HN := Lib.hid hn
    clear hn
    go_enter Try.func3, Try.ntmps3
    go_wp2_with fail
    refine (begun6_any _).mono ?_
    rintro e W1 ⟨rfl, hb1⟩
    have HM1 : Hid (W1.heap[w.heap.size]? = some (.cells (blkA k2 g2) 24 (0, 0))) := by
      unfold Hid; rw [hb1.block _ (room_lt HM0.out)]; exact HM0.out
    have HBL1 := Lib.hid (keepB hbel0 hb1)
    clear hb1 HM0 hbel0
    go_wp2_with fail
    refine (HOUT.out W1 (HY.out.keep HBL1.out)).mono ?_
    rintro e W2 ⟨g, C, rfl, hg, hblk, hR, hb2⟩
    have HM2 := Lib.hid (kb hb2 HM1.out)
    have HBL2 := Lib.hid (keepB HBL1.out hb2)
    have HG2 := Lib.hid hblk
    have HR := Lib.hid hR
    clear hb2 HM1 HBL1 hblk hR HOUT hg
    go_wp2_with (first
      | (refine wpList_loadB rfl (.tmp 6) rfl w.heap.size rfl k2 g2 HL2.out HM2.out ?_))
    refine (HSL.out W2).mono ?_
    rintro e W3 ⟨A6, d6, rfl, hy6, hle6, hd6, hb3⟩
    have HM3 := Lib.hid (kb hb3 HM2.out)
    have HBL3 := Lib.hid (keepB HBL2.out hb3)
    have HG3 := Lib.hid (kb hb3 HG2.out)
    have H63 := Lib.hid hy6
    clear hb3 HM2 HBL2 HG2 HSL hy6
    generalize hm : (sealX x0 k2 x1 g2).length = m at *
    generalize hp : decide (MayB k2 x1) = p at *
    have HP := Lib.hid hp
    have HMM := Lib.hid hm
    clear hp hm
    go_wp2_with (first
      | (refine wpList_loadB rfl (.tmp 6) rfl w.heap.size rfl k2 g2 HL2.out HM3.out ?_))
    refine (HRS.out W3).mono ?_
    rintro e W4 ⟨A7, d7, rfl, hy7, hle7, hd7, hb4⟩
    rw [HMM.out, HP.out]
    have HBL4 := Lib.hid (keepB HBL3.out hb4)
    have HG4 := Lib.hid (kb hb4 HG3.out)
    have H64' := Lib.hid (H63.out.keep hb4)
    have H74 := Lib.hid hy7
    clear hb4 HM3 HBL3 HG3 HRS hy7 H63
    go_wp2_with fail
    refine (HOP.out W4 g (RoomC.byt (k := n + 7) (by rw [HN.out]; exact HR.out) HG4.out)).mono ?_
    rintro e W5 ⟨rfl, hb5⟩
    have HBL5 := Lib.hid (keepB HBL4.out hb5)
    have HG5 := Lib.hid (kb hb5 HG4.out)
    have H65 := Lib.hid (H64'.out.keep hb5)
    have H75 := Lib.hid (H74.out.keep hb5)
    have HZ5 := Lib.hid (heap_alloc_new W5 (Obj.cells (blkA 0 zBs) 24))
    have bel6 : Below W5.heap.size W5 ((W5.alloc (Obj.cells (blkA 0 zBs) 24)).setRow W5.heap.size (blkA ko bo)) := below_setRow ((Below.refl _ _).alloc (Nat.le_refl _) _) (Nat.le_refl _) _
    have HN6 := Lib.hid (setRow_blk (D := blkA ko bo) HZ5.out)
    have HBL6 := Lib.hid (keepB HBL5.out bel6)
    have HG6 := Lib.hid (kb bel6 HG5.out)
    have H66 := Lib.hid (H65.out.keep bel6)
    have H76 := Lib.hid (H75.out.keep bel6)
    clear hb5 HBL4 HG4 H64' H74 HOP
    go_upto_region 9 with (first
      | (refine wpList_allocB rfl rfl ?_)
      | (refine wpList_storeB rfl (.tmp 14) (.tmp 44) rfl W5.heap.size rfl ko 0 bo zBs rfl HO56.out zBs_len HZ5.out ?_))
    clear bel6 HBL5 HG5 H65 H75 HZ5
    generalize (W5.alloc (Obj.cells (blkA 0 zBs) 24)).setRow W5.heap.size (blkA ko bo) = W6 at *
    generalize W5.heap.size = g6 at *
    go_wp2_with fail
    refine (HRO.out W6 (HY.out.keep HBL6.out)).mono ?_
    rintro e W7 ⟨rfl, hb7⟩
    have HN7 := Lib.hid (kb hb7 HN6.out)
    have HBL7 := Lib.hid (keepB HBL6.out hb7)
    have HG7 := Lib.hid (kb hb7 HG6.out)
    have H67 := Lib.hid (H66.out.keep hb7)
    have H77 := Lib.hid (H76.out.keep hb7)
    have HZ7 := Lib.hid (heap_alloc_new W7 (Obj.cells (blkA 0 zBs) 24))
    have bel8 : Below W7.heap.size W7 ((W7.alloc (Obj.cells (blkA 0 zBs) 24)).setRow W7.heap.size (blkA ko bo)) := below_setRow ((Below.refl _ _).alloc (Nat.le_refl _) _) (Nat.le_refl _) _
    have HO8 := Lib.hid (setRow_blk (D := blkA ko bo) HZ7.out)
    have HN8 := Lib.hid (kb bel8 HN7.out)
    have HBL8 := Lib.hid (keepB HBL7.out bel8)
    have HG8 := Lib.hid (kb bel8 HG7.out)
    have hy68 := H67.out.keep bel8
    have hy78 := H77.out.keep bel8
    clear hb7 HN6 HBL6 HG6 H66 H76 HRO
    go_upto_region 10 with (first
      | (refine wpList_allocB rfl rfl ?_)
      | (refine wpList_storeB rfl (.tmp 16) (.tmp 51) rfl W7.heap.size rfl ko 0 bo zBs rfl HO56.out zBs_len HZ7.out ?_))
    clear bel8 HN7 HBL7 HG7 H67 H77 HZ7
    generalize (W7.alloc (Obj.cells (blkA 0 zBs) 24)).setRow W7.heap.size (blkA ko bo) = W8 at *
    generalize W7.heap.size = g8 at *
    have cv6 := conv_any (c := d6) hy68 HMM.out
    have cv7 := conv_any (c := d7) hy78 HMM.out
    have HIN8 := Lib.hid (HIN.out W8 g C (HY.out.keep HBL8.out) HG8.out HR.out)
    clear hy68 hy78 HIN
    generalize strOfNums (sealX x0 k2 x1 g2) = s6 at *
    go_wp2_with (first
      | (refine wpList_loadBw (by rfl) (.tmp 14) rfl g6 rfl ko bo HO56.out HN8.out ?_)
      | (refine wpList_loadBw (by rfl) (.tmp 16) rfl g8 rfl ko bo HO56.out HO8.out ?_)
      | (refine wpList_eqlBw (by rfl) (.tmp 64) (.tmp 65) _ rfl ko ko bo bo rfl rfl HO56.out HO56.out HOB.out HOB.out ?_))
    refine HIN8.out.mono ?_
    rintro e W9 ⟨rfl, rfl⟩
    go_wp2_with fail
    go_ret
    exact ⟨rfl, HBL8.out⟩

set_option maxRecDepth 100000 in
theorem lifted (os : Os) (started : os.Started) (H : Type) (enc : TypeId × Value → H) :
    ReturnsInHanded {} Try.checked os 3 .any (Rows.blockAllSpec.pre6 enc Try.prog Try.f3 Rows.blockAllRow.domain false) (Rows.blockAllSpec.post enc Try.prog Try.f3 false true false false) := by
  refine returnsInHanded_of_change (C := Try.checked) own started (by kernel_rfl) Try.func3
    (ChangeSpec.witness6 (enc := enc) (C := Try.checked) false ⟨#[], #[.int .u8 0, .int .i64 0, .agg (blkA 0 zBs), .slice none 0 0], []⟩ 8 (by kernel_rfl) (by kernel_rfl) (by kernel_rfl) (by kernel_rfl)) ?_
  intro W base args ds gs before hval0 hW hcnd _
  have hval : ∀ (j : Nat) t v, Try.f3.params[j]? = some t → args[j]? = some v → Value.okWide Try.prog W .any base t v := hval0
  have hW' := hW
  obtain ⟨p, q, hA0, hV, rfl, hfz, hnd⟩ := hW
  have hA : DataW.TrodAll enc Try.prog W 0 (fun _ => true) true Try.f3.params.toList args.toList ds p := hA0
  rw [Try.params3] at hA hval
  obtain ⟨v0, vs0, d0, ds0, p0, q0, hargs, rfl, rfl, h0, r0⟩ := trodAll_cons hA
  obtain ⟨v1, vs1, d1, ds1, p1, q1, rfl, rfl, rfl, h1, r1⟩ := trodAll_cons r0
  obtain ⟨v2, vs2, d2, ds2, p2, q2, rfl, rfl, rfl, h2, r2⟩ := trodAll_cons r1
  obtain ⟨v3, vs3, d3, ds3, p3, q3, rfl, rfl, rfl, h3, r3⟩ := trodAll_cons r2
  obtain ⟨rfl, rfl, rfl⟩ := trodAll_nil r3
  obtain rfl : args = #[v0, v1, v2, v3] := by cases args; simp_all
  obtain ⟨rfl, rfl⟩ := trodVars_none hV
  obtain ⟨x0, rfl, rfl, rfl, wx0⟩ := open_int Try.underlying5 (hval 0 5 v0 rfl rfl) h0
  obtain ⟨x1, rfl, rfl, rfl, wx1⟩ := open_int Try.underlying3 (hval 1 3 v1 rfl rfl) h1
  obtain ⟨cs2, rfl, _⟩ := okWide_struct Try.underlying24 (hval 2 24 v2 rfl rfl)
  obtain ⟨a3, len3, cap3, rfl⟩ := okWide_slice Try.underlying25 (hval 3 25 v3 rfl rfl)
  clear hA0 hval0
  simp only [List.append_nil] at hW'
  have hlt2 : ∀ y ∈ p2, y.block < W.heap.size := fun y hy => by simpa using hW'.lt y (by simp [hy])
  have harg2 : ∀ W' : World, Below W.heap.size W W' → DataW.Trod enc Try.prog W' 0 (fun b => decide (b < W.heap.size)) true 24 (.agg cs2) d2 p2 :=
    fun W' hn => Below.trod laidOut (by kernel_rfl) (of_decide_eq_true (by kernel_rfl)) h2 hn (fun y hy => hlt2 y hy)
  have hlt3 : ∀ y ∈ p3, y.block < W.heap.size := fun y hy => by simpa using hW'.lt y (by simp [hy])
  have harg3 : ∀ W' : World, Below W.heap.size W W' → DataW.Trod enc Try.prog W' 0 (fun b => decide (b < W.heap.size)) true 25 (.slice a3 len3 cap3) d3 p3 :=
    fun W' hn => Below.trod laidOut (by kernel_rfl) (of_decide_eq_true (by kernel_rfl)) h3 hn (fun y hy => hlt3 y hy)
  obtain ⟨fu2, hf2⟩ := h2
  obtain ⟨k2, g2, e2, hL2, hk2, hB2⟩ := open_blk hf2
  obtain rfl : cs2 = blkA k2 g2 := by
    unfold blkA; rw [← e2]; simp [Value.cells]
  obtain ⟨fu3, hf3⟩ := h3
  obtain ⟨A3, l3, c3, e3, hd3, hm3, hy3, hB3⟩ := open_byt hf3
  simp [Value.cells] at e3
  obtain ⟨rfl, rfl, rfl⟩ := e3
  refine (walk x0 x1 k2 g2 a3 l3 cap3 W (by have := bounds_u8 wx0; omega) (by have := bounds_i64 wx1; omega) hk2 hL2 hB2 hd3 hm3 hB3 hy3).mono fun e W' ⟨he, bel⟩ => ?_
  subst he
  exact ⟨_, rfl, _, _, _, [], _, [], hW', (trodAll_cons_mk (shut_bool Try.underlying4 _) trodAll_mk0), (trodAll_cons_mk (shut_int Try.underlying5 wx0) (trodAll_cons_mk (shut_int Try.underlying3 wx1) (trodAll_cons_mk (harg2 _ bel) (trodAll_cons_mk (harg3 _ bel) trodAll_mk0)))), rfl, bel.frame _, fun h => by cases h⟩

theorem over : Rows.blockAllRow.holds Try.pinned (OpenSpec.ofChange Rows.blockAllSpec) :=
  OpenClaim.holds_of_wide 3 Try.f3 rfl rfl rfl rfl rfl rfl rfl ⟨rfl, rfl, rfl, rfl, rfl⟩ rfl rfl rfl rfl rfl (by kernel_rfl) Try.func3 (by kernel_rfl)
    (of_decide_eq_true (by kernel_rfl)) (by unfold Func.isWrapper; first | (rw [if_pos (by decide +kernel)]; kernel_rfl) | (rw [if_neg (by decide +kernel)]; exact ⟨rfl, rfl⟩))
    (fun os started H enc _ => lifted os started H enc)

theorem proved : Rows.BlockAllSaid :=
  over
#print axioms proved
end Go.Proofs.Ytincamgdaienlaa.blockAll
