/- The law VolSure answers true for every input, and leaves its arguments alone. No condition. -/
import Derived.Test.YtamnpblijdgdaaaRows
import Derived.Test.YtamnpblijdgdaaaOd
import Derived.WalkKit
import Derived.ProofKit
import Derived.OpenShut
namespace Go.Proofs.Ytamnpblijdgdaaa.volSure
open Go.ChangeShapes Go.WideShapes Go.ChangeAt Go.RowKit Go.Joins
set_option linter.unusedVariables false
theorem own : ownKnob Try.prog.godebug = none := by kernel_rfl
theorem laidOut : laidOutB Try.prog = true := by kernel_rfl
set_option maxRecDepth 100000
structure SuI (w wr : World) (P : Nat → Prop) (q gs gl n G kk : Nat) (A : Option Addr) (ns d : Nat) (S : List Bk) (m : DM) (A2 A3 : Option Addr) (N2 N3 d2 d3 : Nat) : Prop where
  mt : MtI w wr P q gs n G (50 * kk) S m
  pgs : P gs
  pgl : P gl
  old : ∀ k, k < w.heap.size → P k
  lots : wr.heap[gl]? = some (.cells #[.slice A2 N2 d2, .slice A3 N3 d3] 22 (0, 0))
  bk : 1 ≤ kk → BksR wr P A S
  sl : 1 ≤ kk → ns = n ∧ n ≤ d ∧ d ≤ 9223372036854775807 ∧ S.length = n ∧ BksOk S
set_option maxHeartbeats 6400000 in
theorem walk (x0 : Int) (x1 : Int) (A2 : Option Addr) (l2 : List Wd) (d2 : Nat) (A3 : Option Addr) (l3 : List Wd) (d3 : Nat) (w : World) (hx0 : 0 ≤ x0 ∧ x0 ≤ 255) (hx1 : 0 ≤ x1 ∧ x1 ≤ 255) (hd2 : l2.length ≤ d2) (hm2 : d2 ≤ 9223372036854775807) (hB2 : WdsOk l2) (hy2 : Wds w A2 l2) (hd3 : l3.length ≤ d3) (hm3 : d3 ≤ 9223372036854775807) (hB3 : WdsOk l3) (hy3 : Wds w A3 l3) :
    Calls Try.prog 6 #[.int .u8 x0, .int .u8 x1, .slice A2 l2.length d2, .slice A3 l3.length d3] w fun e w' => e = .returned (.bool true) ∧ Below w.heap.size w w' := by
  have HY2 := Lib.hid hy2
  have HB2 := Lib.hid hB2
  have HY3 := Lib.hid hy3
  have HB3 := Lib.hid hB3
  obtain ⟨a, rfl⟩ : ∃ a : Nat, x0 = (a : Int) := ⟨x0.toNat, by omega⟩
  obtain ⟨b, rfl⟩ : ∃ b : Nat, x1 = (b : Int) := ⟨x1.toNat, by omega⟩
  have ha : a ≤ 255 ∧ b ≤ 255 := by omega
  obtain ⟨N2, hN2⟩ : ∃ N, l2.length = N := ⟨_, rfl⟩
  obtain ⟨N3, hN3⟩ : ∃ N, l3.length = N := ⟨_, rfl⟩
  rw [hN2] at hd2 ⊢
  rw [hN3] at hd3 ⊢
  have HN2 := Lib.hid hN2
  have HN3 := Lib.hid hN3
  clear hy2 hB2 hN2 hy3 hB3 hN3 hx0 hx1
  go_enter Try.func6, Try.ntmps6
  go_wp2_with fail
  refine (begun9_any w).mono ?_
  rintro e w0 ⟨rfl, hb0⟩
  have HB0 := Lib.hid hb0
  clear hb0
  go_wp2_with fail
  refine (light_any A2 l2 N2 d2 w0 HN2.out hd2 hm2 HB2.out (HY2.out.keep HB0.out)).mono ?_
  rintro e w' ⟨rfl, rfl⟩
  cases hli : lightK l2
  · go_wp2
    go_ret
    exact ⟨rfl, HB0.out⟩
  have HLI2 := Lib.hid ((lightK_iff l2).1 hli).1
  clear hli
  go_wp2_with fail
  refine (light_any A3 l3 N3 d3 w0 HN3.out hd3 hm3 HB3.out (HY3.out.keep HB0.out)).mono ?_
  rintro e w' ⟨rfl, rfl⟩
  cases hli : lightK l3
  · go_wp2
    go_ret
    exact ⟨rfl, HB0.out⟩
  have HLI3 := Lib.hid ((lightK_iff l3).1 hli).1
  clear hli
  · go_wp2_with fail
    refine (share_any a b (by omega) (by omega) w0).mono ?_
    rintro e w1 ⟨rfl, hb1⟩
    have HB1 := Lib.hid (HB0.out.trans (hb1.mono HB0.out.size))
    clear hb1 HB0
    obtain ⟨G, hG⟩ : ∃ G, 16 + b % 30 = G := ⟨_, rfl⟩
    obtain ⟨n, hn⟩ : ∃ n, 4 + a % 30 = n := ⟨_, rfl⟩
    have hG1 : 16 ≤ G ∧ G ≤ 45 ∧ 4 ≤ n ∧ n ≤ 33 := by omega
    rw [hG, hn]
    have HST := Lib.hid (started (n := n) (g := G) (by omega) (by omega))
    clear hG hn
    go_upto_region 6 with (refine wpList_storeS rfl (.tmp 9) (.tmp 35) rfl w1.heap.size rfl n G 3 rfl _ rfl (heap_alloc_new w1 _) ?_)
    have e2 := setRow_blk (D := shC n G 3) (heap_alloc_new w1 (Obj.cells #[.int .i64 0, .int .i64 0, .int .i64 0, .int .i64 0, .int .i64 0] 30))
    have hb2 : Below w1.heap.size w1 ((w1.alloc (Obj.cells #[.int .i64 0, .int .i64 0, .int .i64 0, .int .i64 0, .int .i64 0] 30)).setRow w1.heap.size (shC n G 3)) := below_setRow ((Below.refl _ _).alloc (Nat.le_refl _) _) (Nat.le_refl _) _
    have HB2s := Lib.hid (HB1.out.trans (hb2.mono HB1.out.size))
    obtain ⟨g9, hg9⟩ : ∃ g9, g9 = w1.heap.size := ⟨_, rfl⟩
    rw [← hg9] at e2 hb2 HB2s ⊢
    clear hb2 HB1 hg9
    generalize (w1.alloc (Obj.cells #[.int .i64 0, .int .i64 0, .int .i64 0, .int .i64 0, .int .i64 0] 30)).setRow g9 (shC n G 3) = w2 at *
    simp only [Act.put]
    have HE2 := Lib.hid e2
    clear e2
    go_wp2_with (refine wpList_loadS rfl (.tmp 9) rfl g9 rfl n G 3 HE2.out ?_)
    refine (size_any 0 0 n G 3 (by omega) (by omega) w2).mono ?_
    rintro e w3 ⟨rfl, hb3⟩
    have HE3 := Lib.hid (kb hb3 HE2.out)
    have HB3s := Lib.hid (HB2s.out.trans (hb3.mono HB2s.out.size))
    clear hb3 HE2 HB2s
    go_wp2_with fail
    refine (new_at _ w3.heap.size [((2 + G + n : Nat) : Int)] 1 rfl (may1 n G (by omega) (by omega)) (fun x hx => by simp at hx; subst hx; constructor <;> omega) _ (heap_alloc_new w3 _)).mono ?_
    rintro e w4 ⟨⟨q, F, rfl, hd, hF⟩, hb4⟩
    have hba := HB3s.out.alloc HB3s.out.size (Obj.cells #[.int .i64 ((2 + G + n : Nat) : Int)] 3)
    have hds := DS.made hba hd hF hb4
    have hg9 : g9 < (w3.alloc (Obj.cells #[.int .i64 ((2 + G + n : Nat) : Int)] 3)).heap.size := by
      have h1 := room_lt HE3.out
      have h2 := ((Below.refl w3.heap.size w3).alloc (Nat.le_refl _) (Obj.cells #[.int .i64 ((2 + G + n : Nat) : Int)] 3)).size
      omega
    have HE4 := Lib.hid (kb hb4 (kb ((Below.refl w3.heap.size w3).alloc (Nat.le_refl _) (Obj.cells #[.int .i64 ((2 + G + n : Nat) : Int)] 3)) HE3.out))
    have HS3 := Lib.hid (And.intro hg9 hba.size)
    have HD4 := Lib.hid hds
    clear hd hF hb4 hba hds hg9 HE3 HB3s
    generalize (w3.alloc (Obj.cells #[.int .i64 ((2 + G + n : Nat) : Int)] 3)).heap.size = s3 at *
    go_wp2_with (refine wpList_loadSw rfl (.tmp 9) rfl g9 rfl n G 3 HE4.out ?_)
    refine (make1 (n := n) (g := G) (by omega) (by omega) HD4.out).mono ?_
    rintro e w5 ⟨rfl, hd5, hs5⟩
    have HE5 := Lib.hid ((hs5.blk g9 HS3.out.1).trans HE4.out)
    have HD5 := Lib.hid hd5
    clear hd5 hs5 HE4 HD4
    go_upto_region 10 with fail
    have hba : Below w5.heap.size w5 (w5.alloc (Obj.cells #[.slice A2 N2 d2, .slice A3 N3 d3] 22)) := (Below.refl _ _).alloc (Nat.le_refl _) _
    have hna := heap_alloc_new w5 (Obj.cells #[.slice A2 N2 d2, .slice A3 N3 d3] 22)
    have hl5 := room_lt hna
    have hds := HD5.out.below (P' := fun k => k < s3 ∨ k = w5.heap.size) hba (fun k hk => hk.imp id (fun h => ⟨by omega, by rw [h]; exact hl5⟩))
    have hid := mk1_idle (n := n) (g := G) (by omega) (by omega)
    have hd1 := makeM_done (dev1 n G) (0 : Int) n G
    have hd0 : (dev1 n G).done.length = 0 := rfl
    have hsu : SuI w (w5.alloc (Obj.cells #[.slice A2 N2 d2, .slice A3 N3 d3] 22)) (fun k => k < s3 ∨ k = w5.heap.size) q g9 w5.heap.size n G 0 none 0 0 (firstS n) (mk1 n G) A2 A3 N2 N3 d2 d3 :=
      ⟨⟨hds, ⟨1, firstS n, [], hid.1.mtb_now, rfl, by omega⟩, hid.2, by unfold mk1; omega, kb hba HE5.out⟩, Or.inl HS3.out.1, Or.inr rfl, fun k hk => Or.inl (Nat.lt_of_lt_of_le hk HS3.out.2), hna, fun h => by omega, fun h => by omega⟩
    have HSU := Lib.hid hsu
    clear hba hna hl5 hds hid hd1 hd0 hsu HE5 HD5 HST
    generalize (fun k => k < s3 ∨ k = w5.heap.size) = P0 at *
    generalize w5.alloc (Obj.cells #[.slice A2 N2 d2, .slice A3 N3 d3] 22) = wL at *
    generalize w5.heap.size = gl at *
    generalize mk1 n G = m0 at *
    generalize firstS n = S00 at *
    go_wp2_with fail
    go_loopw [13, 14, 15, 16, 17, 18, 19, 20] (fun sl i a1 a2 a3 a4 a5 a6 wr => ∃ (kk : Nat) (P : Nat → Prop) (A : Option Addr) (ns d : Nat) (S : List Bk) (m : DM), i = .int .i64 kk ∧ kk ≤ 2 ∧ sl = .slice A ns d ∧ Hid (SuI w wr P q g9 gl n G kk A ns d S m A2 A3 N2 N3 d2 d3)) (fun _ i _ _ _ _ _ _ _ => 2 - (intOf i).toNat)
    case atStart => exact ⟨0, P0, none, 0, 0, S00, m0, rfl, by omega, rfl, HSU.out⟩
    case round =>
      clear HSU
      obtain ⟨kk, P, A, ns, d, S, m, rfl, hkk, rfl, HJ⟩ := hrel
      obtain ⟨wJ, rfl⟩ : ∃ wJ, wJ = wr := ⟨wr, rfl⟩
      by_cases h2 : kk < 2
      · rcases (by omega : kk = 0 ∨ kk = 1) with rfl | rfl
        · have HMTI := Lib.hid HJ.out.mt
          go_wp2_with (refine wpList_loadS rfl (.tmp 9) rfl g9 rfl n G 3 HJ.out.mt.sh ?_)
          refine (HJ.out.mt.mount (by omega) (by omega) (by omega) HJ.out.pgs).mono ?_
          rintro e wM ⟨hp, rb, mM, vM, rfl, hgo, hst, hsm, hlo1, hlo2⟩
          have HLT : Hid (∀ k, P k → k ≠ hp ∧ k ≠ rb) := fun k hk => by have := HJ.out.mt.ds.low k hk; constructor <;> omega
          have HGO := Lib.hid hgo
          have HST := Lib.hid hst
          have HLM := Lib.hid ((hsm.blk gl HJ.out.pgl).trans HJ.out.lots)
          have HBM := Lib.hid (fun h => (HJ.out.bk h).same hsm)
          clear hsm hlo1 hlo2 HMTI hgo hst
          have HI0 : Hid (GoP w wM (fun k => P k ∨ k = hp ∨ k = rb) q hp rb g9 n G (50 * 0 + 1) mM vM) := HGO.out
          have HP : Hid ((fun k => P k ∨ k = hp ∨ k = rb) g9 ∧ g9 ≠ hp ∧ g9 ≠ rb) := ⟨Or.inl HJ.out.pgs, HLT.out g9 HJ.out.pgs⟩
          have HPL : Hid (Rst (fun k => P k ∨ k = hp ∨ k = rb) hp rb gl) := ⟨Or.inl HJ.out.pgl, HLT.out gl HJ.out.pgl⟩
          have HPW : Hid (∀ k, k < w.heap.size → Rst (fun k => P k ∨ k = hp ∨ k = rb) hp rb k) := fun k hk => ⟨Or.inl (HJ.out.old k hk), HLT.out k (HJ.out.old k hk)⟩
          clear HBM HGO HLT
          generalize hPq : (fun k => P k ∨ k = hp ∨ k = rb) = P1 at *
          clear hPq
          go_wp2_with fail
          go_loopw [17] (fun i wr => ∃ (k : Nat) (v : VM) (m : DM), i = .int .i64 k ∧ k ≤ N2 ∧ Hid (GoP w wr P1 q hp rb g9 n G (50 * 0 + 1 + k) m v) ∧ Hid (wr.heap[gl]? = some (.cells #[.slice A2 N2 d2, .slice A3 N3 d3] 22 (0, 0)))) (fun i _ => N2 - (intOf i).toNat)
          case atStart => exact ⟨0, vM, mM, rfl, by omega, HI0.out, HLM.out⟩
          case round =>
            clear HI0 HLM
            obtain ⟨k, v1, m1, rfl, hk, HI, HLW⟩ := hrel
            obtain ⟨w8, rfl⟩ : ∃ w8, w8 = wr := ⟨wr, rfl⟩
            have cl : w8.cell? ⟨gl, 0, none⟩ = some (.slice A2 N2 d2) := (blk_cell HLW.out 0).trans rfl
            by_cases hlt : k < N2
            · have hki : (k : Int) < N2 := by omega
              obtain ⟨x, hx⟩ : ∃ x, l2[k]? = some x := ⟨_, List.getElem?_eq_getElem (by rw [HN2.out]; exact hlt)⟩
              have hxo := HB2.out x (List.mem_of_getElem? hx)
              obtain ⟨ad0, hA0, hw0⟩ := HY2.out k x hx
              obtain ⟨ad, rfl, hw⟩ := (HY2.out.keep HI.out.sv.ds.bel) k x hx
              have c1 := hw.c1
              have hch := HI.out.change (by have := HLI2.out; have := HN2.out; omega) (by omega) (by omega) HP.out x.A x.l x.l.length x.c rfl hxo.lc hxo.cm hxo.ok (Wrs.old hw0.wr hw.wr HPW.out)
              have HCH := Lib.hid hch
              clear hch hw hw0 hA0 hxo hx
              obtain ⟨ln, hln⟩ : ∃ ln, x.l.length = ln := ⟨_, rfl⟩
              rw [hln] at c1 HCH
              clear hln
              generalize x.A = xA at *
              generalize x.c = xc at *
              generalize chM m1 v1 x.l = m2 at *
              obtain ⟨v2, hv2⟩ : ∃ v2, chV v1 x.l = v2 := ⟨_, rfl⟩
              rw [hv2] at HCH
              clear hv2
              go_wp2_with fail
              refine HCH.out.mono ?_
              rintro e w9 ⟨rfl, hi9, hs9⟩
              have HI9 := Lib.hid hi9
              have HL9 := Lib.hid ((hs9.blk gl HPL.out).trans HLW.out)
              clear hi9 hs9 HCH c1 cl HI HLW
              go_wp2
              go_roundw
              case rel => exact ⟨k + 1, v2, m2, by go_num, by omega, HI9.out, HL9.out⟩
              case measure => simp [intOf]; omega
            · obtain rfl : k = N2 := by omega
              have hki : ¬ (k : Int) < k := by omega
              have hsy := HI.out.sync (by have := HLI2.out; have := HN2.out; omega) HP.out.1
              have HSY := Lib.hid hsy
              clear hsy
              go_wp2_with fail
              refine HSY.out.mono ?_
              rintro e w9 ⟨rfl, hi9, hs9⟩
              have HI9 := Lib.hid hi9
              have HL9 := Lib.hid ((hs9.blk gl HPL.out.1).trans HLW.out)
              have hpa : v1.n = n ∧ v1.Ok := by obtain ⟨S0, Rs, hl⟩ := hi9.lv; exact ⟨hl.tied.vn, hl.tied.vok⟩
              have HVK := Lib.hid hpa
              clear hi9 hs9 hpa HSY HI HLW cl
              generalize m1.doBarrier ((0 : Nat) : Int) = m2 at *
              go_wp2_with fail
              go_loopw [13, 18, 19, 20] (fun sl i p b wr => ∃ j : Nat, i = .int .i64 j ∧ j ≤ n ∧ Hid (OwnK wr w9.heap.size sl ((stV v1).take j)) ∧ Hid (Below w9.heap.size w9 wr)) (fun _ i _ _ _ => n - (intOf i).toNat)
              case atStart => exact ⟨0, rfl, by omega, OwnK.nil _ _, brefl _⟩
              case round =>
                obtain ⟨j, rfl, hj, HOW, HBR⟩ := hrel
                obtain ⟨wa, rfl⟩ : ∃ wa, wa = wr := ⟨wr, rfl⟩
                obtain ⟨z0, z1, z2, z3, z4⟩ := sh_cells (kb HBR.out HI9.out.sh)
                by_cases hjn : j < n
                · have hji : (j : Int) < n := by omega
                  obtain ⟨x, hx⟩ : ∃ x, v1.B[j]? = some x := ⟨_, List.getElem?_eq_getElem (by rw [HVK.out.2.len, HVK.out.1]; exact hjn)⟩
                  have hxo := HVK.out.2.ok x (List.mem_of_getElem? hx)
                  have hsx : (stV v1)[j]? = some (val x) := by unfold stV; rw [List.getElem?_map, hx]; rfl
                  have HTK : Hid ((stV v1).take (j + 1) = (stV v1).take j ++ [val x]) := take_snoc' hsx
                  have hget := vget_any (HI9.out.sv.at_.below HBR.out) j (by constructor <;> omega)
                  obtain ⟨g1, g2⟩ := getB_in HVK.out.2.len hx
                  rw [g1, g2] at hget
                  have HGET := Lib.hid hget
                  have HX5 := Lib.hid hxo.len
                  clear hxo hsx hget g1 g2 hx
                  go_wp2_with fail
                  refine HGET.out.mono ?_
                  rintro e w10 ⟨rfl, hb10⟩
                  have HB10 := Lib.hid (HBR.out.trans (hb10.mono HBR.out.size))
                  have HOW10 := Lib.hid (HOW.out.keep hb10)
                  clear hb10 HGET z0 z1 z2 z3 z4
                  go_upto_region 27 with (first | (refine wpList_allocB rfl rfl ?_) | (refine wpList_storeB rfl (.tmp 19) (.tmp 111) rfl w10.heap.size rfl x.k 0 x.bs zBs rfl HX5.out zBs_len (heap_alloc_new w10 _) ?_))
                  have hb11 : Below w10.heap.size w10 ((w10.alloc (Obj.cells (blkA 0 zBs) 46)).setRow w10.heap.size (blkA x.k x.bs)) := below_setRow ((Below.refl _ _).alloc (Nat.le_refl _) _) (Nat.le_refl _) _
                  have e11 := setRow_blk (D := blkA x.k x.bs) (heap_alloc_new w10 (Obj.cells (blkA 0 zBs) 46))
                  have HB11 := Lib.hid (HB10.out.trans (hb11.mono HB10.out.size))
                  have HOW11 := Lib.hid (HOW10.out.keep hb11)
                  have HG17 := Lib.hid e11
                  clear hb11 e11 HOW10 HB10
                  generalize (w10.alloc (Obj.cells (blkA 0 zBs) 46)).setRow w10.heap.size (blkA x.k x.bs) = w11 at *
                  generalize w10.heap.size = g17 at *
                  try simp only [Act.put]
                  have hba : Below w11.heap.size w11 (w11.alloc (Obj.cells (blkA x.k x.bs) 46)) := (Below.refl _ _).alloc (Nat.le_refl _) _
                  have HOA := Lib.hid (HOW11.out.keep hba)
                  have HBA := Lib.hid (HB11.out.trans (hba.mono HB11.out.size))
                  have HWA := Lib.hid (heap_alloc_new w11 (Obj.cells (blkA x.k x.bs) 46))
                  clear hba HOW11 HB11
                  go_upto_region 25 with (first
                    | (refine wpList_loadB rfl (.tmp 19) rfl g17 rfl x.k x.bs HX5.out HG17.out ?_)
                    | (refine wpList_oneB rfl (.tmp 114) rfl x.k x.bs HX5.out rfl ?_)
                    | (refine wpList_app_bk rfl (.tmp 113) (.tmp 115) rfl w9.heap.size _ ((stV v1).take j) rfl HOA.out w11.heap.size (val x) HX5.out rfl HWA.out (by rw [List.length_take]; omega) HBA.out.size (fun v' w' h1 h2 => ?_);
                       have HO2 := Lib.hid h1; have HB4 := Lib.hid (HBA.out.trans h2); clear h1 h2 HOA HWA HBA))
                  go_wp2
                  go_roundw
                  case rel => exact ⟨j + 1, by go_num, by omega, by rw [HTK.out]; exact HO2.out, HB4.out⟩
                  case measure => simp [intOf]; omega
                · obtain rfl : j = n := by omega
                  have hji : ¬ (j : Int) < j := by omega
                  have how := HOW.out
                  have hsl := stV_length HVK.out.2
                  rw [HVK.out.1] at hsl
                  rw [List.take_of_length_le (by rw [hsl]; exact Nat.le_refl _)] at how
                  obtain ⟨Aw, dw, rfl, hdw1, hdw2, hbk⟩ := how.bksR (R := fun k => P1 k ∨ (w9.heap.size ≤ k ∧ k < wa.heap.size)) (stV_oks HVK.out.2) (fun k h1 h2 => Or.inr ⟨h1, h2⟩)
                  rw [hsl] at hdw1 ⊢
                  have hsg := HI9.out.grow HBR.out (Q := fun k => w9.heap.size ≤ k ∧ k < wa.heap.size) (fun k hk => hk)
                  have hcr := hsg.crash (by have := HLI2.out; have := HN2.out; omega) (Or.inl HP.out.1)
                  have HCR := Lib.hid hcr
                  have HBW := Lib.hid hbk
                  have HLA := Lib.hid (kb HBR.out HL9.out)
                  have HSO : Hid ((stV v1).length = j ∧ BksOk (stV v1)) := ⟨hsl, stV_oks HVK.out.2⟩
                  clear how hsl hbk hsg hcr HOW
                  generalize stV v1 = S1 at *
                  go_wp2_with fail
                  refine HCR.out.mono ?_
                  rintro e wc ⟨rfl, hmt, hsm⟩
                  have HF : Hid (SuI w wc (fun k => P1 k ∨ (w9.heap.size ≤ k ∧ k < wa.heap.size)) q g9 gl j G (0 + 1) Aw j dw S1 _ A2 A3 k N3 d2 d3) := ⟨⟨hmt.ds, by obtain ⟨e, S0, Rs, h1, h2, h3⟩ := hmt.mt; exact ⟨e, S0, Rs, h1, h2, by have := HLI2.out; have := HN2.out; omega⟩, hmt.ns, by have := hmt.dn; have := HLI2.out; have := HN2.out; omega, hmt.sh⟩, Or.inl HP.out.1, Or.inl HPL.out.1, fun k hk => Or.inl (HPW.out k hk).1, (hsm.blk gl (Or.inl HPL.out.1)).trans HLA.out, fun _ => HBW.out.same hsm, fun _ => ⟨rfl, hdw1, hdw2, HSO.out.1, HSO.out.2⟩⟩
                  clear hmt hsm HCR HBW HLA HSO z0 z1 z2 z3 z4
                  go_wp2
                  go_roundw
                  case rel => exact ⟨0 + 1, _, Aw, j, dw, S1, _, by first | rfl | go_num, by omega, rfl, HF.out⟩
                  case measure => simp [intOf]
        · have HMTI := Lib.hid HJ.out.mt
          go_wp2_with (refine wpList_loadS rfl (.tmp 9) rfl g9 rfl n G 3 HJ.out.mt.sh ?_)
          refine (HJ.out.mt.mount (by omega) (by omega) (by omega) HJ.out.pgs).mono ?_
          rintro e wM ⟨hp, rb, mM, vM, rfl, hgo, hst, hsm, hlo1, hlo2⟩
          have HLT : Hid (∀ k, P k → k ≠ hp ∧ k ≠ rb) := fun k hk => by have := HJ.out.mt.ds.low k hk; constructor <;> omega
          have HGO := Lib.hid hgo
          have HST := Lib.hid hst
          have HLM := Lib.hid ((hsm.blk gl HJ.out.pgl).trans HJ.out.lots)
          have HBM := Lib.hid (fun h => (HJ.out.bk h).same hsm)
          clear hsm hlo1 hlo2 HMTI hgo hst
          have HSL := Lib.hid (HJ.out.sl (by omega))
          have hbl := blocks_any HGO.out.sv.at_ A S ns d (by rw [HSL.out.1]; exact HSL.out.2.2.2.1) (by rw [HSL.out.1]; exact HSL.out.2.1) HSL.out.2.2.1 HSL.out.2.2.2.2 (HBM.out (by omega)).bks
          rw [decide_eq_true HST.out] at hbl
          have HBL := Lib.hid hbl
          clear hbl
          go_wp2_with fail
          refine HBL.out.mono ?_
          rintro e wN ⟨rfl, hbN⟩
          have HGO := Lib.hid (HGO.out.below hbN)
          have HLM := Lib.hid (kb hbN HLM.out)
          clear hbN HBL
          obtain ⟨wM, hwM⟩ : ∃ wM, wM = wN := ⟨wN, rfl⟩
          subst hwM
          have HI0 : Hid (GoP w wM (fun k => P k ∨ k = hp ∨ k = rb) q hp rb g9 n G (50 * 1 + 1) mM vM) := HGO.out
          have HP : Hid ((fun k => P k ∨ k = hp ∨ k = rb) g9 ∧ g9 ≠ hp ∧ g9 ≠ rb) := ⟨Or.inl HJ.out.pgs, HLT.out g9 HJ.out.pgs⟩
          have HPL : Hid (Rst (fun k => P k ∨ k = hp ∨ k = rb) hp rb gl) := ⟨Or.inl HJ.out.pgl, HLT.out gl HJ.out.pgl⟩
          have HPW : Hid (∀ k, k < w.heap.size → Rst (fun k => P k ∨ k = hp ∨ k = rb) hp rb k) := fun k hk => ⟨Or.inl (HJ.out.old k hk), HLT.out k (HJ.out.old k hk)⟩
          clear HBM HGO HLT
          generalize hPq : (fun k => P k ∨ k = hp ∨ k = rb) = P1 at *
          clear hPq
          go_wp2_with fail
          go_loopw [17] (fun i wr => ∃ (k : Nat) (v : VM) (m : DM), i = .int .i64 k ∧ k ≤ N3 ∧ Hid (GoP w wr P1 q hp rb g9 n G (50 * 1 + 1 + k) m v) ∧ Hid (wr.heap[gl]? = some (.cells #[.slice A2 N2 d2, .slice A3 N3 d3] 22 (0, 0)))) (fun i _ => N3 - (intOf i).toNat)
          case atStart => exact ⟨0, vM, mM, rfl, by omega, HI0.out, HLM.out⟩
          case round =>
            clear HI0 HLM
            obtain ⟨k, v1, m1, rfl, hk, HI, HLW⟩ := hrel
            obtain ⟨w8, rfl⟩ : ∃ w8, w8 = wr := ⟨wr, rfl⟩
            have cl : w8.cell? ⟨gl, 1, none⟩ = some (.slice A3 N3 d3) := (blk_cell HLW.out 1).trans rfl
            by_cases hlt : k < N3
            · have hki : (k : Int) < N3 := by omega
              obtain ⟨x, hx⟩ : ∃ x, l3[k]? = some x := ⟨_, List.getElem?_eq_getElem (by rw [HN3.out]; exact hlt)⟩
              have hxo := HB3.out x (List.mem_of_getElem? hx)
              obtain ⟨ad0, hA0, hw0⟩ := HY3.out k x hx
              obtain ⟨ad, rfl, hw⟩ := (HY3.out.keep HI.out.sv.ds.bel) k x hx
              have c1 := hw.c1
              have hch := HI.out.change (by have := HLI3.out; have := HN3.out; omega) (by omega) (by omega) HP.out x.A x.l x.l.length x.c rfl hxo.lc hxo.cm hxo.ok (Wrs.old hw0.wr hw.wr HPW.out)
              have HCH := Lib.hid hch
              clear hch hw hw0 hA0 hxo hx
              obtain ⟨ln, hln⟩ : ∃ ln, x.l.length = ln := ⟨_, rfl⟩
              rw [hln] at c1 HCH
              clear hln
              generalize x.A = xA at *
              generalize x.c = xc at *
              generalize chM m1 v1 x.l = m2 at *
              obtain ⟨v2, hv2⟩ : ∃ v2, chV v1 x.l = v2 := ⟨_, rfl⟩
              rw [hv2] at HCH
              clear hv2
              go_wp2_with fail
              refine HCH.out.mono ?_
              rintro e w9 ⟨rfl, hi9, hs9⟩
              have HI9 := Lib.hid hi9
              have HL9 := Lib.hid ((hs9.blk gl HPL.out).trans HLW.out)
              clear hi9 hs9 HCH c1 cl HI HLW
              go_wp2
              go_roundw
              case rel => exact ⟨k + 1, v2, m2, by go_num, by omega, HI9.out, HL9.out⟩
              case measure => simp [intOf]; omega
            · obtain rfl : k = N3 := by omega
              have hki : ¬ (k : Int) < k := by omega
              have hsy := HI.out.sync (by have := HLI3.out; have := HN3.out; omega) HP.out.1
              have HSY := Lib.hid hsy
              clear hsy
              go_wp2_with fail
              refine HSY.out.mono ?_
              rintro e w9 ⟨rfl, hi9, hs9⟩
              have HI9 := Lib.hid hi9
              have HL9 := Lib.hid ((hs9.blk gl HPL.out.1).trans HLW.out)
              have hpa : v1.n = n ∧ v1.Ok := by obtain ⟨S0, Rs, hl⟩ := hi9.lv; exact ⟨hl.tied.vn, hl.tied.vok⟩
              have HVK := Lib.hid hpa
              clear hi9 hs9 hpa HSY HI HLW cl
              generalize m1.doBarrier ((0 : Nat) : Int) = m2 at *
              go_wp2_with fail
              go_loopw [13, 18, 19, 20] (fun sl i p b wr => ∃ j : Nat, i = .int .i64 j ∧ j ≤ n ∧ Hid (OwnK wr w9.heap.size sl ((stV v1).take j)) ∧ Hid (Below w9.heap.size w9 wr)) (fun _ i _ _ _ => n - (intOf i).toNat)
              case atStart => exact ⟨0, rfl, by omega, OwnK.nil _ _, brefl _⟩
              case round =>
                obtain ⟨j, rfl, hj, HOW, HBR⟩ := hrel
                obtain ⟨wa, rfl⟩ : ∃ wa, wa = wr := ⟨wr, rfl⟩
                obtain ⟨z0, z1, z2, z3, z4⟩ := sh_cells (kb HBR.out HI9.out.sh)
                by_cases hjn : j < n
                · have hji : (j : Int) < n := by omega
                  obtain ⟨x, hx⟩ : ∃ x, v1.B[j]? = some x := ⟨_, List.getElem?_eq_getElem (by rw [HVK.out.2.len, HVK.out.1]; exact hjn)⟩
                  have hxo := HVK.out.2.ok x (List.mem_of_getElem? hx)
                  have hsx : (stV v1)[j]? = some (val x) := by unfold stV; rw [List.getElem?_map, hx]; rfl
                  have HTK : Hid ((stV v1).take (j + 1) = (stV v1).take j ++ [val x]) := take_snoc' hsx
                  have hget := vget_any (HI9.out.sv.at_.below HBR.out) j (by constructor <;> omega)
                  obtain ⟨g1, g2⟩ := getB_in HVK.out.2.len hx
                  rw [g1, g2] at hget
                  have HGET := Lib.hid hget
                  have HX5 := Lib.hid hxo.len
                  clear hxo hsx hget g1 g2 hx
                  go_wp2_with fail
                  refine HGET.out.mono ?_
                  rintro e w10 ⟨rfl, hb10⟩
                  have HB10 := Lib.hid (HBR.out.trans (hb10.mono HBR.out.size))
                  have HOW10 := Lib.hid (HOW.out.keep hb10)
                  clear hb10 HGET z0 z1 z2 z3 z4
                  go_upto_region 27 with (first | (refine wpList_allocB rfl rfl ?_) | (refine wpList_storeB rfl (.tmp 19) (.tmp 111) rfl w10.heap.size rfl x.k 0 x.bs zBs rfl HX5.out zBs_len (heap_alloc_new w10 _) ?_))
                  have hb11 : Below w10.heap.size w10 ((w10.alloc (Obj.cells (blkA 0 zBs) 46)).setRow w10.heap.size (blkA x.k x.bs)) := below_setRow ((Below.refl _ _).alloc (Nat.le_refl _) _) (Nat.le_refl _) _
                  have e11 := setRow_blk (D := blkA x.k x.bs) (heap_alloc_new w10 (Obj.cells (blkA 0 zBs) 46))
                  have HB11 := Lib.hid (HB10.out.trans (hb11.mono HB10.out.size))
                  have HOW11 := Lib.hid (HOW10.out.keep hb11)
                  have HG17 := Lib.hid e11
                  clear hb11 e11 HOW10 HB10
                  generalize (w10.alloc (Obj.cells (blkA 0 zBs) 46)).setRow w10.heap.size (blkA x.k x.bs) = w11 at *
                  generalize w10.heap.size = g17 at *
                  try simp only [Act.put]
                  have hba : Below w11.heap.size w11 (w11.alloc (Obj.cells (blkA x.k x.bs) 46)) := (Below.refl _ _).alloc (Nat.le_refl _) _
                  have HOA := Lib.hid (HOW11.out.keep hba)
                  have HBA := Lib.hid (HB11.out.trans (hba.mono HB11.out.size))
                  have HWA := Lib.hid (heap_alloc_new w11 (Obj.cells (blkA x.k x.bs) 46))
                  clear hba HOW11 HB11
                  go_upto_region 25 with (first
                    | (refine wpList_loadB rfl (.tmp 19) rfl g17 rfl x.k x.bs HX5.out HG17.out ?_)
                    | (refine wpList_oneB rfl (.tmp 114) rfl x.k x.bs HX5.out rfl ?_)
                    | (refine wpList_app_bk rfl (.tmp 113) (.tmp 115) rfl w9.heap.size _ ((stV v1).take j) rfl HOA.out w11.heap.size (val x) HX5.out rfl HWA.out (by rw [List.length_take]; omega) HBA.out.size (fun v' w' h1 h2 => ?_);
                       have HO2 := Lib.hid h1; have HB4 := Lib.hid (HBA.out.trans h2); clear h1 h2 HOA HWA HBA))
                  go_wp2
                  go_roundw
                  case rel => exact ⟨j + 1, by go_num, by omega, by rw [HTK.out]; exact HO2.out, HB4.out⟩
                  case measure => simp [intOf]; omega
                · obtain rfl : j = n := by omega
                  have hji : ¬ (j : Int) < j := by omega
                  have how := HOW.out
                  have hsl := stV_length HVK.out.2
                  rw [HVK.out.1] at hsl
                  rw [List.take_of_length_le (by rw [hsl]; exact Nat.le_refl _)] at how
                  obtain ⟨Aw, dw, rfl, hdw1, hdw2, hbk⟩ := how.bksR (R := fun k => P1 k ∨ (w9.heap.size ≤ k ∧ k < wa.heap.size)) (stV_oks HVK.out.2) (fun k h1 h2 => Or.inr ⟨h1, h2⟩)
                  rw [hsl] at hdw1 ⊢
                  have hsg := HI9.out.grow HBR.out (Q := fun k => w9.heap.size ≤ k ∧ k < wa.heap.size) (fun k hk => hk)
                  have hcr := hsg.crash (by have := HLI3.out; have := HN3.out; omega) (Or.inl HP.out.1)
                  have HCR := Lib.hid hcr
                  have HBW := Lib.hid hbk
                  have HLA := Lib.hid (kb HBR.out HL9.out)
                  have HSO : Hid ((stV v1).length = j ∧ BksOk (stV v1)) := ⟨hsl, stV_oks HVK.out.2⟩
                  clear how hsl hbk hsg hcr HOW
                  generalize stV v1 = S1 at *
                  go_wp2_with fail
                  refine HCR.out.mono ?_
                  rintro e wc ⟨rfl, hmt, hsm⟩
                  have HF : Hid (SuI w wc (fun k => P1 k ∨ (w9.heap.size ≤ k ∧ k < wa.heap.size)) q g9 gl j G (1 + 1) Aw j dw S1 _ A2 A3 N2 k d2 d3) := ⟨⟨hmt.ds, by obtain ⟨e, S0, Rs, h1, h2, h3⟩ := hmt.mt; exact ⟨e, S0, Rs, h1, h2, by have := HLI3.out; have := HN3.out; omega⟩, hmt.ns, by have := hmt.dn; have := HLI3.out; have := HN3.out; omega, hmt.sh⟩, Or.inl HP.out.1, Or.inl HPL.out.1, fun k hk => Or.inl (HPW.out k hk).1, (hsm.blk gl (Or.inl HPL.out.1)).trans HLA.out, fun _ => HBW.out.same hsm, fun _ => ⟨rfl, hdw1, hdw2, HSO.out.1, HSO.out.2⟩⟩
                  clear hmt hsm HCR HBW HLA HSO z0 z1 z2 z3 z4
                  go_wp2
                  go_roundw
                  case rel => exact ⟨1 + 1, _, Aw, j, dw, S1, _, by first | rfl | go_num, by omega, rfl, HF.out⟩
                  case measure => simp [intOf]
      · obtain rfl : kk = 2 := by omega
        have HSL := Lib.hid (HJ.out.sl (by omega))
        go_wp2_with (refine wpList_loadS rfl (.tmp 9) rfl g9 rfl n G 3 HJ.out.mt.sh ?_)
        refine (HJ.out.mt.mount (by omega) (by omega) (by omega) HJ.out.pgs).mono ?_
        rintro e wM ⟨hp, rb, mM, vM, rfl, hgo, hst, hsm, hlo1, hlo2⟩
        have hbl := blocks_any hgo.sv.at_ A S ns d (by rw [HSL.out.1]; exact HSL.out.2.2.2.1) (by rw [HSL.out.1]; exact HSL.out.2.1) HSL.out.2.2.1 HSL.out.2.2.2.2 ((HJ.out.bk (by omega)).same hsm).bks
        rw [decide_eq_true hst] at hbl
        have HBL := Lib.hid hbl
        have HBE := Lib.hid hgo.sv.ds.bel
        clear hgo hst hsm hlo1 hlo2 hbl
        go_wp2_with fail
        refine HBL.out.mono ?_
        rintro e wN ⟨rfl, hbN⟩
        have HF := Lib.hid (HBE.out.trans (hbN.mono HBE.out.size))
        clear hbN
        go_wp2
        go_ret
        exact ⟨rfl, HF.out⟩

set_option maxRecDepth 100000 in
theorem lifted (os : Os) (started : os.Started) (H : Type) (enc : TypeId × Value → H) :
    ReturnsInHanded {} Try.checked os 6 .any (Rows.volSureSpec.pre6 enc Try.prog Try.f6 Rows.volSureRow.domain false) (Rows.volSureSpec.post enc Try.prog Try.f6 false true false false) := by
  refine returnsInHanded_of_change (C := Try.checked) own started (by kernel_rfl) Try.func6
    (ChangeSpec.witness6 (enc := enc) (C := Try.checked) false ⟨#[], #[.int .u8 0, .int .u8 0, .slice none 0 0, .slice none 0 0], []⟩ 8 (by kernel_rfl) (by kernel_rfl) (by kernel_rfl) (by kernel_rfl)) ?_
  intro W base args ds gs before hval0 hW hcnd _
  have hval : ∀ (j : Nat) t v, Try.f6.params[j]? = some t → args[j]? = some v → Value.okWide Try.prog W .any base t v := hval0
  have hW' := hW
  obtain ⟨p, q, hA0, hV, rfl, hfz, hnd⟩ := hW
  have hA : DataW.TrodAll enc Try.prog W 0 (fun _ => true) true Try.f6.params.toList args.toList ds p := hA0
  rw [Try.params6] at hA hval
  obtain ⟨v0, vs0, d0, ds0, p0, q0, hargs, rfl, rfl, h0, r0⟩ := trodAll_cons hA
  obtain ⟨v1, vs1, d1, ds1, p1, q1, rfl, rfl, rfl, h1, r1⟩ := trodAll_cons r0
  obtain ⟨v2, vs2, d2, ds2, p2, q2, rfl, rfl, rfl, h2, r2⟩ := trodAll_cons r1
  obtain ⟨v3, vs3, d3, ds3, p3, q3, rfl, rfl, rfl, h3, r3⟩ := trodAll_cons r2
  obtain ⟨rfl, rfl, rfl⟩ := trodAll_nil r3
  obtain rfl : args = #[v0, v1, v2, v3] := by cases args; simp_all
  obtain ⟨rfl, rfl⟩ := trodVars_none hV
  obtain ⟨x0, rfl, rfl, rfl, wx0⟩ := open_int Try.underlying5 (hval 0 5 v0 rfl rfl) h0
  obtain ⟨x1, rfl, rfl, rfl, wx1⟩ := open_int Try.underlying5 (hval 1 5 v1 rfl rfl) h1
  obtain ⟨a2, len2, cap2, rfl⟩ := okWide_slice Try.underlying22 (hval 2 22 v2 rfl rfl)
  obtain ⟨a3, len3, cap3, rfl⟩ := okWide_slice Try.underlying22 (hval 3 22 v3 rfl rfl)
  clear hA0 hval0
  simp only [List.append_nil] at hW'
  have hlt2 : ∀ y ∈ p2, y.block < W.heap.size := fun y hy => by simpa using hW'.lt y (by simp [hy])
  have harg2 : ∀ W' : World, Below W.heap.size W W' → DataW.Trod enc Try.prog W' 0 (fun b => decide (b < W.heap.size)) true 22 (.slice a2 len2 cap2) d2 p2 :=
    fun W' hn => Below.trod laidOut (by kernel_rfl) (of_decide_eq_true (by kernel_rfl)) h2 hn (fun y hy => hlt2 y hy)
  have hlt3 : ∀ y ∈ p3, y.block < W.heap.size := fun y hy => by simpa using hW'.lt y (by simp [hy])
  have harg3 : ∀ W' : World, Below W.heap.size W W' → DataW.Trod enc Try.prog W' 0 (fun b => decide (b < W.heap.size)) true 22 (.slice a3 len3 cap3) d3 p3 :=
    fun W' hn => Below.trod laidOut (by kernel_rfl) (of_decide_eq_true (by kernel_rfl)) h3 hn (fun y hy => hlt3 y hy)
  obtain ⟨fu2, hf2⟩ := h2
  obtain ⟨A2, l2, c2, e2, hd2, hm2, hy2, hB2⟩ := open_wds hf2
  simp [Value.cells] at e2
  obtain ⟨rfl, rfl, rfl⟩ := e2
  obtain ⟨fu3, hf3⟩ := h3
  obtain ⟨A3, l3, c3, e3, hd3, hm3, hy3, hB3⟩ := open_wds hf3
  simp [Value.cells] at e3
  obtain ⟨rfl, rfl, rfl⟩ := e3
  refine (walk x0 x1 a2 l2 cap2 a3 l3 cap3 W (by have := bounds_u8 wx0; omega) (by have := bounds_u8 wx1; omega) hd2 hm2 hB2 hy2 hd3 hm3 hB3 hy3).mono fun e W' ⟨he, bel⟩ => ?_
  subst he
  exact ⟨_, rfl, _, _, _, [], _, [], hW', (trodAll_cons_mk (shut_bool Try.underlying4 _) trodAll_mk0), (trodAll_cons_mk (shut_int Try.underlying5 wx0) (trodAll_cons_mk (shut_int Try.underlying5 wx1) (trodAll_cons_mk (harg2 _ bel) (trodAll_cons_mk (harg3 _ bel) trodAll_mk0)))), rfl, bel.frame _, fun h => by cases h⟩

theorem over : Rows.volSureRow.holds Try.pinned (OpenSpec.ofChange Rows.volSureSpec) :=
  OpenClaim.holds_of_wide 6 Try.f6 rfl rfl rfl rfl rfl rfl rfl ⟨rfl, rfl, rfl, rfl, rfl⟩ rfl rfl rfl rfl rfl (by kernel_rfl) Try.func6 (by kernel_rfl)
    (of_decide_eq_true (by kernel_rfl)) (by unfold Func.isWrapper; first | (rw [if_pos (by decide +kernel)]; kernel_rfl) | (rw [if_neg (by decide +kernel)]; exact ⟨rfl, rfl⟩))
    (fun os started H enc _ => lifted os started H enc)

theorem proved : Rows.VolSureSaid :=
  over
#print axioms proved
end Go.Proofs.Ytamnpblijdgdaaa.volSure
