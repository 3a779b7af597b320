/- The law VolEpochs answers true for every input, and leaves its arguments alone. No condition. -/
import Derived.Test.YtamnpblijdgdaaaRows
import Derived.Test.YtamnpblijdgdaaaOc
import Derived.WalkKit
import Derived.ProofKit
import Derived.OpenShut
namespace Go.Proofs.Ytamnpblijdgdaaa.volEpochs
open Go.ChangeShapes Go.WideShapes Go.ChangeAt Go.RowKit Go.Joins
set_option linter.unusedVariables false
theorem own : ownKnob Try.prog.godebug = none := by kernel_rfl
theorem laidOut : laidOutB Try.prog = true := by kernel_rfl
set_option maxRecDepth 100000
def VRe (hq g9 G E0 E1 n d : Nat) (A : Option Addr) (i : Nat) (v : Value) (w : World) : Prop :=
  match i with
  | 0 => v = .int .i64 0
  | 1 | 2 | 4 | 5 | 6 | 11 | 12 | 13 | 18 | 19 | 20 | 24 => v = .bool false
  | 3 | 7 | 14 | 21 => v = .pointer (some ⟨hq, 0, none⟩)
  | 8 | 10 => v = .int .u32 E1
  | 9 => v = .int .u32 E0
  | 15 | 17 => v = .int .i64 G
  | 16 => v = .pointer (some ⟨g9, 3, none⟩)
  | 22 => v = .slice A n d
  | 23 => v = .bool true
  | _ => True
set_option maxHeartbeats 6400000 in
theorem walk (x0 : Int) (x1 : Int) (A2 : Option Addr) (l2 : List Wd) (d2 : Nat) (x3 : Int) (w : World) (hx0 : 0 ≤ x0 ∧ x0 ≤ 255) (hx1 : 0 ≤ x1 ∧ x1 ≤ 255) (hd2 : l2.length ≤ d2) (hm2 : d2 ≤ 9223372036854775807) (hB2 : WdsOk l2) (hy2 : Wds w A2 l2) (hx3 : 0 ≤ x3 ∧ x3 ≤ 255) :
    Calls Try.prog 9 #[.int .u8 x0, .int .u8 x1, .slice A2 l2.length d2, .int .u8 x3] w fun e w' => e = .returned (.bool true) ∧ Below w.heap.size w w' := by
  have HY := Lib.hid hy2
  have HB := Lib.hid hB2
  obtain ⟨a, rfl⟩ : ∃ a : Nat, x0 = (a : Int) := ⟨x0.toNat, by omega⟩
  obtain ⟨b, rfl⟩ : ∃ b : Nat, x1 = (b : Int) := ⟨x1.toNat, by omega⟩
  obtain ⟨tm, rfl⟩ : ∃ tm : Nat, x3 = (tm : Int) := ⟨x3.toNat, by omega⟩
  have ha : a ≤ 255 ∧ b ≤ 255 ∧ tm ≤ 255 := by omega
  obtain ⟨N, hN⟩ : ∃ N, l2.length = N := ⟨_, rfl⟩
  rw [hN] at hd2 ⊢
  have HN := Lib.hid hN
  clear hy2 hB2 hN hx0 hx1 hx3
  go_enter Try.func9, Try.ntmps9
  go_wp2_with fail
  refine (begun9_any w).mono ?_
  rintro e w0 ⟨rfl, hb0⟩
  have HB0 := Lib.hid hb0
  clear hb0
  by_cases h20 : N ≤ 20
  · have h20i : (N : Int) ≤ 20 := by omega
    go_wp2_with fail
    refine (light_any A2 l2 N d2 w0 HN.out hd2 hm2 HB.out (HY.out.keep HB0.out)).mono ?_
    rintro e w' ⟨rfl, rfl⟩
    cases hli : lightK l2
    · go_wp2
      go_ret
      exact ⟨rfl, HB0.out⟩
    clear hli
    go_wp2_with fail
    refine (share_any a b (by omega) (by omega) w0).mono ?_
    rintro e w1 ⟨rfl, hb1⟩
    have HB1 := Lib.hid (HB0.out.trans (hb1.mono HB0.out.size))
    clear hb1 HB0
    obtain ⟨G, hG⟩ : ∃ G, 16 + b % 30 = G := ⟨_, rfl⟩
    obtain ⟨n, hn⟩ : ∃ n, 4 + a % 30 = n := ⟨_, rfl⟩
    have hG1 : 16 ≤ G ∧ G ≤ 45 ∧ 4 ≤ n ∧ n ≤ 33 := by omega
    rw [hG, hn]
    have HST := Lib.hid (started (n := n) (g := G) (by omega) (by omega))
    clear hG hn
    go_upto_region 6 with (refine wpList_storeS rfl (.tmp 9) (.tmp 35) rfl w1.heap.size rfl n G 3 rfl _ rfl (heap_alloc_new w1 _) ?_)
    have e2 := setRow_blk (D := shC n G 3) (heap_alloc_new w1 (Obj.cells #[.int .i64 0, .int .i64 0, .int .i64 0, .int .i64 0, .int .i64 0] 30))
    have hb2 : Below w1.heap.size w1 ((w1.alloc (Obj.cells #[.int .i64 0, .int .i64 0, .int .i64 0, .int .i64 0, .int .i64 0] 30)).setRow w1.heap.size (shC n G 3)) := below_setRow ((Below.refl _ _).alloc (Nat.le_refl _) _) (Nat.le_refl _) _
    have HB2 := Lib.hid (HB1.out.trans (hb2.mono HB1.out.size))
    obtain ⟨g9, hg9⟩ : ∃ g9, g9 = w1.heap.size := ⟨_, rfl⟩
    rw [← hg9] at e2 hb2 HB2 ⊢
    clear hb2 HB1 hg9
    generalize (w1.alloc (Obj.cells #[.int .i64 0, .int .i64 0, .int .i64 0, .int .i64 0, .int .i64 0] 30)).setRow g9 (shC n G 3) = w2 at *
    simp only [Act.put]
    have HE2 := Lib.hid e2
    clear e2
    go_wp2_with (refine wpList_loadS rfl (.tmp 9) rfl g9 rfl n G 3 HE2.out ?_)
    refine (size_any 0 0 n G 3 (by omega) (by omega) w2).mono ?_
    rintro e w3 ⟨rfl, hb3⟩
    have HE3 := Lib.hid (kb hb3 HE2.out)
    have HB3 := Lib.hid (HB2.out.trans (hb3.mono HB2.out.size))
    clear hb3 HE2 HB2
    go_wp2_with fail
    refine (new_at _ w3.heap.size [((2 + G + n : Nat) : Int)] 1 rfl (may1 n G (by omega) (by omega)) (fun x hx => by simp at hx; subst hx; constructor <;> omega) _ (heap_alloc_new w3 _)).mono ?_
    rintro e w4 ⟨⟨q, F, rfl, hd, hF⟩, hb4⟩
    have hba := HB3.out.alloc HB3.out.size (Obj.cells #[.int .i64 ((2 + G + n : Nat) : Int)] 3)
    have hds := DS.made hba hd hF hb4
    have hg9 : g9 < (w3.alloc (Obj.cells #[.int .i64 ((2 + G + n : Nat) : Int)] 3)).heap.size := by
      have h1 := room_lt HE3.out
      have h2 := ((Below.refl w3.heap.size w3).alloc (Nat.le_refl _) (Obj.cells #[.int .i64 ((2 + G + n : Nat) : Int)] 3)).size
      omega
    have HE4 := Lib.hid (kb hb4 (kb ((Below.refl w3.heap.size w3).alloc (Nat.le_refl _) (Obj.cells #[.int .i64 ((2 + G + n : Nat) : Int)] 3)) HE3.out))
    have HS3 := Lib.hid (And.intro hg9 hba.size)
    have HD4 := Lib.hid hds
    clear hd hF hb4 hba hds hg9 HE3 HB3
    generalize (w3.alloc (Obj.cells #[.int .i64 ((2 + G + n : Nat) : Int)] 3)).heap.size = s3 at *
    go_wp2_with (refine wpList_loadSw rfl (.tmp 9) rfl g9 rfl n G 3 HE4.out ?_)
    refine (make1 (n := n) (g := G) (by omega) (by omega) HD4.out).mono ?_
    rintro e w5 ⟨rfl, hd5, hs5⟩
    have HE5 := Lib.hid ((hs5.blk g9 HS3.out.1).trans HE4.out)
    have HD5 := Lib.hid hd5
    clear hd5 hs5 HE4 HD4
    go_wp2_with (refine wpList_loadS rfl (.tmp 9) rfl g9 rfl n G 3 HE5.out ?_)
    refine (mount1 (n := n) (g := G) (by omega) (by omega) HD5.out).mono ?_
    rintro e w6 ⟨hp, rb, rfl, hsv, hs6, hlo1, hlo2⟩
    have hg9l := room_lt HE5.out
    have hwl := HD5.out.bel.size
    have HNE : Hid ((g9 < s3 ∧ g9 ≠ hp ∧ g9 ≠ rb) ∧ ∀ k, k < w.heap.size → Rst (fun k => k < s3 ∨ k = hp ∨ k = rb) hp rb k) := ⟨⟨HS3.out.1, by omega, by omega⟩, fun k hk => ⟨Or.inl (Nat.lt_of_lt_of_le hk HS3.out.2), by omega, by omega⟩⟩
    have hgi : GoI w w6 s3 q hp rb g9 n G 0 (stM n G) (stW n G) := ⟨hsv, HST.out.live.lv, HST.out.stops, by rw [HST.out.ep]; omega, by have := HST.out.done; omega, (hs6.blk g9 HS3.out.1).trans HE5.out⟩
    have HGI := Lib.hid hgi
    clear hsv hs6 hlo1 hlo2 hg9l hwl HE5 HD5 hgi HST
    generalize stM n G = m at *
    generalize stW n G = v at *
    go_wp2_with fail
    go_loopw [14] (fun i wr => ∃ (k : Nat) (v : VM) (m : DM), i = .int .i64 k ∧ k ≤ N ∧ Hid (GoI w wr s3 q hp rb g9 n G k m v)) (fun i _ => N - (intOf i).toNat)
    case atStart => exact ⟨0, v, m, rfl, by omega, HGI.out⟩
    case round =>
      clear HGI
      obtain ⟨k, v1, m1, rfl, hk, HI⟩ := hrel
      obtain ⟨w8, rfl⟩ : ∃ w8, w8 = wr := ⟨wr, rfl⟩
      by_cases hlt : k < N
      · have hki : (k : Int) < N := by omega
        obtain ⟨x, hx⟩ : ∃ x, l2[k]? = some x := ⟨_, List.getElem?_eq_getElem (by rw [HN.out]; exact hlt)⟩
        have hxo := HB.out x (List.mem_of_getElem? hx)
        obtain ⟨ad0, hA0, hw0⟩ := HY.out k x hx
        obtain ⟨ad, rfl, hw⟩ := (HY.out.keep HI.out.sv.ds.bel) k x hx
        have c1 := hw.c1
        have hch := HI.out.change (by omega) (by omega) (by omega) HNE.out.1 x.A x.l x.l.length x.c rfl hxo.lc hxo.cm hxo.ok (Wrs.old hw0.wr hw.wr HNE.out.2)
        have HCH := Lib.hid hch
        clear hch hw hw0 hA0 hxo hx
        obtain ⟨ln, hln⟩ : ∃ ln, x.l.length = ln := ⟨_, rfl⟩
        rw [hln] at c1 HCH
        clear hln
        generalize x.A = xA at *
        generalize x.c = xc at *
        generalize chM m1 v1 x.l = m2 at *
        obtain ⟨v2, hv2⟩ : ∃ v2, chV v1 x.l = v2 := ⟨_, rfl⟩
        rw [hv2] at HCH
        clear hv2
        go_wp2_with fail
        refine HCH.out.mono ?_
        rintro e w9 ⟨rfl, hi9⟩
        have HI9 := Lib.hid hi9
        clear hi9 HCH c1 HI
        go_wp2
        go_roundw
        case rel => exact ⟨k + 1, v2, m2, by go_num, by omega, HI9.out⟩
        case measure => simp [intOf]; omega
      · obtain rfl : k = N := by omega
        have hki : ¬ (k : Int) < k := by omega
        have hvk := HI.out.lv.parts
        have HVK := Lib.hid (And.intro hvk.2.1 hvk.2.2.2.1)
        clear hvk
        go_wp2_with fail
        go_loopw [15, 16, 17, 18] (fun sl i p b wr => ∃ j : Nat, i = .int .i64 j ∧ j ≤ n ∧ Hid (OwnK wr w8.heap.size sl ((stV v1).take j)) ∧ Hid (Below w8.heap.size w8 wr)) (fun _ i _ _ _ => n - (intOf i).toNat)
        case atStart => exact ⟨0, rfl, by omega, OwnK.nil _ _, brefl _⟩
        case round =>
          obtain ⟨j, rfl, hj, HOW, HBR⟩ := hrel
          obtain ⟨w9, rfl⟩ : ∃ w9, w9 = wr := ⟨wr, rfl⟩
          obtain ⟨z0, z1, z2, z3, z4⟩ := sh_cells (kb HBR.out HI.out.sh)
          by_cases hjn : j < n
          · have hji : (j : Int) < n := by omega
            obtain ⟨x, hx⟩ : ∃ x, v1.B[j]? = some x := ⟨_, List.getElem?_eq_getElem (by rw [HVK.out.2.len, HVK.out.1]; exact hjn)⟩
            have hxo := HVK.out.2.ok x (List.mem_of_getElem? hx)
            have hsx : (stV v1)[j]? = some (val x) := by unfold stV; rw [List.getElem?_map, hx]; rfl
            have HTK : Hid ((stV v1).take (j + 1) = (stV v1).take j ++ [val x]) := take_snoc' hsx
            have hget := vget_any (HI.out.sv.at_.below HBR.out) j (by constructor <;> omega)
            obtain ⟨g1, g2⟩ := getB_in HVK.out.2.len hx
            rw [g1, g2] at hget
            have HGET := Lib.hid hget
            have HX5 := Lib.hid hxo.len
            clear hxo hsx hget g1 g2 hx
            go_wp2_with fail
            refine HGET.out.mono ?_
            rintro e w10 ⟨rfl, hb10⟩
            have HB10 := Lib.hid (HBR.out.trans (hb10.mono HBR.out.size))
            have HOW10 := Lib.hid (HOW.out.keep hb10)
            clear hb10 HGET z0 z1 z2 z3 z4
            go_upto_region 21 with (first | (refine wpList_allocB rfl rfl ?_) | (refine wpList_storeB rfl (.tmp 17) (.tmp 86) rfl w10.heap.size rfl x.k 0 x.bs zBs rfl HX5.out zBs_len (heap_alloc_new w10 _) ?_))
            have hb11 : Below w10.heap.size w10 ((w10.alloc (Obj.cells (blkA 0 zBs) 46)).setRow w10.heap.size (blkA x.k x.bs)) := below_setRow ((Below.refl _ _).alloc (Nat.le_refl _) _) (Nat.le_refl _) _
            have e11 := setRow_blk (D := blkA x.k x.bs) (heap_alloc_new w10 (Obj.cells (blkA 0 zBs) 46))
            have HB11 := Lib.hid (HB10.out.trans (hb11.mono HB10.out.size))
            have HOW11 := Lib.hid (HOW10.out.keep hb11)
            have HG17 := Lib.hid e11
            clear hb11 e11 HOW10 HB10
            generalize (w10.alloc (Obj.cells (blkA 0 zBs) 46)).setRow w10.heap.size (blkA x.k x.bs) = w11 at *
            generalize w10.heap.size = g17 at *
            try simp only [Act.put]
            have hba : Below w11.heap.size w11 (w11.alloc (Obj.cells (blkA x.k x.bs) 46)) := (Below.refl _ _).alloc (Nat.le_refl _) _
            have HOA := Lib.hid (HOW11.out.keep hba)
            have HBA := Lib.hid (HB11.out.trans (hba.mono HB11.out.size))
            have HWA := Lib.hid (heap_alloc_new w11 (Obj.cells (blkA x.k x.bs) 46))
            clear hba HOW11 HB11
            go_upto_region 19 with (first
              | (refine wpList_loadB rfl (.tmp 17) rfl g17 rfl x.k x.bs HX5.out HG17.out ?_)
              | (refine wpList_oneB rfl (.tmp 89) rfl x.k x.bs HX5.out rfl ?_)
              | (refine wpList_app_bk rfl (.tmp 88) (.tmp 90) rfl w8.heap.size _ ((stV v1).take j) rfl HOA.out w11.heap.size (val x) HX5.out rfl HWA.out (by rw [List.length_take]; omega) HBA.out.size (fun v' w' h1 h2 => ?_);
                 have HO2 := Lib.hid h1; have HB3 := Lib.hid (HBA.out.trans h2); clear h1 h2 HOA HWA HBA))
            go_wp2
            go_roundw
            case rel => exact ⟨j + 1, by go_num, by omega, by rw [HTK.out]; exact HO2.out, HB3.out⟩
            case measure => simp [intOf]; omega
          · obtain rfl : j = n := by omega
            have hji : ¬ (j : Int) < j := by omega
            have how := HOW.out
            have hsl := stV_length HVK.out.2
            rw [HVK.out.1] at hsl
            rw [List.take_of_length_le (by rw [hsl]; exact Nat.le_refl _)] at how
            obtain ⟨A, d, rfl, hd1, hd2', hbk⟩ := how.bksR (R := fun k => (k < s3 ∨ k = hp ∨ k = rb) ∨ (w8.heap.size ≤ k ∧ k < w9.heap.size)) (stV_oks HVK.out.2) (fun k h1 h2 => Or.inr ⟨h1, h2⟩)
            rw [hsl] at hd1 ⊢
            have hsg := HI.out.sv.grow HBR.out (Q := fun k => w8.heap.size ≤ k ∧ k < w9.heap.size) (fun k hk => hk)
            have hmo : MoI w w9 (fun k => (k < s3 ∨ k = hp ∨ k = rb) ∨ (w8.heap.size ≤ k ∧ k < w9.heap.size)) q g9 j G 0 A (stV v1) m1 v1 := ⟨hsg.ds, HI.out.lv, HI.out.ns, by have := HI.out.ep; omega, by have := HI.out.dn; omega, kb HBR.out HI.out.sh, rfl, hbk⟩
            have HMO := Lib.hid hmo
            have hep1 := vepoch_any (HI.out.sv.at_.below HBR.out)
            have HEP1 := Lib.hid hep1
            have HSO : Hid ((stV v1).length = j ∧ BksOk (stV v1)) := ⟨hsl, stV_oks HVK.out.2⟩
            have HPG : Hid ((fun k => (k < s3 ∨ k = hp ∨ k = rb) ∨ (w8.heap.size ≤ k ∧ k < w9.heap.size)) g9) := Or.inl (Or.inl HS3.out.1)
            clear how hsl hbk hsg hmo hep1 HOW
            generalize (fun k => (k < s3 ∨ k = hp ∨ k = rb) ∨ (w8.heap.size ≤ k ∧ k < w9.heap.size)) = P2 at *
            have hv1 : v1 = v1 := rfl
            generalize stV v1 = S at *
            go_wp2_with fail
            refine HEP1.out.mono ?_
            rintro e w' ⟨rfl, rfl⟩
            have e1 : (tm : Int).tmod 6 = ((tm % 6 : Nat) : Int) := by rw [Int.tmod_eq_emod_of_nonneg (by omega)]; omega
            have u1 : IntKind.u8.wrap ((tm % 6 : Nat) : Int) = ((tm % 6 : Nat) : Int) := IntWalk.u8_in _ (by omega)
            have v1' : IntKind.i64.wrap ((tm % 6 : Nat) : Int) = ((tm % 6 : Nat) : Int) := IntWalk.i64_in _ (by omega)
            have hT : tm % 6 ≤ 5 := by omega
            generalize tm % 6 = T at *
            clear HI HBR HVK HEP1 z0 z1 z2 z3 z4
            go_wp2_with fail
            go_loopw [19, 20, 21, 22] (fun ep i p b wr => ∃ (k5 : Nat) (v5 : VM) (m5 : DM), i = .int .i64 k5 ∧ k5 ≤ T ∧ ep = .int .u32 v5.ep ∧ Hid (MoI w wr P2 q g9 j G k5 A S m5 v5)) (fun _ i _ _ _ => T - (intOf i).toNat)
            case atStart => exact ⟨0, v1, m1, rfl, by omega, rfl, HMO.out⟩
            case round =>
              clear HMO
              obtain ⟨k5, v4, m4, rfl, hk5, rfl, HI4⟩ := hrel
              obtain ⟨w12, rfl⟩ : ∃ w12, w12 = wr := ⟨wr, rfl⟩
              have hep4 := HI4.out.ep
              obtain ⟨E0, hE0⟩ : ∃ E0, v4.ep = E0 := ⟨_, rfl⟩
              rw [hE0] at hep4 ⊢
              by_cases hlt5 : k5 < T
              · have hki5 : (k5 : Int) < T := by omega
                have hmt := HI4.out.mount (by omega) (by omega) HPG.out
                rw [hE0] at hmt
                have HMT := Lib.hid hmt
                have HSH := Lib.hid HI4.out.sh
                clear hmt hE0
                go_wp2_with (refine wpList_loadS rfl (.tmp 9) rfl g9 rfl j G 3 HSH.out ?_)
                refine HMT.out.mono ?_
                rintro e wX ⟨hq, rq, m5, v5, rfl, hi5, hat, he5, hu5, hg5⟩
                have HI5 := Lib.hid hi5
                obtain ⟨E1, hE1⟩ : ∃ E1, E0 + 1 = E1 := ⟨_, rfl⟩
                have ue : IntKind.u32.wrap ((E0 : Int) + 1) = (E1 : Int) := by rw [IntWalk.u32_in _ (by omega)]; omega
                have HVE : Hid (v5.ep = E1) := by unfold Hid; omega
                have HEX := Lib.hid (fun (W : World) (hJ : Below wX.heap.size wX W) => kb hJ hi5.sh)
                have hrm : ∀ (W : World), Below wX.heap.size wX W → Calls Try.prog 27 #[.pointer (some ⟨hq, 0, none⟩)] W fun e w' => e = .returned (.int .i64 G) ∧ Below W.heap.size W w' := fun W hJ => by
                  have h1 := vroom_any (hat.below hJ) (by rw [hu5]; omega)
                  rw [hu5, hg5] at h1
                  exact h1
                have HRMX := Lib.hid hrm
                have hepo : ∀ (W : World), Below wX.heap.size wX W → Calls Try.prog 26 #[.pointer (some ⟨hq, 0, none⟩)] W fun e w' => e = .returned (.int .u32 E1) ∧ W = w' := fun W hJ => by
                  have h1 := vepoch_any (hat.below hJ)
                  rw [HVE.out] at h1
                  exact h1
                have HEPX := Lib.hid hepo
                have hbkx : ∀ (W : World), Below wX.heap.size wX W → Calls Try.prog 24 #[.pointer (some ⟨hq, 0, none⟩), .slice A j d] W fun e w' => e = .returned (.bool true) ∧ Below W.heap.size W w' := fun W hJ => by
                  have h1 := blocks_any (hat.below hJ) A S j d HSO.out.1 hd1 hd2' HSO.out.2 ((hi5.bk.below hJ).bks)
                  rw [decide_eq_true hi5.st] at h1
                  exact h1
                have HBKX := Lib.hid hbkx
                clear hi5 hat he5 hu5 hg5 hrm hepo hbkx HMT HSH HI4
                go_upto_region 27 with fail
                refine wp_region_rgk (VRe hq g9 G E0 E1 j d A) (fun _ W => Below wX.heap.size wX W) (fun _ w w' => Below w.heap.size w w') (by kernel_rfl) (by kernel_rfl) (fun i j v w w' _ _ h hs => by unfold VRe at *; exact h) ((Below.refl _ _).drew) ?_
                simp only [RAll]
                refine ⟨?_, ?_, ?_, ?_, ?_, ?_, ?_, ?_, ?_, ?_, ?_, ?_, ?_, ?_, ?_, ?_, ?_, ?_, ?_, ?_, ?_, ?_, ?_, ?_, ?_, ?_⟩
                · refine RStepK.of rfl fun T W L hag hL hJ hLs hd => ?_   -- 0: 107 := Op.move (Operand.tmp 22)
                  have e22 : T.getD 22 undef = _ := (agree_at hag 22 (by kernel_rfl)).trans rfl
                  clear hag hd
                  go_simp
                  first | exact ⟨_, rfl, rfl⟩ | exact ⟨_, rfl, rfl, brefl _⟩ | exact ⟨_, rfl, rfl, hJ, brefl _⟩
                · refine RStepK.of rfl fun T W L hag hL hJ hLs hd => ?_   -- 1: 108 := Op.binOp BinOp.neq 39 (Operand.tmp 107) (Operand.const (Valu
                  have d107 : T.getD 107 undef = _ := hd ⟨0, .data⟩ (by simp) rfl _ rfl
                  clear hag hd
                  go_simp
                  first | exact ⟨_, rfl, rfl⟩ | exact ⟨_, rfl, rfl, brefl _⟩ | exact ⟨_, rfl, rfl, hJ, brefl _⟩
                · refine RStepK.of rfl fun T W L hag hL hJ hLs hd => ?_   -- 2: 109 := Op.move (Operand.tmp 108)
                  have d108 : T.getD 108 undef = _ := hd ⟨1, .data⟩ (by simp) rfl _ rfl
                  clear hag hd
                  go_simp
                  first | exact ⟨_, rfl, rfl⟩ | exact ⟨_, rfl, rfl, brefl _⟩ | exact ⟨_, rfl, rfl, hJ, brefl _⟩
                · refine RStepK.want rfl rfl rfl (by kernel_rfl) (fun v w h => h) fun T W L hag hL hJ hLs hd => ?_   -- 3: 110 := Op.move (Operand.tmp 21)
                  have e21 : T.getD 21 undef = _ := (agree_at hag 21 (by kernel_rfl)).trans rfl
                  clear hag hd
                  go_simp
                  first | exact ⟨_, rfl, rfl⟩ | exact ⟨_, rfl, rfl, brefl _⟩ | exact ⟨_, rfl, rfl, hJ, brefl _⟩
                · refine RStepK.want rfl rfl rfl (by kernel_rfl) (fun v w h => h) fun T W L hag hL hJ hLs hd => ?_   -- 4: 111 := Op.binOp BinOp.eql 38 (Operand.tmp 110) (Operand.const (Valu
                  have d110 : T.getD 110 undef = _ := hd ⟨3, .data⟩ (by simp) rfl _ rfl
                  clear hag hd
                  go_simp
                  first | exact ⟨_, rfl, rfl⟩ | exact ⟨_, rfl, rfl, brefl _⟩ | exact ⟨_, rfl, rfl, hJ, brefl _⟩
                · refine RStepK.of rfl fun T W L hag hL hJ hLs hd => ?_   -- 5: 112 := Op.pick (Operand.tmp 109) (Operand.const (Value.bool true)) 
                  have d109 : T.getD 109 undef = _ := hd ⟨2, .data⟩ (by simp) rfl _ rfl
                  have d111 : T.getD 111 undef = _ := hd ⟨4, .data⟩ (by simp) rfl _ rfl
                  clear hag hd
                  go_simp
                  first | exact ⟨_, rfl, rfl⟩ | exact ⟨_, rfl, rfl, brefl _⟩ | exact ⟨_, rfl, rfl, hJ, brefl _⟩
                · refine RStepK.of rfl fun T W L hag hL hJ hLs hd => ?_   -- 6: 113 := Op.move (Operand.tmp 112)
                  have d112 : T.getD 112 undef = _ := hd ⟨5, .data⟩ (by simp) rfl _ rfl
                  clear hag hd
                  go_simp
                  first | exact ⟨_, rfl, rfl⟩ | exact ⟨_, rfl, rfl, brefl _⟩ | exact ⟨_, rfl, rfl, hJ, brefl _⟩
                · refine RStepK.want rfl rfl rfl (by kernel_rfl) (fun v w h => h) fun T W L hag hL hJ hLs hd => ?_   -- 7: 114 := Op.move (Operand.tmp 21)
                  have e21 : T.getD 21 undef = _ := (agree_at hag 21 (by kernel_rfl)).trans rfl
                  clear hag hd
                  go_simp
                  first | exact ⟨_, rfl, rfl⟩ | exact ⟨_, rfl, rfl, brefl _⟩ | exact ⟨_, rfl, rfl, hJ, brefl _⟩
                · refine RStepK.want rfl rfl rfl (by kernel_rfl) (fun v w h => h) fun T W L hag hL hJ hLs hd => ?_   -- 8: 115 := Op.call { callee := Callee.value (Operand.func 26), args := 
                  have d114 : T.getD 114 undef = _ := hd ⟨7, .data⟩ (by simp) rfl _ rfl
                  clear hag hd
                  go_simp
                  refine (HEPX.out W hJ).mono ?_
                  rintro e w' ⟨rfl, rfl⟩
                  exact ⟨_, rfl, rfl, hJ, brefl _⟩
                · refine RStepK.want rfl rfl rfl (by kernel_rfl) (fun v w h => h) fun T W L hag hL hJ hLs hd => ?_   -- 9: 116 := Op.move (Operand.tmp 19)
                  have e19 : T.getD 19 undef = _ := (agree_at hag 19 (by kernel_rfl)).trans rfl
                  clear hag hd
                  go_simp
                  first | exact ⟨_, rfl, rfl⟩ | exact ⟨_, rfl, rfl, brefl _⟩ | exact ⟨_, rfl, rfl, hJ, brefl _⟩
                · refine RStepK.want rfl rfl rfl (by kernel_rfl) (fun v w h => h) fun T W L hag hL hJ hLs hd => ?_   -- 10: 117 := Op.binOp BinOp.add 62 (Operand.tmp 116) (Operand.const (Valu
                  have d116 : T.getD 116 undef = _ := hd ⟨9, .data⟩ (by simp) rfl _ rfl
                  clear hag hd
                  go_simp
                  first | exact ⟨_, rfl, rfl⟩ | exact ⟨_, rfl, rfl, brefl _⟩ | exact ⟨_, rfl, rfl, hJ, brefl _⟩
                · refine RStepK.want rfl rfl rfl (by kernel_rfl) (fun v w h => h) fun T W L hag hL hJ hLs hd => ?_   -- 11: 118 := Op.binOp BinOp.neq 62 (Operand.tmp 115) (Operand.tmp 117) 62
                  have d115 : T.getD 115 undef = _ := hd ⟨8, .data⟩ (by simp) rfl _ rfl
                  have d117 : T.getD 117 undef = _ := hd ⟨10, .data⟩ (by simp) rfl _ rfl
                  clear hag hd
                  go_simp
                  first | exact ⟨_, rfl, rfl⟩ | exact ⟨_, rfl, rfl, brefl _⟩ | exact ⟨_, rfl, rfl, hJ, brefl _⟩
                · refine RStepK.of rfl fun T W L hag hL hJ hLs hd => ?_   -- 12: 119 := Op.pick (Operand.tmp 113) (Operand.const (Value.bool true)) 
                  have d113 : T.getD 113 undef = _ := hd ⟨6, .data⟩ (by simp) rfl _ rfl
                  have d118 : T.getD 118 undef = _ := hd ⟨11, .data⟩ (by simp) rfl _ rfl
                  clear hag hd
                  go_simp
                  first | exact ⟨_, rfl, rfl⟩ | exact ⟨_, rfl, rfl, brefl _⟩ | exact ⟨_, rfl, rfl, hJ, brefl _⟩
                · refine RStepK.of rfl fun T W L hag hL hJ hLs hd => ?_   -- 13: 120 := Op.move (Operand.tmp 119)
                  have d119 : T.getD 119 undef = _ := hd ⟨12, .data⟩ (by simp) rfl _ rfl
                  clear hag hd
                  go_simp
                  first | exact ⟨_, rfl, rfl⟩ | exact ⟨_, rfl, rfl, brefl _⟩ | exact ⟨_, rfl, rfl, hJ, brefl _⟩
                · refine RStepK.want rfl rfl rfl (by kernel_rfl) (fun v w h => h) fun T W L hag hL hJ hLs hd => ?_   -- 14: 121 := Op.move (Operand.tmp 21)
                  have e21 : T.getD 21 undef = _ := (agree_at hag 21 (by kernel_rfl)).trans rfl
                  clear hag hd
                  go_simp
                  first | exact ⟨_, rfl, rfl⟩ | exact ⟨_, rfl, rfl, brefl _⟩ | exact ⟨_, rfl, rfl, hJ, brefl _⟩
                · refine RStepK.want rfl rfl rfl (by kernel_rfl) (fun v w h => h) fun T W L hag hL hJ hLs hd => ?_   -- 15: 122 := Op.call { callee := Callee.value (Operand.func 27), args := 
                  have d121 : T.getD 121 undef = _ := hd ⟨14, .data⟩ (by simp) rfl _ rfl
                  clear hag hd
                  go_simp
                  refine (HRMX.out W hJ).mono ?_
                  rintro e w' ⟨rfl, hb⟩
                  exact ⟨_, rfl, rfl, keepB hJ hb, hb⟩
                · refine RStepK.want rfl rfl rfl (by kernel_rfl) (fun v w h => h) fun T W L hag hL hJ hLs hd => ?_   -- 16: 123 := Op.fieldAddr 30 (Operand.tmp 9) 2
                  have e9 : T.getD 9 undef = _ := (agree_at hag 9 (by kernel_rfl)).trans rfl
                  clear hag hd
                  go_simp
                  first | exact ⟨_, rfl, rfl⟩ | exact ⟨_, rfl, rfl, brefl _⟩ | exact ⟨_, rfl, rfl, hJ, brefl _⟩
                · refine RStepK.want rfl rfl rfl (by kernel_rfl) (fun v w h => h) fun T W L hag hL hJ hLs hd => ?_   -- 17: 124 := Op.load 3 (Operand.tmp 123)
                  have d123 : T.getD 123 undef = _ := hd ⟨16, .data⟩ (by simp) rfl _ rfl
                  obtain ⟨z0, z1, z2, z3, z4⟩ := sh_cells (HEX.out W hJ)
                  clear hag hd
                  go_simp
                  first | exact ⟨_, rfl, rfl⟩ | exact ⟨_, rfl, rfl, brefl _⟩ | exact ⟨_, rfl, rfl, hJ, brefl _⟩
                · refine RStepK.want rfl rfl rfl (by kernel_rfl) (fun v w h => h) fun T W L hag hL hJ hLs hd => ?_   -- 18: 125 := Op.binOp BinOp.neq 3 (Operand.tmp 122) (Operand.tmp 124) 3
                  have d122 : T.getD 122 undef = _ := hd ⟨15, .data⟩ (by simp) rfl _ rfl
                  have d124 : T.getD 124 undef = _ := hd ⟨17, .data⟩ (by simp) rfl _ rfl
                  clear hag hd
                  go_simp
                  first | exact ⟨_, rfl, rfl⟩ | exact ⟨_, rfl, rfl, brefl _⟩ | exact ⟨_, rfl, rfl, hJ, brefl _⟩
                · refine RStepK.of rfl fun T W L hag hL hJ hLs hd => ?_   -- 19: 126 := Op.pick (Operand.tmp 120) (Operand.const (Value.bool true)) 
                  have d120 : T.getD 120 undef = _ := hd ⟨13, .data⟩ (by simp) rfl _ rfl
                  have d125 : T.getD 125 undef = _ := hd ⟨18, .data⟩ (by simp) rfl _ rfl
                  clear hag hd
                  go_simp
                  first | exact ⟨_, rfl, rfl⟩ | exact ⟨_, rfl, rfl, brefl _⟩ | exact ⟨_, rfl, rfl, hJ, brefl _⟩
                · refine RStepK.of rfl fun T W L hag hL hJ hLs hd => ?_   -- 20: 127 := Op.move (Operand.tmp 126)
                  have d126 : T.getD 126 undef = _ := hd ⟨19, .data⟩ (by simp) rfl _ rfl
                  clear hag hd
                  go_simp
                  first | exact ⟨_, rfl, rfl⟩ | exact ⟨_, rfl, rfl, brefl _⟩ | exact ⟨_, rfl, rfl, hJ, brefl _⟩
                · refine RStepK.want rfl rfl rfl (by kernel_rfl) (fun v w h => h) fun T W L hag hL hJ hLs hd => ?_   -- 21: 128 := Op.move (Operand.tmp 21)
                  have e21 : T.getD 21 undef = _ := (agree_at hag 21 (by kernel_rfl)).trans rfl
                  clear hag hd
                  go_simp
                  first | exact ⟨_, rfl, rfl⟩ | exact ⟨_, rfl, rfl, brefl _⟩ | exact ⟨_, rfl, rfl, hJ, brefl _⟩
                · refine RStepK.want rfl rfl rfl (by kernel_rfl) (fun v w h => h) fun T W L hag hL hJ hLs hd => ?_   -- 22: 129 := Op.move (Operand.tmp 15)
                  have e15 : T.getD 15 undef = _ := (agree_at hag 15 (by kernel_rfl)).trans rfl
                  clear hag hd
                  go_simp
                  first | exact ⟨_, rfl, rfl⟩ | exact ⟨_, rfl, rfl, brefl _⟩ | exact ⟨_, rfl, rfl, hJ, brefl _⟩
                · refine RStepK.want rfl rfl rfl (by kernel_rfl) (fun v w h => h) fun T W L hag hL hJ hLs hd => ?_   -- 23: 130 := Op.call { callee := Callee.value (Operand.func 24), args := 
                  have d128 : T.getD 128 undef = _ := hd ⟨21, .data⟩ (by simp) rfl _ rfl
                  have d129 : T.getD 129 undef = _ := hd ⟨22, .data⟩ (by simp) rfl _ rfl
                  clear hag hd
                  go_simp
                  refine (HBKX.out W hJ).mono ?_
                  rintro e w' ⟨rfl, hb⟩
                  exact ⟨_, rfl, rfl, keepB hJ hb, hb⟩
                · refine RStepK.want rfl rfl rfl (by kernel_rfl) (fun v w h => h) fun T W L hag hL hJ hLs hd => ?_   -- 24: 131 := Op.unOp UnOp.not 4 (Operand.tmp 130)
                  have d130 : T.getD 130 undef = _ := hd ⟨23, .data⟩ (by simp) rfl _ rfl
                  clear hag hd
                  go_simp
                  first | exact ⟨_, rfl, rfl⟩ | exact ⟨_, rfl, rfl, brefl _⟩ | exact ⟨_, rfl, rfl, hJ, brefl _⟩
                · refine RLastK.of rfl fun T W L hag hLs hL hJ hd => ?_   -- 25: 132 := Op.pick (Operand.tmp 127) (Operand.const (Value.bool true)) 
                  have d127 : T.getD 127 undef = _ := hd 20 _ (by simp) rfl
                  have d131 : T.getD 131 undef = _ := hd 24 _ (by simp) rfl
                  obtain ⟨f, hf, hT⟩ := agree_fn hag
                  have d107 : T.getD 107 undef = _ := hd 0 _ (by simp) rfl
                  have h107 := (hf 107).trans d107
                  have d108 : T.getD 108 undef = _ := hd 1 _ (by simp) rfl
                  have h108 := (hf 108).trans d108
                  have d109 : T.getD 109 undef = _ := hd 2 _ (by simp) rfl
                  have h109 := (hf 109).trans d109
                  have d110 : T.getD 110 undef = _ := hd 3 _ (by simp) rfl
                  have h110 := (hf 110).trans d110
                  have d111 : T.getD 111 undef = _ := hd 4 _ (by simp) rfl
                  have h111 := (hf 111).trans d111
                  have d112 : T.getD 112 undef = _ := hd 5 _ (by simp) rfl
                  have h112 := (hf 112).trans d112
                  have d113 : T.getD 113 undef = _ := hd 6 _ (by simp) rfl
                  have h113 := (hf 113).trans d113
                  have d114 : T.getD 114 undef = _ := hd 7 _ (by simp) rfl
                  have h114 := (hf 114).trans d114
                  have d115 : T.getD 115 undef = _ := hd 8 _ (by simp) rfl
                  have h115 := (hf 115).trans d115
                  have d116 : T.getD 116 undef = _ := hd 9 _ (by simp) rfl
                  have h116 := (hf 116).trans d116
                  have d117 : T.getD 117 undef = _ := hd 10 _ (by simp) rfl
                  have h117 := (hf 117).trans d117
                  have d118 : T.getD 118 undef = _ := hd 11 _ (by simp) rfl
                  have h118 := (hf 118).trans d118
                  have d119 : T.getD 119 undef = _ := hd 12 _ (by simp) rfl
                  have h119 := (hf 119).trans d119
                  have d120 : T.getD 120 undef = _ := hd 13 _ (by simp) rfl
                  have h120 := (hf 120).trans d120
                  have d121 : T.getD 121 undef = _ := hd 14 _ (by simp) rfl
                  have h121 := (hf 121).trans d121
                  have d122 : T.getD 122 undef = _ := hd 15 _ (by simp) rfl
                  have h122 := (hf 122).trans d122
                  have d123 : T.getD 123 undef = _ := hd 16 _ (by simp) rfl
                  have h123 := (hf 123).trans d123
                  have d124 : T.getD 124 undef = _ := hd 17 _ (by simp) rfl
                  have h124 := (hf 124).trans d124
                  have d125 : T.getD 125 undef = _ := hd 18 _ (by simp) rfl
                  have h125 := (hf 125).trans d125
                  have d126 : T.getD 126 undef = _ := hd 19 _ (by simp) rfl
                  have h126 := (hf 126).trans d126
                  have h127 := (hf 127).trans d127
                  have d128 : T.getD 128 undef = _ := hd 21 _ (by simp) rfl
                  have h128 := (hf 128).trans d128
                  have d129 : T.getD 129 undef = _ := hd 22 _ (by simp) rfl
                  have h129 := (hf 129).trans d129
                  have d130 : T.getD 130 undef = _ := hd 23 _ (by simp) rfl
                  have h130 := (hf 130).trans d130
                  have h131 := (hf 131).trans d131
                  have HJ := Lib.hid hJ
                  clear hag hd d107 d108 d109 d110 d111 d112 d113 d114 d115 d116 d117 d118 d119 d120 d121 d122 d123 d124 d125 d126 d127 d128 d129 d130 d131 hJ hf
                  rw [hT]
                  clear hT
                  simp only [List.pop_toArray, List.dropLast_cons_cons, List.dropLast_singleton, List.filterMap_cons, List.filterMap_nil, List.foldl_cons, List.foldl_nil, List.setIfInBounds_toArray, List.set_cons_succ, List.set_cons_zero, h107, h108, h109, h110, h111, h112, h113, h114, h115, h116, h117, h118, h119, h120, h121, h122, h123, h124, h125, h126, h127, h128, h129, h130, h131]
                  have HI6 := Lib.hid (HI5.out.below HJ.out)
                  clear HEX HEPX HRMX HBKX HI5 HJ
                  go_wp2
                  go_roundw
                  case rel => exact ⟨k5 + 1, v5, m5, by go_num, by omega, by rw [HVE.out], HI6.out⟩
                  case measure => simp [intOf]; omega
              · obtain rfl : k5 = T := by omega
                have hki5 : ¬ (k5 : Int) < k5 := by omega
                have HF := Lib.hid HI4.out.ds.bel
                clear HI4
                go_wp2
                go_ret
                exact ⟨rfl, HF.out⟩

  · have h20i : (20 : Int) < N := by omega
    go_wp2
    go_ret
    exact ⟨rfl, HB0.out⟩

set_option maxRecDepth 100000 in
theorem lifted (os : Os) (started : os.Started) (H : Type) (enc : TypeId × Value → H) :
    ReturnsInHanded {} Try.checked os 9 .any (Rows.volEpochsSpec.pre6 enc Try.prog Try.f9 Rows.volEpochsRow.domain false) (Rows.volEpochsSpec.post enc Try.prog Try.f9 false true false false) := by
  refine returnsInHanded_of_change (C := Try.checked) own started (by kernel_rfl) Try.func9
    (ChangeSpec.witness6 (enc := enc) (C := Try.checked) false ⟨#[], #[.int .u8 0, .int .u8 0, .slice none 0 0, .int .u8 0], []⟩ 8 (by kernel_rfl) (by kernel_rfl) (by kernel_rfl) (by kernel_rfl)) ?_
  intro W base args ds gs before hval0 hW hcnd _
  have hval : ∀ (j : Nat) t v, Try.f9.params[j]? = some t → args[j]? = some v → Value.okWide Try.prog W .any base t v := hval0
  have hW' := hW
  obtain ⟨p, q, hA0, hV, rfl, hfz, hnd⟩ := hW
  have hA : DataW.TrodAll enc Try.prog W 0 (fun _ => true) true Try.f9.params.toList args.toList ds p := hA0
  rw [Try.params9] at hA hval
  obtain ⟨v0, vs0, d0, ds0, p0, q0, hargs, rfl, rfl, h0, r0⟩ := trodAll_cons hA
  obtain ⟨v1, vs1, d1, ds1, p1, q1, rfl, rfl, rfl, h1, r1⟩ := trodAll_cons r0
  obtain ⟨v2, vs2, d2, ds2, p2, q2, rfl, rfl, rfl, h2, r2⟩ := trodAll_cons r1
  obtain ⟨v3, vs3, d3, ds3, p3, q3, rfl, rfl, rfl, h3, r3⟩ := trodAll_cons r2
  obtain ⟨rfl, rfl, rfl⟩ := trodAll_nil r3
  obtain rfl : args = #[v0, v1, v2, v3] := by cases args; simp_all
  obtain ⟨rfl, rfl⟩ := trodVars_none hV
  obtain ⟨x0, rfl, rfl, rfl, wx0⟩ := open_int Try.underlying5 (hval 0 5 v0 rfl rfl) h0
  obtain ⟨x1, rfl, rfl, rfl, wx1⟩ := open_int Try.underlying5 (hval 1 5 v1 rfl rfl) h1
  obtain ⟨a2, len2, cap2, rfl⟩ := okWide_slice Try.underlying22 (hval 2 22 v2 rfl rfl)
  obtain ⟨x3, rfl, rfl, rfl, wx3⟩ := open_int Try.underlying5 (hval 3 5 v3 rfl rfl) h3
  clear hA0 hval0
  simp only [List.append_nil] at hW'
  have hlt2 : ∀ y ∈ p2, y.block < W.heap.size := fun y hy => by simpa using hW'.lt y (by simp [hy])
  have harg2 : ∀ W' : World, Below W.heap.size W W' → DataW.Trod enc Try.prog W' 0 (fun b => decide (b < W.heap.size)) true 22 (.slice a2 len2 cap2) d2 p2 :=
    fun W' hn => Below.trod laidOut (by kernel_rfl) (of_decide_eq_true (by kernel_rfl)) h2 hn (fun y hy => hlt2 y hy)
  obtain ⟨fu2, hf2⟩ := h2
  obtain ⟨A2, l2, c2, e2, hd2, hm2, hy2, hB2⟩ := open_wds hf2
  simp [Value.cells] at e2
  obtain ⟨rfl, rfl, rfl⟩ := e2
  refine (walk x0 x1 a2 l2 cap2 x3 W (by have := bounds_u8 wx0; omega) (by have := bounds_u8 wx1; omega) hd2 hm2 hB2 hy2 (by have := bounds_u8 wx3; omega)).mono fun e W' ⟨he, bel⟩ => ?_
  subst he
  exact ⟨_, rfl, _, _, _, [], _, [], hW', (trodAll_cons_mk (shut_bool Try.underlying4 _) trodAll_mk0), (trodAll_cons_mk (shut_int Try.underlying5 wx0) (trodAll_cons_mk (shut_int Try.underlying5 wx1) (trodAll_cons_mk (harg2 _ bel) (trodAll_cons_mk (shut_int Try.underlying5 wx3) trodAll_mk0)))), rfl, bel.frame _, fun h => by cases h⟩

theorem over : Rows.volEpochsRow.holds Try.pinned (OpenSpec.ofChange Rows.volEpochsSpec) :=
  OpenClaim.holds_of_wide 9 Try.f9 rfl rfl rfl rfl rfl rfl rfl ⟨rfl, rfl, rfl, rfl, rfl⟩ rfl rfl rfl rfl rfl (by kernel_rfl) Try.func9 (by kernel_rfl)
    (of_decide_eq_true (by kernel_rfl)) (by unfold Func.isWrapper; first | (rw [if_pos (by decide +kernel)]; kernel_rfl) | (rw [if_neg (by decide +kernel)]; exact ⟨rfl, rfl⟩))
    (fun os started H enc _ => lifted os started H enc)

theorem proved : Rows.VolEpochsSaid :=
  over
#print axioms proved
end Go.Proofs.Ytamnpblijdgdaaa.volEpochs
