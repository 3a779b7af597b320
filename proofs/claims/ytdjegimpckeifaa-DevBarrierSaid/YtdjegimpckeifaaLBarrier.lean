/- The law DevBarrier answers true for every input, and leaves its arguments alone. No condition. -/
import Derived.Test.YtdjegimpckeifaaRows
import Derived.Test.YtdjegimpckeifaaV42
import Derived.StillTailTactics
import Derived.WalkKit
import Derived.ProofKit
import Derived.OpenShut
namespace Go.Proofs.Ytdjegimpckeifaa.devBarrier
open Go.ChangeShapes Go.WideShapes Go.ChangeAt Go.RowKit Go.Joins
set_option linter.unusedVariables false
theorem own : ownKnob Try.prog.godebug = none := by kernel_rfl
theorem laidOut : laidOutB Try.prog = true := by kernel_rfl
def z1 : List Int := fullV []
theorem z1S : strOfNums z1 = zS := rfl
theorem z1len : z1.length ≤ 1000 := by decide
def VB16 (kq kr gs B : Nat) (i : Nat) (v : Value) (w : World) : Prop :=
  match i with
  | 0 => v = .int .i64 kq
  | 1 => v = .int .i64 kr
  | 2 => ∃ g, v = .slice (some ⟨g, 0, none⟩) 64 64 ∧ B ≤ g ∧ Blk64 w g (fullV [])
  | 3 => v = .string zS
  | 4 => v = .pointer (some ⟨gs, kq * 4, none⟩)
  | 5 => v = .pointer (some ⟨gs, kq * 4 + kr, none⟩)
  | _ => True
theorem VB16.on {kq kr gs B : Nat} {j : Nat} {v : Value} {w w' : World} (h : VB16 kq kr gs B j v w) (hs : w.grownBy w' none) : VB16 kq kr gs B j v w' := by
  unfold VB16 at *
  split <;> try exact h
  · obtain ⟨g, h1, h2, h3⟩ := h; exact ⟨g, h1, h2, (hs.block g (room_lt h3) (by simp)).trans h3⟩
  · trivial
set_option maxRecDepth 100000 in
set_option maxHeartbeats 6400000 in
theorem walk (A0 : Option Addr) (l0 : List Dd) (d0 : Nat) (A1 : Option Addr) (l1 : List (List Int)) (d1 : Nat) (w : World) (hd0 : l0.length ≤ d0) (hm0 : d0 ≤ 9223372036854775807) (hB0 : DdsOk l0) (hy0 : Deeds w A0 l0) (hd1 : l1.length ≤ d1) (hm1 : d1 ≤ 9223372036854775807) (hB1 : TxOk l1) (hy1 : Txts w A1 l1) :
    Calls Try.prog 4 #[.slice A0 l0.length d0, .slice A1 l1.length d1] w fun e w' => e = .returned (.bool true) ∧ Below w.heap.size w w' := by
  have HY := Lib.hid hy0
  have HBO := Lib.hid hB0
  have HY2 := Lib.hid hy1
  clear hy0 hB0 hy1 hB1
  generalize hn : l0.length = n at *
  generalize hn2 : l1.length = n2 at *
  have HN := Lib.hid hn
  have HN2 := Lib.hid hn2
  clear hn hn2
  by_cases h40 : 40 < n
  · have hgt : (40 : Int) < n := by omega
    have hgd : decide ((40 : Int) < n) = true := decide_eq_true hgt
    go_enter Try.func4, Try.ntmps4
    go_wp2_with fail
    refine (begun_any _).mono ?_
    rintro e w1 ⟨rfl, hb1⟩
    go_wp2
    go_ret
    exact ⟨rfl, hb1⟩
  have hle : n ≤ 40 := by omega
  have hgt : ¬ ((40 : Int) < n) := by omega
  have hgd : decide ((40 : Int) < n) = false := decide_eq_false hgt
  by_cases h5 : 5 < n2
  · have hgt2 : (5 : Int) < n2 := by omega
    have hgd2 : decide ((5 : Int) < n2) = true := decide_eq_true hgt2
    go_enter Try.func4, Try.ntmps4
    go_wp2_with fail
    refine (begun_any _).mono ?_
    rintro e w1 ⟨rfl, hb1⟩
    go_wp2
    go_ret
    exact ⟨rfl, hb1⟩
  have hle5 : n2 ≤ 5 := by omega
  have hgt2 : ¬ ((5 : Int) < n2) := by omega
  have hgd2 : decide ((5 : Int) < n2) = false := decide_eq_false hgt2
  go_enter Try.func4, Try.ntmps4
  go_wp2_with fail
  refine (begun_any _).mono ?_
  rintro e w1 ⟨rfl, hb1⟩
  have HB1 := Lib.hid hb1
  clear hb1
  go_wp2_with fail
  refine (new_at _ w1.heap.size [4, 4] 2 rfl (by decide) (fun x hx => by simp at hx; subst hx; constructor <;> omega) _ (heap_alloc_new w1 _)).mono ?_
  rintro e w2 ⟨⟨q, F, rfl, hd, hF⟩, hb⟩
  have hds := DS.made (HB1.out.alloc HB1.out.size _) hd hF hb
  have HD : Hid (DS w w2 (fun _ => False) q (DM.make [4, 4])) := hds.below (Below.refl _ _) (fun k hk => hk.elim)
  clear hd hF hb hds
  go_wp2_with fail
  generalize hw3 : World.alloc (World.alloc w2 _) _ = w3
  have h7 : Strs w3 w2.heap.size (upto 0 zS) := by rw [← hw3]; exact heap_alloc2_old _ _ _
  have h8 : w3.heap[w2.heap.size + 1]? = some (.cells (Array.replicate 8 (.map none)) 50 (0, 0)) := by rw [← hw3]; exact heap_alloc2_new _ _ _
  have hb3 : Below w2.heap.size w2 w3 := by rw [← hw3]; exact ((Below.refl _ _).alloc (Nat.le_refl _) _).alloc (by simp) _
  have hsz : w3.heap.size = w2.heap.size + 2 := by rw [← hw3]; simp
  clear hw3
  obtain ⟨gs, hgs⟩ : ∃ g, g = w2.heap.size := ⟨_, rfl⟩
  obtain ⟨gm, hgm⟩ : ∃ g, g = w2.heap.size + 1 := ⟨_, rfl⟩
  rw [← hgs] at h7
  rw [← hgm] at h8
  rw [← hgm]
  rw [← hgs]
  have HD3 : Hid (DS w w3 (fun k => k = gs ∨ k = gm) q (DM.make [4, 4])) := HD.out.below hb3 (fun k hk => Or.inr (by rcases hk with hk | hk <;> omega))
  have HPK : Hid (∀ k, (k = gs ∨ k = gm) → w.heap.size ≤ k) := Lib.hid fun k hk => (by have := HD.out.bel.size; rcases hk with hk | hk <;> omega)
  have HG : Hid (gs < gm) := Lib.hid (by omega)
  have H7 := Lib.hid h7
  have H8 : Hid (Mays w3 gm (fun k => k = gs ∨ k = gm) 1 (fun _ => [z1]) (fun j => j < 0)) := ⟨⟨_, h8, by simp, fun j _ hj => by omega⟩⟩
  clear h7 h8 hb3 hsz hgs hgm HD HB1
  go_loopw [9] (fun i wr => ∃ (kq : Nat) (P : Nat → Prop), i = .int .i64 kq ∧ kq ≤ 2 ∧ Hid (DS w wr P q (DM.make [4, 4])) ∧ Hid (Prot w P gs gm) ∧ Hid (Strs wr gs (upto (kq * 4) zS)) ∧ Hid (Mays wr gm P 1 (fun _ => [z1]) (fun j => j < kq * 4))) (fun i _ => 2 - (intOf i).toNat)
  case atStart => exact ⟨0, _, rfl, by omega, HD3.out, ⟨Or.inl rfl, Or.inr rfl, HPK.out⟩, H7.out, H8.out⟩
  case round =>
    obtain ⟨w4, rfl⟩ : ∃ w4, w4 = wr := ⟨wr, rfl⟩
    obtain ⟨kq, P, rfl, hkq, HDP, HP, HS, HM⟩ := hrel
    clear HD3 HPK H7 H8
    by_cases hq2 : kq < 2
    · have hq2i : (kq : Int) < 2 := by omega
      go_wp2_with fail
      go_loopw [10] (fun i wr => ∃ (kr : Nat) (P : Nat → Prop), i = .int .i64 kr ∧ kr ≤ 4 ∧ Hid (DS w wr P q (DM.make [4, 4])) ∧ Hid (Prot w P gs gm) ∧ Hid (Strs wr gs (upto (kq * 4 + kr) zS)) ∧ Hid (Mays wr gm P 1 (fun _ => [z1]) (fun j => j < kq * 4 + kr))) (fun i _ => 4 - (intOf i).toNat)
      case atStart => exact ⟨0, P, rfl, by omega, HDP.out, HP.out, HS.out, HM.out⟩
      case round =>
        obtain ⟨w5, rfl⟩ : ∃ w5, w5 = wr := ⟨wr, rfl⟩
        clear HDP HP HS HM
        obtain ⟨kr, P, rfl, hkr, HDP, HP, HS, HM⟩ := hrel
        by_cases hr4 : kr < 4
        · have hr4i : (kr : Int) < 4 := by omega
          go_upto_region 16 with fail
          have grefl : ∀ W : World, W.grownBy W none := fun W => World.grownBy.refl W _
          refine wp_region_rg (VB16 kq kr gs w5.heap.size) (Below w5.heap.size w5) (fun w w' => w.grownBy w' none) (by kernel_rfl) (by kernel_rfl) (fun j v w w' h hg => h.on hg) ((Below.refl _ _).drew) ?_
          simp only [RAll]
          refine ⟨?_, ?_, ?_, ?_, ?_, ?_, ?_⟩
          · refine RStep.of rfl fun T W hag hJ hd => ?_
            have e9 : T.getD 9 undef = _ := (agree_at hag 9 (by kernel_rfl)).trans rfl
            clear hag hd
            go_simp
            first | exact ⟨_, rfl, rfl⟩ | exact ⟨_, rfl, rfl, hJ, grefl _⟩
          · refine RStep.of rfl fun T W hag hJ hd => ?_
            have e10 : T.getD 10 undef = _ := (agree_at hag 10 (by kernel_rfl)).trans rfl
            clear hag hd
            go_simp
            first | exact ⟨_, rfl, rfl⟩ | exact ⟨_, rfl, rfl, hJ, grefl _⟩
          · refine RStep.of rfl fun T W hag hJ hd => ?_
            clear hag hd
            go_simp
            refine (full_nil W).mono ?_
            rintro e w' ⟨⟨g, rfl, hg, hblk⟩, hb⟩
            refine ⟨_, rfl, ⟨g, rfl, Nat.le_trans hJ.size hg, hblk⟩, keepB hJ hb, ?_⟩
            exact grown_of_below hb
          · refine RStep.of rfl fun T W hag hJ hd => ?_
            obtain ⟨g, (d52 : T.getD 52 undef = _), hg, hblk⟩ := hd ⟨2, .data⟩ (by simp) rfl _ rfl
            have hcv := conv_any (n := 64) (c := 64) hblk.byt rfl
            clear hag hd
            go_simp
            first | exact ⟨_, rfl, rfl⟩ | exact ⟨_, rfl, rfl, hJ, grefl _⟩
          · refine RStep.of rfl fun T W hag hJ hd => ?_
            have e7 : T.getD 7 undef = _ := (agree_at hag 7 (by kernel_rfl)).trans rfl
            have d50 : T.getD 50 undef = _ := hd ⟨0, .data⟩ (by simp) rfl _ rfl
            clear hag hd
            go_simp
            first | exact ⟨_, rfl, rfl⟩ | exact ⟨_, rfl, rfl, hJ, grefl _⟩
          · refine RStep.of rfl fun T W hag hJ hd => ?_
            have d54 : T.getD 54 undef = _ := hd ⟨4, .data⟩ (by simp) rfl _ rfl
            have d51 : T.getD 51 undef = _ := hd ⟨1, .data⟩ (by simp) rfl _ rfl
            clear hag hd
            go_simp
            first | exact ⟨_, rfl, rfl⟩ | exact ⟨_, rfl, rfl, hJ, grefl _⟩
          · refine RLast.of rfl fun T W hag hJ hd => ?_
            have d55 : T.getD 55 undef = _ := hd 5 _ (by simp) rfl
            have d53 : T.getD 53 undef = _ := hd 3 _ (by simp) rfl
            have hS := HS.out.below hJ
            have hM := HM.out.below hJ
            have hD := HDP.out.below hJ (fun k hk => Or.inl hk)
            have hk8 : kq * 4 + kr < 8 := by omega
            obtain ⟨u7, hu7⟩ : ∃ v, W.cell? ⟨gs, kq * 4 + kr, none⟩ = some v := by rw [hS.cell]; exact upto_at _ _ zS hk8 (by omega)
            have hf7 : W.frozen? ⟨gs, kq * 4 + kr, none⟩ = false := hS.free _
            have ht : Touch (fun x => x = gs) W (W.setCell ⟨gs, kq * 4 + kr, none⟩ (.string zS)) := (Touch.refl (fun x => x = gs) W).setCell (p := ⟨gs, kq * 4 + kr, none⟩) rfl _
            have hM2 := hM.strs hS (by have := HG.out; omega) ht
            have hS2 : Strs (W.setCell ⟨gs, kq * 4 + kr, none⟩ (.string zS)) gs (upto (kq * 4 + kr + 1) zS) := by
              have := hS.set (kq * 4 + kr) (.string zS); rwa [upto_set _ zS hk8] at this
            have hD2 := hD.touch (ht.mono' (G := P) fun x hx => by rw [hx]; exact HP.out.s) HP.out.new
            have HX := Lib.hid (And.intro hD2 (And.intro hS2 hM2))
            have HAG := Lib.hid hag
            clear hag hd hS hM hD ht hM2 hS2 hD2
            go_simp
            obtain ⟨f, hf, hT⟩ := agree_fn HAG.out
            clear HAG hf
            generalize World.setCell W ⟨gs, kq * 4 + kr, none⟩ (.string zS) = W2 at *
            rw [hT]
            clear hT d55 d53 hu7 hf7
            simp only [List.filterMap_cons, List.filterMap_nil, List.foldl_cons, List.foldl_nil, List.setIfInBounds_toArray, List.set_cons_succ, List.set_cons_zero]
            obtain ⟨hD2, hS2, hM2⟩ := HX.out
            have hc7 : W2.cell? ⟨gs, kq * 4 + kr, none⟩ = some (.string zS) := by
              rw [hS2.cell]; unfold upto; rw [List.getElem?_append_left (by simp), List.getElem?_replicate, if_pos (by omega)]
            have hk8 : kq * 4 + kr < 8 := by omega
            obtain ⟨⟨v8, hv8⟩, hf8⟩ := hM2.any hk8
            have m0 := (show (W2.drew).cell? ⟨gs, kq * 4 + kr, none⟩ = some (.string zS) from hc7)
            have m1 := fun (o : Obj) => (show ((W2.alloc o).drew).cell? ⟨gs, kq * 4 + kr, none⟩ = some (.string zS) from keepA hc7 o)
            have m2 := fun (o : Obj) => (show ((W2.alloc o).drew).cell? ⟨gm, kq * 4 + kr, none⟩ = some v8 from keepA hv8 o)
            have m3 := fun (o : Obj) => (show ((W2.alloc o).drew).frozen? ⟨gm, kq * 4 + kr, none⟩ = false from by
              show (W2.alloc o).frozen? _ = false
              rw [((Below.refl W2.heap.size W2).alloc (Nat.le_refl _) o).frozen hM2.lt]; exact hf8)
            have m4 := (show (Instr.mapUpdate 48 (.map (some W2.heap.size)) (.string zS) (.bool true)).run Try.prog ((W2.alloc (.map #[] 0)).drew) = .ok () ((W2.alloc (oneM z1)).drew) from insert_new (W2.drew) z1 (by decide))
            have m5 : (Instr.makeMap 48 none).run Try.prog W2.drew = .ok (.map (some W2.heap.size)) ((W2.alloc (.map #[] 0)).drew) := run_makeMap _ _
            obtain ⟨n1, n2', n3, n4⟩ := new_map (S' := fun _ => [z1]) (Done' := fun j => j < kq * 4 + (kr + 1)) (x := z1) hD2 HP.out hM2 hk8 z1len (Nat.le_refl _) rfl (fun _ _ _ => rfl) (fun k _ h => by omega)
            have n5 := n4 gs _ hS2 (by have := HG.out; omega)
            have HX2 := Lib.hid (And.intro n1 (And.intro n2' (And.intro n5 n3)))
            clear hD2 hS2 hM2 hc7 hv8 hf8 n1 n2' n3 n4 n5
            go_upto_region 17 with fail
            go_region
            generalize W2.heap.size = b9 at *
            generalize ((W2.alloc (oneM z1)).setCell ⟨gm, kq * 4 + kr, none⟩ (.map (some b9))).drew = W3 at *
            clear m0 m1 m2 m3 m4 m5
            go_wp2_with fail
            go_roundw
            case rel => exact ⟨kr + 1, _, by go_num, by omega, HX2.out.1, HX2.out.2.1, HX2.out.2.2.1, HX2.out.2.2.2⟩
            case measure => simp [intOf]; omega
        · obtain rfl : kr = 4 := by omega
          have hge4 : ¬ ((4 : Int) < 4) := by omega
          go_wp2_with fail
          go_roundw
          case rel => exact ⟨kq + 1, P, by go_num, by omega, HDP.out, HP.out, by rw [show (kq + 1) * 4 = kq * 4 + 4 by omega]; exact HS.out, HM.out.weak (fun _ h => h) (Nat.le_refl _) (fun j h => by omega)⟩
          case measure => simp [intOf]; omega
    · obtain rfl : kq = 2 := by omega
      have hge2 : ¬ ((2 : Int) < 2) := by omega
      have HX8 : Hid (Strs w4 gs (upto 8 zS)) := HS.out
      have HRG := Lib.hid (fun C : Obj => (show (w4.alloc C).rangeAt gs 0 (upto 8 zS) from fun j v hj => by
        rw [(HX8.out.below ((Below.refl w4.heap.size w4).alloc (Nat.le_refl _) C)).cell, Nat.zero_add]; exact hj))
      have HRG0 : Hid (w4.rangeAt gs 0 (upto 8 zS)) := Lib.hid (fun j v hj => by
        rw [HX8.out.cell, Nat.zero_add]; exact hj)
      have HTH := Lib.hid (fun (C : Array Value) (h : C.size = 8) => new_there w4 C h)
      have HL8 : Hid ((upto 8 zS).length = 8) := upto_length 8 zS (by omega)
      have HON := Lib.hid (show ∀ v ∈ upto 8 zS, v.oneCell' = true from fun v hv => by
        unfold upto at hv; rcases List.mem_append.1 hv with h | h <;> (rw [(List.mem_replicate.1 h).2]; rfl))
      have HST := Lib.hid (fun (C : Array Value) (h : C.size = 8) => BInv.start HDP.out HP.out HX8.out (HM.out.weak (fun _ h => h) (Nat.le_refl 1) (fun j (h : j < 8) => (by omega : j < 2 * 4))) C h)
      have hgs : gs < w4.heap.size := room_lt HX8.out
      have hgm : gm < w4.heap.size := HM.out.lt
      have HLT := Lib.hid (And.intro hgs hgm)
      clear hgs hgm
      generalize upto 8 zS = X8 at *
      have HSS : Hid (X8.toArray.size = 8) := Lib.hid (by rw [List.size_toArray]; exact HL8.out)
      go_wp2_with (first | (with_reducible refine wpList_load_mid rfl 47 (.tmp 7) rfl gs 0 rfl X8 _ HRG0.out Try.underlying47 rfl (by rw [HL8.out]; exact size24) ?_) | (with_reducible refine wpList_load_mid rfl 47 (.tmp 7) rfl gs 0 rfl X8 _ (HRG.out _) Try.underlying47 rfl (by rw [HL8.out]; exact size24) ?_) | (with_reducible refine wpList_store_mid rfl 47 (.tmp 11) (.tmp 67) rfl w4.heap.size 0 X8.toArray rfl rfl (by rw [HSS.out]; exact HTH.out _ rfl) (by rw [HSS.out]; exact size24) (all_oneCell_toArray HON.out) ?_))
      generalize hW6 : World.setCells _ w4.heap.size 0 X8 = W6
      have hst : BInv w W6 q gs gm w4.heap.size 0 (DM.make [4, 4]) (fun _ => [fullV []]) (fun x => P x ∨ x = w4.heap.size) := by rw [← hW6]; exact HST.out _ rfl
      have HGN : Hid (gs < w4.heap.size ∧ gm < w4.heap.size) := HLT.out
      have HI0 := Lib.hid hst
      clear hW6 hst HST HSS HON HL8 HTH HRG0 HRG HX8 HLT HDP HP HS HM
      generalize w4.heap.size = gn at *
      clear w4
      go_loopw [12] (fun i12 wr => ∃ (k : Nat) (m : DM) (S : Nat → List (List Int)) (P : Nat → Prop), i12 = .int .i64 k ∧ k ≤ n ∧ Hid (BInv w wr q gs gm gn k m S P)) (fun i _ => n - (intOf i).toNat)
      case atStart => exact ⟨0, _, _, _, rfl, Nat.zero_le _, HI0.out⟩
      case round =>
        obtain ⟨w5, rfl⟩ : ∃ w5, w5 = wr := ⟨wr, rfl⟩
        obtain ⟨k, m, S, P, rfl, hk, HI⟩ := hrel
        clear HI0
        by_cases hlt : k < n
        · obtain ⟨d, hdk⟩ : ∃ d, l0[k]? = some d := ⟨_, List.getElem?_eq_getElem (by rw [HN.out]; exact hlt)⟩
          obtain ⟨a, rfl, hat⟩ := (HY.out.keep (HI.out.dev.bel)) k d hdk
          have HAT := Lib.hid hat
          have HOK := Lib.hid (HBO.out d (List.mem_of_getElem? hdk))
          obtain ⟨r, hr, hbr⟩ := and1_nat d.r
          obtain ⟨i, hi, hbi⟩ := and3_nat d.i
          have c1 := fun q : Nat => (show (w5.drewN q).cell? _ = _ from hat.c1)
          have c2 := fun q : Nat => (show (w5.drewN q).cell? _ = _ from hat.c2)
          have hkk : (k : Int) < n := by omega
          have hr2 : (r : Int) < 2 := by omega
          have hi2 : (i : Int) < 4 := by omega
          clear hat hdk
          go_wp2_with fail
          go_quiet (fail)
          have hb5 : Below w5.heap.size w5 (w5.drewN nq) := bdn (Below.refl _ _) nq
          have HI5 := Lib.hid (HI.out.below hb5 P (fun _ h => h) (fun _ h => Or.inl h))
          have HA5 := Lib.hid (HAT.out.keep hb5)
          clear hb5 c1 c2 HI HAT
          generalize w5.drewN nq = w6 at *
          have c0 := HA5.out.c0
          generalize hd : d.k = kind at *
          clear hd
          cases hkd : (kind.tmod 7 == 6)
          · have hkd2 : ¬ (kind.tmod 7 = 6) := by simpa using hkd
            have c4 := HA5.out.c4
            have hfull := full_any d.A d.b d.c w6 HOK.out.b HA5.out.b (by have := HOK.out.bl; have := HOK.out.bc; omega)
            have HF := Lib.hid hfull
            have HFOK := Lib.hid (fullV_ok HOK.out.b)
            clear hfull
            generalize fullV d.b = fb at *
            generalize d.b.length = bl at *
            go_wp2_with fail
            refine HF.out.mono ?_
            rintro e w7 ⟨⟨g, rfl, hg, hblk⟩, hb7⟩
            have hgl := room_lt hblk
            have hgn0 : ¬ g = gn := fun e => by
              have h1 := HI5.out.sn.below hb7
              unfold Strs at h1
              rw [← e, hblk] at h1
              injection h1 with h1
              injection h1 with _ h1 _
              exact absurd h1 (by decide)
            have HGN0 := Lib.hid hgn0
            clear hgn0
            have HI7 := Lib.hid (HI5.out.below hb7 (fun x => P x ∨ x = g) (fun _ h => Or.inl h) (fun x h => h.imp id (fun e => by omega)))
            have hcall := HI7.out.dev.write64 r i (by constructor <;> omega) (by constructor <;> omega) g fb HFOK.out hblk (by have := HI7.out.k2.done; omega)
            rw [HI7.out.k2.hasB hr hi, HI7.out.k2.doW hr hi HFOK.out] at hcall
            have HCALL := Lib.hid hcall
            have HBK := Lib.hid hblk
            clear hcall hblk hg hb7 hgl HF c4 c0 HA5 HI5
            go_wp2_with fail
            refine HCALL.out.mono ?_
            rintro e w8 ⟨rfl, hd8, hs8⟩
            have hbk8 : Blk64 w8 g fb := (hs8.blk g (Or.inr rfl)).trans HBK.out
            have hs8' : Same (fun x => P x ∨ x = g) w7 w8.drew := ⟨hs8.blk, hs8.size⟩
            have hd8' : DS w w8.drew (fun x => P x ∨ x = g) q (m.write r i fb) := hd8.below (bdn (Below.refl _ _) 1) (fun x h => Or.inl h)
            obtain ⟨⟨u0, hu0⟩, hf0, hst⟩ := HI7.out.stored hr hi fb HFOK.out hd8' hs8' (by have := HGN.out; omega) (by have := HGN.out; omega)
            have hcv := conv_any (n := 64) (c := 64) hbk8.byt HFOK.out.1
            have hcv' : (convert 31 9 (.slice (some ⟨g, 0, none⟩) 64 64)).run Try.prog w8.drew = .ok (.string (strOfNums fb)) w8.drew := conv_any (n := 64) (c := 64) (show Blk64 w8.drew g fb from hbk8).byt HFOK.out.1
            have HST := Lib.hid hst
            have HU0 := Lib.hid hu0
            have HF0 := Lib.hid hf0
            have HBK8 : Hid (Blk64 w8.drew g fb) := hbk8
            clear hbk8 hs8' hd8' hd8 hs8 hst hu0 hf0 HCALL HBK
            go_upto_region 34 with fail
            go_still_tail 6, (by kernel_rfl)
            change wpList _ _ _ _ _ w8.drew
            clear hcv hcv'
            have hu0 := HU0.out
            have hf0 := HF0.out
            clear HU0 HF0
            generalize w8.drew = w9 at *
            have hst2 : K2 (m.write r i fb) (k + 1) ∧ DS w (w9.setCell ⟨gn, r * 4 + i, none⟩ (.string (strOfNums fb))) (fun x => P x ∨ x = g) q (m.write r i fb) ∧ Strs (w9.setCell ⟨gn, r * 4 + i, none⟩ (.string (strOfNums fb))) gs (two (sureRow (m.write r i fb))) ∧ Strs (w9.setCell ⟨gn, r * 4 + i, none⟩ (.string (strOfNums fb))) gn (two (nowRow (m.write r i fb))) ∧ Mays (w9.setCell ⟨gn, r * 4 + i, none⟩ (.string (strOfNums fb))) gm (fun x => P x ∨ x = g) (k + 1) S (fun _ => True) := HST.out
            have hbk9 : Blk64 (w9.setCell ⟨gn, r * 4 + i, none⟩ (.string (strOfNums fb))) g fb := (((Touch.refl (fun x => x = gn) w9).setCell (p := ⟨gn, r * 4 + i, none⟩) rfl _).block g (room_lt HBK8.out) HGN0.out).trans HBK8.out
            have HS2 := Lib.hid hst2
            have HB9 := Lib.hid hbk9
            clear hst2 hbk9 HST HBK8
            go_upto_region 35 with fail
            clear hu0 hf0
            generalize w9.setCell ⟨gn, r * 4 + i, none⟩ (.string (strOfNums fb)) = wA at *
            have hst3 : K2 (m.write r i fb) (k + 1) ∧ DS w wA.drew (fun x => P x ∨ x = g) q (m.write r i fb) ∧ Strs wA.drew gs (two (sureRow (m.write r i fb))) ∧ Strs wA.drew gn (two (nowRow (m.write r i fb))) ∧ Mays wA.drew gm (fun x => P x ∨ x = g) (k + 1) S (fun _ => True) :=
              ⟨HS2.out.1, HS2.out.2.1.below (bdn (Below.refl _ _) 1) (fun x h => Or.inl h), HS2.out.2.2.1, HS2.out.2.2.2.1, HS2.out.2.2.2.2.keep rfl (fun _ _ _ => rfl)⟩
            obtain ⟨bm, W3, hc, hrun, hI⟩ := HI7.out.added hr hi HFOK.out (by omega) hst3
            have hc' : wA.cell? ⟨gm, r * 4 + i, none⟩ = some (.map (some bm)) := hc
            have hcv := conv_any (n := 64) (c := 64) HB9.out.byt HFOK.out.1
            have hcv' : (convert 31 9 (.slice (some ⟨g, 0, none⟩) 64 64)).run Try.prog wA.drew = .ok (.string (strOfNums fb)) wA.drew := conv_any (n := 64) (c := 64) (show Blk64 wA.drew g fb from HB9.out).byt HFOK.out.1
            have HI9 := Lib.hid hI
            clear hst3 hI HS2 HB9
            go_still_tail 7, (by kernel_rfl)
            change wpList _ _ _ _ _ wA.drew
            clear hcv hcv' hc'
            generalize wA.drew = wB at *
            go_wp2_with fail
            go_roundw
            case rel => exact ⟨k + 1, _, _, _, by go_num, by omega, HI9.out⟩
            case measure => simp [intOf]; omega
          · have hkd2 : kind.tmod 7 = 6 := by simpa using hkd
            have hbar := HI5.out.dev.barrier r (by constructor <;> omega) (by have := HI5.out.k2.done; omega)
            rw [HI5.out.k2.hasR hr, HI5.out.k2.doB hr] at hbar
            have HBAR := Lib.hid hbar
            clear hbar
            go_wp2_with fail
            refine HBAR.out.mono ?_
            rintro e w7 ⟨rfl, hd7, hs7⟩
            obtain ⟨hrg, hth, hl4, hbb⟩ := HI5.out.barred hr hd7 hs7 (by have := HGN.out; omega) (by have := HG.out; omega)
            have HRG := Lib.hid hrg
            have HTH := Lib.hid hth
            have HL4 := Lib.hid hl4
            have HBB := Lib.hid hbb
            clear hrg hth hl4 hbb hd7 hs7 HBAR c0 HA5
            go_wp2_with (first | (with_reducible refine wpList_load_mid rfl 46 (.tmp 99) rfl gn (r * 4) rfl (sv (nowRow m r)) _ HRG.out Try.underlying46 rfl (by rw [HL4.out]; exact size4) ?_) | (with_reducible refine wpList_store_mid rfl 46 (.tmp 101) (.tmp 100) rfl gs (r * 4) (sv (nowRow m r)).toArray rfl rfl (by rw [List.size_toArray, HL4.out]; exact HTH.out) (by rw [List.size_toArray, HL4.out]; exact size4) (all_oneCell_toArray (sv_one _)) ?_))
            generalize hW8 : World.setCells w7 gs (r * 4) _ = W8
            have HB8 : Hid (BBar w W8 q gs gm gn k m S P r 0) := by
              have := HBB.out; rw [← hW8]; exact this
            clear hW8 HBB HRG HTH HL4 HI5
            go_loopw [15] (fun i15 wr => ∃ (j : Nat) (P : Nat → Prop), i15 = .int .i64 j ∧ j ≤ 4 ∧ Hid (BBar w wr q gs gm gn k m S P r j)) (fun i _ => 4 - (intOf i).toNat)
            case atStart => exact ⟨0, _, rfl, by omega, HB8.out⟩
            case round =>
              obtain ⟨w9, rfl⟩ : ∃ w9, w9 = wr := ⟨wr, rfl⟩
              obtain ⟨j, P9, rfl, hj, HB9⟩ := hrel
              clear HB8
              by_cases hj4 : j < 4
              · have hj4i : (j : Int) < 4 := by omega
                obtain ⟨b, hb1, hb3, hc7, hnx⟩ := HB9.out.next hr hj4 (by have := HG.out; omega) (by have := HGN.out; omega)
                obtain ⟨⟨v8, hv8⟩, hf8⟩ := HB9.out.maps.any (j := r * 4 + j) (by omega)
                have hgml := HB9.out.maps.lt
                have m0 := (show (w9.drew).cell? ⟨gs, r * 4 + j, none⟩ = some (.string (strOfNums b)) from hc7)
                have m1 := fun (o : Obj) => (show ((w9.alloc o).drew).cell? ⟨gs, r * 4 + j, none⟩ = some (.string (strOfNums b)) from keepA hc7 o)
                have m2 := fun (o : Obj) => (show ((w9.alloc o).drew).cell? ⟨gm, r * 4 + j, none⟩ = some v8 from keepA hv8 o)
                have m3 := fun (o : Obj) => (show ((w9.alloc o).drew).frozen? ⟨gm, r * 4 + j, none⟩ = false from by
                  show (w9.alloc o).frozen? _ = false
                  rw [((Below.refl w9.heap.size w9).alloc (Nat.le_refl _) o).frozen hgml]; exact hf8)
                have m4 := (show (Instr.mapUpdate 48 (.map (some w9.heap.size)) (.string (strOfNums b)) (.bool true)).run Try.prog ((w9.alloc (.map #[] 0)).drew) = .ok () ((w9.alloc (oneM b)).drew) from insert_new (w9.drew) b (by rw [hb3.1]; omega))
                have m5 : (Instr.makeMap 48 none).run Try.prog w9.drew = .ok (.map (some w9.heap.size)) ((w9.alloc (.map #[] 0)).drew) := run_makeMap _ _
                have HNX := Lib.hid hnx
                clear hb1 hb3 hc7 hnx hv8 hf8 hgml
                go_upto_region 30 with fail
                go_region
                generalize w9.heap.size = b9 at *
                generalize ((w9.alloc (oneM b)).setCell ⟨gm, r * 4 + j, none⟩ (.map (some b9))).drew = W10 at *
                clear m0 m1 m2 m3 m4 m5 HB9
                go_wp2_with fail
                go_roundw
                case rel => exact ⟨j + 1, _, by go_num, by omega, HNX.out⟩
                case measure => simp [intOf]; omega
              · obtain rfl : j = 4 := by omega
                have hge4 : ¬ ((4 : Int) < 4) := by omega
                have HDN := Lib.hid (HB9.out.done hr)
                go_wp2_with fail
                go_roundw
                case rel => exact ⟨k + 1, _, _, _, by go_num, by omega, HDN.out⟩
                case measure => simp [intOf]; omega
        · obtain rfl : k = n := by omega
          have hgen : ¬ ((k : Int) < k) := by omega
          have hcr := HI.out.dev.crash A1 l1 d1 (fun F hF _ => HY2.out.older HI.out.dev.bel F hF) (by rw [HN2.out]; omega) (by have := HI.out.k2.done; omega)
          rw [HN2.out] at hcr
          have HCR := Lib.hid hcr
          clear hcr
          go_wp2_with fail
          refine HCR.out.mono ?_
          rintro e w6 ⟨rfl, hdC, hsC⟩
          have hmp := HI.out.maps.same hsC HI.out.prot.m
          have hdm : dims (m.crash l1) = [4, 4] := (dims_crash HI.out.k2.ok l1).trans HI.out.k2.dims
          have HMEM := Lib.hid (fun (r i : Nat) (b : List Int) (hr : r < 2) (hi : i < 4) (h : (nowRow (m.crash l1) r)[i]? = some b) => HI.out.may.crash HI.out.k2 l1 hr hi h)
          have HDC := Lib.hid hdC
          have HMC := Lib.hid hmp
          have HDM := Lib.hid hdm
          clear hdC hsC hmp hdm HCR HI
          generalize m.crash l1 = m4 at *
          go_wp2_with fail
          go_loopw [17] (fun i wx => ∃ r : Nat, i = .int .i64 r ∧ r ≤ 2 ∧ Hid (DS w wx P q m4) ∧ Hid (Mays wx gm P (k + 1) S (fun _ => True))) (fun i _ => 2 - (intOf i).toNat)
          case atStart => exact ⟨0, rfl, by omega, HDC.out, HMC.out⟩
          case round =>
            obtain ⟨w7, rfl⟩ : ∃ w7, w7 = wr := ⟨wr, rfl⟩
            obtain ⟨r, rfl, hr, HDR, HMR⟩ := hrel
            clear HDC HMC
            by_cases hr2 : r < 2
            · have hr2i : (r : Int) < 2 := by omega
              go_wp2_with fail
              go_loopw [18] (fun i wx => ∃ j : Nat, i = .int .i64 j ∧ j ≤ 4 ∧ Hid (DS w wx P q m4) ∧ Hid (Mays wx gm P (k + 1) S (fun _ => True))) (fun i _ => 4 - (intOf i).toNat)
              case atStart => exact ⟨0, rfl, by omega, HDR.out, HMR.out⟩
              case round =>
                obtain ⟨w8, rfl⟩ : ∃ w8, w8 = wr := ⟨wr, rfl⟩
                obtain ⟨j, rfl, hj, HDJ, HMJ⟩ := hrel
                clear HDR HMR
                by_cases hj4 : j < 4
                · have hj4i : (j : Int) < 4 := by omega
                  obtain ⟨b, hb1, hb2, hb3⟩ := get_four HDJ.out.ok HDM.out hr2 hj4
                  have hrd := HDJ.out.readAt r j (by constructor <;> omega) (by constructor <;> omega) (hasB_four HDM.out hr2 hj4) hb2
                  have HRD := Lib.hid hrd
                  have HB1 := Lib.hid (HMEM.out r j b hr2 hj4 hb1)
                  have HB3 := Lib.hid hb3
                  clear hrd hb1 hb2 hb3
                  go_wp2_with fail
                  refine HRD.out.mono ?_
                  rintro e w9 ⟨⟨g, rfl, hg1, hg2, hgc⟩, hd9, hbb⟩
                  have hM9 := HMJ.out.below hbb
                  obtain ⟨bm, hcm, _, hhas⟩ := hM9.cell (j := r * 4 + j) (by omega) trivial
                  have hcv := fun qq : Nat => conv_any (n := 64) (c := 64) (w := w9.drewN qq) (byt_blk (show (w9.drewN qq).heap[g]? = _ from hgc) (by simp)) HB3.out.1
                  have hcm' := fun qq : Nat => (show (w9.drewN qq).cell? ⟨gm, r * 4 + j, none⟩ = some (.map (some bm)) from hcm)
                  have hlk := fun qq : Nat => (hhas.keep (W' := w9.drewN qq) rfl).look HB1.out (by rw [HB3.out.1]; omega)
                  have HM9 := Lib.hid hM9
                  have HD9 := Lib.hid hd9
                  clear hg1 hg2 hgc hd9 hbb hM9 hcm hhas HRD
                  go_wp2_with fail
                  go_quiet (fail)
                  have hb9 : Below w9.heap.size w9 (w9.drewN nq) := bdn (Below.refl _ _) nq
                  have HD10 := Lib.hid (HD9.out.below hb9 (fun k hk => Or.inl hk))
                  have HM10 := Lib.hid (HM9.out.below hb9)
                  clear hb9 hcv hcm' hlk
                  generalize w9.drewN nq = w10 at *
                  go_wp2
                  go_roundw
                  case rel => exact ⟨j + 1, by go_num, by omega, HD10.out, HM10.out⟩
                  case measure => simp [intOf]; omega
                · obtain rfl : j = 4 := by omega
                  have hge4 : ¬ ((4 : Int) < 4) := by omega
                  go_wp2_with fail
                  go_roundw
                  case rel => exact ⟨r + 1, by go_num, by omega, HDJ.out, HMJ.out⟩
                  case measure => simp [intOf]; omega
            · obtain rfl : r = 2 := by omega
              have hge2' : ¬ ((2 : Int) < 2) := by omega
              go_wp2
              go_ret
              exact ⟨rfl, HDR.out.bel⟩

set_option maxRecDepth 100000 in
theorem lifted (os : Os) (started : os.Started) (H : Type) (enc : TypeId × Value → H) :
    ReturnsInHanded {} Try.checked os 4 .any (Rows.devBarrierSpec.pre6 enc Try.prog Try.f4 Rows.devBarrierRow.domain false) (Rows.devBarrierSpec.post enc Try.prog Try.f4 false true false false) := by
  refine returnsInHanded_of_change (C := Try.checked) own started (by kernel_rfl) Try.func4
    (ChangeSpec.witness6 (enc := enc) (C := Try.checked) false ⟨#[], #[.slice none 0 0, .slice none 0 0], []⟩ 8 (by kernel_rfl) (by kernel_rfl) (by kernel_rfl) (by kernel_rfl)) ?_
  intro W base args ds gs before hval0 hW hcnd _
  have hval : ∀ (j : Nat) t v, Try.f4.params[j]? = some t → args[j]? = some v → Value.okWide Try.prog W .any base t v := hval0
  have hW' := hW
  obtain ⟨p, q, hA0, hV, rfl, hfz, hnd⟩ := hW
  have hA : DataW.TrodAll enc Try.prog W 0 (fun _ => true) true Try.f4.params.toList args.toList ds p := hA0
  rw [Try.params4] at hA hval
  obtain ⟨v0, vs0, d0, ds0, p0, q0, hargs, rfl, rfl, h0, r0⟩ := trodAll_cons hA
  obtain ⟨v1, vs1, d1, ds1, p1, q1, rfl, rfl, rfl, h1, r1⟩ := trodAll_cons r0
  obtain ⟨rfl, rfl, rfl⟩ := trodAll_nil r1
  obtain rfl : args = #[v0, v1] := by cases args; simp_all
  obtain ⟨rfl, rfl⟩ := trodVars_none hV
  obtain ⟨a0, len0, cap0, rfl⟩ := okWide_slice Try.underlying23 (hval 0 23 v0 rfl rfl)
  obtain ⟨a1, len1, cap1, rfl⟩ := okWide_slice Try.underlying32 (hval 1 32 v1 rfl rfl)
  clear hA0 hval0
  simp only [List.append_nil] at hW'
  have hlt0 : ∀ y ∈ p0, y.block < W.heap.size := fun y hy => by simpa using hW'.lt y (by simp [hy])
  have harg0 : ∀ W' : World, Below W.heap.size W W' → DataW.Trod enc Try.prog W' 0 (fun b => decide (b < W.heap.size)) true 23 (.slice a0 len0 cap0) d0 p0 :=
    fun W' hn => Below.trod laidOut (by kernel_rfl) (of_decide_eq_true (by kernel_rfl)) h0 hn (fun y hy => hlt0 y hy)
  have hlt1 : ∀ y ∈ p1, y.block < W.heap.size := fun y hy => by simpa using hW'.lt y (by simp [hy])
  have harg1 : ∀ W' : World, Below W.heap.size W W' → DataW.Trod enc Try.prog W' 0 (fun b => decide (b < W.heap.size)) true 32 (.slice a1 len1 cap1) d1 p1 :=
    fun W' hn => Below.trod laidOut (by kernel_rfl) (of_decide_eq_true (by kernel_rfl)) h1 hn (fun y hy => hlt1 y hy)
  obtain ⟨fu0, hf0⟩ := h0
  obtain ⟨A0, l0, c0, e0, hd0, hm0, hy0, hB0⟩ := open_deeds hf0
  simp [Value.cells] at e0
  obtain ⟨rfl, rfl, rfl⟩ := e0
  obtain ⟨fu1, hf1⟩ := h1
  obtain ⟨A1, l1, c1, e1, hd1, hm1, hy1, hB1⟩ := open_texts hf1
  simp [Value.cells] at e1
  obtain ⟨rfl, rfl, rfl⟩ := e1
  refine (walk a0 l0 cap0 a1 l1 cap1 W hd0 hm0 hB0 hy0 hd1 hm1 hB1 hy1).mono fun e W' ⟨he, bel⟩ => ?_
  subst he
  exact ⟨_, rfl, _, _, _, [], _, [], hW', (trodAll_cons_mk (shut_bool Try.underlying4 _) trodAll_mk0), (trodAll_cons_mk (harg0 _ bel) (trodAll_cons_mk (harg1 _ bel) trodAll_mk0)), rfl, bel.frame _, fun h => by cases h⟩

theorem over : Rows.devBarrierRow.holds Try.pinned (OpenSpec.ofChange Rows.devBarrierSpec) :=
  OpenClaim.holds_of_wide 4 Try.f4 rfl rfl rfl rfl rfl rfl rfl ⟨rfl, rfl, rfl, rfl, rfl⟩ rfl rfl rfl rfl rfl (by kernel_rfl) Try.func4 (by kernel_rfl)
    (of_decide_eq_true (by kernel_rfl)) (by unfold Func.isWrapper; first | (rw [if_pos (by decide +kernel)]; kernel_rfl) | (rw [if_neg (by decide +kernel)]; exact ⟨rfl, rfl⟩))
    (fun os started H enc _ => lifted os started H enc)

theorem proved : Rows.DevBarrierSaid :=
  over
#print axioms proved
end Go.Proofs.Ytdjegimpckeifaa.devBarrier
