/- Contract: begun, the opening test. -/
import Derived.Test.YtamnpblijdgdaaaNv
namespace Go.Proofs.Ytamnpblijdgdaaa
open Go.ChangeShapes Go.WideShapes Go.ChangeAt Go.RowKit
set_option linter.unusedVariables false
set_option maxRecDepth 100000
theorem no_epoch : epN (fun _ => none) 2 = (0, false) := by
  have h : ∀ k, anOk [] k = false := fun k => by
    unfold anOk
    rw [decide_eq_false (fun h => by have := h.1; simp at this)]; rfl
  show (if anOk [] 1 = true then _ else _) = _
  rw [h 1]
  show (if anOk [] 0 = true then _ else _) = _
  rw [h 0]
  rfl
theorem SV.dsP {w0 W : World} {P : Nat → Prop} {q : Nat} {m : DM} {hp rb : Nat} {v : VM} (h : SV w0 W P q m hp rb v) : DS w0 W P q m := h.ds
theorem rstI {P : Nat → Prop} {hp rb k : Nat} (h : P k) (h1 : k ≠ hp) (h2 : k ≠ rb) : Rst P hp rb k := ⟨h, h1, h2⟩
set_option maxHeartbeats 3200000 in
theorem begun9_any (w : World) : Calls Try.prog 10 #[] w fun e w' => e = .returned (.bool true) ∧ Below w.heap.size w w' := by
  have hm40 : mayV [40] = true := by decide
  obtain ⟨I1, I2, I3⟩ := new_idle (r := 0) (z := 40) (n := 8) (g := 16) hm40 rfl (by decide) (by omega)
  have HI := Lib.hid (And.intro I1 (And.intro I2 I3))
  have hfit := make_fit (r := 0) (z := 40) (N := 26) hm40 rfl (by decide)
  have HFIT := Lib.hid hfit
  clear I1 I2 I3 hfit
  go_enter Try.func10, Try.ntmps10
  go_wp2_with fail
  refine (new_at _ w.heap.size [40] 1 rfl hm40 (fun x hx => by simp at hx; subst hx; constructor <;> omega) _ (heap_alloc_new w _)).mono ?_
  rintro e w1 ⟨⟨q, F, rfl, hd, hF⟩, hb⟩
  have HD1 := Lib.hid (DS.made ((Below.refl w.heap.size w).alloc (Nat.le_refl _) _) hd hF hb)
  clear hd hF hb
  go_upto_region 3 with (refine wpList_storeS rfl (.tmp 3) (.tmp 16) rfl w1.heap.size rfl 8 16 2 rfl _ rfl (heap_alloc_new w1 _) ?_)
  have e3 := setRow_blk (D := shC 8 16 2) (heap_alloc_new w1 (Obj.cells #[.int .i64 0, .int .i64 0, .int .i64 0, .int .i64 0, .int .i64 0] 30))
  have hb2 : Below w1.heap.size w1 ((w1.alloc (Obj.cells #[.int .i64 0, .int .i64 0, .int .i64 0, .int .i64 0, .int .i64 0] 30)).setRow w1.heap.size (shC 8 16 2)) := below_setRow ((Below.refl _ _).alloc (Nat.le_refl _) _) (Nat.le_refl _) _
  obtain ⟨g3, hg3⟩ : ∃ g3, g3 = w1.heap.size := ⟨_, rfl⟩
  have hd2 := HD1.out.below (P' := fun k => k = g3) hb2 (fun k hk => Or.inr ⟨by omega, by rw [hk, hg3]; exact room_lt e3⟩)
  rw [← hg3] at e3 hd2 ⊢
  clear hg3
  clear hb2
  generalize (w1.alloc (Obj.cells #[.int .i64 0, .int .i64 0, .int .i64 0, .int .i64 0, .int .i64 0] 30)).setRow g3 (shC 8 16 2) = w2 at *
  simp only [Act.put]
  have HD2 := Lib.hid hd2
  have HE3 := Lib.hid e3
  have hyes : (rowV (DM.make [40]) (0 : Int) ((1 + 16 + 8 : Nat) : Int)).isSome = true := by
    obtain ⟨b, hb⟩ := HFIT.out.get (i := 25) (by omega)
    have h1 := HFIT.out.rV 25
    rw [hb] at h1
    rw [show (0 : Int) = ((0 : Nat) : Int) from rfl, show 1 + 16 + 8 = 25 from rfl, h1]; rfl
  have hmk := vmake_any HD2.out (0 : Int) (by constructor <;> omega) 8 16 2 (by omega) (by omega) hyes (by show (0 : Nat) + 8 ≤ 999000; omega)
  have HMK := Lib.hid hmk
  clear hyes hmk hd2 e3
  go_wp2_with (refine wpList_loadSw rfl (.tmp 3) rfl g3 rfl 8 16 2 HE3.out ?_)
  refine HMK.out.mono ?_
  rintro e w3 ⟨rfl, hd3, hs3⟩
  have HD3 := Lib.hid hd3
  have HE3b := Lib.hid ((hs3.blk g3 rfl).trans HE3.out)
  have hmt := HI.out.1.mtb_now
  have hdn := makeM_done (DM.make [40]) (0 : Int) 8 16
  have hmo := mount_mtb HD3.out (r := 0) (e := 1) (S0 := firstS 8) (Rs := []) hmt (by omega) (by omega) 2 (by simp) (by have : (DM.make [40]).done.length = 0 := rfl; omega)
  have htd := hmt.tied 2 (by omega) (by omega)
  have hns : (homeM (makeM (DM.make [40]) (0 : Int) 8 16) (mntV (makeM (DM.make [40]) (0 : Int) 8 16) 0 8 16 1 2 [])).stops = false := by rw [ns_home]; exact HI.out.2.2
  have hlv := (hmt.live htd (by omega) (ns_of hns)).1
  have hdn2 := homeM_done' (makeM (DM.make [40]) (0 : Int) 8 16) 0 8 16 1 2 []
  have HDN : Hid ((homeM (makeM (DM.make [40]) (0 : Int) 8 16) (mntV (makeM (DM.make [40]) (0 : Int) 8 16) 0 8 16 1 2 [])).done.length ≤ 900000) := by
    have : (DM.make [40]).done.length = 0 := rfl
    unfold Hid; omega
  have HMO := Lib.hid hmo
  have HLV := Lib.hid hlv
  have HNS := Lib.hid hns
  clear hd3 hs3 hmt hdn hmo htd hns hlv hdn2 HD2 HE3 HMK HFIT HI
  have hB8 : Hid ((homeV (mntV (makeM (DM.make [40]) (0 : Int) 8 16) 0 8 16 1 2 [])).ep = 2 ∧ (homeV (mntV (makeM (DM.make [40]) (0 : Int) 8 16) 0 8 16 1 2 [])).us = 0 ∧ (homeV (mntV (makeM (DM.make [40]) (0 : Int) 8 16) 0 8 16 1 2 [])).n = 8 ∧ (homeV (mntV (makeM (DM.make [40]) (0 : Int) 8 16) 0 8 16 1 2 [])).g = 16) := ⟨rfl, rfl, rfl, rfl⟩
  generalize homeV (mntV (makeM (DM.make [40]) (0 : Int) 8 16) 0 8 16 1 2 []) = v at *
  generalize homeM (makeM (DM.make [40]) (0 : Int) 8 16) (mntV (makeM (DM.make [40]) (0 : Int) 8 16) 0 8 16 1 2 []) = m at *
  go_wp2_with (refine wpList_loadS rfl (.tmp 3) rfl g3 rfl 8 16 2 HE3b.out ?_)
  refine HMO.out.mono ?_
  rintro e w4 ⟨hp, rb, rfl, hsv, hs4, hlo1, hlo2⟩
  have HE3c := Lib.hid ((hs4.blk g3 rfl).trans HE3b.out)
  have hg3l := room_lt HE3b.out
  have HSV := Lib.hid hsv
  have HNE : Hid (g3 ≠ hp ∧ g3 ≠ rb) := ⟨by omega, by omega⟩
  clear hsv hs4 hlo1 hlo2 hg3l HMO HE3b HD3
  go_upto_region 8 with fail
  go_wp2_with (first
    | (refine wpList_buildBk rfl (.const (.int .i64 4)) 4 rfl rfl ?_)
    | (refine wpList_buildW1 rfl (.const (.int .i64 1)) (.tmp 38) 1 4 rfl rfl rfl ?_)
    | (refine wpList_oneW rfl (.tmp 39) rfl yb yb_ok.len rfl ?_))
  have hb5 : Below w4.heap.size w4 (w4.alloc (Obj.cells (wrA yb) 55)) := (Below.refl _ _).alloc (Nat.le_refl _) _
  have hnew := heap_alloc_new w4 (Obj.cells (wrA yb) 55)
  have hsz := room_lt hnew
  generalize hw5 : w4.alloc (Obj.cells (wrA yb) 55) = w5 at *
  generalize hgs : w4.heap.size = gs at *
  have hsv5 := HSV.out.grow (by rw [hgs]; exact hb5) (Q := fun k => k = gs) (fun k hk => by rw [hgs]; exact ⟨by omega, by omega⟩)
  have hlp := HSV.out.ds.low _ HSV.out.ph
  have hlr := HSV.out.ds.low _ HSV.out.pr
  have hwr : WrsR w5 (Rst (fun k => (k = g3 ∨ k = hp ∨ k = rb) ∨ k = gs) hp rb) (some ⟨gs, 0, none⟩) [yb] := fun i x hi => by
    cases i with
    | zero => injection hi with hi; subst hi; exact ⟨_, rfl, wrAt_blk hnew, Or.inr rfl, by show gs ≠ hp; omega, by show gs ≠ rb; omega⟩
    | succ i => cases hi
  have he3d := kb (by rw [hgs]; exact hb5) HE3c.out
  obtain ⟨b1, b2, b3, b4⟩ := hB8.out
  have hok : ChOk v [yb] := ⟨yb_may, by unfold hasAllV hasV; simp [yb, b3]⟩
  have hti : ¬ Tight v [yb] := by unfold Tight; rw [b2, b4]; decide
  have hch := vchange_any hsv5 (some ⟨gs, 0, none⟩) [yb] 1 1 rfl (by omega) (by omega) yb_wrs hwr (by omega) (by omega) (by omega) (by have := HLV.out.sqg; omega) (by have := HDN.out; omega)
  rw [if_pos hok] at hch
  have hv2 : chV v [yb] = putV v [yb] := by unfold chV; rw [if_pos hok, if_neg hti]
  have hl8 : v.B.length = 8 := by rw [HLV.out.tied.vok.len, b3]
  have hgb : (chV v [yb]).B[1]? = some ⟨4, zBs, true⟩ := by
    rw [hv2]
    show (layB v.B [yb])[1]? = _
    show (if 0 ≤ yb.t ∧ yb.t < v.B.length then v.B.set yb.t.toNat ⟨yb.k, yb.bs, true⟩ else v.B)[1]? = _
    rw [if_pos ⟨by decide, by rw [hl8]; decide⟩]
    show (v.B.set 1 ⟨4, zBs, true⟩)[1]? = _
    rw [List.getElem?_set_self (by omega)]
  have HV2 : Hid ((chV v [yb]).ep = 2 ∧ (chV v [yb]).us = 2 ∧ (chV v [yb]).n = 8 ∧ (chV v [yb]).g = 16 ∧ (chV v [yb]).sq ≤ 17 ∧ (chV v [yb]).B[1]? = some ⟨4, zBs, true⟩) := by
    refine ⟨?_, ?_, ?_, ?_, ?_, hgb⟩ <;> rw [hv2]
    · exact b1
    · show v.us + 2 = 2; rw [b2]
    · exact b3
    · exact b4
    · show v.sq + 1 ≤ 17; have := HLV.out.sqg; omega
  have HCH := Lib.hid hch
  have hcd := chM_done m v [yb]
  have HDN2 : Hid ((chM m v [yb]).done.length ≤ 998000) := by
    have h1 := HDN.out
    unfold Hid; omega
  have HE3d := Lib.hid he3d
  have HNE2 : Hid (g3 ≠ gs) := by have := room_lt HE3c.out; unfold Hid; omega
  clear hb5 hnew hsz hsv5 hlp hlr hwr he3d b1 b2 b3 b4 hok hti hch hv2 hl8 hgb hcd HSV HE3c
  generalize chM m v [yb] = m2 at *
  generalize chV v [yb] = v2 at *
  refine HCH.out.mono ?_
  rintro e w6 ⟨rfl, hs6, hm6⟩
  have HS6 := Lib.hid hs6
  have HE6 := Lib.hid ((hm6.blk g3 ⟨Or.inl (Or.inl rfl), HNE.out.1, HNE.out.2⟩).trans HE3d.out)
  have hget := vget_any hs6.at_ 1 (by constructor <;> omega)
  have hgi := getB_in (v := v2) (i := 1) hs6.at_.len HV2.out.2.2.2.2.2
  rw [show ((1 : Nat) : Int) = 1 from rfl] at hgi
  rw [hgi.1, hgi.2] at hget
  have HGET := Lib.hid hget
  clear hs6 hm6 hget hgi HCH HE3d
  go_wp2_with fail
  refine HGET.out.mono ?_
  rintro e w7 ⟨rfl, hb7⟩
  have HS7 := Lib.hid (HS6.out.below hb7)
  have HE7 := Lib.hid (kb hb7 HE6.out)
  clear hb7 HGET HS6 HE6
  go_upto_region 10 with (first | (refine wpList_allocB rfl rfl ?_) | (refine wpList_storeB rfl (.tmp 7) (.tmp 45) rfl w7.heap.size rfl 4 0 zBs zBs rfl zBs_len zBs_len (heap_alloc_new w7 _) ?_))
  have hb8 : Below w7.heap.size w7 ((w7.alloc (Obj.cells (blkA 0 zBs) 46)).setRow w7.heap.size (blkA 4 zBs)) := below_setRow ((Below.refl _ _).alloc (Nat.le_refl _) _) (Nat.le_refl _) _
  have e8 := setRow_blk (D := blkA 4 zBs) (heap_alloc_new w7 (Obj.cells (blkA 0 zBs) 46))
  have HS8 := Lib.hid (HS7.out.below hb8)
  have HE8 := Lib.hid (kb hb8 HE7.out)
  generalize (w7.alloc (Obj.cells (blkA 0 zBs) 46)).setRow w7.heap.size (blkA 4 zBs) = w8 at *
  generalize w7.heap.size = g7 at *
  have HEB := Lib.hid e8
  clear hb8 e8 HS7 HE7
  try simp only [Act.put]
  go_wp2_with (refine wpList_loadS rfl (.tmp 3) rfl g3 rfl 8 16 2 HE8.out ?_)
  refine (vmount_no (Rd.none w8 0) (fun i b hb => by cases hb) 8 16 2 (by omega) (by omega) 0 no_epoch).mono ?_
  rintro e w9 ⟨rfl, hb9⟩
  have HS9 := Lib.hid (HS8.out.below hb9)
  have e9 := kb hb9 HEB.out
  clear hb9 HS8 HEB HE8
  obtain ⟨a1, a2, a3, a4, a5, a6⟩ := HV2.out
  have hep := vepoch_any HS9.out.at_
  have hrm := vroom_any HS9.out.at_ (by omega)
  have hbl := vblocks_any HS9.out.at_
  rw [a1] at hep
  rw [a2, a4] at hrm
  rw [a3] at hbl
  have HEP := Lib.hid hep
  have HRM := Lib.hid hrm
  have HBL := Lib.hid hbl
  have c7 : w9.cell? ⟨g7, 0, none⟩ = some (.int .i64 4) := (blk_cell e9 0).trans rfl
  clear hep hrm hbl e9 a1 a2 a3 a4 a5 a6
  go_wp2_with fail
  refine HEP.out.mono ?_
  rintro e w' ⟨rfl, rfl⟩
  go_wp2_with fail
  refine HRM.out.mono ?_
  rintro e w10 ⟨rfl, hb10⟩
  have HS10 := Lib.hid (HS9.out.below hb10)
  have hbl := vblocks_any HS10.out.at_
  rw [HV2.out.2.2.1] at hbl
  have HBL := Lib.hid hbl
  clear hb10 hbl c7 HEP HRM
  go_wp2_with fail
  refine HBL.out.mono ?_
  rintro e w' ⟨rfl, rfl⟩
  have hno : ¬ ChOk v2 [] := fun h => by have := h.1.1.1; simp at this
  have hch := vchange_any HS10.out none [] 0 0 rfl (by omega) (by omega) (fun x hx => by cases hx) (fun i x hx => by cases hx) (by have := HV2.out; omega) (by have := HV2.out; omega) (by have := HV2.out; omega) (by have := HV2.out; omega) HDN2.out
  rw [if_neg hno] at hch
  have HCH := Lib.hid hch
  clear hno hch
  go_wp2_with fail
  refine HCH.out.mono ?_
  rintro e w11 ⟨rfl, hs11, _⟩
  have HF := Lib.hid hs11.ds.bel
  clear hs11
  go_wp2
  go_ret
  exact ⟨rfl, HF.out⟩
end Go.Proofs.Ytamnpblijdgdaaa
