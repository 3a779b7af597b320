/- The law DevCopies answers true for every input, and leaves its arguments alone. No condition. -/
import Derived.Test.YtdjegimpckeifaaRows
import Derived.Test.YtdjegimpckeifaaV37
import Derived.StillTailTactics
import Derived.WalkKit
import Derived.ProofKit
import Derived.OpenShut
namespace Go.Proofs.Ytdjegimpckeifaa.devCopies
open Go.ChangeShapes Go.WideShapes Go.ChangeAt Go.RowKit Go.Joins
set_option linter.unusedVariables false
theorem own : ownKnob Try.prog.godebug = none := by kernel_rfl
theorem laidOut : laidOutB Try.prog = true := by kernel_rfl
def PF : Nat → Prop := fun _ => False
set_option maxRecDepth 100000 in
set_option maxHeartbeats 3200000 in
theorem walk (A0 : Option Addr) (l0 : List Dd) (d0 : Nat) (x1 : Int) (A2 : Option Addr) (l2 : List (List Int)) (d2 : Nat) (w : World) (hd0 : l0.length ≤ d0) (hm0 : d0 ≤ 9223372036854775807) (hB0 : DdsOk l0) (hy0 : Deeds w A0 l0) (hx1 : 0 ≤ x1 ∧ x1 ≤ 255) (hd2 : l2.length ≤ d2) (hm2 : d2 ≤ 9223372036854775807) (hB2 : TxOk l2) (hy2 : Txts w A2 l2) :
    Calls Try.prog 9 #[.slice A0 l0.length d0, .int .u8 x1, .slice A2 l2.length d2] w fun e w' => e = .returned (.bool true) ∧ Below w.heap.size w w' := by
  have HY := Lib.hid hy0
  have HBO := Lib.hid hB0
  have HY2 := Lib.hid hy2
  clear hy0 hB0 hy2 hB2
  generalize hn : l0.length = n at *
  generalize hn2 : l2.length = n2 at *
  have HN := Lib.hid hn
  have HN2 := Lib.hid hn2
  clear hn hn2
  by_cases h40 : 40 < n
  · have hgt : (40 : Int) < n := by omega
    have hgd : decide ((40 : Int) < n) = true := decide_eq_true hgt
    go_enter Try.func9, Try.ntmps9
    go_wp2_with fail
    refine (begun_any _).mono ?_
    rintro e w1 ⟨rfl, hb1⟩
    go_wp2
    go_ret
    exact ⟨rfl, hb1⟩
  have hle : n ≤ 40 := by omega
  have hgt : ¬ ((40 : Int) < n) := by omega
  have hgd : decide ((40 : Int) < n) = false := decide_eq_false hgt
  by_cases h5 : 5 < n2
  · have hgt2 : (5 : Int) < n2 := by omega
    have hgd2 : decide ((5 : Int) < n2) = true := decide_eq_true hgt2
    go_enter Try.func9, Try.ntmps9
    go_wp2_with fail
    refine (begun_any _).mono ?_
    rintro e w1 ⟨rfl, hb1⟩
    go_wp2
    go_ret
    exact ⟨rfl, hb1⟩
  have hle5 : n2 ≤ 5 := by omega
  have hgt2 : ¬ ((5 : Int) < n2) := by omega
  have hgd2 : decide ((5 : Int) < n2) = false := decide_eq_false hgt2
  obtain ⟨x, rfl⟩ : ∃ x : Nat, x1 = (x : Int) := ⟨x1.toNat, by omega⟩
  go_enter Try.func9, Try.ntmps9
  go_wp2_with fail
  refine (begun_any _).mono ?_
  rintro e w1 ⟨rfl, hb1⟩
  have HB1 := Lib.hid hb1
  clear hb1
  go_wp2_with fail
  refine (new_at _ w1.heap.size [4, 4] 2 rfl (by decide) (fun x hx => by simp at hx; subst hx; constructor <;> omega) _ (heap_alloc_new w1 _)).mono ?_
  rintro e w2 ⟨⟨q, F, rfl, hd, hF⟩, hb⟩
  have hds := DS.made (HB1.out.alloc HB1.out.size _) hd hF hb
  have HD : Hid (DC w w2 q (DM.make [4, 4]) (.pointer none) (DM.make [4, 4])) := Or.inl ⟨rfl, hds.below (Below.refl _ _) (fun k hk => hk.elim)⟩
  clear hd hF hb hds
  go_wp2_with fail
  obtain ⟨am, ham⟩ : ∃ am, am = min x n := ⟨_, rfl⟩
  have hamn : am ≤ n := by omega
  have HAM := Lib.hid ham
  clear ham
  go_loopw [9, 10] (fun c i wr => ∃ (k : Nat) (m : DM), i = .int .i64 k ∧ k ≤ n ∧ Hid (K2 m k) ∧ Hid (DC w wr q m c m) ∧ (c = .pointer none → k ≤ am) ∧ (c ≠ .pointer none → am < k)) (fun _ i _ => n + 1 - (intOf i).toNat)
  case atStart => exact ⟨0, _, rfl, Nat.zero_le _, K2.make, HD.out, fun _ => Nat.zero_le _, fun h => absurd rfl h⟩
  case round =>
    obtain ⟨w3, rfl⟩ : ∃ w3, w3 = wr := ⟨wr, rfl⟩
    obtain ⟨k, m, rfl, hk, HK, HDK, hc1, hc2⟩ := hrel
    clear HD
    go_upto_region 12 with fail
    have hkn : (k : Int) ≤ n := by omega
    go_upto_region 12 with fail
    go_cut [50] (fun s wx => s = .bool (decide (k = am)) ∧ wx = w3)
    case first =>
      have ham := HAM.out
      by_cases hxn : (n : Int) < x
      · have e1 : am = n := by omega
        have e2 : ((k : Int) == n) = decide (k = am) := by rw [e1, Bool.eq_iff_iff]; simp; omega
        clear ham e1
        go_wp2
        go_meet
        case rel => exact ⟨by first | rfl | (rw [e2]), rfl⟩
      · have e1 : am = x := by omega
        have e2 : ((k : Int) == x) = decide (k = am) := by rw [e1, Bool.eq_iff_iff]; simp; omega
        have hdx : decide ((n : Int) < x) = false := decide_eq_false hxn
        have hdx2 : decide (n < x) = false := decide_eq_false (by omega)
        clear ham e1
        go_wp2
        go_meet
        case rel => exact ⟨by first | rfl | (rw [e2]), rfl⟩
    case rest =>
      obtain ⟨e50, rfl⟩ := hcut
      subst e50
      go_upto_if 50 with fail
      go_cut [9] (fun c' wx => Hid (DC w wx q m c' m) ∧ ((c' = .pointer none ∧ k < am) ∨ ∃ qc, c' = .pointer (some ⟨qc, 0, none⟩) ∧ am ≤ k))
      case first =>
        by_cases hka : k = am
        · have hkd : decide (k = am) = true := decide_eq_true hka
          subst hka
          obtain ⟨e9, hds⟩ | ⟨q', e9, hd2⟩ := HDK.out
          · have HCP := Lib.hid (hds.copy2 (by have := HK.out.done; omega))
            clear hds
            go_wp2_with fail
            refine HCP.out.mono ?_
            rintro e w4 ⟨qc, rfl, hdd⟩
            have HDD := Lib.hid hdd
            clear hdd
            go_wp2_with fail
            go_meet
            case rel => exact ⟨Lib.hid (Or.inr ⟨qc, rfl, HDD.out⟩), Or.inr ⟨qc, rfl, by omega⟩⟩
          · exact absurd (hc2 (by rw [e9]; simp)) (by omega)
        · have hkd : decide (k = am) = false := decide_eq_false hka
          go_wp2
          go_meet
          case rel =>
            refine ⟨HDK.out, ?_⟩
            obtain ⟨e9, _⟩ | ⟨q', e9, _⟩ := HDK.out
            · have := hc1 e9; exact Or.inl ⟨e9, by omega⟩
            · have := hc2 (by rw [e9]; simp); exact Or.inr ⟨q', e9, by omega⟩
      case rest =>
        obtain ⟨HDC, hcc⟩ := hcut
        clear hc1 hc2 HDK
        by_cases hkl : k < n
        · obtain ⟨d, hdk⟩ : ∃ d, l0[k]? = some d := ⟨_, List.getElem?_eq_getElem (by rw [HN.out]; exact hkl)⟩
          obtain ⟨a, rfl, hat⟩ := (HY.out.keep (HDC.out.bel)) k d hdk
          have HOK := Lib.hid (HBO.out d (List.mem_of_getElem? hdk))
          obtain ⟨r, hr, hbr⟩ := and1_nat d.r
          obtain ⟨i, hi, hbi⟩ := and3_nat d.i
          have hkk : (k : Int) < n := by omega
          have HDK0 := Lib.hid hdk
          have c4 := hat.c4
          have hfull := full_any d.A d.b d.c wc HOK.out.b hat.b (by have := HOK.out.bl; have := HOK.out.bc; omega)
          have HF := Lib.hid hfull
          have HFOK := Lib.hid (fullV_ok HOK.out.b)
          have HAT := Lib.hid hat
          clear hat hdk hfull
          generalize fullV d.b = fb at *
          generalize d.b.length = bl at *
          go_wp2_with fail
          refine HF.out.mono ?_
          rintro e w4 ⟨⟨g, rfl, hg, hblk⟩, hb4⟩
          have HBK := Lib.hid hblk
          have HG := Lib.hid hg
          have HB4 := Lib.hid hb4
          have HAT4 := Lib.hid (HAT.out.keep hb4)
          clear hg hblk hb4 HF c4
          have c1 := HAT4.out.c1
          have c2 := HAT4.out.c2
          go_upto_region 18 with fail
          go_still_tail 14, (by kernel_rfl)
          change wpList _ _ _ _ _ w4.drew
          have HB5 : Hid (Below wc.heap.size wc w4.drew) := bdn HB4.out 1
          have HBK5 : Hid (Blk64 w4.drew g fb) := HBK.out
          have hAT5 := HAT4.out.keep (bdn (Below.refl w4.heap.size w4) 1)
          clear c1 c2 HBK HB4 HAT4
          have HAT5 := Lib.hid hAT5
          clear hAT5
          clear HAT5
          generalize w4.drew = w5 at *
          have hcall := HDC.out.writeFresh HB5.out r i (by constructor <;> omega) (by constructor <;> omega) g fb HFOK.out HBK5.out (by have := HK.out.done; omega)
          rw [HK.out.hasB hr hi, HK.out.doW hr hi HFOK.out] at hcall
          have HCALL := Lib.hid hcall
          have HGL := Lib.hid (room_lt HBK5.out)
          clear hcall
          go_wp2_with fail
          refine HCALL.out.mono ?_
          rintro e w6 ⟨rfl, hd6, hs6⟩
          obtain ⟨_, hK6, _, _, _⟩ := HK.out.write hr hi fb HFOK.out hd6.ok
          have HK6 := Lib.hid hK6
          have HBK6 : Hid (Blk64 w6 g fb) := (hs6 g HG.out HGL.out).trans HBK5.out
          have HD6 := Lib.hid hd6
          clear hd6 hs6 hK6 HCALL
          obtain ⟨e9, hlt⟩ | ⟨qc, e9, hlt⟩ := hcc
          · subst e9
            go_wp2_with fail
            go_roundw
            case rel =>
              refine ⟨k + 1, _, by go_num, by omega, HK6.out, ?_, fun _ => by omega, fun h => absurd rfl h⟩
              obtain ⟨_, h⟩ | ⟨_, h, _⟩ := HD6.out
              · exact Or.inl ⟨rfl, h⟩
              · cases h
            case measure => simp [intOf]; omega
          · subst e9
            have hD6 : D2 w w6 q (m.write r i fb) qc m := by
              obtain ⟨e, _⟩ | ⟨q', e, hh⟩ := HD6.out
              · cases e
              · injection e with e; injection e with e; injection e with e; subst e; exact hh
            have HD6' := Lib.hid hD6
            have hAT6 := (HY.out.keep hD6.bel) k d HDK0.out
            obtain ⟨a2, ea2, hat6⟩ := hAT6
            injection ea2 with ea2
            subst ea2
            have c1 := hat6.c1
            have c2 := hat6.c2
            clear hD6 HD6 hat6
            go_upto_region 20 with fail
            go_still_tail 14, (by kernel_rfl)
            change wpList _ _ _ _ _ w6.drew
            have HB7 : Hid (Below w6.heap.size w6 w6.drew) := bdn (Below.refl _ _) 1
            have hcall := ((HD6'.out.below HB7.out).swap).write r i (by constructor <;> omega) (by constructor <;> omega) g fb HFOK.out (show Blk64 w6.drew g fb from HBK6.out) (by have := HK.out.done; omega)
            rw [HK.out.hasB hr hi, HK.out.doW hr hi HFOK.out] at hcall
            have HCALL := Lib.hid hcall
            clear hcall c1 c2
            generalize w6.drew = w7 at *
            go_wp2_with fail
            refine HCALL.out.mono ?_
            rintro e w8 ⟨rfl, hd8⟩
            have HD8 := Lib.hid hd8.swap
            clear hd8 HCALL
            go_wp2_with fail
            go_roundw
            case rel => exact ⟨k + 1, _, by go_num, by omega, HK6.out, Or.inr ⟨qc, rfl, HD8.out⟩, fun h => (by cases h), fun _ => by omega⟩
            case measure => simp [intOf]; omega
        · obtain rfl : k = n := by omega
          obtain ⟨_, h⟩ | ⟨qc, e9, _⟩ := hcc
          · omega
          subst e9
          have hD2 : D2 w wc q m qc m := by
            obtain ⟨e, _⟩ | ⟨q', e, hh⟩ := HDC.out
            · cases e
            · injection e with e; injection e with e; injection e with e; subst e; exact hh
          have HD2 := Lib.hid hD2
          clear hD2 HDC
          have hy12 : ∀ W : World, Byt (W.alloc (.cells #[.int .u8 1, .int .u8 2] 5)) (some ⟨W.heap.size, 0, none⟩) [1, 2] := fun W => byt_blk (heap_alloc_new W (.cells #[.int .u8 1, .int .u8 2] 5)) rfl
          have h12 : AllB [1, 2] := fun x hx => by simp at hx; omega
          have HF := Lib.hid (fun W : World => full_any (some ⟨W.heap.size, 0, none⟩) [1, 2] 2 _ h12 (hy12 W) (by simp))
          have HOK := Lib.hid (fullV_ok h12)
          generalize fullV [1, 2] = f12 at *
          clear hy12 h12
          have hk40 : k ≤ 40 := hle
          go_wp2_with fail
          refine (HF.out wc).mono ?_
          rintro e w4 ⟨⟨g, rfl, hg, hblk⟩, hb4⟩
          have hd4 := HD2.out.below (keepB ((Below.refl wc.heap.size wc).alloc (Nat.le_refl _) _) hb4)
          have hcall := hd4.write 0 0 (by constructor <;> omega) (by constructor <;> omega) g _ HOK.out hblk (by have := HK.out.done; omega)
          rw [show hasB m 0 0 = true from HK.out.hasB (r := 0) (i := 0) (by omega) (by omega), show m.doWrite 0 0 f12 = m.write 0 0 f12 from HK.out.doW (r := 0) (i := 0) (by omega) (by omega) HOK.out] at hcall
          have HCALL := Lib.hid hcall
          clear hd4 hcall hg hblk hb4
          go_wp2_with fail
          refine HCALL.out.mono ?_
          rintro e w5 ⟨rfl, hd5⟩
          obtain ⟨_, hK1, e1, e2, e3⟩ := HK.out.write (r := 0) (i := 0) (by omega) (by omega) f12 HOK.out hd5.ok
          have HK1 := Lib.hid hK1
          have hbar := hd5.barrier 0 (by constructor <;> omega) (by have := hK1.done; omega)
          rw [show hasR (m.write 0 0 f12) 0 = true from hK1.hasR (r := 0) (by omega), show (m.write 0 0 f12).doBarrier 0 = (m.write 0 0 f12).barrier 0 from hK1.doB (r := 0) (by omega)] at hbar
          have HBAR := Lib.hid hbar
          clear hd5 hbar hK1 e1 e2 e3 HCALL
          go_wp2_with fail
          refine HBAR.out.mono ?_
          rintro e w6 ⟨rfl, hd6⟩
          obtain ⟨_, hK2, _, _, _⟩ := HK1.out.barrier (r := 0) (by omega) hd6.ok
          have HK2 := Lib.hid hK2
          have hbar := hd6.barrier 1 (by constructor <;> omega) (by have := hK2.done; omega)
          rw [show hasR ((m.write 0 0 f12).barrier 0) 1 = true from hK2.hasR (r := 1) (by omega), show ((m.write 0 0 f12).barrier 0).doBarrier 1 = ((m.write 0 0 f12).barrier 0).barrier 1 from hK2.doB (r := 1) (by omega)] at hbar
          have HBAR2 := Lib.hid hbar
          clear hd6 hbar hK2 HBAR
          go_wp2_with fail
          refine HBAR2.out.mono ?_
          rintro e w7 ⟨rfl, hd7⟩
          obtain ⟨_, hK3, _, _, _⟩ := HK2.out.barrier (r := 1) (by omega) hd7.ok
          have HK3 := Lib.hid hK3
          have HD7 := Lib.hid hd7
          clear hd7 hK3 HBAR2
          go_wp2_with fail
          refine (HF.out w7).mono ?_
          rintro e w8 ⟨⟨g, rfl, hg, hblk⟩, hb8⟩
          have hd8 := (HD7.out.below (keepB ((Below.refl w7.heap.size w7).alloc (Nat.le_refl _) _) hb8)).swap
          have hcall := hd8.write 0 0 (by constructor <;> omega) (by constructor <;> omega) g _ HOK.out hblk (by have := HK.out.done; omega)
          rw [show hasB m 0 0 = true from HK.out.hasB (r := 0) (i := 0) (by omega) (by omega), show m.doWrite 0 0 f12 = m.write 0 0 f12 from HK.out.doW (r := 0) (i := 0) (by omega) (by omega) HOK.out] at hcall
          have HCALL := Lib.hid hcall
          clear hd8 hcall hg hblk hb8
          go_wp2_with fail
          refine HCALL.out.mono ?_
          rintro e w9 ⟨rfl, hd9⟩
          have hcr := hd9.crashNew (alloc3 w9 _ _ _).2.2.2.2 (some ⟨w9.heap.size + 2, 0, none⟩) [k6, k6] 2 (fun F hF => keeps6 w9 5 5 31 F hF) (by simp) (by have := HK1.out.done; omega)
          have HCR := Lib.hid hcr
          clear hd9 hcr HCALL
          go_wp2_with fail
          refine HCR.out.mono ?_
          rintro e w10 ⟨rfl, hd10⟩
          have hcr := hd10.swap.crashOld A2 l2 d2 (fun F hF => HY2.out.older hd10.bel F hF) (by rw [HN2.out]; omega) (by have := HK3.out.done; omega)
          rw [HN2.out] at hcr
          have HCR2 := Lib.hid hcr
          clear hd10 hcr HCR
          go_wp2_with fail
          refine HCR2.out.mono ?_
          rintro e w11 ⟨rfl, hd11⟩
          have hrow : ∀ r, r < 2 → nowRow ((m.write 0 0 f12).crash [k6, k6]) r = nowRow ((((m.write 0 0 f12).barrier 0).barrier 1).crash l2) r := fun r hr => by
            rw [HK1.out.all6 (by omega) hr, HK1.out.both HK2.out.ok HK3.out.ok l2 hr]
          have hdm1 : dims ((((m.write 0 0 f12).barrier 0).barrier 1).crash l2) = [4, 4] := (dims_crash HK3.out.ok l2).trans HK3.out.dims
          have hdm2 : dims ((m.write 0 0 f12).crash [k6, k6]) = [4, 4] := (dims_crash HK1.out.ok _).trans HK1.out.dims
          have HD11 := Lib.hid hd11
          have HROW := Lib.hid hrow
          have HDM1 := Lib.hid hdm1
          have HDM2 := Lib.hid hdm2
          clear hd11 hrow hdm1 hdm2 HCR2 HK1 HK2 HK3 HD7 HK
          generalize (((m.write 0 0 f12).barrier 0).barrier 1).crash l2 = m4 at *
          generalize (m.write 0 0 f12).crash [k6, k6] = m5 at *
          go_wp2_with fail
          go_loopw [12] (fun i wx => ∃ k : Nat, i = .int .i64 k ∧ k ≤ 8 ∧ Hid (D2 w wx q m4 qc m5)) (fun i _ => 8 - (intOf i).toNat)
          case atStart => exact ⟨0, rfl, by omega, HD11.out⟩
          case round =>
            obtain ⟨w12, rfl⟩ : ∃ w12, w12 = wr := ⟨wr, rfl⟩
            obtain ⟨j, rfl, hj, HDX⟩ := hrel
            clear HD11
            by_cases hlt : j < 8
            · obtain ⟨kq, kr, hkq, hkr, hkk⟩ : ∃ kq kr : Nat, kq < 2 ∧ kr < 4 ∧ Hid (j = kq * 4 + kr) := ⟨j / 4, j % 4, by omega, by omega, Lib.hid (by omega)⟩
              have hkz := hkk.out
              have hk8 : (j : Int) < 8 := by omega
              have hq1 : (j : Int) / 4 = kq := by omega
              have hq2 : (j : Int) % 4 = kr := by omega
              have hq3 : Int.tdiv (j : Int) 4 = kq := by rw [Int.tdiv_eq_ediv_of_nonneg (by omega)]; exact hq1
              have hq4 : Int.tmod (j : Int) 4 = kr := by rw [Int.tmod_eq_emod_of_nonneg (by omega)]; exact hq2
              have hwq : IntKind.i64.wrap (kq : Int) = kq := IntWalk.i64_in _ (by omega)
              clear hkz
              obtain ⟨b, hb1, hb2, hb3⟩ := get_four HDX.out.ok HDM1.out hkq hkr
              have hb2' : (m5.now.getD (kq : Int).toNat [])[(kr : Int).toNat]? = some b := by
                have h := HROW.out kq hkq
                unfold nowRow at h
                rw [Int.toNat_natCast, h]
                rw [Int.toNat_natCast] at hb2
                exact hb2
              have hrd := HDX.out.read kq kr (by constructor <;> omega) (by constructor <;> omega) (hasB_four HDM1.out hkq hkr) hb2
              have HRD := Lib.hid hrd
              have HB2 := Lib.hid hb2'
              have HB3 := Lib.hid hb3
              clear hrd hb1 hb2 hb2' hb3
              go_wp2_with fail
              refine HRD.out.mono ?_
              rintro e w13 ⟨⟨g1, rfl, hg1⟩, hd13, hbb1⟩
              have hrd := hd13.swap.read kq kr (by constructor <;> omega) (by constructor <;> omega) (hasB_four HDM2.out hkq hkr) HB2.out
              have HRD2 := Lib.hid hrd
              have HG1 := Lib.hid hg1
              clear hrd hd13 hbb1 HRD hg1
              go_wp2_with fail
              refine HRD2.out.mono ?_
              rintro e w14 ⟨⟨g2, rfl, hg2⟩, hd14, hbb2⟩
              have hcv1 := conv_any (n := 64) (c := 64) (w := w14) (byt_blk ((hbb2.block _ (room_lt HG1.out)).trans HG1.out) (by simp)) HB3.out.1
              have hcv2 := conv_any (n := 64) (c := 64) (w := w14) (byt_blk hg2 (by simp)) HB3.out.1
              have HD14 := Lib.hid hd14.swap
              clear hd14 hbb2 hg2 HRD2
              go_wp2_with fail
              go_roundw
              case rel => exact ⟨j + 1, by go_num, by omega, HD14.out⟩
              case measure => simp [intOf]; omega
            · obtain rfl : j = 8 := by omega
              have hge8 : ¬ ((8 : Int) < 8) := by omega
              go_wp2_with fail
              go_ret
              exact ⟨rfl, HDX.out.bel⟩

set_option maxRecDepth 100000 in
theorem lifted (os : Os) (started : os.Started) (H : Type) (enc : TypeId × Value → H) :
    ReturnsInHanded {} Try.checked os 9 .any (Rows.devCopiesSpec.pre6 enc Try.prog Try.f9 Rows.devCopiesRow.domain false) (Rows.devCopiesSpec.post enc Try.prog Try.f9 false true false false) := by
  refine returnsInHanded_of_change (C := Try.checked) own started (by kernel_rfl) Try.func9
    (ChangeSpec.witness6 (enc := enc) (C := Try.checked) false ⟨#[], #[.slice none 0 0, .int .u8 0, .slice none 0 0], []⟩ 8 (by kernel_rfl) (by kernel_rfl) (by kernel_rfl) (by kernel_rfl)) ?_
  intro W base args ds gs before hval0 hW hcnd _
  have hval : ∀ (j : Nat) t v, Try.f9.params[j]? = some t → args[j]? = some v → Value.okWide Try.prog W .any base t v := hval0
  have hW' := hW
  obtain ⟨p, q, hA0, hV, rfl, hfz, hnd⟩ := hW
  have hA : DataW.TrodAll enc Try.prog W 0 (fun _ => true) true Try.f9.params.toList args.toList ds p := hA0
  rw [Try.params9] at hA hval
  obtain ⟨v0, vs0, d0, ds0, p0, q0, hargs, rfl, rfl, h0, r0⟩ := trodAll_cons hA
  obtain ⟨v1, vs1, d1, ds1, p1, q1, rfl, rfl, rfl, h1, r1⟩ := trodAll_cons r0
  obtain ⟨v2, vs2, d2, ds2, p2, q2, rfl, rfl, rfl, h2, r2⟩ := trodAll_cons r1
  obtain ⟨rfl, rfl, rfl⟩ := trodAll_nil r2
  obtain rfl : args = #[v0, v1, v2] := by cases args; simp_all
  obtain ⟨rfl, rfl⟩ := trodVars_none hV
  obtain ⟨a0, len0, cap0, rfl⟩ := okWide_slice Try.underlying23 (hval 0 23 v0 rfl rfl)
  obtain ⟨x1, rfl, rfl, rfl, wx1⟩ := open_int Try.underlying5 (hval 1 5 v1 rfl rfl) h1
  obtain ⟨a2, len2, cap2, rfl⟩ := okWide_slice Try.underlying32 (hval 2 32 v2 rfl rfl)
  clear hA0 hval0
  simp only [List.append_nil] at hW'
  have hlt0 : ∀ y ∈ p0, y.block < W.heap.size := fun y hy => by simpa using hW'.lt y (by simp [hy])
  have harg0 : ∀ W' : World, Below W.heap.size W W' → DataW.Trod enc Try.prog W' 0 (fun b => decide (b < W.heap.size)) true 23 (.slice a0 len0 cap0) d0 p0 :=
    fun W' hn => Below.trod laidOut (by kernel_rfl) (of_decide_eq_true (by kernel_rfl)) h0 hn (fun y hy => hlt0 y hy)
  have hlt2 : ∀ y ∈ p2, y.block < W.heap.size := fun y hy => by simpa using hW'.lt y (by simp [hy])
  have harg2 : ∀ W' : World, Below W.heap.size W W' → DataW.Trod enc Try.prog W' 0 (fun b => decide (b < W.heap.size)) true 32 (.slice a2 len2 cap2) d2 p2 :=
    fun W' hn => Below.trod laidOut (by kernel_rfl) (of_decide_eq_true (by kernel_rfl)) h2 hn (fun y hy => hlt2 y hy)
  obtain ⟨fu0, hf0⟩ := h0
  obtain ⟨A0, l0, c0, e0, hd0, hm0, hy0, hB0⟩ := open_deeds hf0
  simp [Value.cells] at e0
  obtain ⟨rfl, rfl, rfl⟩ := e0
  obtain ⟨fu2, hf2⟩ := h2
  obtain ⟨A2, l2, c2, e2, hd2, hm2, hy2, hB2⟩ := open_texts hf2
  simp [Value.cells] at e2
  obtain ⟨rfl, rfl, rfl⟩ := e2
  refine (walk a0 l0 cap0 x1 a2 l2 cap2 W hd0 hm0 hB0 hy0 (by have := bounds_u8 wx1; omega) hd2 hm2 hB2 hy2).mono fun e W' ⟨he, bel⟩ => ?_
  subst he
  exact ⟨_, rfl, _, _, _, [], _, [], hW', (trodAll_cons_mk (shut_bool Try.underlying4 _) trodAll_mk0), (trodAll_cons_mk (harg0 _ bel) (trodAll_cons_mk (shut_int Try.underlying5 wx1) (trodAll_cons_mk (harg2 _ bel) trodAll_mk0))), rfl, bel.frame _, fun h => by cases h⟩

theorem over : Rows.devCopiesRow.holds Try.pinned (OpenSpec.ofChange Rows.devCopiesSpec) :=
  OpenClaim.holds_of_wide 9 Try.f9 rfl rfl rfl rfl rfl rfl rfl ⟨rfl, rfl, rfl, rfl, rfl⟩ rfl rfl rfl rfl rfl (by kernel_rfl) Try.func9 (by kernel_rfl)
    (of_decide_eq_true (by kernel_rfl)) (by unfold Func.isWrapper; first | (rw [if_pos (by decide +kernel)]; kernel_rfl) | (rw [if_neg (by decide +kernel)]; exact ⟨rfl, rfl⟩))
    (fun os started H enc _ => lifted os started H enc)

theorem proved : Rows.DevCopiesSaid :=
  over
#print axioms proved
end Go.Proofs.Ytdjegimpckeifaa.devCopies
