/- The law ConfAll: its walk. -/
import Derived.Test.YtlmbkfdpgmmacaaE1
import Derived.Deep.DeepCutAuto
namespace Go.Proofs.Ytlmbkfdpgmmacaa
open Go.ChangeShapes Go.WideShapes Go.ChangeAt Go.RowKit
set_option linter.unusedVariables false
theorem long_walk (A B : Option Addr) (n d m c : Nat) (me : Int) (w : World) (h : 10 < n ∨ 60 < m) (h1 : n ≤ 9223372036854775807) (h2 : m ≤ 9223372036854775807) :
    Calls Try.prog 3 #[.slice A n d, .int .i64 me, .slice B m c] w fun e w' => e = .returned (.bool true) ∧ Below w.heap.size w w' := by
  by_cases hn : 10 < n
  · clear h
    go_enter Try.func3, Try.ntmps3
    go_wp2_with fail
    refine (begun_any _).mono ?_; rintro e W1 ⟨rfl, hb⟩
    go_wp2_with fail
    go_ret
    exact ⟨rfl, hb⟩
  · have hm : 60 < m := by omega
    clear h
    go_enter Try.func3, Try.ntmps3
    go_wp2_with fail
    refine (begun_any _).mono ?_; rintro e W1 ⟨rfl, hb⟩
    go_wp2_with fail
    go_ret
    exact ⟨rfl, hb⟩
set_option maxRecDepth 100000 in
set_option maxHeartbeats 3200000 in
theorem all_walk (A B : Option Addr) (cs : List Sh) (d c : Nat) (bs : List Int) (me : Int) (w : World) (hx : cs.length ≤ 10) (hd : cs.length ≤ d) (hd2 : d ≤ 9223372036854775807) (ho : ShsOk cs) (ha : Conf w A cs)
    (hl : bs.length ≤ 60) (hc : bs.length ≤ c) (hc2 : c ≤ 9223372036854775807) (hB : AllB bs) (hy : Byt w B bs) :
    Calls Try.prog 3 #[.slice A cs.length d, .int .i64 me, .slice B bs.length c] w fun e w' => e = .returned (.bool true) ∧ Below w.heap.size w w' := by
  have HA := Lib.hid ha
  have HY := Lib.hid hy
  have F8 := Lib.hid (fun W (h : Byt W B bs) => out_any B bs c W hl hB h)
  have F9 := Lib.hid (fun W A' (h : Byt W A' bs) => take_all2 A' bs (bs.length + 7) W (by omega) (by omega) (by omega) hB h)
  have F10 := Lib.hid (fun W (h : Byt W B bs) => refTake_all2 B bs c W (by omega) hc hc2 hB h)
  have F11 := Lib.hid (fun W (h : Conf W A cs) => below_all2 A cs d me W (by omega) hd hd2 ho h)
  have F12 := Lib.hid (fun W (h : Conf W A cs) => refBelow_all2 A cs d me W (by omega) h)
  have F13 := Lib.hid (fun W (h : Conf W A cs) => may_conf A cs d W (by omega) hd hd2 ho h)
  have F14 := Lib.hid (fun W (h : Conf W A cs) => refMayConf A cs d W (by omega) h)
  have F15 := Lib.hid (fun W (h : Conf W A cs) => put_all2 A cs d W (by omega) hd hd2 ho h)
  have F16 := Lib.hid (fun W (h : Conf W A cs) => refPut_all2 A cs d W (by omega) h)
  have F17 : Hid (∀ A1 A2 d1 d2 W, Conf W A1 (tkL bs) → Conf W A2 (tkL bs) → Calls Try.prog 17 #[.slice A1 (tkL bs).length d1, .slice A2 (tkL bs).length d2] W fun e w' => e = .returned (.bool true) ∧ Below W.heap.size W w') := fun A1 A2 d1 d2 W h1 h2 =>
    (same_any A1 A2 (tkL bs) (tkL bs) d1 d2 W (by have := tkL_len bs; omega) (by have := tkL_len bs; omega) h1 h2).mono fun e w' ⟨he, n, hw⟩ => ⟨by rw [he]; simp, by rw [hw]; exact belowD (Below.refl _ _) n⟩
  have F18 : Hid (∀ g C W, Byt W B bs → W.heap[g]? = some (.cells C 5 (0, 0)) → RoomC C bs.length bs (bs.length + 7) bs.length → Calls Try.prog 18 #[.slice (some ⟨g, 0, none⟩) bs.length (bs.length + 7), .slice B bs.length c] W fun e w' => e = .returned (.bool true) ∧ Below W.heap.size W w') := fun g C W h h1 h2 =>
    (intact_any B bs c g C W hl hB h h1 h2).mono fun e w' ⟨he, hw⟩ => ⟨he, by rw [← hw]; exact Below.refl _ _⟩
  have hlb := belowV_len cs me
  have htl := tkL_len bs
  clear ha hy ho hB
  generalize hnl : cs.length = nl at *
  generalize hml : bs.length = ml at *
  have HNL := Lib.hid hnl
  have HML := Lib.hid hml
  clear hnl hml
  have q1 : decide (10 < (nl : Int)) = false := decide_eq_false (by omega)
  have q2 : decide (60 < (ml : Int)) = false := decide_eq_false (by omega)
  go_enter Try.func3, Try.ntmps3
  go_wp2_with fail
  refine (begun_any _).mono ?_; rintro e W0 ⟨rfl, hb0⟩
  have HB0 := Lib.hid hb0
  clear hb0
  go_wp2_with fail
  refine (F8.out W0 (HY.out.keep HB0.out)).mono ?_
  rintro e W1 ⟨g, C, rfl, hg0, hblk, hroom, hb1⟩
  have HB1 := Lib.hid (keepB HB0.out hb1)
  have HRM := Lib.hid (And.intro hblk hroom)
  have hbo : Byt W1 (some ⟨g, 0, none⟩) bs := fun i x hx => ⟨_, rfl, by
    have : (⟨g, 0, none⟩ : Addr).add i = ⟨g, i, none⟩ := by unfold Addr.add; split <;> simp_all
    rw [this, blk_cell hblk]; exact hroom.first i (by have := (List.getElem?_eq_some_iff.1 hx).1; rw [HML.out] at this; exact this) x hx⟩
  have HBO := Lib.hid hbo
  clear hbo hblk hroom hb1 hg0
  go_wp2_with fail
  refine (F9.out W1 _ HBO.out).mono ?_
  rintro e W2 ⟨Ax, dx, rfl, hcx, hb2⟩
  have HB2 := Lib.hid (keepB HB1.out hb2)
  have HB12 := Lib.hid hb2
  have HCX := Lib.hid hcx
  clear hcx hb2 HBO
  go_wp2_with fail
  refine (F10.out W2 (HY.out.keep HB2.out)).mono ?_
  rintro e W3 ⟨Ay, dy, rfl, hcy, hb3⟩
  have HB3 := Lib.hid (keepB HB2.out hb3)
  have HB13 := Lib.hid (keepB HB12.out hb3)
  have HCX3 := Lib.hid (HCX.out.keep hb3)
  have HCY := Lib.hid hcy
  clear hcy hb3
  go_wp2_with fail
  refine (F11.out W3 (HA.out.keep HB3.out)).mono ?_
  rintro e W4 ⟨Ap, dp, rfl, hnp, hb4⟩
  have HB4 := Lib.hid (keepB HB3.out hb4)
  have HB14 := Lib.hid (keepB HB13.out hb4)
  have HCX4 := Lib.hid (HCX3.out.keep hb4)
  have HCY4 := Lib.hid (HCY.out.keep hb4)
  have HNP := Lib.hid hnp
  clear hnp hb4
  go_wp2_with fail
  refine (F12.out W4 (HA.out.keep HB4.out)).mono ?_
  rintro e W5 ⟨Aq, dq, rfl, hnq, hb5⟩
  have HB5 := Lib.hid (keepB HB4.out hb5)
  have HB15 := Lib.hid (keepB HB14.out hb5)
  have HCX5 := Lib.hid (HCX4.out.keep hb5)
  have HCY5 := Lib.hid (HCY4.out.keep hb5)
  have HNP5 := Lib.hid (HNP.out.keep hb5)
  have HNQ := Lib.hid hnq
  clear hnq hb5 HCX HCX3 HCY HCX4 HCY4 HNP HB12 HB13 HB14 HB0 HB1 HB2 HB3 HB4
  have HA5 := Lib.hid (HA.out.keep HB5.out)
  have HY5 := Lib.hid (HY.out.keep HB5.out)
  have HRM5 := Lib.hid (And.intro ((HB15.out.block g (room_lt HRM.out.1)).trans HRM.out.1) HRM.out.2)
  generalize hlbe : (belowV cs me).length = lb at *
  have HLB := Lib.hid hlbe
  clear hlbe
  generalize (tkL bs).length = lt at *
  generalize tkE bs = te at *
  generalize hlp : (putL cs).length = lp at *
  have HLP := Lib.hid hlp
  clear hlp
  have HST : Hid (∀ A' d' W, Byt W A' (putL cs) → (convert 24 9 (.slice A' lp d')).run Try.prog W = .ok (.string (strOfNums (putL cs))) W) := fun A' d' W h => conv_any h HLP.out
  generalize strOfNums (putL cs) = S at *
  generalize mayConfV cs = mv at *
  go_upto_region 9 with fail
  go_cut [80] (fun s wx => s = .bool false ∧ Below W5.heap.size W5 wx)
  case first => as_aux_lemma =>
    go_region_held (fun wx => Below W5.heap.size W5 wx)
      (first | assumption | exact (Below.refl _ _).drew | exact keepB (by assumption) hb)
      (first | (go_at_call 13; (with_reducible refine (F13.out _ (HA5.out.keep (by assumption))).mono ?_); rintro e w' ⟨rfl, hb⟩)
             | (go_at_call 14; (with_reducible refine (F14.out _ (HA5.out.keep (by assumption))).mono ?_); rintro e w' ⟨rfl, hb⟩)
             | (go_at_call 15; (with_reducible refine (F15.out _ (HA5.out.keep (by assumption))).mono ?_); rintro e w' ⟨A5, d5, rfl, hby5, _, _, hb⟩; (try replace hc6 := CV6.out _ hb); have CV5 := Lib.hid (fun W (hW : Below w'.heap.size w' W) => HST.out A5 d5 W (hby5.keep hW)); have hc5 := CV5.out _ (Below.refl _ _))
             | (go_at_call 16; (with_reducible refine (F16.out _ (HA5.out.keep (by assumption))).mono ?_); rintro e w' ⟨A6, d6, rfl, hby6, hb⟩; (try replace hc5 := CV5.out _ hb); have CV6 := Lib.hid (fun W (hW : Below w'.heap.size w' W) => HST.out A6 d6 W (hby6.keep hW)); have hc6 := CV6.out _ (Below.refl _ _))
             | (go_at_call 17; (with_reducible refine (F17.out _ _ _ _ _ (HCX5.out.keep (by assumption)) (HCY5.out.keep (by assumption))).mono ?_); rintro e w' ⟨rfl, hb⟩)
             | (go_at_call 18; (with_reducible refine (F18.out g C _ (HY5.out.keep (by assumption)) (((by assumption : Below W5.heap.size W5 _).block g (room_lt HRM5.out.1)).trans HRM5.out.1) HRM5.out.2).mono ?_); rintro e w' ⟨rfl, hb⟩))
    all_goals
      go_wp2_with fail
      go_meet
      case rel => exact ⟨rfl, by assumption⟩
  case rest =>
    obtain ⟨rfl, hV⟩ := hcut
    have hlb2 : lb ≤ 8 := hlb
    go_wp2_with fail
    go_loopw [14] (fun i wr => ∃ k : Nat, k ≤ lb ∧ i = .int .i64 k ∧ Below W5.heap.size W5 wr) (fun i _ => lb - (intOf i).toNat)
    case atStart => exact ⟨0, Nat.zero_le _, rfl, hV⟩
    case round =>
      obtain ⟨k, hk, rfl, hBr⟩ := hrel
      by_cases hlt : k < lb
      · obtain ⟨x, hxk⟩ : ∃ x, (belowV cs me)[k]? = some x := ⟨_, List.getElem?_eq_getElem (by rw [HLB.out]; exact hlt)⟩
        obtain ⟨ap, e1, hp1⟩ := (HNP5.out.keep hBr) k x hxk
        obtain ⟨aq, e2, hq1⟩ := (HNQ.out.keep hBr) k x hxk
        subst e1
        subst e2
        have g1 := fun q => (show ((wr.drewN q).cell? (ap.add k) = _) from hp1)
        have g2 := fun q => (show ((wr.drewN q).cell? (aq.add k) = _) from hq1)
        have HBR := Lib.hid hBr
        clear hxk hp1 hq1 hBr
        go_wp2_with fail
        go_quiet (fail)
        go_wp2_with fail
        go_roundw
        case rel => exact ⟨k + 1, by omega, by go_num, belowD HBR.out _⟩
        case measure => simp [intOf]; omega
      · go_wp2_with fail
        go_ret
        exact ⟨rfl, keepB HB5.out hBr⟩
end Go.Proofs.Ytlmbkfdpgmmacaa
