/- Contract: rec.Take. -/
import Derived.Test.YtflldlhfeiamnaaEp
namespace Go.Proofs.Ytflldlhfeiamnaa
open Go.ChangeShapes Go.WideShapes Go.ChangeAt Go.RowKit
set_option linter.unusedVariables false
theorem cnt_nil : cnt [] = 0 := rfl
theorem takeV_no {lb : Int} {e s : Nat} {log : List (List Int)} (h : ¬ Taken lb e s log) : takeV lb e s log = [] ∧ takeN lb e s log = 0 := by
  unfold takeV takeN; rw [if_neg h, if_neg h]; exact ⟨rfl, rfl⟩
theorem takeV_yes {lb : Int} {e s : Nat} {log : List (List Int)} (h : Taken lb e s log) : takeV lb e s log = readW log (cnt log) ∧ takeN lb e s log = 1 + cnt log := by
  unfold takeV takeN; rw [if_pos h, if_pos h]; exact ⟨rfl, rfl⟩
theorem putL_txOk {lb : Int} (e s : Nat) {l : List Wr} (hlb : 0 ≤ lb ∧ lb ≤ 255) (hm : MayL l) (hok : WrsOk l) : TxOk (putL lb e s l) := fun b hb => by
  unfold putL at hb
  rcases List.mem_cons.1 hb with rfl | hb
  · exact sumd_allB (headR_allB e s hlb hm)
  · obtain ⟨x, hx, rfl⟩ := List.mem_map.1 hb
    exact sumd_allB (bearB_allB (hok x hx).b)
set_option maxRecDepth 100000 in
set_option maxHeartbeats 3200000 in
theorem take_any (lb : Int) (e s : Nat) (A : Option Addr) (log : List (List Int)) (n c : Nat) (w : World) (hlb : 0 ≤ lb ∧ lb ≤ 255) (he : e < 4294967296) (hs : s < 4294967296) (hn : log.length = n) (hl : n ≤ c) (hc : c ≤ 9223372036854775807) (hok : TxOk log) (hy : Tx w A log) :
    Calls Try.prog 12 #[.int .u8 lb, .int .u32 e, .int .u32 s, .slice A n c] w fun en w' => ∃ v, en = .returned (.tuple #[v, .int .i64 (takeN lb e s log), .bool (decide (Taken lb e s log))]) ∧ OwnW w' w.heap.size v (takeV lb e s log) ∧ Below w.heap.size w w' := by
  have HY := Lib.hid hy
  have HN := Lib.hid hn
  have HO := Lib.hid hok
  have HRD := Lib.hid (read_any A log n c w hn hl hc hok hy)
  have HNO : Hid (¬ Taken lb e s log → takeV lb e s log = [] ∧ takeN lb e s log = 0 ∧ decide (Taken lb e s log) = false) := fun h => ⟨(takeV_no h).1, (takeV_no h).2, decide_eq_false h⟩
  clear hn hok hy
  go_enter Try.func12, Try.ntmps12
  go_wp2
  refine wp_scope1e (fun a' w' => Hid (Below w.heap.size w w' ∧ ¬ Taken lb e s log) ∧ ∃ u0 u1 u2 u3 u4 u5 u6 u7 u8 u9 u10 u11 u12 u13 u14 u15 u16 u17 u18 u19 u20 u21 u22 u23 u24 u25 u26 u27 u28 u29 u30 u31 u32 u33 u34 u35 u36 u37 u38 u39 : Value, a' = { tmps := #[u0, u1, u2, u3, u4, u5, u6, u7, u8, u9, u10, u11, u12, u13, u14, u15, u16, u17, u18, u19, u20, u21, u22, u23, u24, u25, u26, u27, u28, u29, u30, u31, u32, u33, u34, u35, u36, u37, u38, u39], defers := [] }) (fun _ _ => 0) rfl ?_ ?_
  · intro _
    by_cases hcr : CanRead log
    · have HRX : Hid (readX log = readW log (cnt log)) := by unfold Hid readX; rw [if_pos hcr]
      have hcn : cnt log < n := by rw [← HN.out]; exact hcr.2.2
      have hcn12 : cnt log ≤ 12 := hcr.2.1
      have HCR := Lib.hid hcr
      rw [decide_eq_true hcr] at HRD
      clear hcr
      go_wp2_with fail
      refine HRD.out.mono ?_
      rintro en w1 ⟨v, rfl, own, hb1⟩
      rw [HRX.out] at own
      have hok1 := readW_ok HO.out (cnt log)
      obtain ⟨Av, dv, rfl, hdv, hdv2, hwv⟩ := own.wrs hok1.len
      rw [readW_length] at hdv ⊢
      have HOW := Lib.hid own
      rw [readW_length] at HOW
      have HOK1 := Lib.hid hok1
      have HP := Lib.hid (put_any lb e s Av (readW log (cnt log)) (cnt log) dv w1 hlb he hs (readW_length _ _) hdv hdv2 hok1 hwv)
      have HY1 := Lib.hid (HY.out.keep hb1)
      have HRL := Lib.hid (readW_length log (cnt log))
      clear HRD own hok1 hwv
      generalize hlv : readW log (cnt log) = lv at *
      have HLV := Lib.hid hlv
      clear hlv
      generalize hcc : cnt log = cn at *
      have HCC := Lib.hid hcc
      clear hcc
      obtain ⟨p, hp, HPP⟩ : ∃ p : Nat, 1 + (cn : Int) = p ∧ Hid (p = 1 + cn) := ⟨1 + cn, by omega, rfl⟩
      have w1c : IntKind.i64.wrap (p : Int) = p := IntWalk.i64_in _ (by omega)
      by_cases hmay : MayL lv
      · have HPX : Hid (putX lb e s lv = putL lb e s lv) := by unfold Hid putX; rw [if_pos hmay]
        have HMAY := Lib.hid hmay
        rw [decide_eq_true hmay] at HP
        have HTX := Lib.hid (putL_txOk e s hlb hmay HOK1.out)
        clear hmay
        go_wp2_with fail
        refine HP.out.mono ?_
        rintro en w2 ⟨v2, rfl, ot2, hb2⟩
        rw [HPX.out] at ot2
        obtain ⟨A2, d2, rfl, hd2, hd22, htx2⟩ := ot2.tx
        rw [putL_length, HRL.out, ← HPP.out] at hd2 ⊢
        have HY2 := Lib.hid (HY1.out.keep hb2)
        have HEQ := Lib.hid (eqfunc_any A2 A (putL lb e s lv) (log.take p) p p d2 c w2 (by rw [putL_length, HRL.out, ← HPP.out]) (by rw [List.length_take, HN.out]; omega) (by omega) HTX.out (fun b hb => HO.out b (List.mem_of_mem_take hb)) htx2 (HY2.out.take _))
        have HOW2 := Lib.hid (show OwnW w2 w.heap.size (.slice Av cn dv) lv from ownB HOW.out hb2)
        have HBL2 := Lib.hid (keepB hb1 hb2)
        clear ot2 htx2 hb1 hb2 hd2 HP
        by_cases hq : putL lb e s lv = log.take p
        · have hT : Taken lb e s log := ⟨HCR.out, by rw [HCC.out, HLV.out]; exact HMAY.out, by rw [HCC.out, HLV.out, ← HPP.out]; exact hq⟩
          have HTV := Lib.hid (takeV_yes hT)
          have HT := Lib.hid hT
          rw [decide_eq_true hq] at HEQ
          clear hq hT
          go_wp2_with fail
          refine HEQ.out.mono ?_
          rintro en w3 ⟨rfl, rfl⟩
          go_wp2_with fail
          try simp only [Exit.jump]
          go_ret3
          exact ⟨_, by rw [HTV.out.2, decide_eq_true HT.out, HCC.out, ← HPP.out]; rfl, by rw [HTV.out.1, HCC.out, HLV.out]; exact HOW2.out, HBL2.out⟩
        · have HNT : Hid (¬ Taken lb e s log) := fun h => hq (by have := h.2.2; rwa [HCC.out, HLV.out, ← HPP.out] at this)
          rw [decide_eq_false hq] at HEQ
          clear hq
          go_wp2_with fail
          refine HEQ.out.mono ?_
          rintro en w3 ⟨rfl, rfl⟩
          go_wp2_with fail
          go_step3
          exact ⟨rfl, ⟨HBL2.out, HNT.out⟩, _, _, _, _, _, _, _, _, _, _, _, _, _, _, _, _, _, _, _, _, _, _, _, _, _, _, _, _, _, _, _, _, _, _, _, _, _, _, _, _, rfl⟩
      · have HNT : Hid (¬ Taken lb e s log) := fun h => hmay (by have := h.2.1; rwa [HCC.out, HLV.out] at this)
        rw [decide_eq_false hmay] at HP
        clear hmay
        go_wp2_with fail
        refine HP.out.mono ?_
        rintro en w2 ⟨v2, rfl, ot2, hb2⟩
        have HBL2 := Lib.hid (keepB hb1 hb2)
        go_wp2_with fail
        go_step3
        exact ⟨rfl, ⟨HBL2.out, HNT.out⟩, _, _, _, _, _, _, _, _, _, _, _, _, _, _, _, _, _, _, _, _, _, _, _, _, _, _, _, _, _, _, _, _, _, _, _, _, _, _, _, _, rfl⟩
    · have HNT : Hid (¬ Taken lb e s log) := fun h => hcr h.1
      rw [decide_eq_false hcr] at HRD
      clear hcr
      go_wp2_with fail
      refine HRD.out.mono ?_
      rintro en w1 ⟨v, rfl, own, hb1⟩
      go_wp2_with fail
      go_step3
      exact ⟨rfl, ⟨hb1, HNT.out⟩, _, _, _, _, _, _, _, _, _, _, _, _, _, _, _, _, _, _, _, _, _, _, _, _, _, _, _, _, _, _, _, _, _, _, _, _, _, _, _, _, rfl⟩
  · rintro a' W ⟨HH, u0, u1, u2, u3, u4, u5, u6, u7, u8, u9, u10, u11, u12, u13, u14, u15, u16, u17, u18, u19, u20, u21, u22, u23, u24, u25, u26, u27, u28, u29, u30, u31, u32, u33, u34, u35, u36, u37, u38, u39, rfl⟩
    go_wp2
    try simp only [Exit.jump]
    go_ret3
    obtain ⟨h1, h2, h3⟩ := HNO.out HH.out.2
    exact ⟨.slice none 0 0, by rw [h2, h3]; rfl, by rw [h1]; exact OwnW.nil _ _, HH.out.1⟩
end Go.Proofs.Ytflldlhfeiamnaa
