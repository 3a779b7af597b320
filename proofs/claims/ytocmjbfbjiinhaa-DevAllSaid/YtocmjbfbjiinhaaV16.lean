/- Contract: Crash. -/
import Derived.Test.YtocmjbfbjiinhaaV15
namespace Go.Proofs.Ytocmjbfbjiinhaa
open Go.ChangeShapes Go.WideShapes Go.ChangeAt Go.RowKit
set_option linter.unusedVariables false
theorem encB_one (l : List (List Int)) : ∀ x ∈ encB l, x.oneCell' = true := by
  intro x hx
  unfold encB at hx
  obtain ⟨b, _, hb⟩ := List.mem_flatMap.1 hx
  exact Bs_one b x hb
def VC8 (hp k gn gs : Nat) (sNow sSure un us : Value) (i : Nat) (v : Value) (w : World) : Prop :=
  match i with
  | 0 | 1 | 2 | 7 | 8 => v = .pointer (some ⟨hp, 0, none⟩)
  | 3 => v = sNow
  | 4 | 11 => v = .int .i64 k
  | 5 => v = .pointer (some ⟨gn, k, none⟩)
  | 6 => v = un
  | 9 => v = .pointer (some ⟨hp, 1, none⟩)
  | 10 => v = sSure
  | 12 => v = .pointer (some ⟨gs, k, none⟩)
  | 13 => v = us
  | _ => True
set_option maxRecDepth 100000 in
set_option maxHeartbeats 1600000 in
theorem crash_any {w : World} {F : Nat → Prop} {hp : Nat} {m : DM} (h : Dev w F hp m) (A : Option Addr) (ks : List (List Int)) (c : Nat) (hks : TxtsF w F A ks) (hkl : ks.length ≤ 1000000) (hmax : m.done.length ≤ 1000000) :
    Calls Try.prog 18 #[.pointer (some ⟨hp, 0, none⟩), .slice A ks.length c] w fun e w' => e = .returned (.tuple #[]) ∧ DevStep w w' F hp (m.crash ks) := by
  obtain ⟨O, L, h, hF, hlt⟩ := h
  have hO : ∀ k, O k ≠ .none → k < w.heap.size := fun k hk => hlt k ((hF k).2 hk)
  have HH := Lib.hid h
  have few := h.ok.few
  obtain ⟨An, capn, hvn, hn1, hn2⟩ := h.now.val
  have c0 := h.c0
  rw [hvn] at c0
  have HO := Lib.hid hO
  have HF := Lib.hid hF
  have HKS := Lib.hid hks
  clear h hlt hO hF hks hvn
  generalize hR : m.now.length = R at *
  generalize hN : m.done.length = N at *
  generalize hKL : ks.length = kl at *
  have HR := Lib.hid hR
  have HN := Lib.hid hN
  have HKL := Lib.hid hKL
  clear hR hN hKL
  go_enter Try.func18, Try.ntmps18
  go_wp2_with fail
  clear c0
  go_loopw [13] (fun i wr => ∃ k : Nat, i = .int .i64 k ∧ k ≤ R ∧ DevAt wr O hp L (crashN m ks k) ∧ Touch (fun k => O k ≠ .none) w wr) (fun i _ => R - (intOf i).toNat)
  case atStart => exact ⟨0, rfl, Nat.zero_le _, HH.out, Touch.refl _ _⟩
  case round =>
    obtain ⟨k, rfl, hk, hd, ht⟩ := hrel
    have HD := Lib.hid hd
    have HT := Lib.hid ht
    have hsz := ht.size
    clear hd ht
    by_cases hlt : k < R
    · have hns : O wr.heap.size = .none := by
        cases ho : O wr.heap.size with
        | none => rfl
        | _ => have := HO.out _ (by rw [ho]; simp); omega
      have HNS := Lib.hid hns
      clear hns
      go_upto_if 19 with fail
      go_cut [4, 5, 13] (fun s4 s5 s13 wx => ∃ (A' : Option Addr) (c' : Nat) (text : List Int), s4 = .int .i64 k ∧ s5 = .pointer (some ⟨wr.heap.size, 0, none⟩) ∧ s13 = .int .i64 k ∧ Hid (text = ks.getD k []) ∧ wx = wr.alloc (.cells #[.slice A' text.length c'] 31) ∧ Hid (AllB text ∧ text.length ≤ 9223372036854775807 ∧ ∀ W, Touch F w W → Byt W A' text))
      case first =>
        by_cases hkl2 : k < kl
        · obtain ⟨bs, hbs⟩ : ∃ bs, ks[k]? = some bs := ⟨_, List.getElem?_eq_getElem (by rw [HKL.out]; exact hkl2)⟩
          obtain ⟨a, A', c', rfl, h1, h3, h4, h5⟩ := HKS.out k bs hbs
          have hTF : Touch F w wr := HT.out.mono fun k _ hk => (HF.out k).2 hk
          have hcell : (wr.alloc (.cells #[.slice none 0 0] 31)).cell? (a.add k) = some (.slice A' bs.length c') := keepA (h1 wr hTF).1 _
          have HBS := Lib.hid hbs
          have HM := Lib.hid (And.intro h3 (And.intro (show bs.length ≤ 9223372036854775807 by omega) (fun W hW => (h1 W hW).2)))
          have hkk : (k : Int) < kl := by omega
          have HGB : Hid (bs = ks.getD k []) := by show _ = _; rw [List.getD, hbs]; rfl
          clear h1 h3 hbs hTF
          go_wp2
          rename_i hJc hKc
          first | refine hJc _ _ ?_ | refine hKc _ _ ?_
          repeat apply Exists.intro
          exact ⟨⟨A', c', bs, rfl, rfl, rfl, HGB, rfl, HM⟩, rfl⟩
        · have hgd : ks.getD k [] = [] := by rw [List.getD, List.getElem?_eq_none (by rw [HKL.out]; omega)]; rfl
          have HGD := Lib.hid hgd
          clear hgd
          have hkk : ¬ (k : Int) < kl := by omega
          go_wp2
          rename_i hJc hKc
          first | refine hJc _ _ ?_ | refine hKc _ _ ?_
          repeat apply Exists.intro
          exact ⟨⟨none, 0, [], rfl, rfl, rfl, HGD.out.symm, rfl, Lib.hid ⟨(fun x hx => by cases hx), by simp, fun W hW i x hx => by cases hx⟩⟩, rfl⟩
      case rest =>
        obtain ⟨A', c', text, rfl, rfl, rfl, HTX, rfl, HM⟩ := hcut
        have hD1 : DevAt (wr.alloc (.cells #[.slice A' text.length c'] 31)) O hp L (crashN m ks k) := HD.out.alloc _
        have hset := Lib.hid (settle_any hD1 k (by rw [(crashN_len m ks k).1, HR.out]; exact hlt) (by rw [(crashN_len m ks k).2, HN.out]; omega) 36 #[.pointer (some ⟨wr.heap.size, 0, none⟩)] (bitAt text) (fun args W => run_enter Try.func36 (by kernel_rfl) rfl args W)
          (fun W n hW hn => by
            have hTF : Touch F w W := (((HT.out.mono fun k _ hk => (HF.out k).2 hk).alloc _).trans' hW fun x hx => Or.inl ((HF.out x).2 (by rw [hx]; simp)))
            refine crashOne_any W wr.heap.size A' text c' n ?_ HM.out.1 (HM.out.2.2 W hTF) HM.out.2.1 hn
            have hc0 : (wr.alloc (.cells #[.slice A' text.length c'] 31)).cell? ⟨wr.heap.size, 0, none⟩ = some (.slice A' text.length c') := by rw [blk_cell (heap_alloc_new wr _)]; rfl
            exact keepT hW hc0 (by show ¬ O wr.heap.size = _; rw [HNS.out]; simp)))
        have HD1 := Lib.hid hD1
        clear hD1
        go_wp2_with fail
        refine hset.out.mono ?_
        rintro e w2 ⟨rfl, hd2, ht2⟩
        have HD2 := Lib.hid hd2
        have ht2' : Touch (fun k => O k ≠ .none) w w2 := (HT.out.alloc _).trans' ht2 fun x hx => Or.inl (by rcases hx with hx | hx <;> rw [hx] <;> simp)
        have HT2 := Lib.hid ht2'
        clear hd2 ht2 ht2'
        obtain ⟨nrow, hnr⟩ : ∃ x, (crashN m ks k).now[k]? = some x := ⟨_, List.getElem?_eq_getElem (by rw [(crashN_len m ks k).1, HR.out]; exact hlt)⟩
        have hsok := HD2.out.ok
        obtain ⟨srow, hsr⟩ : ∃ x, ((crashN m ks k).settle k (bitAt text)).sure[k]? = some x := ⟨_, List.getElem?_eq_getElem (by rw [hsok.sureLen]; show k < (crashN m ks k).now.length; rw [(crashN_len m ks k).1, HR.out]; exact hlt)⟩
        obtain ⟨⟨nrow', hnr', hlen⟩, _⟩ := hsok.sures k srow hsr
        rw [show ((crashN m ks k).settle k (bitAt text)).now[k]? = some nrow from hnr] at hnr'
        injection hnr' with hnr'
        subst hnr'
        obtain ⟨gn, capn', un, hvn, _, _, hcn, _, hrn⟩ := HD2.out.now.row hnr
        obtain ⟨gs, caps', us, hvs, _, _, hcs, _, hrs⟩ := HD2.out.sure.row hsr
        have hvn' : L.sNow = .slice (some ⟨gn, 0, none⟩) R capn' := by rw [hvn]; show Value.slice _ (crashN m ks k).now.length _ = _; rw [(crashN_len m ks k).1, HR.out]
        have hvs' : L.sSure = .slice (some ⟨gs, 0, none⟩) R caps' := by rw [hvs, hsok.sureLen]; show Value.slice _ (crashN m ks k).now.length _ = _; rw [(crashN_len m ks k).1, HR.out]
        have hgs : ((crashN m ks k).settle k (bitAt text)).sure.getD k [] = srow := by rw [List.getD, hsr]; rfl
        have HVN := Lib.hid hvn'
        have HVS := Lib.hid hvs'
        have HCN := Lib.hid hcn
        have HCS := Lib.hid hcs
        have HRN := Lib.hid hrn
        have HRS := Lib.hid hrs
        have HNR := Lib.hid hnr
        have HLEN := Lib.hid hlen
        have HGS := Lib.hid hgs
        have hkk : (k : Int) < R := by omega
        clear hnr hsok hsr hlen hvn hvs hvn' hvs' hcn hcs hrn hrs hgs
        go_wp2_with fail
        go_upto_region 8 with fail
        have grefl : ∀ W : World, W.grownBy W none := fun W => World.grownBy.refl W _
        refine wp_region_rg (VC8 hp k gn gs L.sNow L.sSure un us) (Below w2.heap.size w2) (fun w w' => w.grownBy w' none) (by kernel_rfl) (by kernel_rfl) (fun j v w w' h _ => h) ((Below.refl _ _).drew) ?_
        simp only [RAll]
        refine ⟨?_, ?_, ?_, ?_, ?_, ?_, ?_, ?_, ?_, ?_, ?_, ?_, ?_, ?_, ?_⟩
        · refine RStep.of rfl fun T W hag hJ hd => ?_   -- 0: 28 := Op.move (Operand.tmp 0)
          have e0 : T.getD 0 undef = _ := (agree_at hag 0 (by kernel_rfl)).trans rfl
          clear hag hd
          go_simp
          first | exact ⟨_, rfl, rfl⟩ | exact ⟨_, rfl, rfl, hJ, grefl _⟩
        · refine RStep.of rfl fun T W hag hJ hd => ?_   -- 1: 29 := Op.nilCheck (Operand.tmp 28)
          have d28 : T.getD 28 undef = _ := hd ⟨0, .data⟩ (by simp) rfl _ rfl
          clear hag hd
          go_simp
          first | exact ⟨_, rfl, rfl⟩ | exact ⟨_, rfl, rfl, hJ, grefl _⟩
        · refine RStep.of rfl fun T W hag hJ hd => ?_   -- 2: 30 := Op.fieldAddr 63 (Operand.tmp 29) 0
          have d29 : T.getD 29 undef = _ := hd ⟨1, .data⟩ (by simp) rfl _ rfl
          clear hag hd
          go_simp
          first | exact ⟨_, rfl, rfl⟩ | exact ⟨_, rfl, rfl, hJ, grefl _⟩
        · refine RStep.of rfl fun T W hag hJ hd => ?_   -- 3: 31 := Op.load 60 (Operand.tmp 30)
          have d30 : T.getD 30 undef = _ := hd ⟨2, .data⟩ (by simp) rfl _ rfl
          have fct0 := (HD2.out.below hJ).c0
          clear hag hd
          go_simp
          first | exact ⟨_, rfl, rfl⟩ | exact ⟨_, rfl, rfl, hJ, grefl _⟩
        · refine RStep.of rfl fun T W hag hJ hd => ?_   -- 4: 32 := Op.move (Operand.tmp 4)
          have e4 : T.getD 4 undef = _ := (agree_at hag 4 (by kernel_rfl)).trans rfl
          clear hag hd
          go_simp
          first | exact ⟨_, rfl, rfl⟩ | exact ⟨_, rfl, rfl, hJ, grefl _⟩
        · refine RStep.of rfl fun T W hag hJ hd => ?_   -- 5: 33 := Op.indexAddr 60 (Operand.tmp 31) (Operand.tmp 32)
          have d31 : T.getD 31 undef = _ := hd ⟨3, .data⟩ (by simp) rfl _ rfl
          rw [HVN.out] at d31
          have d32 : T.getD 32 undef = _ := hd ⟨4, .data⟩ (by simp) rfl _ rfl
          clear hag hd
          go_simp
          first | exact ⟨_, rfl, rfl⟩ | exact ⟨_, rfl, rfl, hJ, grefl _⟩
        · refine RStep.of rfl fun T W hag hJ hd => ?_   -- 6: 34 := Op.load 64 (Operand.tmp 33)
          have d33 : T.getD 33 undef = _ := hd ⟨5, .data⟩ (by simp) rfl _ rfl
          have fct0 := keepC hJ HCN.out
          clear hag hd
          go_simp
          first | exact ⟨_, rfl, rfl⟩ | exact ⟨_, rfl, rfl, hJ, grefl _⟩
        · refine RStep.of rfl fun T W hag hJ hd => ?_   -- 7: 35 := Op.move (Operand.tmp 0)
          have e0 : T.getD 0 undef = _ := (agree_at hag 0 (by kernel_rfl)).trans rfl
          clear hag hd
          go_simp
          first | exact ⟨_, rfl, rfl⟩ | exact ⟨_, rfl, rfl, hJ, grefl _⟩
        · refine RStep.of rfl fun T W hag hJ hd => ?_   -- 8: 36 := Op.nilCheck (Operand.tmp 35)
          have d35 : T.getD 35 undef = _ := hd ⟨7, .data⟩ (by simp) rfl _ rfl
          clear hag hd
          go_simp
          first | exact ⟨_, rfl, rfl⟩ | exact ⟨_, rfl, rfl, hJ, grefl _⟩
        · refine RStep.of rfl fun T W hag hJ hd => ?_   -- 9: 37 := Op.fieldAddr 63 (Operand.tmp 36) 1
          have d36 : T.getD 36 undef = _ := hd ⟨8, .data⟩ (by simp) rfl _ rfl
          clear hag hd
          go_simp
          first | exact ⟨_, rfl, rfl⟩ | exact ⟨_, rfl, rfl, hJ, grefl _⟩
        · refine RStep.of rfl fun T W hag hJ hd => ?_   -- 10: 38 := Op.load 60 (Operand.tmp 37)
          have d37 : T.getD 37 undef = _ := hd ⟨9, .data⟩ (by simp) rfl _ rfl
          have fct0 := (HD2.out.below hJ).c1
          clear hag hd
          go_simp
          first | exact ⟨_, rfl, rfl⟩ | exact ⟨_, rfl, rfl, hJ, grefl _⟩
        · refine RStep.of rfl fun T W hag hJ hd => ?_   -- 11: 39 := Op.move (Operand.tmp 4)
          have e4 : T.getD 4 undef = _ := (agree_at hag 4 (by kernel_rfl)).trans rfl
          clear hag hd
          go_simp
          first | exact ⟨_, rfl, rfl⟩ | exact ⟨_, rfl, rfl, hJ, grefl _⟩
        · refine RStep.of rfl fun T W hag hJ hd => ?_   -- 12: 40 := Op.indexAddr 60 (Operand.tmp 38) (Operand.tmp 39)
          have d38 : T.getD 38 undef = _ := hd ⟨10, .data⟩ (by simp) rfl _ rfl
          rw [HVS.out] at d38
          have d39 : T.getD 39 undef = _ := hd ⟨11, .data⟩ (by simp) rfl _ rfl
          clear hag hd
          go_simp
          first | exact ⟨_, rfl, rfl⟩ | exact ⟨_, rfl, rfl, hJ, grefl _⟩
        · refine RStep.of rfl fun T W hag hJ hd => ?_   -- 13: 41 := Op.load 64 (Operand.tmp 40)
          have d40 : T.getD 40 undef = _ := hd ⟨12, .data⟩ (by simp) rfl _ rfl
          have fct0 := keepC hJ HCS.out
          clear hag hd
          go_simp
          first | exact ⟨_, rfl, rfl⟩ | exact ⟨_, rfl, rfl, hJ, grefl _⟩
        · refine RLast.of rfl fun T W hag hJ hd => ?_   -- 14: 42 := Op.call { callee := Callee.builtin Builtin.copy, args := #[Operand.tmp
          have d34 : T.getD 34 undef = _ := hd 6 _ (by simp) rfl
          have d41 : T.getD 41 undef = _ := hd 13 _ (by simp) rfl
          refine wp_copy_rows (.tmp 34) (.tmp 41) 64 64 rfl 73 64 Try.underlying64 size73 un us nrow.length (encB nrow) (encB srow) _ _ d34 d41 (HRN.out.below hJ) (by rw [← HLEN.out]; exact HRS.out.below hJ) (encB_one srow) ?_
          intro w' hrow hgr
          have hdW := (HD2.out.below hJ).toDevRaw
          have hnew : DevRaw w' O hp L { (crashN m ks k).settle k (bitAt text) with now := (crashN m ks k).now.set k srow } :=
            DevRaw.setRowNow (m := (crashN m ks k).settle k (bitAt text)) hdW HNR.out (by rw [HVN.out]; show _ = Value.slice _ (crashN m ks k).now.length _; rw [(crashN_len m ks k).1, HR.out]) (keepC hJ HCN.out) (by rw [HLEN.out]; exact hrow) (fun k' hk' ho => hgr.block k' hk' (fun e => ho (HRN.out.2 k' e.symm)))
          have htc : Touch (fun k => O k ≠ .none) w w' := (HT2.out.trans (Touch.of_below hJ _)).trans' (Touch.of_grown hgr) fun k' hk' => Or.inl (by rw [HRN.out.2 k' hk'.symm]; simp)
          have hraw : DevRaw w' O hp L (crashN m ks (k + 1)) := by
            show DevRaw w' O hp L ((crashN m ks k).crash1 k (ks.getD k []))
            unfold DM.crash1
            rw [← HTX.out, HGS.out]; exact hnew
          have HM3 := Lib.hid (And.intro hraw htc)
          obtain ⟨f, hf, hT⟩ := agree_fn hag
          clear hag hd d34 d41 hf hdW hnew htc hrow hgr hraw
          rw [hT]
          clear hT
          simp only [List.filterMap_cons, List.filterMap_nil, List.foldl_cons, List.foldl_nil, List.setIfInBounds_toArray, List.set_cons_succ, List.set_cons_zero]
          go_wp2
          go_roundw
          case rel => exact ⟨k + 1, by go_num, by omega, ⟨HM3.out.1, crashN_ok HH.out.ok ks (k + 1) (by rw [HR.out]; omega)⟩, HM3.out.2⟩
          case measure => simp [intOf]; omega
    · obtain rfl : k = R := by omega
      have hst := Lib.hid (stop_any HD.out (-1) (by constructor <;> omega) (by omega))
      go_wp2_with fail
      refine hst.out.mono ?_
      rintro e w2 ⟨rfl, hd2, ht2⟩
      have HM := Lib.hid (And.intro hd2 ht2)
      clear hd2 ht2
      go_wp2
      go_end0
      refine ⟨rfl, F, ⟨O, L, ?_, HF.out, fun k hk => ?_⟩, ?_, fun k hk => Or.inl hk⟩
      · unfold DM.crash; rw [HR.out]; exact HM.out.1
      · have h1 := HO.out k ((HF.out k).1 hk)
        have h2 := HM.out.2.size
        omega
      · refine (HT.out.mono fun k _ hk => (HF.out k).2 hk).trans' HM.out.2 fun k hk => Or.inl ?_
        subst hk
        exact (HF.out _).2 (by rw [HD.out.ohd]; simp)
end Go.Proofs.Ytocmjbfbjiinhaa
