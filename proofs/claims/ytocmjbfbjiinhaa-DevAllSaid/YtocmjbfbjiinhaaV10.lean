/- Contract: a Write that is done. -/
import Derived.Test.YtocmjbfbjiinhaaV9
namespace Go.Proofs.Ytocmjbfbjiinhaa
open Go.ChangeShapes Go.WideShapes Go.ChangeAt Go.RowKit
set_option linter.unusedVariables false
theorem keepT {F : Nat → Prop} {w w' : World} (h : Touch F w w') {q : Addr} {v : Value} (hq : w.cell? q = some v) (hF : ¬ F q.block) : w'.cell? q = some v := by
  rw [World.cell?_of_block (h.block q.block (World.block_lt_of_cell? w q hq) hF)]; exact hq
theorem frozenT {F : Nat → Prop} {w w' : World} (h : Touch F w w') {q : Addr} (hq : q.block < w.heap.size) (hF : ¬ F q.block) : w'.frozen? q = w.frozen? q := World.frozen?_of_block (h.block q.block hq hF)
theorem DevRaw.setNow {w : World} {O : Nat → DRole} {hp : Nat} {L : DLay} {m : DM} (h : DevRaw w O hp L m) {r i : Nat} {row : List (List Int)} (hr : m.now[r]? = some row) (hi : i < row.length) (h64 : ∀ x ∈ row, x.length = 64) (b : List Int) (hb : b.length = 64) {g cap g' n' cap' : Nat}
    (hv : L.sNow = .slice (some ⟨g, 0, none⟩) m.now.length cap) (hc : w.cell? ⟨g, r, none⟩ = some (.slice (some ⟨g', 0, none⟩) n' cap')) (ho : O g' = .now r) : DevRaw (w.setCells g' (i * 64) (Bs b)) O hp L { m with now := m.now.set r (row.set i b) } where
  hd := by rw [setCells_other _ _ _ _ _ (fun e => by rw [← e, h.ohd] at ho; cases ho)]; exact h.hd
  ohd := h.ohd
  now := h.now.setBlk hr hi h64 b hb hv hc (by rw [ho]; simp) (fun r' hne => by rw [ho]; simp; exact fun e => hne e.symm)
  sure := h.sure.keep fun k _ hk => setCells_other _ _ _ _ _ (fun e => by rw [e, ho] at hk; rcases hk with hk | ⟨_, hk⟩ <;> cases hk)
  done := h.done.keep fun k _ hk => setCells_other _ _ _ _ _ (fun e => by rw [e, ho] at hk; cases hk)
  uns := h.uns.keep fun k _ hk => setCells_other _ _ _ _ _ (fun e => by rw [e, ho] at hk; cases hk)
set_option maxRecDepth 100000 in
set_option maxHeartbeats 1600000 in
theorem write_yes {w : World} {F : Nat → Prop} {hp : Nat} {m : DM} (h : Dev w F hp m) (r i : Nat) {row : List (List Int)} (hr : m.now[r]? = some row) (hi : i < row.length) (A : Option Addr) (bs : List Int) (c : Nat) (hb : BlkOk bs) (hy : Byt w A bs) (hst : stopped m = false) (hmax : m.done.length ≤ 1000000) :
    Calls Try.prog 21 #[.pointer (some ⟨hp, 0, none⟩), .int .i64 r, .int .i64 i, .slice A 64 c] w fun e w' => e = .returned (.bool true) ∧ DevStep w w' F hp (m.write r i bs) := by
  obtain ⟨O, L, h, hF, hlt⟩ := h
  have hO : ∀ k, O k ≠ .none → k < w.heap.size := fun k hk => hlt k ((hF k).2 hk)
  have HH := Lib.hid h
  have hok := h.ok.rows _ _ hr
  have h64 : ∀ x ∈ row, x.length = 64 := fun x hx => (hok.2 x hx).1
  have hn1 := hok.1
  have hrl := (List.getElem?_eq_some_iff.1 hr).1
  have few := h.ok.few
  obtain ⟨b0, hb0⟩ : ∃ b, row[i]? = some b := ⟨_, List.getElem?_eq_getElem hi⟩
  have hBm := Lib.hid (hasBlock_any h r i (by constructor <;> omega) (by constructor <;> omega))
  have hbt : hasB m r i = true := by
    unfold hasB hasR
    rw [Int.toNat_natCast, rowLen_of hr]
    simp; omega
  rw [hbt] at hBm
  clear hbt
  have hS := Lib.hid (stopped_any h)
  rw [hst] at hS
  have HST := Lib.hid hst
  obtain ⟨g, cap, g', cap', hv, og, og', hgl, hgl', hc, _, hrow0⟩ := h.now.blk hr hb0 h64
  have HROW := Lib.hid hrow0
  obtain ⟨ga, oa, rfl, hra⟩ := hy.addr (by rw [hb.1]; omega)
  have hblen : (Bs bs).length = 64 := by rw [Bs_length]; exact hb.1
  have HV := Lib.hid hv
  have HC := Lib.hid hc
  have HRA := Lib.hid hra
  have HBL := Lib.hid hblen
  have HR := Lib.hid hr
  have HB := Lib.hid hb
  have HO := Lib.hid hO
  have HF := Lib.hid hF
  have HOG := Lib.hid (And.intro og og')
  have H64 := Lib.hid h64
  have HB0 := Lib.hid hb0
  clear h hr hb0 h64 hrow0 hok hv hc hra hblen hst hy hb hlt hO hF og og'
  generalize hR : m.now.length = R at *
  generalize hn : row.length = n at *
  generalize hN : m.done.length = N at *
  have HR2 := Lib.hid hR
  have HNN := Lib.hid hn
  have HN := Lib.hid hN
  clear hR hn hN
  go_enter Try.func21, Try.ntmps21
  go_wp2_with fail
  refine hBm.out.mono ?_
  rintro e w' ⟨rfl, rfl⟩
  go_wp2_with fail
  refine hS.out.mono ?_
  rintro e w' ⟨rfl, rfl⟩
  go_wp2_with fail
  go_upto_region 5 with fail
  go_cut [9] (fun s wx => ∃ q : Nat, s = .pointer (some ⟨q, 0, none⟩) ∧ w.heap.size ≤ q ∧ Below w.heap.size w wx ∧ wx.heap[q]? = some (.cells (Wr.cs ⟨r, i, bs⟩).toArray 75 (0, 0)))
  case first =>
    have grefl : ∀ W : World, W.grownBy W none := fun W => World.grownBy.refl W _
    refine wp_region_rg (VW5 r i (some ⟨ga, oa, none⟩) ga oa w.heap.size bs) (Below w.heap.size w) (fun w w' => w.grownBy w' none) (by kernel_rfl) (by kernel_rfl) (fun j v w w' h hg => h.on hg) ((Below.refl _ _).drew) ?_
    simp only [RAll]
    refine ⟨?_, ?_, ?_, ?_, ?_, ?_, ?_, ?_, ?_⟩
    · refine RStep.of rfl fun T W hag hJ hd => ?_
      have e1 : T.getD 1 undef = _ := (agree_at hag 1 (by kernel_rfl)).trans rfl
      clear hag hd
      go_simp
      exact ⟨_, rfl, rfl⟩
    · refine RStep.of rfl fun T W hag hJ hd => ?_
      have e2 : T.getD 2 undef = _ := (agree_at hag 2 (by kernel_rfl)).trans rfl
      clear hag hd
      go_simp
      exact ⟨_, rfl, rfl⟩
    · refine RStep.of rfl fun T W hag hJ hd => ?_
      have d22 : T.getD 22 undef = _ := hd ⟨0, .data⟩ (by simp) rfl _ rfl
      have d23 : T.getD 23 undef = _ := hd ⟨1, .data⟩ (by simp) rfl _ rfl
      clear hag hd
      go_simp
      refine (place_any W r i).mono ?_; rintro e w' ⟨rfl, rfl⟩
      exact ⟨_, rfl, rfl, hJ, grefl _⟩
    · refine RStep.of rfl fun T W hag hJ hd => ?_
      have e3 : T.getD 3 undef = .slice (some ⟨ga, oa, none⟩) 64 c := (agree_at hag 3 (by kernel_rfl)).trans rfl
      clear hag hd
      go_simp
      exact ⟨_, rfl, c, rfl⟩
    · refine RStep.of rfl fun T W hag hJ hd => ?_
      obtain ⟨c', (d25 : T.getD 25 undef = _)⟩ := hd ⟨3, .data⟩ (by simp) rfl _ rfl
      clear hag hd
      go_simp
      exact ⟨_, rfl, rfl, hJ, grefl _⟩
    · refine RStep.of rfl fun T W hag hJ hd => ?_
      have d26 : T.getD 26 undef = _ := hd ⟨4, .data⟩ (by simp) rfl _ rfl
      refine wp_load_mid 73 (.tmp 26) rfl ga oa d26 (Bs bs) _ (fun j v hj => keepC hJ (HRA.out j v hj)) Try.underlying73 rfl (by rw [HBL.out]; exact size73) ?_
      exact ⟨_, rfl, rfl, hJ, grefl _⟩
    · refine RStep.of rfl fun T W hag hJ hd => ?_
      have d24 : T.getD 24 undef = _ := hd ⟨2, .data⟩ (by simp) rfl _ rfl
      have d27 : T.getD 27 undef = _ := hd ⟨5, .data⟩ (by simp) rfl _ rfl
      refine wp_build_eq 75 _ rfl (Wr.cs ⟨r, i, bs⟩).toArray ?_ ?_
      · simp only [List.map_toArray, List.map_cons, List.map_nil]
        rw [show (⟨T, []⟩ : Act).eval (.tmp 24) = _ from d24, show (⟨T, []⟩ : Act).eval (.tmp 27) = _ from d27]
        exact built75_two r i bs HB.out.1
      · exact ⟨_, rfl, rfl, hJ, grefl _⟩
    · refine RStep.of rfl fun T W hag hJ hd => ?_
      obtain ⟨i0, hi0, hz0, hz1, hz2⟩ := info_parts info75
      refine wp_alloc_of 75 rfl i0 _ hi0 hz0 ?_
      refine ⟨_, rfl, ⟨W.heap.size, _, rfl, hJ.size, ?_, heap_alloc_new W _⟩, hJ.alloc hJ.size _, World.grownBy_alloc W _ _⟩
      simp [Value.cells]
    · refine RLast.of rfl fun T W hag hJ hd => ?_
      obtain ⟨q, C, (d9 : T.getD 9 undef = _), hq, hCs, hqc⟩ := hd 7 _ (by simp) rfl
      have d28 : T.getD 28 undef = _ := hd 6 _ (by simp) rfl
      have hxl : (Wr.cs ⟨r, i, bs⟩).length = 65 := Wr.cs_length HB.out.1
      refine wp_store_mid 75 (.tmp 9) (.tmp 28) rfl q 0 _ d9 d28 (fun j hj => ?_) (by simp only [List.size_toArray, hxl]; exact size75) (all_oneCell_toArray (Wr.cs_one _)) ?_
      · simp only [List.size_toArray, hxl] at hj
        rw [Nat.zero_add, blk_cell hqc j, blk_free hqc j]
        exact ⟨by rw [Array.getElem?_eq_getElem (by omega)]; rfl, rfl⟩
      · have hblk := setCells_same q 75 (Wr.cs ⟨r, i, bs⟩) 0 W C.toList (by simpa using hqc) (by rw [hxl]; simp [hCs])
        rw [splice_all _ _ (by rw [hxl]; simp [hCs])] at hblk
        have hbel : Below w.heap.size w (W.setCells q 0 (Wr.cs ⟨r, i, bs⟩)) :=
          ((Touch.of_below hJ (fun _ => False)).trans' ((Touch.refl (fun k => k = q) W).setCells rfl 0 _) (fun x hx => Or.inr (by omega))).below (Nat.le_refl _) (fun k hk => hk.elim)
        have HM := Lib.hid (And.intro hq (And.intro hbel hblk))
        obtain ⟨f, hf, hT⟩ := agree_fn hag
        have h9 : f 9 = _ := (hf 9).trans d9
        generalize (W.setCells q 0 (Wr.cs ⟨r, i, bs⟩)) = W2 at *
        clear hag hd d28 d9 hf hqc hblk hbel
        rw [hT]
        clear hT
        simp only [List.filterMap_cons, List.filterMap_nil, List.foldl_cons, List.foldl_nil, List.setIfInBounds_toArray, List.set_cons_succ, List.set_cons_zero, h9]
        rename_i hJc hKc
        go_wp2_with fail
        refine hJc _ _ ?_
        repeat apply Exists.intro
        exact ⟨⟨q, rfl, HM.out⟩, rfl⟩
  case rest =>
    obtain ⟨q, rfl, hq, hb, hc⟩ := hcut
    obtain ⟨w1, rfl⟩ : ∃ w1, w1 = wc := ⟨wc, rfl⟩
    have HQ := Lib.hid hq
    have HB1 := Lib.hid hb
    have HC1 := Lib.hid hc
    have hqr := World.rangeAt_of_block hc 0 65
    clear hq hb hc
    go_wp2_with fail
    go_upto_region 6 with fail
    go_cut [9] (fun s wx => s = .pointer (some ⟨q, 0, none⟩) ∧ Touch (fun k => k = g') w1 wx ∧ wx.heap[q]? = some (.cells (Wr.cs ⟨r, i, bs⟩).toArray 75 (0, 0)) ∧ DevRaw wx O hp L { m with now := m.now.set r (row.set i bs) })
    case first =>
      have grefl : ∀ W : World, W.grownBy W none := fun W => World.grownBy.refl W _
      refine wp_region_rg (VW6 hp r i q g' L.sNow bs) (Below w1.heap.size w1) (fun w w' => w.grownBy w' none) (by kernel_rfl) (by kernel_rfl) (fun j v w w' h _ => h) ((Below.refl _ _).drew) ?_
      simp only [RAll]
      refine ⟨?_, ?_, ?_, ?_, ?_, ?_, ?_, ?_, ?_, ?_, ?_⟩
      · refine RStep.of rfl fun T W hag hJ hd => ?_
        have e0 : T.getD 0 undef = _ := (agree_at hag 0 (by kernel_rfl)).trans rfl
        clear hag hd
        go_simp
        exact ⟨_, rfl, rfl⟩
      · refine RStep.of rfl fun T W hag hJ hd => ?_
        have d29 : T.getD 29 undef = _ := hd ⟨0, .data⟩ (by simp) rfl _ rfl
        clear hag hd
        go_simp
        exact ⟨_, rfl, rfl⟩
      · refine RStep.of rfl fun T W hag hJ hd => ?_
        have d30 : T.getD 30 undef = _ := hd ⟨1, .data⟩ (by simp) rfl _ rfl
        clear hag hd
        go_simp
        exact ⟨_, rfl, rfl⟩
      · refine RStep.of rfl fun T W hag hJ hd => ?_
        have d31 : T.getD 31 undef = _ := hd ⟨2, .data⟩ (by simp) rfl _ rfl
        have c0 := ((HH.out.below HB1.out).below hJ).c0
        clear hag hd
        go_simp
        exact ⟨_, rfl, rfl⟩
      · refine RStep.of rfl fun T W hag hJ hd => ?_
        have e9 : T.getD 9 undef = .pointer (some ⟨q, 0, none⟩) := (agree_at hag 9 (by kernel_rfl)).trans rfl
        clear hag hd
        go_simp
        exact ⟨_, rfl, rfl⟩
      · refine RStep.of rfl fun T W hag hJ hd => ?_
        have d33 : T.getD 33 undef = _ := hd ⟨4, .data⟩ (by simp) rfl _ rfl
        have c0 : W.cell? ⟨q, 0, none⟩ = some (.complex .f64 (Fx.fb r) (Fx.fb i)) := keepC hJ (by rw [blk_cell HC1.out 0]; rfl)
        clear hag hd
        go_simp
        exact ⟨_, rfl, rfl⟩
      · refine RStep.of rfl fun T W hag hJ hd => ?_
        have d32 : T.getD 32 undef = _ := hd ⟨3, .data⟩ (by simp) rfl _ rfl
        have d34 : T.getD 34 undef = _ := hd ⟨5, .data⟩ (by simp) rfl _ rfl
        rw [HV.out] at d32
        clear hag hd
        go_simp
        refine (blockAt_any W g cap R r i g' n cap' hrl hi (by omega) hn1 (keepC hJ (keepC HB1.out HC.out))).mono ?_; rintro e w' ⟨rfl, rfl⟩
        exact ⟨_, rfl, rfl, hJ, grefl _⟩
      · refine RStep.of rfl fun T W hag hJ hd => ?_
        have e9 : T.getD 9 undef = .pointer (some ⟨q, 0, none⟩) := (agree_at hag 9 (by kernel_rfl)).trans rfl
        clear hag hd
        go_simp
        exact ⟨_, rfl, rfl⟩
      · refine RStep.of rfl fun T W hag hJ hd => ?_
        have d36 : T.getD 36 undef = _ := hd ⟨7, .data⟩ (by simp) rfl _ rfl
        refine wp_load_mid 73 (.tmp 36) rfl q 1 d36 (Bs bs) _ (fun j v hj => keepC hJ (by rw [blk_cell HC1.out]; show (Wr.cs ⟨r, i, bs⟩).toArray[1 + j]? = _; rw [List.getElem?_toArray, Nat.add_comm]; exact hj)) Try.underlying73 rfl (by rw [HBL.out]; exact size73) ?_
        exact ⟨_, rfl, rfl, hJ, grefl _⟩
      · refine RStep.of rfl fun T W hag hJ hd => ?_
        have d35 : T.getD 35 undef = _ := hd ⟨6, .data⟩ (by simp) rfl _ rfl
        clear hag hd
        go_simp
        exact ⟨_, rfl, rfl⟩
      · refine RLast.of rfl fun T W hag hJ hd => ?_
        have d38 : T.getD 38 undef = _ := hd 9 _ (by simp) rfl
        have d37 : T.getD 37 undef = _ := hd 8 _ (by simp) rfl
        have hdW := (HH.out.below HB1.out).below hJ
        have hcW : W.cell? ⟨g, r, none⟩ = _ := keepC hJ (keepC HB1.out HC.out)
        have hrW := (HROW.out.below HB1.out).below hJ
        refine wp_store_mid 73 (.tmp 38) (.tmp 37) rfl g' (i * 64) _ d38 d37 (by simp only [List.size_toArray, HBL.out]; exact hrW.there (i * 64) 64 (by omega)) (by simp only [List.size_toArray, HBL.out]; exact size73) (all_oneCell_toArray (Bs_one bs)) ?_
        have hnew := hdW.toDevRaw.setNow HR.out (by rw [HNN.out]; exact hi) H64.out bs HB.out.1 (by rw [HR2.out]; exact HV.out) hcW HOG.out.2
        have htc : Touch (fun k => k = g') w1 (W.setCells g' (i * 64) (Bs bs)) := ((Touch.of_below hJ (fun k => k = g')).setCells rfl _ _)
        have hqc : (W.setCells g' (i * 64) (Bs bs)).heap[q]? = _ := (htc.block q (room_lt HC1.out) (fun e => by have := HQ.out; rw [e] at this; omega)).trans HC1.out
        have HM := Lib.hid (And.intro htc (And.intro hqc hnew))
        have e9 : T.getD 9 undef = .pointer (some ⟨q, 0, none⟩) := (agree_at hag 9 (by kernel_rfl)).trans rfl
        obtain ⟨f, hf, hT⟩ := agree_fn hag
        generalize (W.setCells g' (i * 64) (Bs bs)) = W2 at *
        clear hag hd d38 d37 hf hdW hcW hrW hnew htc hqc e9
        rw [hT]
        clear hT
        simp only [List.filterMap_cons, List.filterMap_nil, List.foldl_cons, List.foldl_nil, List.setIfInBounds_toArray, List.set_cons_succ, List.set_cons_zero]
        rename_i hJc hKc
        go_wp2_with fail
        refine hJc _ _ ?_
        repeat apply Exists.intro
        exact ⟨⟨rfl, HM.out⟩, rfl⟩
    case rest =>
      obtain ⟨rfl, hT1, hc2, hd2⟩ := hcut
      obtain ⟨w2, rfl⟩ : ∃ w2, w2 = wc := ⟨wc, rfl⟩
      have HT1 := Lib.hid hT1
      have HC2 := Lib.hid hc2
      have HD2 := Lib.hid hd2
      have hq2 := room_lt hc2
      have hoq : O q = .none := by
        cases ho : O q with
        | none => rfl
        | _ => have := HO.out q (by rw [ho]; simp); have := HQ.out; omega
      have HOQ := Lib.hid hoq
      clear hT1 hc2 hd2 hoq
      have hqhp : hp ≠ q := fun e => by have h1 := HOQ.out; rw [← e, HD2.out.ohd] at h1; cases h1
      go_wp2_with fail
      go_upto_region 7 with fail
      go_cut [9] (fun s wx => ∃ v : Value, s = .pointer (some ⟨q, 0, none⟩) ∧ Touch (fun k => k = hp ∨ O k = .done) w2 wx ∧ (∀ k, v.ownBlock = some k → O k = .done ∨ w2.heap.size ≤ k) ∧ DevRaw wx (growO O w2.heap.size v) hp { L with sDone := v } { m with now := m.now.set r (row.set i bs), done := m.done ++ [⟨r, i, bs⟩] })
      case first =>
        have grefl : ∀ (W : World) (o : Option Nat), W.grownBy W o := fun W o => World.grownBy.refl W _
        have srefl : ∀ (i : Nat) (W : World), SW7 L.sDone i W W := fun i W => by unfold SW7; split <;> exact World.grownBy.refl W _
        have hBd : ∀ k, L.sDone.ownBlock = some k → k < w2.heap.size := fun k hk => (HD2.out.done.1.lt k hk).2
        have hJ0 : Touch (fun k => O k = .done) w2 w2.drew ∧ RowAt w2.drew (fun k => O k = .done) 75 65 L.sDone N (encW m.done) := ⟨(Touch.refl _ _).drew, by have := HD2.out.done; rw [← HN.out]; exact this⟩
        refine wp_region_rgi (VW7 hp q w2.heap.size (fun k => O k = .done) L.sDone N (encW m.done) ⟨r, i, bs⟩) (fun W => Touch (fun k => O k = .done) w2 W ∧ RowAt W (fun k => O k = .done) 75 65 L.sDone N (encW m.done)) (SW7 L.sDone) (by kernel_rfl) (by kernel_rfl) (fun i j v w w' hij h hg => h.on hBd hij hg) hJ0 ?_
        clear hJ0
        have hpn : ¬ O hp = .done := by rw [HD2.out.ohd]; simp
        have hqn : ¬ O q = .done := by rw [HOQ.out]; simp
        simp only [RAll]
        refine ⟨?_, ?_, ?_, ?_, ?_, ?_, ?_, ?_, ?_, ?_, ?_⟩
        · refine RStep.of rfl fun T W hag hJ hd => ?_
          have e0 : T.getD 0 undef = _ := (agree_at hag 0 (by kernel_rfl)).trans rfl
          clear hag hd
          go_simp
          exact ⟨_, rfl, rfl⟩
        · refine RStep.of rfl fun T W hag hJ hd => ?_
          have e0 : T.getD 0 undef = _ := (agree_at hag 0 (by kernel_rfl)).trans rfl
          clear hag hd
          go_simp
          exact ⟨_, rfl, rfl⟩
        · refine RStep.of rfl fun T W hag hJ hd => ?_
          have d40 : T.getD 40 undef = _ := hd ⟨1, .data⟩ (by simp) rfl _ rfl
          clear hag hd
          go_simp
          exact ⟨_, rfl, rfl⟩
        · refine RStep.of rfl fun T W hag hJ hd => ?_
          have d41 : T.getD 41 undef = _ := hd ⟨2, .data⟩ (by simp) rfl _ rfl
          clear hag hd
          go_simp
          exact ⟨_, rfl, rfl⟩
        · refine RStep.of rfl fun T W hag hJ hd => ?_
          have d42 : T.getD 42 undef = _ := hd ⟨3, .data⟩ (by simp) rfl _ rfl
          have c2 : W.cell? ⟨hp, 2, none⟩ = some L.sDone := keepT hJ.1 HD2.out.c2 hpn
          clear hag hd
          go_simp
          exact ⟨_, rfl, rfl⟩
        · refine RStep.of rfl fun T W hag hJ hd => ?_
          have e9 : T.getD 9 undef = .pointer (some ⟨q, 0, none⟩) := (agree_at hag 9 (by kernel_rfl)).trans rfl
          have hqW : W.heap[q]? = _ := (hJ.1.block q hq2 hqn).trans HC2.out
          refine wp_load_mid 75 (.tmp 9) rfl q 0 e9 (Wr.cs ⟨r, i, bs⟩) _ (fun j v hj => by rw [blk_cell hqW, Nat.zero_add, List.getElem?_toArray]; exact hj) Try.underlying75 rfl (by rw [Wr.cs_length HB.out.1]; exact size75) ?_
          exact ⟨_, rfl, rfl, hJ, srefl _ _⟩
        · refine RStep.of rfl fun T W hag hJ hd => ?_
          have d44 : T.getD 44 undef = _ := hd ⟨5, .data⟩ (by simp) rfl _ rfl
          obtain ⟨i0, hi0, hz0, hz1, hz2⟩ := info_parts info75
          refine wp_one_of 61 (.tmp 44) rfl 75 i0 _ 65 Try.underlying61 hi0 hz0 hz1 (by decide) (by decide) _ d44 (by simp only [Value.cells, List.size_toArray]; exact Wr.cs_length HB.out.1) ?_
          refine ⟨_, rfl, ⟨W.heap.size, rfl, hJ.1.size, heap_alloc_new W _⟩, ⟨hJ.1.alloc _, hJ.2.keep fun k hk _ => Below.heap_alloc W _ k hk⟩, ?_⟩
          exact World.grownBy_alloc W _ _
        · refine RStep.of rfl fun T W hag hJ hd => ?_
          have d43 : T.getD 43 undef = L.sDone := hd ⟨4, .data⟩ (by simp) rfl _ rfl
          obtain ⟨p, (d45 : T.getD 45 undef = _), hp1, hp2⟩ := hd ⟨6, .data⟩ (by simp) rfl _ rfl
          obtain ⟨i0, hi0, hz0, hz1, hz2⟩ := info_parts info75
          refine wp_push_of (.tmp 43) (.tmp 45) 61 rfl 75 i0 _ 65 80 Try.underlying61 hi0 hz0 hz1 hz2 (by simp [Value.cells]) (by decide) L.sDone N (encW m.done) d43 _ hJ.2 ⟨p, 0, none⟩ 1 1 (Wr.cs ⟨r, i, bs⟩) d45 (by rw [Wr.cs_length HB.out.1]) (fun j u hj => by rw [Addr.add_mid, blk_cell hp2, Nat.zero_add, List.getElem?_toArray]; exact hj) (Wr.cs_one _) (by simp only [maxLen]; omega) (by omega) ?_
          intro v' w' hrow hgr hold
          refine ⟨_, rfl, hrow.owner ?_, ⟨?_, hold⟩, hgr⟩
          · intro k _ hk; rcases hk with hk | hk
            · exact Or.inl hk
            · exact Or.inr (by have := hJ.1.size; omega)
          · exact hJ.1.trans' (Touch.of_grown hgr) fun k hk => by
              have := hold.2 k hk.symm
              exact Or.inl this
        · refine RStep.of rfl fun T W hag hJ hd => ?_
          have d39 : T.getD 39 undef = _ := hd ⟨0, .data⟩ (by simp) rfl _ rfl
          clear hag hd
          go_simp
          exact ⟨_, rfl, rfl⟩
        · refine RStep.of rfl fun T W hag hJ hd => ?_
          have d47 : T.getD 47 undef = _ := hd ⟨8, .data⟩ (by simp) rfl _ rfl
          clear hag hd
          go_simp
          exact ⟨_, rfl, rfl⟩
        · refine RLast.of rfl fun T W hag hJ hd => ?_
          have d48 : T.getD 48 undef = _ := hd 9 _ (by simp) rfl
          have x46 : RowAt W (fun k => O k = .done ∨ w2.heap.size ≤ k) 75 65 (T.getD 46 undef) (N + 1) (encW m.done ++ Wr.cs ⟨r, i, bs⟩) := hd 7 _ (by simp) rfl
          obtain ⟨v, d46⟩ : ∃ v, T.getD 46 undef = v := ⟨_, rfl⟩
          rw [d46] at x46
          obtain ⟨A2, cq, rfl, hc1, hc2⟩ := x46.val
          have hdW : W.heap[hp]? = _ := (hJ.1.block hp HD2.out.lt hpn).trans HD2.out.hd
          have hnew : DevRaw (W.setCell ⟨hp, 2, none⟩ (.slice A2 (N + 1) cq)) (growO O w2.heap.size (.slice A2 (N + 1) cq)) hp { L with sDone := .slice A2 (N + 1) cq } { m with now := m.now.set r (row.set i bs), done := m.done ++ [⟨r, i, bs⟩] } := by
            refine HD2.out.push ⟨r, i, bs⟩ (.slice A2 (N + 1) cq) ?_ ?_ ?_
            · exact heap_setCell_same' hdW _
            · intro k hk hne hod
              rw [Below.heap_setCell _ _ _ _ hne]; exact hJ.1.block k hk hod
            · show RowAt _ _ _ 65 _ (m.done.length + 1) _
              rw [HN.out]
              exact x46.keep fun k hk ho => Below.heap_setCell _ _ _ _ (fun e => by
                subst e
                rcases ho with ho | ho
                · exact hpn ho
                · have := HD2.out.lt; omega)
          have htc : Touch (fun k => k = hp ∨ O k = .done) w2 (W.setCell ⟨hp, 2, none⟩ (.slice A2 (N + 1) cq)) := Touch.setCell (F := fun k => k = hp ∨ O k = .done) (hJ.1.mono fun k _ h => Or.inr h) (p := ⟨hp, 2, none⟩) (Or.inl rfl) _
          have HM := Lib.hid (And.intro htc (And.intro (fun k hk => x46.2 k hk : ∀ k, (Value.slice A2 (N + 1) cq).ownBlock = some k → O k = .done ∨ w2.heap.size ≤ k) hnew))
          have c2 : W.cell? ⟨hp, 2, none⟩ = some L.sDone := blk_cell hdW 2
          have f2 : W.frozen? ⟨hp, 2, none⟩ = false := blk_free hdW 2
          have e9 : T.getD 9 undef = .pointer (some ⟨q, 0, none⟩) := (agree_at hag 9 (by kernel_rfl)).trans rfl
          have d46' := d46
          have d48' := d48
          rw [Array.getD_eq_getD_getElem?] at d46' d48'
          have HAG := Lib.hid hag
          clear hag hd hdW hnew htc x46 e9
          go_simp
          obtain ⟨f, hf, hT⟩ := agree_fn HAG.out
          generalize (W.setCell ⟨hp, 2, none⟩ (.slice A2 (N + 1) cq)) = W2 at *
          clear HAG hf d46 d48 d46' d48' c2 f2
          rw [hT]
          clear hT
          simp only [List.filterMap_cons, List.filterMap_nil, List.foldl_cons, List.foldl_nil, List.setIfInBounds_toArray, List.set_cons_succ, List.set_cons_zero]
          rename_i hJc hKc
          refine hKc _ _ (hJc _ _ ?_)
          repeat apply Exists.intro
          exact ⟨⟨_, rfl, HM.out⟩, rfl⟩
      case rest =>
        obtain ⟨v, rfl, hT3, hv3, hd3⟩ := hcut
        obtain ⟨w3, rfl⟩ : ∃ w3, w3 = wc := ⟨wc, rfl⟩
        have HT3 := Lib.hid hT3
        have HV3 := Lib.hid hv3
        have HD3 := Lib.hid hd3
        have c4 : w3.cell? ⟨hp, 4, none⟩ = some (.bool m.stops) := hd3.c4
        have c5 : w3.cell? ⟨hp, 5, none⟩ = some (.int .i64 m.left) := hd3.c5
        have f5 := hd3.f 5
        have hleft := HH.out.ok.left
        clear hT3 hv3 hd3
        have fin : ∀ w4 : World, Touch (fun k => k = hp) w3 w4 → DevRaw w4 (growO O w2.heap.size v) hp { L with sDone := v } (m.write r i bs) → DevStep w w4 F hp (m.write r i bs) := by
          intro w4 ht hdr
          have hold : ∀ k, growO O w2.heap.size v k ≠ .none → F k ∨ w.heap.size ≤ k := fun k hk => by
            rcases growO_some hk with h1 | ⟨h1, h2⟩
            · exact Or.inl ((HF.out k).2 h1)
            · have h3 := HB1.out.size
              have h4 := HT1.out.size
              exact Or.inr (by omega)
          have hFp : F hp := (HF.out hp).2 (by rw [HD2.out.ohd]; simp)
          refine ⟨fun k => growO O w2.heap.size v k ≠ .none, ⟨_, _, ⟨hdr, HH.out.ok.write HR.out (by rw [HNN.out]; exact hi) HB.out⟩, fun k => Iff.rfl, fun k hk => ?_⟩, ?_, hold⟩
          · have h5 := ht.size
            have h6 := HT3.out.size
            have h7 := HT1.out.size
            have h8 := HB1.out.size
            rcases growO_some hk with h1 | ⟨h1, h2⟩
            · have := HO.out k h1; omega
            · have := (HD3.out.done.1.lt k h2).2; omega
          · refine (((Touch.of_below HB1.out F).trans' HT1.out fun k hk => ?_).trans' HT3.out fun k hk => ?_).trans' ht fun k hk => ?_
            · subst hk; exact Or.inl ((HF.out _).2 (by rw [HOG.out.2]; simp))
            · rcases hk with rfl | hk
              · exact Or.inl hFp
              · exact Or.inl ((HF.out k).2 (by rw [hk]; simp))
            · subst hk; exact Or.inl hFp
        have FIN := Lib.hid fin
        clear fin
        have hnow : setAt m.now r i bs = m.now.set r (row.set i bs) := setAt_of HR.out i bs
        have HNOW := Lib.hid hnow
        clear hnow
        cases hs : m.stops with
        | false =>
          have HSF := Lib.hid hs
          rw [hs] at c4
          clear hs
          go_wp2
          go_ret
          refine ⟨rfl, FIN.out _ (Touch.refl _ _) ?_⟩
          have := HD3.out
          unfold DM.write
          rw [HNOW.out, HSF.out]
          exact ⟨by have := this.hd; rw [HSF.out] at this; exact this, this.ohd, this.now, this.sure, this.done, this.uns⟩
        | true =>
          have HSF := Lib.hid hs
          rw [hs] at c4
          have hl0 : m.left ≠ 0 := fun e => by
            have := HST.out; unfold stopped at this; rw [hs, e] at this; simp at this
          clear hs
          generalize hlf : m.left = lf at *
          have HLF := Lib.hid hlf
          have hwr : IntKind.i64.wrap ((lf : Int) - 1) = (lf : Int) - 1 := IntWalk.i64_in _ (by omega)
          clear hlf
          go_wp2
          go_ret
          have e1 : ((lf : Int) - 1) = ((lf - 1 : Nat) : Int) := by omega
          rw [e1]
          refine ⟨rfl, FIN.out _ ((Touch.refl (fun k => k = hp) _).setCell (p := ⟨hp, 5, none⟩) rfl _) ?_⟩
          have := HD3.out.tail (w' := w3.setCell ⟨hp, 5, none⟩ (.int .i64 ((lf - 1 : Nat) : Int))) true (lf - 1) (by rw [heap_setCell_same' HD3.out.hd]; rw [HSF.out]; rfl) (fun k hk hne => Below.heap_setCell _ _ _ _ hne)
          unfold DM.write
          rw [HNOW.out, HSF.out, HLF.out]
          exact this
end Go.Proofs.Ytocmjbfbjiinhaa
