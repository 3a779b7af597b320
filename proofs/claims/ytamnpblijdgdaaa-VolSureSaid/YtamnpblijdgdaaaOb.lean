/- Contract: blocks (has a vol just those?). -/
import Derived.Test.YtamnpblijdgdaaaOa
namespace Go.Proofs.Ytamnpblijdgdaaa
open Go.ChangeShapes Go.WideShapes Go.ChangeAt Go.RowKit
set_option linter.unusedVariables false
set_option maxRecDepth 100000
theorem wp_neqB9 {o : Oper} {a : Act} {w : World} {K : Act → World → Prop} {Q : Exit → Act → World → Prop} (x y : Operand) (t : TypeId) (ho : o.op = .binOp .neq 46 x y t) (k j : Int) (bs cs : List Int) (hx : a.eval x = .agg (blkA k bs)) (hy : a.eval y = .agg (blkA j cs)) (hb : bs.length = 56) (hB : AllB bs) (hc : cs.length = 56) (hC : AllB cs)
    (h : K (a.put o.dst (.bool (!decide (k = j ∧ bs = cs)))) w) : o.wp Try.prog a w K Q := by
  have hg := run_eqGuard_agg (P := Try.prog) w .neq 46 x y (blkA k bs) (blkA j cs) guardB9
  have hr := run_neq_struct (P := Try.prog) w 46 (blkA k bs) (blkA j cs)
  rw [eqlB 9997 k j bs cs hb hc hB hC w] at hr
  unfold Oper.wp execOp
  simp only [ho, hx, hy, Sem.run_bind, hg, hr, Result.andThen_ok]
  exact h
theorem getB_no {v : VM} {t : Int} (h : hasV v t = false) : getB v t = ⟨0, zBs, false⟩ := by unfold getB; rw [if_neg (by rw [h]; simp)]
def VBk (x : HB) (y : Bk) (gs n d k : Nat) (b : Bool) (i : Nat) (v : Value) (w : World) : Prop :=
  match i with
  | 0 => v = .bool true
  | 1 | 2 => v = .bool false
  | 3 => v = .agg (blkA x.k x.bs)
  | 4 => v = .slice (some ⟨gs, 0, none⟩) n d
  | 5 => v = .int .i64 k
  | 6 => v = .pointer (some ⟨gs, k * 57, none⟩)
  | 7 => v = .agg (blkA y.k y.bs)
  | 8 => v = .bool b
  | _ => True
set_option maxHeartbeats 3200000 in
theorem blocks_any {W : World} {q hp rb : Nat} {v : VM} (h : VolAt W q hp rb v) (A : Option Addr) (S : List Bk) (n d : Nat) (hn : S.length = n) (hd : n ≤ d) (hm : d ≤ 9223372036854775807) (hok : BksOk S) (hy : Bks W A S) :
    Calls Try.prog 24 #[.pointer (some ⟨hp, 0, none⟩), .slice A n d] W fun e w' => e = .returned (.bool (decide (stV v = S))) ∧ Below W.heap.size W w' := by
  have HV := Lib.hid h
  have HN := Lib.hid hn
  have HO := Lib.hid hok
  have HY := Lib.hid hy
  have HBK := Lib.hid (vblocks_any h)
  have hl : (stV v).length = v.n := by unfold stV; rw [List.length_map, h.len]
  have HL := Lib.hid hl
  clear h hn hok hy hl
  go_enter Try.func24, Try.ntmps24
  by_cases hvn : v.n = n
  · rw [hvn] at HBK
    have HVN := Lib.hid hvn
    clear hvn
    go_wp2_with fail
    refine HBK.out.mono ?_
    rintro e w' ⟨rfl, rfl⟩
    go_wp2_with fail
    go_loopw [5, 6, 7] (fun i p b wr => ∃ k : Nat, i = .int .i64 k ∧ k ≤ n ∧ Hid (∀ j, j < k → (stV v)[j]? = S[j]?) ∧ Hid (Below W.heap.size W wr)) (fun i _ _ _ => n - (intOf i).toNat)
    case atStart => exact ⟨0, rfl, by omega, fun j hj => by omega, brefl _⟩
    case round =>
      obtain ⟨k, rfl, hk, HE, HBR⟩ := hrel
      obtain ⟨w3, rfl⟩ : ∃ w3, w3 = wr := ⟨wr, rfl⟩
      by_cases hlt : k < n
      · have hki : (k : Int) < n := by omega
        obtain ⟨y, hyk⟩ : ∃ y, S[k]? = some y := ⟨_, List.getElem?_eq_getElem (by rw [HN.out]; exact hlt)⟩
        obtain ⟨x, hx⟩ : ∃ x, v.B[k]? = some x := ⟨_, List.getElem?_eq_getElem (by rw [HV.out.len, HVN.out]; exact hlt)⟩
        have hxo := HV.out.ok x (List.mem_of_getElem? hx)
        have hyo := HO.out y (List.mem_of_getElem? hyk)
        have HX5 := Lib.hid (And.intro hxo.len hxo.b)
        have HY5 := Lib.hid (And.intro hyo.len hyo.b)
        obtain ⟨gs, rfl, _⟩ := HY.out k y hyk
        have HYR0 : Hid (∀ w', Below W.heap.size W w' → w'.rangeAt gs (k * 57) (blkL y.k y.bs)) := fun w' hb => by
          obtain ⟨g', e, hr⟩ := (HY.out.keep hb) k y hyk
          injection e with e; injection e with e; rw [e]; exact hr
        have hsx : (stV v)[k]? = some (val x) := by unfold stV; rw [List.getElem?_map, hx]; rfl
        obtain ⟨b, hbq⟩ : ∃ b, (!decide (x.k = y.k ∧ x.bs = y.bs)) = b := ⟨_, rfl⟩
        have HBQ := Lib.hid hbq
        have HEQ : Hid (b = false → (stV v)[k]? = S[k]?) := fun hb => by
          rw [← hbq, Bool.not_eq_false', decide_eq_true_eq] at hb
          rw [hsx, hyk]
          cases x; cases y
          obtain ⟨h1, h2⟩ := hb
          simp only at h1 h2
          unfold val; rw [h1, h2]
        have HNEQ : Hid (b = true → decide (stV v = S) = false) := fun hb => by
          rw [← hbq, Bool.not_eq_true', decide_eq_false_iff_not] at hb
          rw [decide_eq_false_iff_not]
          intro h
          rw [h, hyk] at hsx
          injection hsx with hsx
          rw [hsx] at hb
          exact hb ⟨rfl, rfl⟩
        have hget := vget_any (HV.out.below HBR.out) k (by have := HV.out.n; have := HVN.out; constructor <;> omega)
        obtain ⟨g1, g2⟩ := getB_in HV.out.len hx
        rw [g1, g2] at hget
        have HGET := Lib.hid hget
        clear hxo hyo hsx hbq hget g1 g2 hx hyk
        go_wp2_with fail
        refine HGET.out.mono ?_
        rintro e w4 ⟨rfl, hb4⟩
        have HB4 := Lib.hid (HBR.out.trans (hb4.mono HBR.out.size))
        clear hb4 HGET
        go_upto_region 7 with (first | (refine wpList_allocB rfl rfl ?_) | (refine wpList_storeB rfl (.tmp 6) (.tmp 31) rfl w4.heap.size rfl x.k 0 x.bs zBs rfl HX5.out.1 zBs_len (heap_alloc_new w4 _) ?_))
        have hb5 : Below w4.heap.size w4 ((w4.alloc (Obj.cells (blkA 0 zBs) 46)).setRow w4.heap.size (blkA x.k x.bs)) := below_setRow ((Below.refl _ _).alloc (Nat.le_refl _) _) (Nat.le_refl _) _
        have e5 := setRow_blk (D := blkA x.k x.bs) (heap_alloc_new w4 (Obj.cells (blkA 0 zBs) 46))
        have HB5 := Lib.hid (HB4.out.trans (hb5.mono HB4.out.size))
        have HG6 := Lib.hid e5
        clear hb5 e5
        generalize (w4.alloc (Obj.cells (blkA 0 zBs) 46)).setRow w4.heap.size (blkA x.k x.bs) = w5 at *
        generalize w4.heap.size = g6 at *
        try simp only [Act.put]
        have HYR : Hid (∀ w', Below w5.heap.size w5 w' → w'.rangeAt gs (k * 57) (blkL y.k y.bs)) := fun w' hb => HYR0.out w' (HB5.out.trans (hb.mono HB5.out.size))
        clear HYR0 HB4
        refine wp_region_rgk (VBk x y gs n d k b) (fun _ W => Below w5.heap.size w5 W) (fun _ w w' => Below w.heap.size w w') (by kernel_rfl) (by kernel_rfl) (fun i j v w w' _ _ h hs => by unfold VBk at *; exact h) ((Below.refl _ _).drew) ?_
        simp only [RAll]
        refine ⟨?_, ?_, ?_, ?_, ?_, ?_, ?_, ?_, ?_, ?_⟩
        · refine RStepK.of rfl fun T W L hag hL hJ hLs hd => ?_   -- 0: 33 := Op.move (Operand.tmp 7)
          have e7 : T.getD 7 undef = _ := (agree_at hag 7 (by kernel_rfl)).trans rfl
          clear hag hd
          go_simp
          first | exact ⟨_, rfl, rfl⟩ | exact ⟨_, rfl, rfl, brefl _⟩ | exact ⟨_, rfl, rfl, hJ, brefl _⟩
        · refine RStepK.of rfl fun T W L hag hL hJ hLs hd => ?_   -- 1: 34 := Op.unOp UnOp.not 4 (Operand.tmp 33)
          have d33 : T.getD 33 undef = _ := hd ⟨0, .data⟩ (by simp) rfl _ rfl
          clear hag hd
          go_simp
          first | exact ⟨_, rfl, rfl⟩ | exact ⟨_, rfl, rfl, brefl _⟩ | exact ⟨_, rfl, rfl, hJ, brefl _⟩
        · refine RStepK.of rfl fun T W L hag hL hJ hLs hd => ?_   -- 2: 35 := Op.move (Operand.tmp 34)
          have d34 : T.getD 34 undef = _ := hd ⟨1, .data⟩ (by simp) rfl _ rfl
          clear hag hd
          go_simp
          first | exact ⟨_, rfl, rfl⟩ | exact ⟨_, rfl, rfl, brefl _⟩ | exact ⟨_, rfl, rfl, hJ, brefl _⟩
        · refine RStepK.want rfl rfl rfl (by kernel_rfl) (fun v w h => h) fun T W L hag hL hJ hLs hd => ?_   -- 3: 36 := Op.load 46 (Operand.tmp 6)
          have e6 : T.getD 6 undef = _ := (agree_at hag 6 (by kernel_rfl)).trans rfl
          clear hag
          refine wp_load_row 46 (.tmp 6) rfl g6 e6 _ _ _ _ (kb hJ HG6.out) Try.underlying46 rfl (by rw [blkA_size HX5.out.1]; exact size24b) ?_
          exact ⟨_, rfl, rfl, hJ, brefl _⟩
        · refine RStepK.want rfl rfl rfl (by kernel_rfl) (fun v w h => h) fun T W L hag hL hJ hLs hd => ?_   -- 4: 37 := Op.move (Operand.tmp 1)
          have e1 : T.getD 1 undef = _ := (agree_at hag 1 (by kernel_rfl)).trans rfl
          clear hag hd
          go_simp
          first | exact ⟨_, rfl, rfl⟩ | exact ⟨_, rfl, rfl, brefl _⟩ | exact ⟨_, rfl, rfl, hJ, brefl _⟩
        · refine RStepK.want rfl rfl rfl (by kernel_rfl) (fun v w h => h) fun T W L hag hL hJ hLs hd => ?_   -- 5: 38 := Op.move (Operand.tmp 5)
          have e5 : T.getD 5 undef = _ := (agree_at hag 5 (by kernel_rfl)).trans rfl
          clear hag hd
          go_simp
          first | exact ⟨_, rfl, rfl⟩ | exact ⟨_, rfl, rfl, brefl _⟩ | exact ⟨_, rfl, rfl, hJ, brefl _⟩
        · refine RStepK.want rfl rfl rfl (by kernel_rfl) (fun v w h => h) fun T W L hag hL hJ hLs hd => ?_   -- 6: 39 := Op.indexAddr 43 (Operand.tmp 37) (Operand.tmp 38)
          have d37 : T.getD 37 undef = _ := hd ⟨4, .data⟩ (by simp) rfl _ rfl
          have d38 : T.getD 38 undef = _ := hd ⟨5, .data⟩ (by simp) rfl _ rfl
          clear hag hd
          go_simp
          first | exact ⟨_, rfl, rfl⟩ | exact ⟨_, rfl, rfl, brefl _⟩ | exact ⟨_, rfl, rfl, hJ, brefl _⟩
        · refine RStepK.want rfl rfl rfl (by kernel_rfl) (fun v w h => h) fun T W L hag hL hJ hLs hd => ?_   -- 7: 40 := Op.load 46 (Operand.tmp 39)
          have d39 : T.getD 39 undef = _ := hd ⟨6, .data⟩ (by simp) rfl _ rfl
          clear hag
          refine wp_load_mid 46 (.tmp 39) rfl gs (k * 57) d39 (blkL y.k y.bs) _ (HYR.out W hJ) Try.underlying46 rfl (by rw [blkL_len HY5.out.1]; exact size24b) ?_
          exact ⟨_, rfl, rfl, hJ, brefl _⟩
        · refine RStepK.want rfl rfl rfl (by kernel_rfl) (fun v w h => h) fun T W L hag hL hJ hLs hd => ?_   -- 8: 41 := Op.binOp BinOp.neq 46 (Operand.tmp 36) (Operand.tmp 40) 46
          have d36 : T.getD 36 undef = _ := hd ⟨3, .data⟩ (by simp) rfl _ rfl
          have d40 : T.getD 40 undef = _ := hd ⟨7, .data⟩ (by simp) rfl _ rfl
          clear hag
          refine wp_neqB9 (.tmp 36) (.tmp 40) _ rfl x.k y.k x.bs y.bs d36 d40 HX5.out.1 HX5.out.2 HY5.out.1 HY5.out.2 ?_
          rw [HBQ.out]
          exact ⟨_, rfl, rfl, hJ, brefl _⟩
        · refine RLastK.of rfl fun T W L hag hLs hL hJ hd => ?_   -- 9: 42 := Op.pick (Operand.tmp 35) (Operand.const (Value.bool true)) (
          have d35 : T.getD 35 undef = _ := hd 2 _ (by simp) rfl
          have d41 : T.getD 41 undef = _ := hd 8 _ (by simp) rfl
          obtain ⟨f, hf, hT⟩ := agree_fn hag
          have d33 : T.getD 33 undef = _ := hd 0 _ (by simp) rfl
          have h33 := (hf 33).trans d33
          have d34 : T.getD 34 undef = _ := hd 1 _ (by simp) rfl
          have h34 := (hf 34).trans d34
          have h35 := (hf 35).trans d35
          have d36 : T.getD 36 undef = _ := hd 3 _ (by simp) rfl
          have h36 := (hf 36).trans d36
          have d37 : T.getD 37 undef = _ := hd 4 _ (by simp) rfl
          have h37 := (hf 37).trans d37
          have d38 : T.getD 38 undef = _ := hd 5 _ (by simp) rfl
          have h38 := (hf 38).trans d38
          have d39 : T.getD 39 undef = _ := hd 6 _ (by simp) rfl
          have h39 := (hf 39).trans d39
          have d40 : T.getD 40 undef = _ := hd 7 _ (by simp) rfl
          have h40 := (hf 40).trans d40
          have h41 := (hf 41).trans d41
          have HJ := Lib.hid hJ
          clear hag hd d33 d34 d35 d36 d37 d38 d39 d40 d41 hJ hf
          rw [hT]
          clear hT
          simp only [List.pop_toArray, List.dropLast_cons_cons, List.dropLast_singleton, List.filterMap_cons, List.filterMap_nil, List.foldl_cons, List.foldl_nil, List.setIfInBounds_toArray, List.set_cons_succ, List.set_cons_zero, h33, h34, h35, h36, h37, h38, h39, h40, h41]
          clear HX5 HY5 HG6 HYR
          cases b
          · have HSE : Hid ((stV v)[k]? = S[k]?) := HEQ.out rfl
            have HF := Lib.hid (HB5.out.trans (HJ.out.mono HB5.out.size))
            clear HJ HEQ HNEQ HBQ
            go_wp2
            go_roundw
            case rel =>
              refine ⟨k + 1, by go_num, by omega, Lib.hid (fun j hj => ?_), HF.out⟩
              by_cases e : j = k
              · rw [e]; exact HSE.out
              · exact HE.out j (by omega)
            case measure => simp [intOf]; omega
          · have HF := Lib.hid (HB5.out.trans (HJ.out.mono HB5.out.size))
            have HNO : Hid (decide (stV v = S) = false) := HNEQ.out rfl
            clear HJ HEQ HNEQ HBQ
            go_wp2
            go_ret
            exact ⟨by rw [HNO.out]; rfl, HF.out⟩

      · obtain rfl : k = n := by omega
        have hki : ¬ (k : Int) < k := by omega
        have HEQ : Hid (decide (stV v = S) = true) := by
          unfold Hid
          rw [decide_eq_true_eq]
          apply List.ext_getElem?
          intro j
          by_cases hj : j < k
          · exact HE.out j hj
          · rw [List.getElem?_eq_none (by rw [HL.out, HVN.out]; omega), List.getElem?_eq_none (by rw [HN.out]; omega)]
        have n1 : hasV v (-1) = false := by unfold hasV; simp
        have n2 : hasV v (k : Int) = false := by unfold hasV; rw [HVN.out]; simp
        have HG1 : Hid (∀ w', Below W.heap.size W w' → Calls Try.prog 17 #[.pointer (some ⟨hp, 0, none⟩), .int .i64 (-1)] w' fun e w2 => e = .returned (.tuple #[.agg (blkA 0 zBs), .bool false]) ∧ Below w'.heap.size w' w2) := fun w' hb => by
          have h1 := vget_any (HV.out.below hb) (-1) (by constructor <;> omega)
          rw [n1, getB_no n1] at h1
          exact h1
        have HG2 : Hid (∀ w', Below W.heap.size W w' → Calls Try.prog 17 #[.pointer (some ⟨hp, 0, none⟩), .int .i64 (k : Int)] w' fun e w2 => e = .returned (.tuple #[.agg (blkA 0 zBs), .bool false]) ∧ Below w'.heap.size w' w2) := fun w' hb => by
          have h1 := vget_any (HV.out.below hb) k (by have := HV.out.n; have := HVN.out; constructor <;> omega)
          rw [n2, getB_no n2] at h1
          exact h1
        clear n1 n2
        go_wp2_with fail
        refine (HG1.out w3 HBR.out).mono ?_
        rintro e w4 ⟨rfl, hb4⟩
        have HB4 := Lib.hid (HBR.out.trans (hb4.mono HBR.out.size))
        clear hb4
        go_upto_region 10 with (first | (refine wpList_allocB rfl rfl ?_) | (refine wpList_storeB rfl (.tmp 8) (.tmp 46) rfl w4.heap.size rfl 0 0 zBs zBs rfl zBs_len zBs_len (heap_alloc_new w4 _) ?_))
        have hb5 : Below w4.heap.size w4 ((w4.alloc (Obj.cells (blkA 0 zBs) 46)).setRow w4.heap.size (blkA 0 zBs)) := below_setRow ((Below.refl _ _).alloc (Nat.le_refl _) _) (Nat.le_refl _) _
        have HB5 := Lib.hid (HB4.out.trans (hb5.mono HB4.out.size))
        clear hb5
        generalize (w4.alloc (Obj.cells (blkA 0 zBs) 46)).setRow w4.heap.size (blkA 0 zBs) = w5 at *
        generalize w4.heap.size = g8 at *
        try simp only [Act.put]
        go_wp2_with fail
        refine (HG2.out w5 HB5.out).mono ?_
        rintro e w6 ⟨rfl, hb6⟩
        have HB6 := Lib.hid (HB5.out.trans (hb6.mono HB5.out.size))
        clear hb6
        go_upto_region 11 with (first | (refine wpList_allocB rfl rfl ?_) | (refine wpList_storeB rfl (.tmp 10) (.tmp 53) rfl w6.heap.size rfl 0 0 zBs zBs rfl zBs_len zBs_len (heap_alloc_new w6 _) ?_))
        have hb7 : Below w6.heap.size w6 ((w6.alloc (Obj.cells (blkA 0 zBs) 46)).setRow w6.heap.size (blkA 0 zBs)) := below_setRow ((Below.refl _ _).alloc (Nat.le_refl _) _) (Nat.le_refl _) _
        have HB7 := Lib.hid (HB6.out.trans (hb7.mono HB6.out.size))
        clear hb7
        generalize (w6.alloc (Obj.cells (blkA 0 zBs) 46)).setRow w6.heap.size (blkA 0 zBs) = w7 at *
        generalize w6.heap.size = g10 at *
        try simp only [Act.put]
        go_wp2
        go_ret
        exact ⟨by rw [HEQ.out]; rfl, HB7.out⟩
  · have hq : ((v.n : Int) == n) = false := by simp; omega
    have HNO : Hid (decide (stV v = S) = false) := by
      unfold Hid
      rw [decide_eq_false_iff_not]
      intro h
      rw [h, HN.out] at HL
      exact hvn HL.out.symm
    generalize v.n = vn at *
    go_wp2_with fail
    refine HBK.out.mono ?_
    rintro e w' ⟨rfl, rfl⟩
    go_wp2
    go_ret
    exact ⟨by rw [HNO.out]; rfl, brefl _⟩
end Go.Proofs.Ytamnpblijdgdaaa
