import Derived.Test.YtamnpblijdgdaaaNz
import Derived.Deep.CutBlock
/- Rows of Blocks of one's own (append, elements); contract: light. -/
namespace Go.Proofs.Ytamnpblijdgdaaa
open Go.ChangeShapes Go.WideShapes Go.ChangeAt Go.RowKit
set_option linter.unusedVariables false
set_option maxRecDepth 100000
def bksL : List Bk → List Value
  | [] => []
  | x :: l => blkL x.k x.bs ++ bksL l
theorem bksL_append : ∀ (l m : List Bk), bksL (l ++ m) = bksL l ++ bksL m
  | [], _ => rfl
  | x :: l, m => by show blkL x.k x.bs ++ bksL (l ++ m) = _; rw [bksL_append l m, ← List.append_assoc]; rfl
theorem bksL_at : ∀ {l : List Bk}, BksOk l → ∀ {i : Nat} {x : Bk}, l[i]? = some x → ∀ {j : Nat} {v : Value}, (blkL x.k x.bs)[j]? = some v → (bksL l)[i * 57 + j]? = some v
  | [], _, i, x, h, _, _, _ => by cases h
  | y :: l, hl, 0, x, h, j, v, hj => by
    injection h with h; subst h
    show (blkL y.k y.bs ++ bksL l)[0 * 57 + j]? = some v
    rw [Nat.zero_mul, Nat.zero_add, List.getElem?_append_left (List.getElem?_eq_some_iff.1 hj).1]; exact hj
  | y :: l, hl, i + 1, x, h, j, v, hj => by
    show (blkL y.k y.bs ++ bksL l)[(i + 1) * 57 + j]? = some v
    have hlen : (blkL y.k y.bs).length = 57 := blkL_len (hl y (by simp)).len
    rw [List.getElem?_append_right (by omega), hlen, show (i + 1) * 57 + j - 57 = i * 57 + j by omega]
    exact bksL_at (l := l) (fun z hz => hl z (by simp [hz])) (show l[i]? = some x from h) hj
theorem blkL_one (k : Int) (bs : List Int) : ∀ v ∈ blkL k bs, v.oneCell' = true := by
  have h := blkA_one k bs
  rw [Array.all_eq_true_iff_forall_mem] at h
  exact fun v hv => h v (by unfold blkA; simpa using hv)
theorem bksL_one : ∀ (l : List Bk), ∀ v ∈ bksL l, v.oneCell' = true
  | [], v, h => by cases h
  | x :: l, v, h => by
    rcases List.mem_append.1 (show v ∈ blkL x.k x.bs ++ bksL l from h) with h | h
    · exact blkL_one _ _ v h
    · exact bksL_one l v h
def OwnK (w : World) (base : Nat) (v : Value) (l : List Bk) : Prop := w.ownsRow base 46 57 v l.length (bksL l)
theorem OwnK.nil (w : World) (base : Nat) : OwnK w base (.slice none 0 0) [] := World.ownsRow_nil _ _ _ _
theorem OwnK.keep {w w' : World} {base : Nat} {v : Value} {l : List Bk} (h : OwnK w base v l) (hb : Below w.heap.size w w') : OwnK w' base v l := ownB h hb
/-- A row of Blocks behind a slice. -/
def Bks (w : World) (A : Option Addr) (l : List Bk) : Prop := ∀ i x, l[i]? = some x → ∃ g, A = some ⟨g, 0, none⟩ ∧ w.rangeAt g (i * 57) (blkL x.k x.bs)
theorem OwnK.bks {w : World} {base : Nat} {v : Value} {l : List Bk} (h : OwnK w base v l) (hok : BksOk l) : ∃ A d, v = .slice A l.length d ∧ l.length ≤ d ∧ d ≤ 9223372036854775807 ∧ Bks w A l := by
  rcases h.2 with ⟨rfl, h0⟩ | ⟨g, cap, cur, rfl, hb, hg, hn', hm, hs, ht⟩
  · refine ⟨none, 0, by rw [h0], by omega, by omega, fun i x hi => ?_⟩
    rw [List.length_eq_zero_iff.1 h0] at hi; cases hi
  · refine ⟨some ⟨g, 0, none⟩, cap, rfl, hn', by simp only [maxLen] at hm; omega, fun i x hi => ⟨g, rfl, fun j v hj => ?_⟩⟩
    have h5 := h.cells (g := g) rfl _ _ (bksL_at hok hi hj)
    rw [add_at] at h5; exact h5
theorem Bks.keep {w w' : World} {A : Option Addr} {l : List Bk} (h : Bks w A l) (hb : Below w.heap.size w w') : Bks w' A l := fun i x hi =>
  let ⟨g, e, h1⟩ := h i x hi; ⟨g, e, fun j v hj => keepC hb (h1 j v hj)⟩
section
variable {ops : Array Oper} {rest : List Oper} {o : Oper} {a : Act} {w : World} {Q : Exit → Act → World → Prop}
theorem wpList_oneB (hgd : o.guard = none) (x : Operand) (ho : o.op = .buildSlice 43 1 #[(0, x)]) (k : Int) (bs : List Int) (h56 : bs.length = 56) (hx : a.eval x = .agg (blkA k bs))
    (h : wpList Try.prog ops Q rest (a.put o.dst (.slice (some ⟨w.heap.size, 0, none⟩) 1 1)) (w.alloc (.cells (blkA k bs) 46))) : wpList Try.prog ops Q (o :: rest) a w := by
  obtain ⟨i0, hi, hz0, hz1, hz2⟩ := info_parts info24
  exact wpList_plain hgd fun _ hK => wp_one_of 43 x ho 46 i0 _ 57 Try.underlying43 hi hz0 hz1 (by decide) (by decide) _ hx (by show (blkA k bs).size = 57; exact blkA_size h56) (hK _ _ h)
theorem wpList_app_bk (hgd : o.guard = none) (s x : Operand)
    (ho : o.op = .call { callee := .builtin .append, args := #[s, x], argTypes := #[43, 43] })
    (base : Nat) (v : Value) (l : List Bk) (hs : a.eval s = v) (hown : OwnK w base v l) (g : Nat) (y : Bk) (h56 : y.bs.length = 56) (hx : a.eval x = .slice (some ⟨g, 0, none⟩) 1 1) (hg : w.heap[g]? = some (.cells (blkA y.k y.bs) 46 (0, 0))) (h63 : l.length ≤ 1000) (hbase : base ≤ w.heap.size)
    (h : ∀ v' w', OwnK w' base v' (l ++ [y]) → Below base w w' → wpList Try.prog ops Q rest (a.put o.dst v') w') : wpList Try.prog ops Q (o :: rest) a w := by
  obtain ⟨i0, hi, hz0, hz1, hz2⟩ := info_parts info24
  refine wpList_append_own_at (P := Try.prog) w hgd s x 43 ho base 46 i0 _ 57 64 Try.underlying43 hi hz0 hz1 hz2 (by show (blkA 0 zBs).size = 57; exact blkA_size zBs_len) (by decide) v l.length _ hs hown ⟨g, 0, none⟩ 1 1 (blkL y.k y.bs) hx (by rw [blkL_len h56]) (fun j u hj => ?_) (blkL_one _ _) (by simp only [maxLen]; omega) (by omega) hbase ?_
  · have := blk_cell hg j
    rw [add_at, this]
    unfold blkA; simpa using hj
  intro v' w' h2 h3 _ _
  refine h v' w' ?_ (grown_below h3 hbase (fun k hk => (hown.lt k hk).1))
  unfold OwnK
  rw [bksL_append, List.length_append]
  simpa [bksL] using h2
end
def Light (l : List Wd) : Prop := l.length ≤ 30 ∧ ∀ d ∈ l, d.l.length ≤ 14 ∧ d.ks.length ≤ 40
def lightK (l : List Wd) : Bool := l.all (fun d => decide (d.l.length ≤ 14) && decide (d.ks.length ≤ 40)) && decide (l.length ≤ 30)
theorem lightK_iff (l : List Wd) : lightK l = true ↔ Light l := by
  unfold lightK Light
  simp only [Bool.and_eq_true, List.all_eq_true, decide_eq_true_eq]
  exact ⟨fun h => ⟨h.2, h.1⟩, fun h => ⟨h.2, h.1⟩⟩
theorem light_any (A : Option Addr) (l : List Wd) (n d : Nat) (w : World) (hn : l.length = n) (hd : n ≤ d) (hm : d ≤ 9223372036854775807) (hok : WdsOk l) (hy : Wds w A l) :
    Calls Try.prog 11 #[.slice A n d] w fun e w' => e = .returned (.bool (lightK l)) ∧ w = w' := by
  have HN := Lib.hid hn
  have HO := Lib.hid hok
  have HY := Lib.hid hy
  clear hn hok hy
  go_enter Try.func11, Try.ntmps11
  go_wp2_with fail
  go_loop [3] (fun i => ∃ k : Nat, i = .int .i64 k ∧ k ≤ n ∧ Hid ((l.take k).all (fun d => decide (d.l.length ≤ 14) && decide (d.ks.length ≤ 40)) = true)) (fun i => n - (intOf i).toNat)
  case atStart => exact ⟨0, rfl, by omega, by unfold Hid; rfl⟩
  case round =>
    obtain ⟨k, rfl, hk, HK⟩ := hrel
    by_cases hlt : k < n
    · obtain ⟨x, hx⟩ : ∃ x, l[k]? = some x := ⟨_, List.getElem?_eq_getElem (by rw [HN.out]; exact hlt)⟩
      obtain ⟨ad, rfl, hw⟩ := HY.out k x hx
      have c1 := hw.c1
      have c2 := hw.c2
      have HT : Hid ((l.take (k + 1)).all (fun d => decide (d.l.length ≤ 14) && decide (d.ks.length ≤ 40)) = (decide (x.l.length ≤ 14) && decide (x.ks.length ≤ 40))) := by
        unfold Hid; rw [take_snoc' hx, List.all_append, HK.out]; simp
      have HX : Hid (x ∈ l) := List.mem_of_getElem? hx
      have hki : (k : Int) < n := by omega
      clear hx hw
      obtain ⟨ln, hln⟩ : ∃ ln, x.l.length = ln := ⟨_, rfl⟩
      obtain ⟨kn, hkn⟩ : ∃ kn, x.ks.length = kn := ⟨_, rfl⟩
      rw [hln] at c1
      rw [hkn] at c2
      rw [hln, hkn] at HT
      have HLK := Lib.hid (And.intro hln hkn)
      clear hln hkn
      by_cases h1 : ln ≤ 14
      · have h1i : (ln : Int) ≤ 14 := by omega
        by_cases h2 : kn ≤ 40
        · have h2i : (kn : Int) ≤ 40 := by omega
          have HT2 : Hid ((l.take (k + 1)).all (fun d => decide (d.l.length ≤ 14) && decide (d.ks.length ≤ 40)) = true) := by unfold Hid; rw [HT.out, decide_eq_true h1, decide_eq_true h2]; rfl
          go_wp2
          go_round
          case rel => exact ⟨k + 1, by go_num, by omega, HT2.out⟩
          case measure => simp [intOf]; omega
        · have h2i : (40 : Int) < kn := by omega
          have HF : Hid (lightK l = false) := by
            unfold Hid
            rw [Bool.eq_false_iff]
            intro h
            have := (((lightK_iff l).1 h).2 x HX.out).2
            rw [HLK.out.2] at this; omega
          go_wp2
          go_ret
          exact ⟨by rw [HF.out]; rfl, rfl⟩
      · have h1i : (14 : Int) < ln := by omega
        have HF : Hid (lightK l = false) := by
          unfold Hid
          rw [Bool.eq_false_iff]
          intro h
          have := (((lightK_iff l).1 h).2 x HX.out).1
          rw [HLK.out.1] at this; omega
        go_wp2
        go_ret
        exact ⟨by rw [HF.out]; rfl, rfl⟩
    · obtain rfl : k = n := by omega
      have hki : ¬ (k : Int) < k := by omega
      have HF : Hid (lightK l = decide ((k : Int) ≤ 30)) := by
        have h1 := HK.out
        rw [List.take_of_length_le (by rw [HN.out]; exact Nat.le_refl _)] at h1
        unfold Hid lightK
        rw [h1, HN.out, Bool.true_and, Bool.eq_iff_iff, decide_eq_true_eq, decide_eq_true_eq]
        omega
      go_wp2
      go_ret
      exact ⟨by rw [HF.out]; rfl, rfl⟩
end Go.Proofs.Ytamnpblijdgdaaa

/- Contract: blocks (has a vol just those?). -/
namespace Go.Proofs.Ytamnpblijdgdaaa
open Go.ChangeShapes Go.WideShapes Go.ChangeAt Go.RowKit
set_option linter.unusedVariables false
set_option maxRecDepth 100000
theorem wp_neqB9 {o : Oper} {a : Act} {w : World} {K : Act → World → Prop} {Q : Exit → Act → World → Prop} (x y : Operand) (t : TypeId) (ho : o.op = .binOp .neq 46 x y t) (k j : Int) (bs cs : List Int) (hx : a.eval x = .agg (blkA k bs)) (hy : a.eval y = .agg (blkA j cs)) (hb : bs.length = 56) (hB : AllB bs) (hc : cs.length = 56) (hC : AllB cs)
    (h : K (a.put o.dst (.bool (!decide (k = j ∧ bs = cs)))) w) : o.wp Try.prog a w K Q := by
  have hg := run_eqGuard_agg (P := Try.prog) w .neq 46 x y (blkA k bs) (blkA j cs) guardB9
  have hr := run_neq_struct (P := Try.prog) w 46 (blkA k bs) (blkA j cs)
  rw [eqlB 9997 k j bs cs hb hc hB hC w] at hr
  unfold Oper.wp execOp
  simp only [ho, hx, hy, Sem.run_bind, hg, hr, Result.andThen_ok]
  exact h
theorem getB_no {v : VM} {t : Int} (h : hasV v t = false) : getB v t = ⟨0, zBs, false⟩ := by unfold getB; rw [if_neg (by rw [h]; simp)]
def VBk (x : HB) (y : Bk) (gs n d k : Nat) (b : Bool) (i : Nat) (v : Value) (w : World) : Prop :=
  match i with
  | 0 => v = .bool true
  | 1 | 2 => v = .bool false
  | 3 => v = .agg (blkA x.k x.bs)
  | 4 => v = .slice (some ⟨gs, 0, none⟩) n d
  | 5 => v = .int .i64 k
  | 6 => v = .pointer (some ⟨gs, k * 57, none⟩)
  | 7 => v = .agg (blkA y.k y.bs)
  | 8 => v = .bool b
  | _ => True
set_option maxHeartbeats 3200000 in
theorem blocks_any {W : World} {q hp rb : Nat} {v : VM} (h : VolAt W q hp rb v) (A : Option Addr) (S : List Bk) (n d : Nat) (hn : S.length = n) (hd : n ≤ d) (hm : d ≤ 9223372036854775807) (hok : BksOk S) (hy : Bks W A S) :
    Calls Try.prog 24 #[.pointer (some ⟨hp, 0, none⟩), .slice A n d] W fun e w' => e = .returned (.bool (decide (stV v = S))) ∧ Below W.heap.size W w' := by
  have HV := Lib.hid h
  have HN := Lib.hid hn
  have HO := Lib.hid hok
  have HY := Lib.hid hy
  have HBK := Lib.hid (vblocks_any h)
  have hl : (stV v).length = v.n := by unfold stV; rw [List.length_map, h.len]
  have HL := Lib.hid hl
  clear h hn hok hy hl
  go_enter Try.func24, Try.ntmps24
  by_cases hvn : v.n = n
  · rw [hvn] at HBK
    have HVN := Lib.hid hvn
    clear hvn
    go_wp2_with fail
    refine HBK.out.mono ?_
    rintro e w' ⟨rfl, rfl⟩
    go_wp2_with fail
    go_loopw [5, 6, 7] (fun i p b wr => ∃ k : Nat, i = .int .i64 k ∧ k ≤ n ∧ Hid (∀ j, j < k → (stV v)[j]? = S[j]?) ∧ Hid (Below W.heap.size W wr)) (fun i _ _ _ => n - (intOf i).toNat)
    case atStart => exact ⟨0, rfl, by omega, fun j hj => by omega, brefl _⟩
    case round =>
      obtain ⟨k, rfl, hk, HE, HBR⟩ := hrel
      obtain ⟨w3, rfl⟩ : ∃ w3, w3 = wr := ⟨wr, rfl⟩
      by_cases hlt : k < n
      · have hki : (k : Int) < n := by omega
        obtain ⟨y, hyk⟩ : ∃ y, S[k]? = some y := ⟨_, List.getElem?_eq_getElem (by rw [HN.out]; exact hlt)⟩
        obtain ⟨x, hx⟩ : ∃ x, v.B[k]? = some x := ⟨_, List.getElem?_eq_getElem (by rw [HV.out.len, HVN.out]; exact hlt)⟩
        have hxo := HV.out.ok x (List.mem_of_getElem? hx)
        have hyo := HO.out y (List.mem_of_getElem? hyk)
        have HX5 := Lib.hid (And.intro hxo.len hxo.b)
        have HY5 := Lib.hid (And.intro hyo.len hyo.b)
        obtain ⟨gs, rfl, _⟩ := HY.out k y hyk
        have HYR0 : Hid (∀ w', Below W.heap.size W w' → w'.rangeAt gs (k * 57) (blkL y.k y.bs)) := fun w' hb => by
          obtain ⟨g', e, hr⟩ := (HY.out.keep hb) k y hyk
          injection e with e; injection e with e; rw [e]; exact hr
        have hsx : (stV v)[k]? = some (val x) := by unfold stV; rw [List.getElem?_map, hx]; rfl
        obtain ⟨b, hbq⟩ : ∃ b, (!decide (x.k = y.k ∧ x.bs = y.bs)) = b := ⟨_, rfl⟩
        have HBQ := Lib.hid hbq
        have HEQ : Hid (b = false → (stV v)[k]? = S[k]?) := fun hb => by
          rw [← hbq, Bool.not_eq_false', decide_eq_true_eq] at hb
          rw [hsx, hyk]
          cases x; cases y
          obtain ⟨h1, h2⟩ := hb
          simp only at h1 h2
          unfold val; rw [h1, h2]
        have HNEQ : Hid (b = true → decide (stV v = S) = false) := fun hb => by
          rw [← hbq, Bool.not_eq_true', decide_eq_false_iff_not] at hb
          rw [decide_eq_false_iff_not]
          intro h
          rw [h, hyk] at hsx
          injection hsx with hsx
          rw [hsx] at hb
          exact hb ⟨rfl, rfl⟩
        have hget := vget_any (HV.out.below HBR.out) k (by have := HV.out.n; have := HVN.out; constructor <;> omega)
        obtain ⟨g1, g2⟩ := getB_in HV.out.len hx
        rw [g1, g2] at hget
        have HGET := Lib.hid hget
        clear hxo hyo hsx hbq hget g1 g2 hx hyk
        go_wp2_with fail
        refine HGET.out.mono ?_
        rintro e w4 ⟨rfl, hb4⟩
        have HB4 := Lib.hid (HBR.out.trans (hb4.mono HBR.out.size))
        clear hb4 HGET
        go_upto_region 7 with (first | (refine wpList_allocB rfl rfl ?_) | (refine wpList_storeB rfl (.tmp 6) (.tmp 31) rfl w4.heap.size rfl x.k 0 x.bs zBs rfl HX5.out.1 zBs_len (heap_alloc_new w4 _) ?_))
        have hb5 : Below w4.heap.size w4 ((w4.alloc (Obj.cells (blkA 0 zBs) 46)).setRow w4.heap.size (blkA x.k x.bs)) := below_setRow ((Below.refl _ _).alloc (Nat.le_refl _) _) (Nat.le_refl _) _
        have e5 := setRow_blk (D := blkA x.k x.bs) (heap_alloc_new w4 (Obj.cells (blkA 0 zBs) 46))
        have HB5 := Lib.hid (HB4.out.trans (hb5.mono HB4.out.size))
        have HG6 := Lib.hid e5
        clear hb5 e5
        generalize (w4.alloc (Obj.cells (blkA 0 zBs) 46)).setRow w4.heap.size (blkA x.k x.bs) = w5 at *
        generalize w4.heap.size = g6 at *
        try simp only [Act.put]
        have HYR : Hid (∀ w', Below w5.heap.size w5 w' → w'.rangeAt gs (k * 57) (blkL y.k y.bs)) := fun w' hb => HYR0.out w' (HB5.out.trans (hb.mono HB5.out.size))
        clear HYR0 HB4
        refine wp_region_rgk (VBk x y gs n d k b) (fun _ W => Below w5.heap.size w5 W) (fun _ w w' => Below w.heap.size w w') (by kernel_rfl) (by kernel_rfl) (fun i j v w w' _ _ h hs => by unfold VBk at *; exact h) ((Below.refl _ _).drew) ?_
        simp only [RAll]
        refine ⟨?_, ?_, ?_, ?_, ?_, ?_, ?_, ?_, ?_, ?_⟩
        · refine RStepK.of rfl fun T W L hag hL hJ hLs hd => ?_   -- 0: 33 := Op.move (Operand.tmp 7)
          have e7 : T.getD 7 undef = _ := (agree_at hag 7 (by kernel_rfl)).trans rfl
          clear hag hd
          go_simp
          first | exact ⟨_, rfl, rfl⟩ | exact ⟨_, rfl, rfl, brefl _⟩ | exact ⟨_, rfl, rfl, hJ, brefl _⟩
        · refine RStepK.of rfl fun T W L hag hL hJ hLs hd => ?_   -- 1: 34 := Op.unOp UnOp.not 4 (Operand.tmp 33)
          have d33 : T.getD 33 undef = _ := hd ⟨0, .data⟩ (by simp) rfl _ rfl
          clear hag hd
          go_simp
          first | exact ⟨_, rfl, rfl⟩ | exact ⟨_, rfl, rfl, brefl _⟩ | exact ⟨_, rfl, rfl, hJ, brefl _⟩
        · refine RStepK.of rfl fun T W L hag hL hJ hLs hd => ?_   -- 2: 35 := Op.move (Operand.tmp 34)
          have d34 : T.getD 34 undef = _ := hd ⟨1, .data⟩ (by simp) rfl _ rfl
          clear hag hd
          go_simp
          first | exact ⟨_, rfl, rfl⟩ | exact ⟨_, rfl, rfl, brefl _⟩ | exact ⟨_, rfl, rfl, hJ, brefl _⟩
        · refine RStepK.want rfl rfl rfl (by kernel_rfl) (fun v w h => h) fun T W L hag hL hJ hLs hd => ?_   -- 3: 36 := Op.load 46 (Operand.tmp 6)
          have e6 : T.getD 6 undef = _ := (agree_at hag 6 (by kernel_rfl)).trans rfl
          clear hag
          refine wp_load_row 46 (.tmp 6) rfl g6 e6 _ _ _ _ (kb hJ HG6.out) Try.underlying46 rfl (by rw [blkA_size HX5.out.1]; exact size24b) ?_
          exact ⟨_, rfl, rfl, hJ, brefl _⟩
        · refine RStepK.want rfl rfl rfl (by kernel_rfl) (fun v w h => h) fun T W L hag hL hJ hLs hd => ?_   -- 4: 37 := Op.move (Operand.tmp 1)
          have e1 : T.getD 1 undef = _ := (agree_at hag 1 (by kernel_rfl)).trans rfl
          clear hag hd
          go_simp
          first | exact ⟨_, rfl, rfl⟩ | exact ⟨_, rfl, rfl, brefl _⟩ | exact ⟨_, rfl, rfl, hJ, brefl _⟩
        · refine RStepK.want rfl rfl rfl (by kernel_rfl) (fun v w h => h) fun T W L hag hL hJ hLs hd => ?_   -- 5: 38 := Op.move (Operand.tmp 5)
          have e5 : T.getD 5 undef = _ := (agree_at hag 5 (by kernel_rfl)).trans rfl
          clear hag hd
          go_simp
          first | exact ⟨_, rfl, rfl⟩ | exact ⟨_, rfl, rfl, brefl _⟩ | exact ⟨_, rfl, rfl, hJ, brefl _⟩
        · refine RStepK.want rfl rfl rfl (by kernel_rfl) (fun v w h => h) fun T W L hag hL hJ hLs hd => ?_   -- 6: 39 := Op.indexAddr 43 (Operand.tmp 37) (Operand.tmp 38)
          have d37 : T.getD 37 undef = _ := hd ⟨4, .data⟩ (by simp) rfl _ rfl
          have d38 : T.getD 38 undef = _ := hd ⟨5, .data⟩ (by simp) rfl _ rfl
          clear hag hd
          go_simp
          first | exact ⟨_, rfl, rfl⟩ | exact ⟨_, rfl, rfl, brefl _⟩ | exact ⟨_, rfl, rfl, hJ, brefl _⟩
        · refine RStepK.want rfl rfl rfl (by kernel_rfl) (fun v w h => h) fun T W L hag hL hJ hLs hd => ?_   -- 7: 40 := Op.load 46 (Operand.tmp 39)
          have d39 : T.getD 39 undef = _ := hd ⟨6, .data⟩ (by simp) rfl _ rfl
          clear hag
          refine wp_load_mid 46 (.tmp 39) rfl gs (k * 57) d39 (blkL y.k y.bs) _ (HYR.out W hJ) Try.underlying46 rfl (by rw [blkL_len HY5.out.1]; exact size24b) ?_
          exact ⟨_, rfl, rfl, hJ, brefl _⟩
        · refine RStepK.want rfl rfl rfl (by kernel_rfl) (fun v w h => h) fun T W L hag hL hJ hLs hd => ?_   -- 8: 41 := Op.binOp BinOp.neq 46 (Operand.tmp 36) (Operand.tmp 40) 46
          have d36 : T.getD 36 undef = _ := hd ⟨3, .data⟩ (by simp) rfl _ rfl
          have d40 : T.getD 40 undef = _ := hd ⟨7, .data⟩ (by simp) rfl _ rfl
          clear hag
          refine wp_neqB9 (.tmp 36) (.tmp 40) _ rfl x.k y.k x.bs y.bs d36 d40 HX5.out.1 HX5.out.2 HY5.out.1 HY5.out.2 ?_
          rw [HBQ.out]
          exact ⟨_, rfl, rfl, hJ, brefl _⟩
        · refine RLastK.of rfl fun T W L hag hLs hL hJ hd => ?_   -- 9: 42 := Op.pick (Operand.tmp 35) (Operand.const (Value.bool true)) (
          have d35 : T.getD 35 undef = _ := hd 2 _ (by simp) rfl
          have d41 : T.getD 41 undef = _ := hd 8 _ (by simp) rfl
          obtain ⟨f, hf, hT⟩ := agree_fn hag
          have d33 : T.getD 33 undef = _ := hd 0 _ (by simp) rfl
          have h33 := (hf 33).trans d33
          have d34 : T.getD 34 undef = _ := hd 1 _ (by simp) rfl
          have h34 := (hf 34).trans d34
          have h35 := (hf 35).trans d35
          have d36 : T.getD 36 undef = _ := hd 3 _ (by simp) rfl
          have h36 := (hf 36).trans d36
          have d37 : T.getD 37 undef = _ := hd 4 _ (by simp) rfl
          have h37 := (hf 37).trans d37
          have d38 : T.getD 38 undef = _ := hd 5 _ (by simp) rfl
          have h38 := (hf 38).trans d38
          have d39 : T.getD 39 undef = _ := hd 6 _ (by simp) rfl
          have h39 := (hf 39).trans d39
          have d40 : T.getD 40 undef = _ := hd 7 _ (by simp) rfl
          have h40 := (hf 40).trans d40
          have h41 := (hf 41).trans d41
          have HJ := Lib.hid hJ
          clear hag hd d33 d34 d35 d36 d37 d38 d39 d40 d41 hJ hf
          rw [hT]
          clear hT
          simp only [List.pop_toArray, List.dropLast_cons_cons, List.dropLast_singleton, List.filterMap_cons, List.filterMap_nil, List.foldl_cons, List.foldl_nil, List.setIfInBounds_toArray, List.set_cons_succ, List.set_cons_zero, h33, h34, h35, h36, h37, h38, h39, h40, h41]
          clear HX5 HY5 HG6 HYR
          cases b
          · have HSE : Hid ((stV v)[k]? = S[k]?) := HEQ.out rfl
            have HF := Lib.hid (HB5.out.trans (HJ.out.mono HB5.out.size))
            clear HJ HEQ HNEQ HBQ
            go_wp2
            go_roundw
            case rel =>
              refine ⟨k + 1, by go_num, by omega, Lib.hid (fun j hj => ?_), HF.out⟩
              by_cases e : j = k
              · rw [e]; exact HSE.out
              · exact HE.out j (by omega)
            case measure => simp [intOf]; omega
          · have HF := Lib.hid (HB5.out.trans (HJ.out.mono HB5.out.size))
            have HNO : Hid (decide (stV v = S) = false) := HNEQ.out rfl
            clear HJ HEQ HNEQ HBQ
            go_wp2
            go_ret
            exact ⟨by rw [HNO.out]; rfl, HF.out⟩

      · obtain rfl : k = n := by omega
        have hki : ¬ (k : Int) < k := by omega
        have HEQ : Hid (decide (stV v = S) = true) := by
          unfold Hid
          rw [decide_eq_true_eq]
          apply List.ext_getElem?
          intro j
          by_cases hj : j < k
          · exact HE.out j hj
          · rw [List.getElem?_eq_none (by rw [HL.out, HVN.out]; omega), List.getElem?_eq_none (by rw [HN.out]; omega)]
        have n1 : hasV v (-1) = false := by unfold hasV; simp
        have n2 : hasV v (k : Int) = false := by unfold hasV; rw [HVN.out]; simp
        have HG1 : Hid (∀ w', Below W.heap.size W w' → Calls Try.prog 17 #[.pointer (some ⟨hp, 0, none⟩), .int .i64 (-1)] w' fun e w2 => e = .returned (.tuple #[.agg (blkA 0 zBs), .bool false]) ∧ Below w'.heap.size w' w2) := fun w' hb => by
          have h1 := vget_any (HV.out.below hb) (-1) (by constructor <;> omega)
          rw [n1, getB_no n1] at h1
          exact h1
        have HG2 : Hid (∀ w', Below W.heap.size W w' → Calls Try.prog 17 #[.pointer (some ⟨hp, 0, none⟩), .int .i64 (k : Int)] w' fun e w2 => e = .returned (.tuple #[.agg (blkA 0 zBs), .bool false]) ∧ Below w'.heap.size w' w2) := fun w' hb => by
          have h1 := vget_any (HV.out.below hb) k (by have := HV.out.n; have := HVN.out; constructor <;> omega)
          rw [n2, getB_no n2] at h1
          exact h1
        clear n1 n2
        go_wp2_with fail
        refine (HG1.out w3 HBR.out).mono ?_
        rintro e w4 ⟨rfl, hb4⟩
        have HB4 := Lib.hid (HBR.out.trans (hb4.mono HBR.out.size))
        clear hb4
        go_upto_region 10 with (first | (refine wpList_allocB rfl rfl ?_) | (refine wpList_storeB rfl (.tmp 8) (.tmp 46) rfl w4.heap.size rfl 0 0 zBs zBs rfl zBs_len zBs_len (heap_alloc_new w4 _) ?_))
        have hb5 : Below w4.heap.size w4 ((w4.alloc (Obj.cells (blkA 0 zBs) 46)).setRow w4.heap.size (blkA 0 zBs)) := below_setRow ((Below.refl _ _).alloc (Nat.le_refl _) _) (Nat.le_refl _) _
        have HB5 := Lib.hid (HB4.out.trans (hb5.mono HB4.out.size))
        clear hb5
        generalize (w4.alloc (Obj.cells (blkA 0 zBs) 46)).setRow w4.heap.size (blkA 0 zBs) = w5 at *
        generalize w4.heap.size = g8 at *
        try simp only [Act.put]
        go_wp2_with fail
        refine (HG2.out w5 HB5.out).mono ?_
        rintro e w6 ⟨rfl, hb6⟩
        have HB6 := Lib.hid (HB5.out.trans (hb6.mono HB5.out.size))
        clear hb6
        go_upto_region 11 with (first | (refine wpList_allocB rfl rfl ?_) | (refine wpList_storeB rfl (.tmp 10) (.tmp 53) rfl w6.heap.size rfl 0 0 zBs zBs rfl zBs_len zBs_len (heap_alloc_new w6 _) ?_))
        have hb7 : Below w6.heap.size w6 ((w6.alloc (Obj.cells (blkA 0 zBs) 46)).setRow w6.heap.size (blkA 0 zBs)) := below_setRow ((Below.refl _ _).alloc (Nat.le_refl _) _) (Nat.le_refl _) _
        have HB7 := Lib.hid (HB6.out.trans (hb7.mono HB6.out.size))
        clear hb7
        generalize (w6.alloc (Obj.cells (blkA 0 zBs) 46)).setRow w6.heap.size (blkA 0 zBs) = w7 at *
        generalize w6.heap.size = g10 at *
        try simp only [Act.put]
        go_wp2
        go_ret
        exact ⟨by rw [HEQ.out]; rfl, HB7.out⟩
  · have hq : ((v.n : Int) == n) = false := by simp; omega
    have HNO : Hid (decide (stV v = S) = false) := by
      unfold Hid
      rw [decide_eq_false_iff_not]
      intro h
      rw [h, HN.out] at HL
      exact hvn HL.out.symm
    generalize v.n = vn at *
    go_wp2_with fail
    refine HBK.out.mono ?_
    rintro e w' ⟨rfl, rfl⟩
    go_wp2
    go_ret
    exact ⟨by rw [HNO.out]; rfl, brefl _⟩
end Go.Proofs.Ytamnpblijdgdaaa

/- A vol that goes on, beside its device (for the laws with deeds); rows of Blocks among what is kept. -/
namespace Go.Proofs.Ytamnpblijdgdaaa
open Go.ChangeShapes Go.WideShapes Go.ChangeAt Go.RowKit
set_option linter.unusedVariables false
set_option maxRecDepth 100000
structure GoI (w wr : World) (s3 q hp rb gs n G k : Nat) (m : DM) (v : VM) : Prop where
  sv : SV w wr (fun k => k < s3 ∨ k = hp ∨ k = rb) q m hp rb v
  lv : Lv m v 0 n G
  ns : m.stops = false
  ep : v.ep ≤ 2 + k
  dn : m.done.length ≤ 80 + 60 * k
  sh : wr.heap[gs]? = some (.cells (shC n G 3) 30 (0, 0))
theorem GoI.below {w wr wr' : World} {s3 q hp rb gs n G k : Nat} {m : DM} {v : VM} (h : GoI w wr s3 q hp rb gs n G k m v) (hb : Below wr.heap.size wr wr') : GoI w wr' s3 q hp rb gs n G k m v := ⟨h.sv.below hb, h.lv, h.ns, h.ep, h.dn, kb hb h.sh⟩
theorem GoI.mono {w wr : World} {s3 q hp rb gs n G k k' : Nat} {m : DM} {v : VM} (h : GoI w wr s3 q hp rb gs n G k m v) (hk : k ≤ k') : GoI w wr s3 q hp rb gs n G k' m v := ⟨h.sv, h.lv, h.ns, by have := h.ep; omega, by have := h.dn; omega, h.sh⟩
theorem Lv.step {m : DM} {v : VM} {r n g : Nat} (h : Lv m v r n g) {l : List Wr} (hok : WrsOk l) (hg : 13 ≤ g) (he : v.ep + 1 < 65000) (hns : m.stops = false) : Lv (chM m v l) (chV v l) r n g ∧ (chV v l).ep ≤ v.ep + 1 ∧ (chM m v l).stops = false := by
  have h1 := h.change hok hg he hns
  exact ⟨h1.1, h1.2.2.1, h1.2.2.2⟩
theorem GoI.change {w wr : World} {s3 q hp rb gs n G k : Nat} {m : DM} {v : VM} (h : GoI w wr s3 q hp rb gs n G k m v) (hk : k ≤ 40) (hG : 13 ≤ G) (hn : n ≤ 40) (h1 : gs < s3 ∧ gs ≠ hp ∧ gs ≠ rb) (A : Option Addr) (l : List Wr) (c d : Nat) (hl : l.length = c) (hc : c ≤ d) (hd : d ≤ 9223372036854775807) (hok : WrsOk l) (hy : WrsR wr (Rst (fun k => k < s3 ∨ k = hp ∨ k = rb) hp rb) A l) :
    Calls Try.prog 22 #[.pointer (some ⟨hp, 0, none⟩), .slice A c d] wr fun e w' => e = .returned (.int .i64 (if ChOk v l then 0 else 1)) ∧ GoI w w' s3 q hp rb gs n G (k + 1) (chM m v l) (chV v l) := by
  obtain ⟨p1, p2, p3, p4, p5, p6⟩ := h.lv.parts
  have hus := h.lv.usg
  have hsq := h.lv.sqg
  have hep := h.ep
  have hdn := h.dn
  have hst := h.lv.step hok hG (by omega) h.ns
  have hd2 := chM_done m v l
  have hbl : v.B.length = n := by rw [p4.len, p2]
  refine (vchange_any h.sv A l c d hl hc hd hok hy (by omega) (by omega) (by omega) (by omega) (by omega)).mono ?_
  rintro e w' ⟨he, hs, hm⟩
  exact ⟨he, hs, hst.1, hst.2.2, by omega, by omega, (hm.blk gs ⟨Or.inl h1.1, h1.2.1, h1.2.2⟩).trans h.sh⟩
theorem stV_oks {v : VM} (h : v.Ok) : BksOk (stV v) := fun x hx => by
  unfold stV at hx
  obtain ⟨y, hy, rfl⟩ := List.mem_map.1 hx
  have := h.ok y hy
  exact ⟨this.k, this.len, this.b⟩
theorem stV_length {v : VM} (h : v.Ok) : (stV v).length = v.n := by unfold stV; rw [List.length_map, h.len]
/-- A row of Blocks behind a slice, of the blocks R. -/
def BksR (W : World) (R : Nat → Prop) (A : Option Addr) (l : List Bk) : Prop := ∀ i x, l[i]? = some x → ∃ g, A = some ⟨g, 0, none⟩ ∧ W.rangeAt g (i * 57) (blkL x.k x.bs) ∧ R g
theorem BksR.bks {W : World} {R : Nat → Prop} {A : Option Addr} {l : List Bk} (h : BksR W R A l) : Bks W A l := fun i x hi => let ⟨g, e, h1, _⟩ := h i x hi; ⟨g, e, h1⟩
theorem BksR.same {W W' : World} {R : Nat → Prop} {A : Option Addr} {l : List Bk} (h : BksR W R A l) (hs : Same R W W') : BksR W' R A l := fun i x hi => by
  obtain ⟨g, e, h1, h2⟩ := h i x hi
  refine ⟨g, e, fun j v hj => ?_, h2⟩
  have h3 := h1 j v hj
  rw [World.cell?_of_block (hs.blk _ h2)]
  exact h3
theorem BksR.below {W W' : World} {R : Nat → Prop} {A : Option Addr} {l : List Bk} (h : BksR W R A l) (hb : Below W.heap.size W W') : BksR W' R A l := fun i x hi => by
  obtain ⟨g, e, h1, h2⟩ := h i x hi
  exact ⟨g, e, fun j v hj => keepC hb (h1 j v hj), h2⟩
theorem OwnK.bksR {w : World} {base : Nat} {v : Value} {l : List Bk} {R : Nat → Prop} (h : OwnK w base v l) (hok : BksOk l) (hR : ∀ k, base ≤ k → k < w.heap.size → R k) : ∃ A d, v = .slice A l.length d ∧ l.length ≤ d ∧ d ≤ 9223372036854775807 ∧ BksR w R A l := by
  rcases h.2 with ⟨rfl, h0⟩ | ⟨g, cap, cur, rfl, hb, hg, hn', hm, hs, ht⟩
  · refine ⟨none, 0, by rw [h0], by omega, by omega, fun i x hi => ?_⟩
    rw [List.length_eq_zero_iff.1 h0] at hi; cases hi
  · refine ⟨some ⟨g, 0, none⟩, cap, rfl, hn', by simp only [maxLen] at hm; omega, fun i x hi => ⟨g, rfl, fun j v hj => ?_, hR g (h.lt g rfl).1 (h.lt g rfl).2⟩⟩
    have h5 := h.cells (g := g) rfl _ _ (bksL_at hok hi hj)
    rw [add_at] at h5; exact h5
/-- A region whose vol is mounted anew. -/
structure MoI (w wr : World) (P : Nat → Prop) (q gs n G k : Nat) (A : Option Addr) (S : List Bk) (m : DM) (v : VM) : Prop where
  ds : DS w wr P q m
  lv : Lv m v 0 n G
  ns : m.stops = false
  ep : v.ep ≤ 60 + k
  dn : m.done.length ≤ 3000 + 60 * k
  sh : wr.heap[gs]? = some (.cells (shC n G 3) 30 (0, 0))
  st : stV v = S
  bk : BksR wr P A S
theorem MoI.mount {w wr : World} {P : Nat → Prop} {q gs n G k : Nat} {A : Option Addr} {S : List Bk} {m : DM} {v : VM} (h : MoI w wr P q gs n G k A S m v) (hk : k ≤ 40) (hn : n ≤ 40) (hgs : P gs) :
    Calls Try.prog 16 #[.pointer (some ⟨q, 0, none⟩), .int .i64 0, shQ 0 0 n G 3] wr fun en w' => ∃ hp rb m' v', en = .returned (.tuple #[.pointer (some ⟨hp, 0, none⟩), .int .i64 0]) ∧ MoI w w' P q gs n G (k + 1) A S m' v' ∧ VolAt w' q hp rb v' ∧ v'.ep = v.ep + 1 ∧ v'.us = 0 ∧ v'.g = G := by
  have hep := h.ep
  have hdn := h.dn
  obtain ⟨S0, Rs, hmt, hrl, hlive, hsure, hst, hns2⟩ := h.lv.mount h.ns (by omega) (by omega : (0 : Nat) < 1000) 3
  obtain ⟨p1, p2, p3, p4, p5, p6⟩ := h.lv.parts
  have hdn2 := homeM_done' m 0 n G v.ep 3 Rs
  refine (mount_mtb h.ds hmt (by omega) p5 3 (by omega) (by omega)).mono ?_
  rintro en w' ⟨hp, rb, he, hsv, hsm, h1, h2⟩
  refine ⟨hp, rb, _, _, he, ⟨hsv.ds.mono (fun k hk => Or.inl hk), hlive.lv, hns2, ?_, by omega, (hsm.blk gs hgs).trans h.sh, hst.trans h.st, h.bk.same hsm⟩, hsv.at_, hlive.tied.ve, rfl, hlive.tied.vg⟩
  rw [hlive.tied.ve]; omega
theorem MoI.below {w wr wr' : World} {P : Nat → Prop} {q gs n G k : Nat} {A : Option Addr} {S : List Bk} {m : DM} {v : VM} (h : MoI w wr P q gs n G k A S m v) (hb : Below wr.heap.size wr wr') : MoI w wr' P q gs n G k A S m v := ⟨h.ds.below hb (fun k hk => Or.inl hk), h.lv, h.ns, h.ep, h.dn, kb hb h.sh, h.st, h.bk.below hb⟩
end Go.Proofs.Ytamnpblijdgdaaa

/- For the laws with crashes: a region that may be mounted, a vol that goes on, one that is synced. -/
namespace Go.Proofs.Ytamnpblijdgdaaa
open Go.ChangeShapes Go.WideShapes Go.ChangeAt Go.RowKit
set_option linter.unusedVariables false
set_option maxRecDepth 100000
structure GoP (w wr : World) (P : Nat → Prop) (q hp rb gs n G k : Nat) (m : DM) (v : VM) : Prop where
  sv : SV w wr P q m hp rb v
  lv : Lv m v 0 n G
  ns : m.stops = false
  ep : v.ep ≤ 2 + k
  dn : m.done.length ≤ 80 + 60 * k
  sh : wr.heap[gs]? = some (.cells (shC n G 3) 30 (0, 0))
theorem GoP.below {w wr wr' : World} {P : Nat → Prop} {q hp rb gs n G k : Nat} {m : DM} {v : VM} (h : GoP w wr P q hp rb gs n G k m v) (hb : Below wr.heap.size wr wr') : GoP w wr' P q hp rb gs n G k m v := ⟨h.sv.below hb, h.lv, h.ns, h.ep, h.dn, kb hb h.sh⟩
theorem GoP.change {w wr : World} {P : Nat → Prop} {q hp rb gs n G k : Nat} {m : DM} {v : VM} (h : GoP w wr P q hp rb gs n G k m v) (hk : k ≤ 200) (hG : 13 ≤ G) (hn : n ≤ 40) (h1 : P gs ∧ gs ≠ hp ∧ gs ≠ rb) (A : Option Addr) (l : List Wr) (c d : Nat) (hl : l.length = c) (hc : c ≤ d) (hd : d ≤ 9223372036854775807) (hok : WrsOk l) (hy : WrsR wr (Rst P hp rb) A l) :
    Calls Try.prog 22 #[.pointer (some ⟨hp, 0, none⟩), .slice A c d] wr fun e w' => e = .returned (.int .i64 (if ChOk v l then 0 else 1)) ∧ GoP w w' P q hp rb gs n G (k + 1) (chM m v l) (chV v l) ∧ Same (Rst P hp rb) wr w' := by
  obtain ⟨p1, p2, p3, p4, p5, p6⟩ := h.lv.parts
  have hus := h.lv.usg
  have hsq := h.lv.sqg
  have hep := h.ep
  have hdn := h.dn
  have hst := h.lv.step hok hG (by omega) h.ns
  have hd2 := chM_done m v l
  have hbl : v.B.length = n := by rw [p4.len, p2]
  refine (vchange_any h.sv A l c d hl hc hd hok hy (by omega) (by omega) (by omega) (by omega) (by omega)).mono ?_
  rintro e w' ⟨he, hs, hm⟩
  exact ⟨he, ⟨hs, hst.1, hst.2.2, by omega, by omega, (hm.blk gs h1).trans h.sh⟩, hm⟩
/-- It may be mounted. -/
structure MtI (w wr : World) (P : Nat → Prop) (q gs n G k : Nat) (S : List Bk) (m : DM) : Prop where
  ds : DS w wr P q m
  mt : ∃ e S0 Rs, Mtb m 0 n G e S0 Rs ∧ applyW S0 Rs.flatten = S ∧ e ≤ 2 + k
  ns : m.stops = false
  dn : m.done.length ≤ 80 + 60 * k
  sh : wr.heap[gs]? = some (.cells (shC n G 3) 30 (0, 0))
theorem MtI.below {w wr wr' : World} {P : Nat → Prop} {q gs n G k : Nat} {S : List Bk} {m : DM} (h : MtI w wr P q gs n G k S m) (hb : Below wr.heap.size wr wr') : MtI w wr' P q gs n G k S m := ⟨h.ds.below hb (fun k hk => Or.inl hk), h.mt, h.ns, h.dn, kb hb h.sh⟩
theorem Mtb.few {m : DM} {r n g e : Nat} {S0 : List Bk} {Rs : List (List Wr)} (h : Mtb m r n g e S0 Rs) : Rs.length ≤ g := by
  obtain ⟨rest, h1, _⟩ := h.lg
  have h2 := congrArg List.length h1
  rw [List.length_append, List.length_take] at h2
  have := putsL_few e Rs 0
  omega
theorem MtI.mount {w wr : World} {P : Nat → Prop} {q gs n G k : Nat} {S : List Bk} {m : DM} (h : MtI w wr P q gs n G k S m) (hk : k ≤ 200) (hn : n ≤ 40) (hG : G ≤ 1000) (hgs : P gs) :
    Calls Try.prog 16 #[.pointer (some ⟨q, 0, none⟩), .int .i64 0, shQ 0 0 n G 3] wr fun en w' => ∃ hp rb m' v', en = .returned (.tuple #[.pointer (some ⟨hp, 0, none⟩), .int .i64 0]) ∧ GoP w w' (fun k => P k ∨ k = hp ∨ k = rb) q hp rb gs n G (k + 1) m' v' ∧ stV v' = S ∧ Same P wr w' ∧ wr.heap.size ≤ hp ∧ wr.heap.size ≤ rb := by
  have hdn := h.dn
  obtain ⟨e, S0, Rs, hmt, hS, he⟩ := h.mt
  have hfew := hmt.few
  have htd := hmt.tied 3 (by omega) hG
  have hns2 : (homeM m (mntV m 0 n G e 3 Rs)).stops = false := by rw [ns_home]; exact h.ns
  have hlv := hmt.live htd (by omega) (ns_of hns2)
  have hdn2 := homeM_done' m 0 n G e 3 Rs
  refine (mount_mtb h.ds hmt (by omega) hG 3 (by omega) (by omega)).mono ?_
  rintro en w' ⟨hp, rb, hen, hsv, hsm, h1, h2⟩
  refine ⟨hp, rb, _, _, hen, ⟨hsv, hlv.1.lv, hns2, ?_, by omega, (hsm.blk gs hgs).trans h.sh⟩, ?_, hsm, h1, h2⟩
  · rw [hlv.1.tied.ve]; omega
  · rw [hlv.1.st]; exact hS
/-- All that was changed is sure. -/
structure SyI (w wr : World) (P : Nat → Prop) (q hp rb gs n G k : Nat) (m : DM) (v : VM) : Prop where
  sv : SV w wr P q m hp rb v
  lv : ∃ S0 Rs, Live m v 0 n G v.ep S0 Rs Rs.length
  ns : m.stops = false
  ep : v.ep ≤ 2 + k
  dn : m.done.length ≤ 80 + 60 * k
  sh : wr.heap[gs]? = some (.cells (shC n G 3) 30 (0, 0))
theorem SyI.below {w wr wr' : World} {P : Nat → Prop} {q hp rb gs n G k : Nat} {m : DM} {v : VM} (h : SyI w wr P q hp rb gs n G k m v) (hb : Below wr.heap.size wr wr') : SyI w wr' P q hp rb gs n G k m v := ⟨h.sv.below hb, h.lv, h.ns, h.ep, h.dn, kb hb h.sh⟩
theorem SyI.grow {w wr wr' : World} {P : Nat → Prop} {q hp rb gs n G k : Nat} {m : DM} {v : VM} (h : SyI w wr P q hp rb gs n G k m v) (hb : Below wr.heap.size wr wr') {Q : Nat → Prop} (hQ : ∀ k, Q k → wr.heap.size ≤ k ∧ k < wr'.heap.size) : SyI w wr' (fun k => P k ∨ Q k) q hp rb gs n G k m v := ⟨h.sv.grow hb hQ, h.lv, h.ns, h.ep, h.dn, kb hb h.sh⟩
theorem GoP.sync {w wr : World} {P : Nat → Prop} {q hp rb gs n G k : Nat} {m : DM} {v : VM} (h : GoP w wr P q hp rb gs n G k m v) (hk : k ≤ 200) (hgs : P gs) :
    Calls Try.prog 20 #[.pointer (some ⟨hp, 0, none⟩)] wr fun e w' => e = .returned (.tuple #[]) ∧ SyI w w' P q hp rb gs n G (k + 1) (m.doBarrier ((0 : Nat) : Int)) v ∧ Same P wr w' := by
  have hdn := h.dn
  have hep := h.ep
  obtain ⟨S0, Rs, j, hl⟩ := h.lv
  have hr := hl.tied.vr
  have hs := (hl.sync (ns_of h.ns)).1
  have h2 := done_doBarrier m v.r
  have hns : (m.doBarrier v.r).stops = false := by rw [ns_barrier]; exact h.ns
  refine (vsync_any h.sv (by omega)).mono ?_
  rintro e w' ⟨he, hsv, hm⟩
  rw [hr] at hsv hns h2
  exact ⟨he, ⟨hsv, ⟨S0, Rs, hs⟩, hns, by omega, by omega, (hm.blk gs hgs).trans h.sh⟩, hm⟩
theorem SyI.crash {w wr : World} {P : Nat → Prop} {q hp rb gs n G k : Nat} {m : DM} {v : VM} (h : SyI w wr P q hp rb gs n G k m v) (hk : k ≤ 200) (hgs : P gs) :
    Calls Try.prog 23 #[.pointer (some ⟨q, 0, none⟩), .slice none 0 0] wr fun e w' => e = .returned (.tuple #[]) ∧ MtI w w' P q gs n G k (stV v) (m.crash []) ∧ Same P wr w' := by
  have hdn := h.dn
  obtain ⟨S0, Rs, hl⟩ := h.lv
  have hep := h.ep
  have hst := hl.st
  have hfz := hl.idle.fz (D := fun s => s = stV v) (E := v.ep) (fun k' h1 h2 => by
    rw [List.take_of_length_le h1]; exact hst.symm) (Nat.le_refl _)
  obtain ⟨hf, hp1, _⟩ := hl.idle.fit.crash []
  obtain ⟨e, S1, R1, h1, h2, h3⟩ := hfz.2 _ hf hp1
  refine (h.sv.ds.crash0 (by omega)).mono ?_
  rintro e' w' ⟨he, hd, hm⟩
  exact ⟨he, ⟨hd, ⟨e, S1, R1, h1, h2, by omega⟩, rfl, by rw [crash_done]; omega, (hm.blk gs hgs).trans h.sh⟩, hm⟩
end Go.Proofs.Ytamnpblijdgdaaa

/- What a going home, a change leave where the device stops inside of it; a run of a vol with a stop. Of no function. -/
namespace Go.Proofs.Ytamnpblijdgdaaa
open Go.ChangeShapes Go.WideShapes Go.ChangeAt Go.RowKit
set_option linter.unusedVariables false
set_option maxRecDepth 100000
theorem home_poss {r g N : Nat} : ∀ (l : List HB) (o : Nat) (m : DM), Fit m r N → 2 + g + o + l.length ≤ N → HBsOk l →
    Fit (homeW r g m o l) r N ∧ ∀ j c, Poss (homeW r g m o l) r j c → Poss m r j c ∨ ∃ (i : Nat) (x : HB), l[i]? = some x ∧ x.lg = true ∧ j = 2 + g + (o + i) ∧ c = sealB 0 x.k (o + i) x.bs
  | [], o, m, hf, _, _ => ⟨hf, fun j c h => Or.inl h⟩
  | y :: l, o, m, hf, hN, hok => by
    rw [List.length_cons] at hN
    have hy := hok y (by simp)
    show Fit (homeW r g (if y.lg then m.doWrite r ((2 + g + o : Nat) : Int) (sealB 0 y.k o y.bs) else m) (o + 1) l) r N ∧ ∀ j c, Poss (homeW r g (if y.lg then m.doWrite r ((2 + g + o : Nat) : Int) (sealB 0 y.k o y.bs) else m) (o + 1) l) r j c → _
    have hst : Fit (if y.lg then m.doWrite r ((2 + g + o : Nat) : Int) (sealB 0 y.k o y.bs) else m) r N ∧ ∀ j c, Poss (if y.lg then m.doWrite r ((2 + g + o : Nat) : Int) (sealB 0 y.k o y.bs) else m) r j c → Poss m r j c ∨ (y.lg = true ∧ j = 2 + g + o ∧ c = sealB 0 y.k o y.bs) := by
      cases hlg : y.lg
      · exact ⟨hf, fun j c h => Or.inl h⟩
      · cases hs : stopped m
        · obtain ⟨w1, w2, _, _⟩ := hf.write hs (i := 2 + g + o) (by omega) (sealB_blk o hy.k hy.len hy.b)
          exact ⟨w1, fun j c h => (w2 j c h).imp id fun h => ⟨rfl, h.1, h.2⟩⟩
        · show Fit (m.doWrite r ((2 + g + o : Nat) : Int) (sealB 0 y.k o y.bs)) r N ∧ ∀ j c, Poss (m.doWrite r ((2 + g + o : Nat) : Int) (sealB 0 y.k o y.bs)) r j c → _
          rw [stop_write hs]; exact ⟨hf, fun j c h => Or.inl h⟩
    obtain ⟨h1, h2⟩ := hst
    obtain ⟨f1, f2⟩ := home_poss (g := g) l (o + 1) _ h1 (by omega) (fun x hx => hok x (by simp [hx]))
    refine ⟨f1, fun j c h => ?_⟩
    rcases f2 j c h with h | ⟨i, x, a1, a2, a3, a4⟩
    · rcases h2 j c h with h | ⟨b1, b2, b3⟩
      · exact Or.inl h
      · exact Or.inr ⟨0, y, rfl, b1, b2.trans rfl, b3.trans rfl⟩
    · exact Or.inr ⟨i + 1, x, a1, a2, by rw [a3, show o + 1 + i = o + (i + 1) by omega], by rw [a4, show o + 1 + i = o + (i + 1) by omega]⟩
theorem Mtb.near {m m' : DM} {r n g e : Nat} {S0 : List Bk} {Rs : List (List Wr)} {v : VM} (h : Mtb m r n g e S0 Rs) (ht : Tied v r n g e S0 Rs) (hf : Fit m' r (2 + g + n))
    (h1 : ∀ j, j < 2 + g → (nowRow m' r)[j]? = (nowRow m r)[j]?)
    (h2 : ∀ i b, i < n → (nowRow m' r)[2 + g + i]? = some b → (nowRow m r)[2 + g + i]? = some b ∨ ∃ x : HB, v.B[i]? = some x ∧ b = sealB 0 x.k i x.bs) : Mtb m' r n g e S0 Rs := by
  have hm2 : ∀ x : Nat, x % 2 < 2 := fun x => Nat.mod_lt _ (by omega)
  refine ⟨hf, h.e1, h.e2, h.len, h.ok, h.n200, h.rs, by rw [h1 _ (by have := hm2 e; omega)]; exact h.an, fun b hb => h.ao b (by rw [← h1 _ (by have := hm2 (e + 1); omega)]; exact hb), fun i x hx hu => ?_, ?_, fun i hi b hb => h.od i hi b (by rw [← h1 _ (by omega)]; exact hb)⟩
  · have hi := (List.getElem?_eq_some_iff.1 hx).1
    rw [h.len] at hi
    obtain ⟨b, hb⟩ := hf.get (i := 2 + g + i) (by omega)
    rw [hb]
    rcases h2 i b hi hb with h3 | ⟨y, h3, h4⟩
    · rw [h.hm i x hx hu] at h3; exact h3.symm
    · have h5 := ht.at_ h3
      rw [applyW_unt _ _ _ hu, hx] at h5
      injection h5 with h5
      rw [h4, h5]; rfl
  · obtain ⟨rest, h3, h4⟩ := h.lg
    refine ⟨rest, ?_, h4⟩
    rw [← h3]
    apply List.ext_getElem?
    intro i
    rw [List.getElem?_take, List.getElem?_take, List.getElem?_drop, List.getElem?_drop]
    split
    · exact h1 _ (by omega)
    · rfl
theorem flat_ok {m : DM} {r n g e : Nat} {S0 : List Bk} {Rs : List (List Wr)} (h : Mtb m r n g e S0 Rs) : BksOk (applyW S0 Rs.flatten) :=
  applyW_ok (fun w hw => by obtain ⟨l, hl, hw⟩ := List.mem_flatten.1 hw; exact (h.rs l hl).2 w hw) (fun w hw => by obtain ⟨l, hl, hw⟩ := List.mem_flatten.1 hw; exact (h.rs l hl).1.kinds w hw) h.ok
theorem Mtb.next {m m' : DM} {r n g e : Nat} {S0 : List Bk} {Rs : List (List Wr)} {v : VM} (h : Mtb m r n g e S0 Rs) (ht : Tied v r n g e S0 Rs) (he : e + 1 < 65000) (hf : Fit m' r (2 + g + n))
    (han : (nowRow m' r)[(e + 1) % 2]? = some (anchorB 0 (e + 1))) (h1 : ∀ j, j < 2 + g → j ≠ (e + 1) % 2 → (nowRow m' r)[j]? = (nowRow m r)[j]?)
    (h2 : ∀ (i : Nat) (x : HB), v.B[i]? = some x → (nowRow m' r)[2 + g + i]? = if x.lg then some (sealB 0 x.k i x.bs) else (nowRow m r)[2 + g + i]?) : Mtb m' r n g (e + 1) (applyW S0 Rs.flatten) [] := by
  have hm2 : ∀ x : Nat, x % 2 < 2 := fun x => Nat.mod_lt _ (by omega)
  have hlen : (applyW S0 Rs.flatten).length = n := by rw [applyW_length]; exact h.len
  have hBl : v.B.length = n := ht.vok.len.trans ht.vn
  have hod : ∀ i, i < g → ∀ b, (nowRow m' r)[2 + i]? = some b → Old (e + 1) b := fun i hi b hb => h.od i hi b (by rw [← h1 _ (by omega) (by have := hm2 (e + 1); omega)]; exact hb)
  refine ⟨hf, by omega, he, hlen, flat_ok h, h.n200, (fun l hl => by cases hl), han, fun b hb ha => ?_, fun i x hx _ => ?_, ⟨_, rfl, nt_old (by omega) fun b hb => ?_⟩, fun i hi b hb => (hod i hi b hb).mono (Nat.le_succ _)⟩
  · rw [h1 _ (by have := hm2 (e + 1 + 1); omega) (by omega), show (e + 1 + 1) % 2 = e % 2 by omega, h.an] at hb
    injection hb with hb
    rw [← hb, takeA_anchor (by omega)]; omega
  · have hi := (List.getElem?_eq_some_iff.1 hx).1
    rw [hlen] at hi
    obtain ⟨y, hy⟩ : ∃ y, v.B[i]? = some y := ⟨_, List.getElem?_eq_getElem (by omega)⟩
    have hxy := ht.at_ hy
    rw [hx] at hxy
    injection hxy with hxy
    rw [h2 i y hy, hxy]
    cases hlg : y.lg
    · have hu := ht.fl i y hy hlg
      rw [applyW_unt _ _ _ hu] at hx
      have h5 := h.hm i x hx hu
      rw [hxy] at h5
      exact h5
    · rfl
  · obtain ⟨h3, h4⟩ := log_at hb
    exact hod 0 h3 b h4
theorem Fz.of_idle0 {m : DM} {r n g e : Nat} {S : List Bk} {D : List Bk → Prop} {E : Nat} (h : Idle m r n g e S [] 0 [] 0) (hD : D S) (hE : e ≤ E) : Fz m r n g D E :=
  h.fz (fun k' _ _ => by rw [List.take_nil]; exact hD) hE
/-- A going home, from what is sure: whatever a crash leaves of it is the same. -/
theorem Mtb.home_fz {m : DM} {r n g e : Nat} {S0 : List Bk} {Rs : List (List Wr)} {v : VM} {D : List Bk → Prop} {E : Nat} (h : Mtb m r n g e S0 Rs) (hs : AllSure m r) (ht : Tied v r n g e S0 Rs) (he : e + 1 < 65000) (hD : D (applyW S0 Rs.flatten)) (hE : e + 1 ≤ E) : Fz (homeM m v) r n g D E := by
  cases hst : stopped (homeM m v)
  · exact Fz.of_idle0 (h.home ht he hst).1 hD hE
  have hm2 : ∀ x : Nat, x % 2 < 2 := fun x => Nat.mod_lt _ (by omega)
  have hBl : v.B.length = n := ht.vok.len.trans ht.vn
  unfold homeM at hst ⊢
  rw [ht.vr, ht.vg, ht.ve] at hst ⊢
  obtain ⟨f1, p1⟩ := home_poss (g := g) v.B 0 m h.fit (by omega) ht.vok.ok
  have q1 : ∀ j c, Poss (homeW r g m 0 v.B) r j c → (nowRow m r)[j]? = some c ∨ ∃ (i : Nat) (x : HB), v.B[i]? = some x ∧ x.lg = true ∧ j = 2 + g + i ∧ c = sealB 0 x.k i x.bs := fun j c hp => by
    rcases p1 j c hp with h1 | ⟨i, x, a1, a2, a3, a4⟩
    · exact Or.inl (hs j c h1)
    · rw [Nat.zero_add] at a3 a4
      exact Or.inr ⟨i, x, a1, a2, a3, a4⟩
  have near : ∀ m', Fit m' r (2 + g + n) → (∀ j b, (nowRow m' r)[j]? = some b → (nowRow m r)[j]? = some b ∨ ∃ (i : Nat) (x : HB), v.B[i]? = some x ∧ x.lg = true ∧ j = 2 + g + i ∧ b = sealB 0 x.k i x.bs) → Mtb m' r n g e S0 Rs := fun m' hf hp => by
    refine h.near ht hf (fun j hj => ?_) (fun i b hi hb => ?_)
    · obtain ⟨b, hb⟩ := hf.get (i := j) (by omega)
      rcases hp j b hb with h1 | ⟨i, x, _, _, a3, _⟩
      · rw [hb, h1]
      · omega
    · rcases hp _ b hb with h1 | ⟨i', x, a1, _, a3, a4⟩
      · exact Or.inl h1
      · obtain rfl : i' = i := by omega
        exact Or.inr ⟨x, a1, a4⟩
  cases hs1 : stopped (homeW r g m 0 v.B)
  · obtain ⟨_, h2, h3⟩ := home_now (g := g) v.B 0 m h.fit (by omega) ht.vok.ok hs1
    obtain ⟨b1, b2, b3, b4, _⟩ := f1.barrier hs1
    obtain ⟨w1, w2, w3, _⟩ := b1.write b4 (i := (e + 1) % 2) (by have := hm2 (e + 1); omega) ⟨anchorB_length 0 (e + 1), anchorB_allB (e + 1) (by omega)⟩
    have hst' : stopped ((((homeW r g m 0 v.B).doBarrier r).doWrite r (((e + 1) % 2 : Nat) : Int) (anchorB 0 (e + 1))).doBarrier r) = true := hst
    show Fz ((((homeW r g m 0 v.B).doBarrier r).doWrite r (((e + 1) % 2 : Nat) : Int) (anchorB 0 (e + 1))).doBarrier r) r n g D E
    have hs2 : stopped (((homeW r g m 0 v.B).doBarrier r).doWrite r (((e + 1) % 2 : Nat) : Int) (anchorB 0 (e + 1))) = true := by
      cases hs2 : stopped (((homeW r g m 0 v.B).doBarrier r).doWrite r (((e + 1) % 2 : Nat) : Int) (anchorB 0 (e + 1)))
      · rw [(w1.barrier hs2).2.2.2.1] at hst'; cases hst'
      · rfl
    rw [stop_barrier hs2]
    refine ⟨w1, fun m' hf hp => ?_⟩
    have hq : ∀ j b, (nowRow m' r)[j]? = some b → (nowRow (homeW r g m 0 v.B) r)[j]? = some b ∨ (j = (e + 1) % 2 ∧ b = anchorB 0 (e + 1)) := fun j b hb => (w2 j b (hp j b hb)).imp (fun h => b2 j b h) id
    obtain ⟨c, hc⟩ := hf.get (i := (e + 1) % 2) (by have := hm2 (e + 1); omega)
    have hlow : ∀ j, j < 2 + g → (nowRow (homeW r g m 0 v.B) r)[j]? = (nowRow m r)[j]? := fun j hj => h2 j (Or.inl (by omega))
    rcases hq _ c hc with h4 | ⟨_, h4⟩
    · refine ⟨e, S0, Rs, near m' hf (fun j b hb => ?_), hD, by omega⟩
      have h5 : (nowRow (homeW r g m 0 v.B) r)[j]? = some b := by
        rcases hq j b hb with h5 | ⟨h5, h6⟩
        · exact h5
        · subst h5; rw [hc] at hb; injection hb with hb; rw [← hb]; exact h4
      exact q1 j b (now_poss f1 h5)
    · refine ⟨e + 1, _, [], h.next ht he hf (by rw [hc, h4]) (fun j hj hne => ?_) (fun i x hx => ?_), hD, hE⟩
      · obtain ⟨b, hb⟩ := hf.get (i := j) (by omega)
        rcases hq j b hb with h5 | ⟨h5, _⟩
        · rw [hb, ← h5, hlow j hj]
        · exact absurd h5 hne
      · have hi := (List.getElem?_eq_some_iff.1 hx).1
        obtain ⟨b, hb⟩ := hf.get (i := 2 + g + i) (by omega)
        rcases hq _ b hb with h5 | ⟨h5, _⟩
        · have h6 := h3 i x hx
          rw [Nat.zero_add] at h6
          rw [hb, ← h5, h6]
        · have := hm2 (e + 1); omega
  · rw [begin_stop hs1]
    refine ⟨f1, fun m' hf hp => ⟨e, S0, Rs, near m' hf (fun j b hb => q1 j b (hp j b hb)), hD, by omega⟩⟩
section
variable {m : DM} {v : VM} {r n g e : Nat} {S0 : List Bk} {Rs : List (List Wr)} {k : Nat}
theorem Live.tidy_fz {D : List Bk → Prop} {E : Nat} (h : Live m v r n g e S0 Rs k) (hs : stopped m = false) (he : e + 1 < 65000) (hD : D (applyW S0 Rs.flatten)) (hE : e + 1 ≤ E) : Fz (tidyM m v) r n g D E := by
  have h1 := h.sync hs
  unfold tidyM
  rw [h.tied.vr]
  exact h1.1.idle.mtb_now.home_fz h1.2 h.tied he hD hE
theorem Live.put_go2 {D : List Bk → Prop} {E : Nat} (h : Live m v r n g e S0 Rs k) (hs : stopped m = false) {l : List Wr} (hl : MayL l ∧ WrsOk l) (hfit : v.us + (1 + l.length) ≤ g) (hD : ∀ k', k ≤ k' → k' ≤ Rs.length → D (applyW S0 (Rs.take k').flatten)) (hD2 : D (applyW S0 (Rs ++ [l]).flatten)) (hE : e ≤ E) : stopped (putM m v l) = true → Fz (putM m v l) r n g D E := by
  intro hst
  have h1 := put_go (F := fun m => Fz m r n g D E) hl (by rw [← h.us]; exact hfit) (fun m j hi => hi.fz hD hE) (fun m hi => hi.fz (fun k' h1 h2 => by
    rw [List.length_append, List.length_singleton] at h2
    by_cases h3 : k' ≤ Rs.length
    · rw [List.take_append_of_le_length h3]; exact hD k' h1 h3
    · rw [List.take_of_length_le (by rw [List.length_append, List.length_singleton]; omega)]; exact hD2) hE) l.length m 0 (by omega) (show Go2 m (fun m => Idle m r n g e S0 Rs k l 0) _ from Or.inl ⟨hs, h.idle.relabel l⟩)
  have e1 : logW (r : Int) m ((putsL e 0 Rs).length + 0) ((putL 0 e Rs.length l).drop 0) = putM m v l := by
    unfold putM
    rw [h.tied.vr, h.us, h.tied.ve, h.sq]; rfl
  rw [e1] at h1
  rcases h1 with ⟨h2, _⟩ | ⟨_, h2⟩
  · rw [hst] at h2; cases h2
  · exact h2
end
/-- What a vol in memory is, whatever its device does. -/
structure VOk (v : VM) (r n g : Nat) : Prop where
  ok : v.Ok
  vr : v.r = (r : Int)
  vn : v.n = n
  vg : v.g = g
  us : v.us ≤ g
  sq : v.sq ≤ v.us
theorem VOk.home {v : VM} {r n g : Nat} (h : VOk v r n g) (he : v.ep + 1 < 4294967296) : VOk (homeV v) r n g := ⟨homeV_ok h.ok he, h.vr, h.vn, h.vg, Nat.zero_le _, Nat.le_refl _⟩
theorem VOk.put {v : VM} {r n g : Nat} (h : VOk v r n g) (hg : g ≤ 1000) {l : List Wr} (hl : MayL l ∧ WrsOk l) (hfit : v.us + (1 + l.length) ≤ g) : VOk (putV v l) r n g :=
  ⟨{ h.ok with len := (by show (layB v.B l).length = v.n; rw [layB_length]; exact h.ok.len), ok := layB_ok hl.2 hl.1.kinds h.ok.ok, sq := (by show v.sq + 1 < _; have := h.sq; have := h.us; omega), us := (by show v.us + (1 + l.length) ≤ 2000; omega) }, h.vr, h.vn, h.vg, hfit, by show v.sq + 1 ≤ v.us + (1 + l.length); have := h.sq; omega⟩
theorem VOk.ch {v : VM} {r n g : Nat} (h : VOk v r n g) (hg : g ≤ 1000) (h13 : 13 ≤ g) (he : v.ep + 1 < 65000) {l : List Wr} (hok : WrsOk l) : VOk (chV v l) r n g := by
  unfold chV
  split
  · rename_i hc
    have hl := chOk_pos hc
    split
    · exact (h.home (by omega)).put hg ⟨hc.1, hok⟩ (by show 0 + (1 + l.length) ≤ g; omega)
    · rename_i ht
      unfold Tight at ht
      rw [h.vg] at ht
      have := h.us
      exact h.put hg ⟨hc.1, hok⟩ (by omega)
  · exact h
theorem Live.vok {m : DM} {v : VM} {r n g e : Nat} {S0 : List Bk} {Rs : List (List Wr)} {k : Nat} (h : Live m v r n g e S0 Rs k) : VOk v r n g := by
  refine ⟨h.tied.vok, h.tied.vr, h.tied.vn, h.tied.vg, by have := h.usg; rw [h.tied.vg] at this; exact this, ?_⟩
  have h1 := putsL_few e Rs 0
  rw [h.us, h.sq]; exact h1
def Among (L : List (List Bk)) (sure : Nat) (s : List Bk) : Prop := ∃ i, sure ≤ i ∧ L[i]? = some s
theorem Among.app {L : List (List Bk)} {sure : Nat} {s : List Bk} (h : Among L sure s) (x : List Bk) : Among (L ++ [x]) sure s := by
  obtain ⟨i, h1, h2⟩ := h
  exact ⟨i, h1, by rw [List.getElem?_append_left (List.getElem?_eq_some_iff.1 h2).1]; exact h2⟩
theorem Among.last {L : List (List Bk)} {sure : Nat} (h : sure ≤ L.length) (x : List Bk) : Among (L ++ [x]) sure x := ⟨L.length, h, by simp⟩
/-- A run with a stop: it goes on, or has stopped; in L is what there was behind each change. -/
structure Run (m : DM) (v : VM) (r n g E : Nat) (L : List (List Bk)) (sure : Nat) : Prop where
  vok : VOk v r n g
  su : sure < L.length
  fz : Fz m r n g (Among L sure) E
  go : stopped m = false → ∃ S0 Rs k, Live m v r n g v.ep S0 Rs k ∧ L[L.length - 1]? = some (stV v) ∧ ∀ k', k ≤ k' → k' ≤ Rs.length → Among L sure (applyW S0 (Rs.take k').flatten)
theorem Fz.fit {m : DM} {r n g E : Nat} {D : List Bk → Prop} (h : Fz m r n g D E) : Fit m r (2 + g + n) := h.1
theorem Run.no {m : DM} {v : VM} {r n g E : Nat} {L : List (List Bk)} {sure : Nat} (h : Run m v r n g E L sure) {l : List Wr} (hc : ¬ ChOk v l) : Run (chM m v l) (chV v l) r n g E L sure := by
  rw [show chM m v l = m from if_neg hc, show chV v l = v from if_neg hc]; exact h
theorem chM_stop {m : DM} (hs : stopped m = true) (v : VM) (l : List Wr) : chM m v l = m := by
  unfold chM putM
  split
  · split
    · rw [tidy_stop hs, logW_stop hs]
    · rw [logW_stop hs]
  · rfl
theorem Run.stay {m : DM} {v : VM} {r n g E : Nat} {L : List (List Bk)} {sure : Nat} (h : Run m v r n g E L sure) (hs : stopped m = true) (hg : g ≤ 1000) (h13 : 13 ≤ g) (he : v.ep + 1 < 65000) {l : List Wr} (hok : WrsOk l) : Run (chM m v l) (chV v l) r n g E L sure := by
  rw [chM_stop hs]
  exact ⟨h.vok.ch hg h13 he hok, h.su, h.fz, fun h1 => by rw [hs] at h1; cases h1⟩
theorem Run.change {m : DM} {v : VM} {r n g E : Nat} {L : List (List Bk)} {sure : Nat} (h : Run m v r n g E L sure) (hs : stopped m = false) (hg : g ≤ 1000) (h13 : 13 ≤ g) (he : v.ep + 1 < 65000) (hE : v.ep + 1 ≤ E) {l : List Wr} (hok : WrsOk l) (hc : ChOk v l) : Run (chM m v l) (chV v l) r n g E (L ++ [applyW (stV v) l]) sure := by
  obtain ⟨S0, Rs, k, hl, hlast, hD⟩ := h.go hs
  have hsu := h.su
  have hpos := chOk_pos hc
  have hvok := h.vok.ch hg h13 he hok
  have hst := hl.st
  have hcur : Among L sure (applyW S0 Rs.flatten) := by
    have := hD Rs.length hl.idle.kle (Nat.le_refl _)
    rw [List.take_length] at this; exact this
  have hnew : stV (chV v l) = applyW (stV v) l := stV_ch hc
  have hlast' : (L ++ [applyW (stV v) l])[(L ++ [applyW (stV v) l]).length - 1]? = some (stV (chV v l)) := by rw [hnew]; simp
  have e2 := chV_ep v l
  by_cases ht : Tight v l
  · have e1 : chM m v l = putM (tidyM m v) (homeV v) l := by unfold chM; rw [if_pos hc, if_pos ht]
    have e3 : chV v l = putV (homeV v) l := by unfold chV; rw [if_pos hc, if_pos ht]
    rw [if_pos ⟨hc, ht⟩] at e2
    cases hs1 : stopped (tidyM m v)
    · have h1 := (hl.tidy he hs1).1
      have hD1 : ∀ k', 0 ≤ k' → k' ≤ ([] : List (List Wr)).length → Among (L ++ [applyW (stV v) l]) sure (applyW (applyW S0 Rs.flatten) (([] : List (List Wr)).take k').flatten) := fun k' _ _ => by rw [List.take_nil]; exact hcur.app _
      have hD2 : Among (L ++ [applyW (stV v) l]) sure (applyW (applyW S0 Rs.flatten) (([] : List (List Wr)) ++ [l]).flatten) := by
        rw [show (([] : List (List Wr)) ++ [l]).flatten = l by simp, ← hst]; exact Among.last (by omega) _
      cases hs2 : stopped (putM (tidyM m v) (homeV v) l)
      · have h2 := h1.put ⟨hc.1, hok⟩ (by show 0 + (1 + l.length) ≤ g; omega) (by show 0 + 1 < 4294967296; omega) hs2
        have hD3 : ∀ k', 0 ≤ k' → k' ≤ ([] ++ [l] : List (List Wr)).length → Among (L ++ [applyW (stV v) l]) sure (applyW (applyW S0 Rs.flatten) (([] ++ [l] : List (List Wr)).take k').flatten) := fun k' _ h3 => by
          cases k' with
          | zero => exact hD1 0 (Nat.le_refl _) (Nat.le_refl _)
          | succ k' => rw [List.take_of_length_le (by simp)]; exact hD2
        refine ⟨hvok, by simp; omega, ?_, fun _ => ?_⟩
        · rw [e1]; exact h2.idle.fz hD3 hE
        · refine ⟨applyW S0 Rs.flatten, [] ++ [l], 0, ?_, hlast', hD3⟩
          rw [e1, e2, e3]; exact h2
      · refine ⟨hvok, by simp; omega, ?_, fun h3 => by rw [e1, hs2] at h3; cases h3⟩
        rw [e1]; exact h1.put_go2 hs1 ⟨hc.1, hok⟩ (by show 0 + (1 + l.length) ≤ g; omega) hD1 hD2 hE hs2
    · have h1 : Fz (tidyM m v) r n g (Among (L ++ [applyW (stV v) l]) sure) E := hl.tidy_fz hs he (hcur.app _) hE
      refine ⟨hvok, by simp; omega, ?_, fun h3 => ?_⟩
      · rw [e1]; unfold putM; rw [logW_stop hs1]; exact h1
      · rw [e1] at h3; unfold putM at h3; rw [logW_stop hs1, hs1] at h3; cases h3
  · have e1 : chM m v l = putM m v l := by unfold chM; rw [if_pos hc, if_neg ht]
    have e3 : chV v l = putV v l := by unfold chV; rw [if_pos hc, if_neg ht]
    rw [if_neg (fun h => ht h.2)] at e2
    have hfit : v.us + (1 + l.length) ≤ g := by
      unfold Tight at ht
      rw [hl.tied.vg] at ht
      have := h.vok.us
      omega
    have hsq : v.sq + 1 < 4294967296 := by have := h.vok.sq; have := h.vok.us; omega
    have hD1 : ∀ k', k ≤ k' → k' ≤ Rs.length → Among (L ++ [applyW (stV v) l]) sure (applyW S0 (Rs.take k').flatten) := fun k' h1 h2 => (hD k' h1 h2).app _
    have hD2 : Among (L ++ [applyW (stV v) l]) sure (applyW S0 (Rs ++ [l]).flatten) := by
      rw [show (Rs ++ [l]).flatten = Rs.flatten ++ l by simp, applyW_append, ← hst]; exact Among.last (by omega) _
    cases hs2 : stopped (putM m v l)
    · have h2 := hl.put ⟨hc.1, hok⟩ hfit hsq hs2
      have hD3 : ∀ k', k ≤ k' → k' ≤ (Rs ++ [l]).length → Among (L ++ [applyW (stV v) l]) sure (applyW S0 ((Rs ++ [l]).take k').flatten) := fun k' h1 h3 => by
        by_cases h4 : k' ≤ Rs.length
        · rw [List.take_append_of_le_length h4]; exact hD1 k' h1 h4
        · rw [List.take_of_length_le (by simp; omega)]; exact hD2
      refine ⟨hvok, by simp; omega, ?_, fun _ => ?_⟩
      · rw [e1]; exact h2.idle.fz hD3 (by omega)
      · refine ⟨S0, Rs ++ [l], k, ?_, hlast', hD3⟩
        rw [e1, e2, e3]; exact h2
    · refine ⟨hvok, by simp; omega, ?_, fun h3 => by rw [e1, hs2] at h3; cases h3⟩
      rw [e1]; exact hl.put_go2 hs ⟨hc.1, hok⟩ hfit hD1 hD2 (by omega) hs2
theorem Run.tidy {m : DM} {v : VM} {r n g E : Nat} {L : List (List Bk)} {sure : Nat} (h : Run m v r n g E L sure) (he : v.ep + 1 < 65000) (hE : v.ep + 1 ≤ E) : Run (tidyM m v) (homeV v) r n g E L (if stopped (tidyM m v) then sure else L.length - 1) := by
  have hsu := h.su
  have hvok := h.vok.home (by omega)
  cases hs : stopped m
  · obtain ⟨S0, Rs, k, hl, hlast, hD⟩ := h.go hs
    have hst := hl.st
    rw [hst] at hlast
    have hcur : ∀ s, s ≤ L.length - 1 → Among L s (applyW S0 Rs.flatten) := fun s hs => ⟨_, hs, hlast⟩
    cases hs1 : stopped (tidyM m v)
    · have h1 := (hl.tidy he hs1).1
      refine ⟨hvok, by simp; omega, hl.tidy_fz hs he (hcur _ (by simp)) hE, fun _ => ⟨applyW S0 Rs.flatten, [], 0, h1, ?_, fun k' _ _ => by rw [List.take_nil]; exact hcur _ (by simp)⟩⟩
      rw [hlast, stV_home, hst]
    · exact ⟨hvok, hsu, hl.tidy_fz hs he (hcur _ (by simp; omega)) hE, fun h3 => by rw [hs1] at h3; cases h3⟩
  · rw [tidy_stop hs, hs]
    exact ⟨hvok, hsu, h.fz, fun h3 => by rw [hs] at h3; cases h3⟩
theorem Run.sync {m : DM} {v : VM} {r n g E : Nat} {L : List (List Bk)} {sure : Nat} (h : Run m v r n g E L sure) (hE : v.ep ≤ E) : Run (m.doBarrier r) v r n g E L (if stopped (m.doBarrier r) then sure else L.length - 1) := by
  have hsu := h.su
  cases hs : stopped m
  · obtain ⟨S0, Rs, k, hl, hlast, hD⟩ := h.go hs
    have hst := hl.st
    have h1 := (hl.sync hs).1
    have hs1 : stopped (m.doBarrier r) = false := (h.fz.fit.barrier hs).2.2.2.1
    rw [hs1]
    have hD1 : ∀ k', Rs.length ≤ k' → k' ≤ Rs.length → Among L (L.length - 1) (applyW S0 (Rs.take k').flatten) := fun k' h2 _ => by
      rw [List.take_of_length_le h2, ← hst]; exact ⟨_, Nat.le_refl _, hlast⟩
    exact ⟨h.vok, by simp; omega, h1.idle.fz hD1 hE, fun _ => ⟨S0, Rs, Rs.length, h1, hlast, hD1⟩⟩
  · rw [stop_barrier hs, hs]
    exact ⟨h.vok, hsu, h.fz, fun h3 => by rw [hs] at h3; cases h3⟩
/-- The first: stopped behind so many writes. -/
theorem Run.start {m : DM} {v : VM} {r n g E : Nat} {S0 : List Bk} (h : Live m v r n g v.ep S0 [] 0) (a : AllSure m r) (t : Nat) (ht : t ≤ 1000000) (hE : v.ep ≤ E) : Run (m.stop t) v r n g E [stV v] 0 := by
  have hst := h.st
  have hi : Idle (m.stop t) r n g v.ep S0 [] 0 [] 0 := { h.idle with fit := h.idle.fit.stop t ht }
  have hD : ∀ k', 0 ≤ k' → k' ≤ ([] : List (List Wr)).length → Among [stV v] 0 (applyW S0 (([] : List (List Wr)).take k').flatten) := fun k' _ _ => by
    rw [List.take_nil]; exact ⟨0, Nat.le_refl _, by rw [hst]; rfl⟩
  exact ⟨h.vok, by simp, hi.fz hD hE, fun _ => ⟨S0, [], 0, ⟨hi, h.tied, h.sq, h.us⟩, rfl, hD⟩⟩
/-- Behind the crash. -/
theorem Run.crash {m : DM} {v : VM} {r n g E : Nat} {L : List (List Bk)} {sure : Nat} (h : Run m v r n g E L sure) (ks : List (List Int)) : ∃ e S0 Rs, Mtb (m.crash ks) r n g e S0 Rs ∧ Among L sure (applyW S0 Rs.flatten) ∧ e ≤ E ∧ AllSure (m.crash ks) r := by
  obtain ⟨f, p1, p2⟩ := h.fz.fit.crash ks
  obtain ⟨e, S0, Rs, h1, h2, h3⟩ := h.fz.2 _ f p1
  exact ⟨e, S0, Rs, h1, h2, h3, p2⟩
theorem Mtb.stop {m : DM} {r n g e : Nat} {S0 : List Bk} {Rs : List (List Wr)} (h : Mtb m r n g e S0 Rs) (t : Nat) (ht : t ≤ 1000000) : Mtb (m.stop t) r n g e S0 Rs := { h with fit := h.fit.stop t ht }
theorem AllSure.stop {m : DM} {r : Nat} (h : AllSure m r) (t : Int) : AllSure (m.stop t) r := h
/-- Mounted with a stop, and crashed again. -/
theorem Mtb.again {m : DM} {r n g e : Nat} {S0 : List Bk} {Rs : List (List Wr)} (h : Mtb m r n g e S0 Rs) (hs : AllSure m r) (he : e + 1 < 65000) (fr : Int) (hr : r < 1000) (hg : g ≤ 1000) (ks : List (List Int)) : ∃ e' S1 R1, Mtb ((homeM m (mntV m r n g e fr Rs)).crash ks) r n g e' S1 R1 ∧ applyW S1 R1.flatten = applyW S0 Rs.flatten ∧ e' ≤ e + 1 := by
  have ht := h.tied fr hr hg
  have hf : Fz (homeM m (mntV m r n g e fr Rs)) r n g (fun s => s = applyW S0 Rs.flatten) (e + 1) := h.home_fz hs ht he rfl (Nat.le_refl _)
  obtain ⟨f, p1, p2⟩ := hf.1.crash ks
  exact hf.2 _ f p1
end Go.Proofs.Ytamnpblijdgdaaa

/- A table of rows of Blocks; a text for a Crash; a run with a stop beside its device. Contracts at it. -/
namespace Go.Proofs.Ytamnpblijdgdaaa
open Go.ChangeShapes Go.WideShapes Go.ChangeAt Go.RowKit
set_option linter.unusedVariables false
set_option maxRecDepth 100000
def bkE (x : Bk) : List Value := blkL x.k x.bs
theorem bksL_rowL : ∀ l : List Bk, bksL l = rowL bkE l
  | [] => rfl
  | x :: l => by show blkL x.k x.bs ++ bksL l = bkE x ++ rowL bkE l; rw [bksL_rowL l]; rfl
theorem BksOk.fits {l : List Bk} (h : BksOk l) : Fits bkE 57 l := fun x hx => blkL_len (h x hx).len
theorem bksL_len {l : List Bk} (h : BksOk l) : (bksL l).length = l.length * 57 := by rw [bksL_rowL, rowL_length h.fits]
theorem bksL_set {l : List Bk} (h : BksOk l) {i : Nat} {y : Bk} (hi : i < l.length) (hy : y.bs.length = 56) : splice (bksL l) (i * 57) (blkL y.k y.bs) = bksL (l.set i y) := by
  have hx : l[i]? = some l[i] := List.getElem?_eq_getElem hi
  have := rowL_splice (k := i) (y := y) (j := 0) (cs := bkE y) h.fits hx (by rw [show (bkE y).length = 57 from blkL_len hy]; omega) (by rw [splice_whole _ _ (by rw [show (bkE y).length = 57 from blkL_len hy]; exact h.fits _ (List.mem_of_getElem? hx))])
  rw [Nat.add_zero] at this
  rw [bksL_rowL, bksL_rowL]; exact this
/-- A row of Blocks whose block, if it has one, is of those named. -/
def RowK (W : World) (R : Nat → Prop) (v : Value) (l : List Bk) : Prop := RowAt W R 46 57 v l.length (bksL l)
theorem OwnK.rowK {W : World} {base : Nat} {v : Value} {l : List Bk} (h : OwnK W base v l) {R : Nat → Prop} (hR : ∀ k, base ≤ k → k < W.heap.size → R k) : RowK W R v l := by
  refine ⟨⟨h.1, ?_⟩, fun g hg => hR g (World.ownsRow.lt h g hg).1 (World.ownsRow.lt h g hg).2⟩
  rcases h.2 with h1 | ⟨g, cap, cur, rfl, hb, hr⟩
  · exact Or.inl h1
  · exact Or.inr ⟨g, cap, cur, rfl, Nat.zero_le _, hr⟩
theorem RowK.bksR {W : World} {R : Nat → Prop} {v : Value} {l : List Bk} (h : RowK W R v l) (hok : BksOk l) : ∃ A d, v = .slice A l.length d ∧ l.length ≤ d ∧ d ≤ 9223372036854775807 ∧ BksR W R A l := by
  obtain ⟨A, d, rfl, h1, h2⟩ := RowAt.val h
  refine ⟨A, d, rfl, h1, h2, fun i x hi => ?_⟩
  have hlt := (List.getElem?_eq_some_iff.1 hi).1
  obtain ⟨g, cap, he, hg, _, _, _, hc, _⟩ := RowAt.pos h (by omega)
  injection he with e1 _ _
  refine ⟨g, e1, fun j u hj => ?_, hg⟩
  have hj' := (List.getElem?_eq_some_iff.1 hj).1
  rw [blkL_len (hok x (List.mem_of_getElem? hi)).len] at hj'
  have : (i + 1) * 57 ≤ l.length * 57 := Nat.mul_le_mul_right _ hlt
  rw [hc _ (by omega)]
  exact bksL_at hok hi hj
/-- The states: a table of rows. -/
def Sts (W : World) (R : Nat → Prop) (v : Value) (L : List (List Bk)) : Prop := RowsAt W R (fun _ => R) 43 46 57 bksL v L
theorem Sts.same {W W' : World} {R : Nat → Prop} {v : Value} {L : List (List Bk)} (h : Sts W R v L) (hs : Same R W W') : Sts W' R v L := RowsAt.keep h fun k _ hr => hs.blk k (by rcases hr with hr | ⟨_, hr⟩ <;> exact hr)
theorem Sts.below {W W' : World} {R : Nat → Prop} {v : Value} {L : List (List Bk)} (h : Sts W R v L) (hb : Below W.heap.size W W') : Sts W' R v L := RowsAt.keep h fun k hk _ => hb.block k hk
theorem Sts.mono {W : World} {R R' : Nat → Prop} {v : Value} {L : List (List Bk)} (h : Sts W R v L) (hR : ∀ k, k < W.heap.size → R k → R' k) : Sts W R' v L := RowsAt.owner h hR (fun _ => hR)
theorem Sts.row {W : World} {R : Nat → Prop} {v : Value} {L : List (List Bk)} {i : Nat} {S : List Bk} (h : Sts W R v L) (hi : L[i]? = some S) : ∃ g cap u, v = .slice (some ⟨g, 0, none⟩) L.length cap ∧ W.cell? ⟨g, i, none⟩ = some u ∧ RowK W R u S := by
  obtain ⟨g, cap, u, h1, _, _, h2, _, h3⟩ := RowsAt.row h hi
  exact ⟨g, cap, u, h1, h2, h3⟩
/-- Blocks of another type stay where a table grows. -/
theorem kept_type {W w3 : World} {R : Nat → Prop} {sv : Value} {n : Nat} {vs : List Value} {E : TypeId} {o : Obj} (h1 : RowAt W R E 1 sv n vs) (hg : (W.alloc o).grownBy w3 sv.ownBlock) {x : Nat} {C : Array Value} {t : TypeId} {fr : Nat × Nat} (hx : W.heap[x]? = some (.cells C t fr)) (ht : E ≠ t) : w3.heap[x]? = some (.cells C t fr) := by
  have hl := room_lt hx
  rw [hg.block x (by simp; omega) (fun e => ?_), Below.heap_alloc W _ x hl]
  · exact hx
  · rcases h1.1.2 with ⟨h0, _⟩ | ⟨g, cap, cur, h0, _, q1, _⟩
    · rw [h0] at e; cases e
    · rw [h0] at e
      simp [Value.ownBlock] at e
      subst e
      rw [q1] at hx
      injection hx with hx; injection hx with _ hx
      exact absurd hx ht
theorem types_ne1 : (43 : TypeId) ≠ 46 := by decide
theorem types_ne2 : (43 : TypeId) ≠ 90 := by decide
theorem types_ne3 : (43 : TypeId) ≠ 95 := by decide
theorem types_ne4 : (43 : TypeId) ≠ 30 := by decide
theorem RowK.kept {W w3 : World} {R : Nat → Prop} {sv : Value} {n : Nat} {vs : List Value} {o : Obj} (h1 : RowAt W R 43 1 sv n vs) (hg : (W.alloc o).grownBy w3 sv.ownBlock) {v : Value} {l : List Bk} (h : RowK W R v l) : RowK w3 R v l := by
  refine ⟨⟨h.1.1, ?_⟩, h.2⟩
  rcases h.1.2 with h2 | ⟨g, cap, cur, rfl, hb, hr, h3⟩
  · exact Or.inl h2
  · exact Or.inr ⟨g, cap, cur, rfl, hb, kept_type h1 hg hr types_ne1, h3⟩
theorem Sts.push {W w3 : World} {R R' : Nat → Prop} {sv v' u : Value} {vs : List Value} {L : List (List Bk)} {S : List Bk} {o : Obj} (h1 : RowAt W R 43 1 sv L.length vs) (h2 : ∀ (i : Nat) (row : List Bk), L[i]? = some row → ∃ u, vs[i]? = some u ∧ RowK W R u row) (hu : RowK W R u S)
    (h3 : RowAt w3 (fun k => R k ∨ (W.alloc o).heap.size ≤ k) 43 1 v' (L.length + 1) (vs ++ [u])) (hg : (W.alloc o).grownBy w3 sv.ownBlock) (hR : ∀ k, R k → R' k) (hR2 : ∀ k, W.heap.size ≤ k → k < w3.heap.size → R' k) : Sts w3 R' v' (L ++ [S]) := by
  refine rowsAt_snoc (h3.owner fun k hk ho => ?_) (fun i row hi => ?_) ?_ (by have := h1.len; omega)
  · rcases ho with ho | ho
    · exact hR k ho
    · exact hR2 k (by simp at ho; omega) hk
  · obtain ⟨u', h4, h5⟩ := h2 i row hi
    exact ⟨u', h4, (RowK.kept h1 hg h5).owner fun k _ ho => hR k ho⟩
  · exact (RowK.kept h1 hg hu).owner fun k _ ho => hR k ho
theorem Dev.lt {W : World} {F : Nat → Prop} {q : Nat} {m : DM} (h : Dev W F q m) : ∀ k, F k → k < W.heap.size := by obtain ⟨O, L, _, _, h⟩ := h; exact h
theorem DS.grown {w0 W w3 : World} {P G : Nat → Prop} {q : Nat} {m : DM} (h : DS w0 W P q m) (ht : Touch G W w3) (hG : ∀ k, G k → P k ∧ w0.heap.size ≤ k) : DS w0 w3 (fun k => P k ∨ (W.heap.size ≤ k ∧ k < w3.heap.size)) q m := by
  obtain ⟨F, h1, h2, h3⟩ := h.dev
  have hlt := h1.lt
  refine ⟨⟨F, h1.touch ht (fun k hk hg => h3 k (hG k hg).1 hk), h2, fun k hk hf => ?_⟩, fun k hk => ?_, h.bel.trans (ht.below h.bel.size fun k hk => (hG k hk).2)⟩
  · rcases hk with hk | hk
    · exact h3 k hk hf
    · have := hlt k hf; omega
  · rcases hk with hk | hk
    · exact Nat.lt_of_lt_of_le (h.low k hk) ht.size
    · exact hk.2
/-- Beside a table that grows. -/
theorem SV.push {w0 W w3 : World} {P R : Nat → Prop} {q : Nat} {m : DM} {hp rb : Nat} {v : VM} (h : SV w0 W P q m hp rb v) {sv : Value} {n : Nat} {vs : List Value} {o : Obj} (h1 : RowAt W R 43 1 sv n vs) (hg : (W.alloc o).grownBy w3 sv.ownBlock) (hR : ∀ k, R k → P k ∧ w0.heap.size ≤ k) : SV w0 w3 (fun k => P k ∨ (W.heap.size ≤ k ∧ k < w3.heap.size)) q m hp rb v := by
  have ht : Touch (fun k => some k = sv.ownBlock) W w3 := ((Touch.refl _ W).alloc o).trans (Touch.of_grown hg)
  exact { h with ds := h.ds.grown ht (fun k hk => hR k (h1.2 k hk.symm)), at_ := h.at_.keep ((kept_type h1 hg h.at_.hd types_ne2).trans h.at_.hd.symm) ((kept_type h1 hg h.at_.row types_ne3).trans h.at_.row.symm), ph := Or.inl h.ph, pr := Or.inl h.pr }
/-- A text as the one of a Crash. -/
theorem txt1 {w W : World} {K : Option Addr} {ks : List Int} {c g : Nat} {t : TypeId} {F : Nat → Prop} (hb : Below w.heap.size w W) (hy : Byt w K ks) (hk : AllB ks) (h1 : ks.length ≤ c) (h2 : c ≤ 9223372036854775807) (hF : ∀ k, F k → w.heap.size ≤ k) (hg : W.heap[g]? = some (.cells #[.slice K ks.length c] t (0, 0))) (hn : ¬ F g) : TxtsF W F (some ⟨g, 0, none⟩) [ks] := fun i bs hi => by
  have hlt := (List.getElem?_eq_some_iff.1 hi).1
  rw [List.length_singleton] at hlt
  obtain rfl : i = 0 := by omega
  injection hi with hi
  subst hi
  refine ⟨_, K, c, rfl, fun W' ht => ⟨?_, fun j x hj => ?_⟩, hk, h1, h2⟩
  · rw [Addr.add_mid, blk_cell ((ht.block _ (room_lt hg) hn).trans hg)]; rfl
  · obtain ⟨a, e, hc⟩ := hy j x hj
    refine ⟨a, e, ?_⟩
    have hl := World.block_lt_of_cell? w _ hc
    have h3 : W.heap[(a.add j).block]? = w.heap[(a.add j).block]? := hb.block _ hl
    have h4 : W'.heap[(a.add j).block]? = W.heap[(a.add j).block]? := ht.block _ (Nat.lt_of_lt_of_le hl hb.size) (fun hf => by have := hF _ hf; omega)
    rw [World.cell?_of_block (h4.trans h3)]; exact hc
/-- A run with a stop, beside its device; the states behind a table (T), those that there have been (L). -/
structure CrI (w wr : World) (P : Nat → Prop) (q hp rb gs n G k : Nat) (m : DM) (v : VM) (sv : Value) (T L : List (List Bk)) (sure : Nat) : Prop where
  sv_ : SV w wr P q m hp rb v
  run : Run m v 0 n G 60 L sure
  ep : v.ep ≤ 2 + k
  dn : m.done.length ≤ 80 + 60 * k
  sh : wr.heap[gs]? = some (.cells (shC n G 3) 30 (0, 0))
  pgs : Rst P hp rb gs
  old : ∀ k, k < w.heap.size → Rst P hp rb k
  st : Sts wr (fun k => Rst P hp rb k ∧ w.heap.size ≤ k) sv T
section
variable {w wr wr' : World} {P : Nat → Prop} {q hp rb gs n G k : Nat} {m : DM} {v : VM} {sv : Value} {T L : List (List Bk)} {sure : Nat}
theorem CrI.below (h : CrI w wr P q hp rb gs n G k m v sv T L sure) (hb : Below wr.heap.size wr wr') : CrI w wr' P q hp rb gs n G k m v sv T L sure := ⟨h.sv_.below hb, h.run, h.ep, h.dn, kb hb h.sh, h.pgs, h.old, h.st.below hb⟩
theorem CrI.stopped (h : CrI w wr P q hp rb gs n G k m v sv T L sure) : Calls Try.prog 19 #[.pointer (some ⟨q, 0, none⟩)] wr fun e w' => e = .returned (.bool (Proofs.Ytamnpblijdgdaaa.stopped m)) ∧ wr = w' := h.sv_.ds.stopped
theorem CrI.vr (h : CrI w wr P q hp rb gs n G k m v sv T L sure) : v.r = ((0 : Nat) : Int) := h.run.vok.vr
theorem CrI.sync (h : CrI w wr P q hp rb gs n G k m v sv T L sure) (hk : k ≤ 40) :
    Calls Try.prog 20 #[.pointer (some ⟨hp, 0, none⟩)] wr fun e w' => e = .returned (.tuple #[]) ∧ CrI w w' P q hp rb gs n G (k + 1) (m.doBarrier ((0 : Nat) : Int)) v sv T L (if Proofs.Ytamnpblijdgdaaa.stopped (m.doBarrier ((0 : Nat) : Int)) then sure else L.length - 1) := by
  have hdn := h.dn
  have hep := h.ep
  have h2 := done_doBarrier m ((0 : Nat) : Int)
  have hr := h.run.sync (by omega)
  refine (vsync_any h.sv_ (by omega)).mono ?_
  rintro e w' ⟨he, hsv, hm⟩
  rw [h.vr] at hsv
  exact ⟨he, ⟨hsv, hr, by omega, by omega, (hm.blk gs h.pgs.1).trans h.sh, h.pgs, h.old, h.st.same (hm.mono fun k hk => hk.1.1)⟩⟩
theorem CrI.tidy (h : CrI w wr P q hp rb gs n G k m v sv T L sure) (hk : k ≤ 40) (hn : n ≤ 40) :
    Calls Try.prog 21 #[.pointer (some ⟨hp, 0, none⟩)] wr fun e w' => e = .returned (.tuple #[]) ∧ CrI w w' P q hp rb gs n G (k + 1) (tidyM m v) (homeV v) sv T L (if Proofs.Ytamnpblijdgdaaa.stopped (tidyM m v) then sure else L.length - 1) := by
  have hdn := h.dn
  have hep := h.ep
  have h2 := tidyM_done m v
  have h3 : v.B.length = n := by rw [h.run.vok.ok.len, h.run.vok.vn]
  have hr := h.run.tidy (by omega) (by omega)
  refine (vtidy_any h.sv_ (by omega) (by omega)).mono ?_
  rintro e w' ⟨he, hsv, hm⟩
  exact ⟨he, ⟨hsv, hr, by show v.ep + 1 ≤ _; omega, by omega, (hm.blk gs h.pgs).trans h.sh, h.pgs, h.old, h.st.same (hm.mono fun k hk => hk.1)⟩⟩
theorem CrI.change (h : CrI w wr P q hp rb gs n G k m v sv L L sure) (hk : k ≤ 40) (hn : n ≤ 40) (hG : 13 ≤ G) (hG2 : G ≤ 1000) (A : Option Addr) (l : List Wr) (c d : Nat) (hl : l.length = c) (hc : c ≤ d) (hd : d ≤ 9223372036854775807) (hok : WrsOk l) (hy : WrsR wr (Rst P hp rb) A l) :
    Calls Try.prog 22 #[.pointer (some ⟨hp, 0, none⟩), .slice A c d] wr fun e w' => e = .returned (.int .i64 (if ChOk v l then 0 else 1)) ∧ CrI w w' P q hp rb gs n G (k + 1) (chM m v l) (chV v l) sv L (if ChOk v l ∧ Proofs.Ytamnpblijdgdaaa.stopped m = false then L ++ [applyW (stV v) l] else L) sure := by
  have hdn := h.dn
  have hep := h.ep
  have hv := h.run.vok
  have h2 := chM_done m v l
  have h3 : v.B.length = n := by rw [hv.ok.len, hv.vn]
  have hus := hv.us
  have hsq := hv.sq
  have hvg := hv.vg
  have hr : Run (chM m v l) (chV v l) 0 n G 60 (if ChOk v l ∧ Proofs.Ytamnpblijdgdaaa.stopped m = false then L ++ [applyW (stV v) l] else L) sure := by
    by_cases hc : ChOk v l
    · cases hs : Proofs.Ytamnpblijdgdaaa.stopped m
      · rw [if_pos ⟨hc, rfl⟩]; exact h.run.change hs hG2 hG (by omega) (by omega) hok hc
      · rw [if_neg (fun h => by cases h.2)]; exact h.run.stay hs hG2 hG (by omega) hok
    · rw [if_neg (fun h => hc h.1)]; exact h.run.no hc
  have he2 := chV_ep v l
  refine (vchange_any h.sv_ A l c d hl hc hd hok hy (by omega) (by omega) (by omega) (by omega) (by omega)).mono ?_
  rintro e w' ⟨he, hsv, hm⟩
  exact ⟨he, ⟨hsv, hr, by rw [he2]; split <;> omega, by omega, (hm.blk gs h.pgs).trans h.sh, h.pgs, h.old, h.st.same (hm.mono fun k hk => hk.1)⟩⟩
/-- The states' table has one more. -/
theorem CrI.push {S : List Bk} (h : CrI w wr P q hp rb gs n G k m v sv T (T ++ [S]) sure) {vs : List Value} {u sv' : Value} {o : Obj} {w3 : World} (h1 : RowAt wr (fun k => Rst P hp rb k ∧ w.heap.size ≤ k) 43 1 sv T.length vs) (h2 : ∀ (i : Nat) (row : List Bk), T[i]? = some row → ∃ u, vs[i]? = some u ∧ RowK wr (fun k => Rst P hp rb k ∧ w.heap.size ≤ k) u row) (hu : RowK wr (fun k => Rst P hp rb k ∧ w.heap.size ≤ k) u S)
    (h3 : RowAt w3 (fun k => (Rst P hp rb k ∧ w.heap.size ≤ k) ∨ (wr.alloc o).heap.size ≤ k) 43 1 sv' (T.length + 1) (vs ++ [u])) (hg : (wr.alloc o).grownBy w3 sv.ownBlock) : CrI w w3 (fun k => P k ∨ (wr.heap.size ≤ k ∧ k < w3.heap.size)) q hp rb gs n G k m v sv' (T ++ [S]) (T ++ [S]) sure := by
  have hlp := h.sv_.ds.low hp h.sv_.ph
  have hlr := h.sv_.ds.low rb h.sv_.pr
  have hbs := h.sv_.ds.bel.size
  refine ⟨h.sv_.push h1 hg (fun k hk => ⟨hk.1.1, hk.2⟩), h.run, h.ep, h.dn, kept_type h1 hg h.sh types_ne4, ⟨Or.inl h.pgs.1, h.pgs.2⟩, fun k hk => ⟨Or.inl (h.old k hk).1, (h.old k hk).2⟩, Sts.push h1 h2 hu h3 hg (fun k hk => ⟨⟨Or.inl hk.1.1, hk.1.2⟩, hk.2⟩) (fun k hk1 hk2 => ⟨⟨Or.inr ⟨hk1, hk2⟩, by omega, by omega⟩, by omega⟩)⟩
/-- What is new may be kept, too. -/
theorem CrI.grow (h : CrI w wr P q hp rb gs n G k m v sv T L sure) (hb : Below wr.heap.size wr wr') {Q : Nat → Prop} (hQ : ∀ k, Q k → wr.heap.size ≤ k ∧ k < wr'.heap.size) : CrI w wr' (fun k => P k ∨ Q k) q hp rb gs n G k m v sv T L sure :=
  ⟨h.sv_.grow hb hQ, h.run, h.ep, h.dn, kb hb h.sh, ⟨Or.inl h.pgs.1, h.pgs.2⟩, fun k hk => ⟨Or.inl (h.old k hk).1, (h.old k hk).2⟩, (h.st.below hb).mono fun k _ hk => ⟨⟨Or.inl hk.1.1, hk.1.2⟩, hk.2⟩⟩
end
end Go.Proofs.Ytamnpblijdgdaaa

/- A region behind a run with a stop: crashed, stopped again, mounted, crashed, mounted. Contracts. -/
namespace Go.Proofs.Ytamnpblijdgdaaa
open Go.ChangeShapes Go.WideShapes Go.ChangeAt Go.RowKit
set_option linter.unusedVariables false
set_option maxRecDepth 100000
/-- Whatever a crash leaves of it may be mounted, as one of D. -/
structure FzI (w wr : World) (P : Nat → Prop) (q gs n G K : Nat) (D : List Bk → Prop) (m : DM) : Prop where
  ds : DS w wr P q m
  fz : Fz m 0 n G D (2 + K)
  dn : m.done.length ≤ 80 + 60 * K
  sh : wr.heap[gs]? = some (.cells (shC n G 3) 30 (0, 0))
  pgs : P gs
/-- All is sure, and it may be mounted. -/
structure MsI (w wr : World) (P : Nat → Prop) (q gs n G K : Nat) (S : List Bk) (m : DM) : Prop where
  ds : DS w wr P q m
  mt : ∃ e S0 Rs, Mtb m 0 n G e S0 Rs ∧ applyW S0 Rs.flatten = S ∧ e ≤ 2 + K
  al : AllSure m 0
  dn : m.done.length ≤ 80 + 60 * K
  sh : wr.heap[gs]? = some (.cells (shC n G 3) 30 (0, 0))
  pgs : P gs
section
variable {w wr wr' : World} {P : Nat → Prop} {q gs n G K : Nat} {D : List Bk → Prop} {S : List Bk} {m : DM}
theorem CrI.fzI {hp rb k : Nat} {v : VM} {sv : Value} {T L : List (List Bk)} {sure : Nat} (h : CrI w wr P q hp rb gs n G k m v sv T L sure) (hk : k ≤ 40) : FzI w wr P q gs n G 60 (Among L sure) m :=
  ⟨h.sv_.ds, h.run.fz.mono (fun _ h => h) (by omega), by have := h.dn; omega, h.sh, h.pgs.1⟩
theorem FzI.below (h : FzI w wr P q gs n G K D m) (hb : Below wr.heap.size wr wr') : FzI w wr' P q gs n G K D m := ⟨h.ds.below hb (fun k hk => Or.inl hk), h.fz, h.dn, kb hb h.sh, h.pgs⟩
theorem FzI.grow (h : FzI w wr P q gs n G K D m) (hb : Below wr.heap.size wr wr') {Q : Nat → Prop} (hQ : ∀ k, Q k → wr.heap.size ≤ k ∧ k < wr'.heap.size) : FzI w wr' (fun k => P k ∨ Q k) q gs n G K D m := ⟨h.ds.below hb (fun k hk => hk.imp id (hQ k)), h.fz, h.dn, kb hb h.sh, Or.inl h.pgs⟩
theorem FzI.crash (h : FzI w wr P q gs n G K D m) (hK : K ≤ 100) {A : Option Addr} {ks : List Int} {c g : Nat} {t : TypeId} (hy : Byt w A ks) (hB : AllB ks) (h1 : ks.length ≤ c) (h2 : c ≤ 9223372036854775807) (hg : wr.heap[g]? = some (.cells #[.slice A ks.length c] t (0, 0))) (hP : P g) :
    Calls Try.prog 23 #[.pointer (some ⟨q, 0, none⟩), .slice (some ⟨g, 0, none⟩) 1 1] wr fun e w' => e = .returned (.tuple #[]) ∧ ∃ S, D S ∧ MsI w w' P q gs n G K S (m.crash [ks]) ∧ (m.crash [ks]).stops = false ∧ Same P wr w' := by
  have hdn := h.dn
  have hcr := h.ds.crash (some ⟨g, 0, none⟩) [ks] 1 (fun F f1 f2 => txt1 h.ds.bel hy hB h1 h2 f1 hg (f2 g hP)) (by simp) (by omega)
  obtain ⟨f, p1, p2⟩ := h.fz.1.crash [ks]
  obtain ⟨e, S0, Rs, m1, m2, m3⟩ := h.fz.2 _ f p1
  refine hcr.mono ?_
  rintro en w' ⟨he, hd, hs⟩
  exact ⟨he, _, m2, ⟨hd, ⟨e, S0, Rs, m1, rfl, m3⟩, p2, by rw [crash_done]; exact hdn, (hs.blk gs h.pgs).trans h.sh, h.pgs⟩, rfl, hs⟩
theorem MsI.below (h : MsI w wr P q gs n G K S m) (hb : Below wr.heap.size wr wr') : MsI w wr' P q gs n G K S m := ⟨h.ds.below hb (fun k hk => Or.inl hk), h.mt, h.al, h.dn, kb hb h.sh, h.pgs⟩
theorem MsI.stop (h : MsI w wr P q gs n G K S m) (t : Nat) (ht : t ≤ 1000) :
    Calls Try.prog 18 #[.pointer (some ⟨q, 0, none⟩), .int .i64 t] wr fun e w' => e = .returned (.tuple #[]) ∧ MsI w w' P q gs n G K S (m.stop t) ∧ Same P wr w' := by
  refine (h.ds.stop t (by constructor <;> omega) (by omega)).mono ?_
  rintro e w' ⟨he, hd, hs⟩
  obtain ⟨e0, S0, Rs, m1, m2, m3⟩ := h.mt
  exact ⟨he, ⟨hd, ⟨e0, S0, Rs, m1.stop t (by omega), m2, m3⟩, h.al.stop t, h.dn, (hs.blk gs h.pgs).trans h.sh, h.pgs⟩, hs⟩
theorem MsI.mount (h : MsI w wr P q gs n G K S m) (hK : K ≤ 100) (hn : n ≤ 40) (hG : G ≤ 1000) :
    Calls Try.prog 16 #[.pointer (some ⟨q, 0, none⟩), .int .i64 0, shQ 0 0 n G 3] wr fun en w' => ∃ (hp rb : Nat) (m' : DM), en = .returned (.tuple #[.pointer (some ⟨hp, 0, none⟩), .int .i64 0]) ∧ FzI w w' P q gs n G (K + 1) (fun s => s = S) m' ∧ Same P wr w' := by
  have hdn := h.dn
  obtain ⟨e, S0, Rs, hmt, hS, he⟩ := h.mt
  have hfew := hmt.few
  have htd := hmt.tied 3 (by omega) hG
  have hfz : Fz (homeM m (mntV m 0 n G e 3 Rs)) 0 n G (fun s => s = S) (2 + (K + 1)) := hmt.home_fz h.al htd (by omega) hS (by omega)
  have hdn2 := homeM_done' m 0 n G e 3 Rs
  refine (mount_mtb h.ds hmt (by omega) hG 3 (by omega) (by omega)).mono ?_
  rintro en w' ⟨hp, rb, hen, hsv, hsm, h1, h2⟩
  exact ⟨hp, rb, _, hen, ⟨hsv.ds.mono (fun k hk => Or.inl hk), hfz, by omega, (hsm.blk gs h.pgs).trans h.sh, h.pgs⟩, hsm⟩
theorem MsI.mtI (h : MsI w wr P q gs n G K S m) (hns : m.stops = false) : MtI w wr P q gs n G K S m := ⟨h.ds, h.mt, hns, h.dn, h.sh⟩
/-- Mounted once more. -/
theorem GoP.mtI {hp rb k : Nat} {v : VM} (h : GoP w wr P q hp rb gs n G k m v) : MtI w wr P q gs n G k (stV v) m := by
  obtain ⟨S0, Rs, j, hl⟩ := h.lv
  exact ⟨h.sv.ds, ⟨v.ep, S0, Rs, hl.idle.mtb_now, hl.st.symm, h.ep⟩, h.ns, h.dn, h.sh⟩
end
/-- The first state, and the stop. -/
theorem CrI.start {w wr : World} {P : Nat → Prop} {q hp rb gs n G : Nat} {m : DM} {v : VM} {sv : Value} (h : SV w wr P q m hp rb v) (hst : Started m v n G) (hn : n ≤ 33) (sh : wr.heap[gs]? = some (.cells (shC n G 3) 30 (0, 0))) (pgs : Rst P hp rb gs) (old : ∀ k, k < w.heap.size → Rst P hp rb k) (st : Sts wr (fun k => Rst P hp rb k ∧ w.heap.size ≤ k) sv [stV v]) (t : Nat) (ht : t ≤ 1000) :
    Calls Try.prog 18 #[.pointer (some ⟨q, 0, none⟩), .int .i64 t] wr fun e w' => e = .returned (.tuple #[]) ∧ CrI w w' P q hp rb gs n G 0 (m.stop t) v sv [stV v] [stV v] 0 := by
  have hdn := hst.done
  have hlv := hst.live
  rw [← hst.ep] at hlv
  refine (h.ds.stop t (by constructor <;> omega) (by omega)).mono ?_
  rintro e w' ⟨he, hd, hs⟩
  exact ⟨he, ⟨h.step hd hs, Run.start hlv hst.sure t (by omega) (by rw [hst.ep]; omega), by rw [hst.ep]; omega, by show m.done.length ≤ _; omega, (hs.blk gs pgs.1).trans sh, pgs, old, st.same (hs.mono fun k hk => hk.1.1)⟩⟩
/-- A state, out of the table. -/
theorem Sts.get {W : World} {R : Nat → Prop} {v : Value} {L : List (List Bk)} {i n : Nat} {S : List Bk} (h : Sts W R v L) (hi : L[i]? = some S) (hn : S.length = n) (hn0 : 0 < n) (hok : BksOk S) : ∃ g cap gu du, v = .slice (some ⟨g, 0, none⟩) L.length cap ∧ W.cell? ⟨g, i, none⟩ = some (.slice (some ⟨gu, 0, none⟩) n du) ∧ RowK W R (.slice (some ⟨gu, 0, none⟩) n du) S ∧ n ≤ du ∧ du ≤ 9223372036854775807 := by
  obtain ⟨g, cap, u, h1, h2, h3⟩ := h.row hi
  obtain ⟨gu, du, rfl, _, _, h4, h5, _, _⟩ := RowAt.pos h3 (by omega)
  rw [hn] at h2 h3 h4
  exact ⟨g, cap, gu, du, h1, h2, h3, h4, h5⟩
theorem info43 : (Try.prog.info? 43).map (fun i => (i.zero, i.size, i.bytes)) = some (some (.slice none 0 0), 1, 24) := by kernel_rfl
section
variable {ops : Array Oper} {rest : List Oper} {o : Oper} {a : Act} {Q : Exit → Act → World → Prop}
/-- append(table, row): the one-element slice lies in the newest block. -/
theorem wpList_pushT (hgd : o.guard = none) (s x : Operand) (ho : o.op = .call { callee := .builtin .append, args := #[s, x], argTypes := #[42, 42] }) {W : World} {R : Nat → Prop} {sv : Value} {L : List (List Bk)} (h : Sts W R sv L) (hs : a.eval s = sv) {u : Value} (hu : u.oneCell' = true) (hx : a.eval x = .slice (some ⟨W.heap.size, 0, none⟩) 1 1) (hl : L.length ≤ 1000)
    (k : ∀ v' w3 vs, RowAt W R 43 1 sv L.length vs → (∀ (i : Nat) (row : List Bk), L[i]? = some row → ∃ u, vs[i]? = some u ∧ RowK W R u row) → RowAt w3 (fun k => R k ∨ (W.alloc (.cells #[u] 43)).heap.size ≤ k) 43 1 v' (L.length + 1) (vs ++ [u]) → (W.alloc (.cells #[u] 43)).grownBy w3 sv.ownBlock → wpList Try.prog ops Q rest (a.put o.dst v') w3) : wpList Try.prog ops Q (o :: rest) a (W.alloc (.cells #[u] 43)) := by
  obtain ⟨i0, hi0, hz0, hz1, hz2⟩ := info_parts info43
  obtain ⟨vs, h1, h2⟩ := h
  have hb : Below W.heap.size W (W.alloc (.cells #[u] 43)) := (Below.refl _ _).alloc (Nat.le_refl _) _
  refine wpList_push_of hgd s x 42 ho 43 i0 _ 1 24 Try.underlying42 hi0 hz0 hz1 hz2 rfl (by decide) sv L.length vs hs R (h1.below hb) ⟨W.heap.size, 0, none⟩ 1 1 [u] hx rfl (World.news_of_block (heap_alloc_new W _)) (fun y hy => by rw [List.mem_singleton.1 hy]; exact hu) (by simp only [maxLen]; omega) (by omega) ?_
  intro v' w3 h3 hg _
  exact k v' w3 vs h1 h2 h3 hg
/-- append([]api.Block{}, row...): a copy of the row. -/
theorem wpList_copyK (hgd : o.guard = none) (s x : Operand) (ho : o.op = .call { callee := .builtin .append, args := #[s, x], argTypes := #[43, 43] }) {W : World} (hs : a.eval s = .slice (some ⟨W.heap.size, 0, none⟩) 0 0) {R : Nat → Prop} {gu n du : Nat} {S : List Bk} (hx : a.eval x = .slice (some ⟨gu, 0, none⟩) n du) (hk : RowK W R (.slice (some ⟨gu, 0, none⟩) n du) S) (hn : S.length = n) (hok : BksOk S) (hl : n ≤ 1000)
    (k : ∀ v' w3, RowK w3 (fun k => W.heap.size ≤ k) v' S → Below W.heap.size W w3 → wpList Try.prog ops Q rest (a.put o.dst v') w3) : wpList Try.prog ops Q (o :: rest) a (W.alloc (.cells #[] 46)) := by
  obtain ⟨i0, hi0, hz0, hz1, hz2⟩ := info_parts info24
  have hb : Below W.heap.size W (W.alloc (.cells #[] 46)) := (Below.refl _ _).alloc (Nat.le_refl _) _
  have hk' : RowAt W R 46 57 (.slice (some ⟨gu, 0, none⟩) n du) n (bksL S) := by rw [← hn]; rw [← hn] at hk; exact hk
  refine wpList_push_of hgd s x 43 ho 46 i0 _ 57 64 Try.underlying43 hi0 hz0 hz1 hz2 (by show (blkA 0 zBs).size = 57; exact blkA_size zBs_len) (by decide) (.slice (some ⟨W.heap.size, 0, none⟩) 0 0) 0 [] hs (fun k => W.heap.size ≤ k) (rowAt_new W _ 57 0 #[] (by simp [maxLen]) (by simp) _ (Nat.le_refl _)) ⟨gu, 0, none⟩ n du (bksL S) hx (by rw [bksL_len hok, hn]) (fun j u hj => keepC hb (hk'.news j u hj)) (bksL_one S) (by simp only [maxLen]; omega) (by omega) ?_
  intro v' w3 h3 hg _
  refine k v' w3 ?_ ((hb).grown hg (by simp) (fun k hk => by injection hk with hk; show W.heap.size ≤ k; rw [← hk]; exact Nat.le_refl _))
  unfold RowK
  rw [hn]
  rw [Nat.zero_add, List.nil_append] at h3
  exact h3.owner fun k _ hk => by rcases hk with hk | hk; exact hk; simp at hk; omega
end
end Go.Proofs.Ytamnpblijdgdaaa

/- Two regions of a device, two devices: what one region's writes leave of another's; two devices in step. Contracts at both. -/
namespace Go.Proofs.Ytamnpblijdgdaaa
open Go.ChangeShapes Go.WideShapes Go.ChangeAt Go.RowKit
set_option linter.unusedVariables false
set_option maxRecDepth 100000
/-! Of another region nothing turns. -/
/-- Of region k (of no other than r) all is as it was. -/
structure Off (m m' : DM) (k : Nat) : Prop where
  now : nowRow m' k = nowRow m k
  dims : dims m' = dims m
  tr : traceL m' k = traceL m k
  st : m'.stops = m.stops
theorem Off.refl (m : DM) (k : Nat) : Off m m k := ⟨rfl, rfl, rfl, rfl⟩
theorem Off.trans {a b c : DM} {k : Nat} (h : Off a b k) (h' : Off b c k) : Off a c k := ⟨h'.now.trans h.now, h'.dims.trans h.dims, h'.tr.trans h.tr, h'.st.trans h.st⟩
theorem Off.write (m : DM) {r k : Nat} (hk : k ≠ r) (i : Int) (b : List Int) : Off m (m.doWrite r i b) k := by
  refine ⟨?_, dims_doWrite _ _ _ _, ?_, ns_write _ _ _ _⟩
  · unfold DM.doWrite
    split
    · rw [Int.toNat_natCast]; exact setAt_other _ _ _ _ hk
    · rfl
  · unfold DM.doWrite
    split
    · rw [Int.toNat_natCast, traceL_write, if_neg (fun h => hk h.symm), List.append_nil]
    · rfl
theorem Off.bar (m : DM) {r k : Nat} (hk : k ≠ r) : Off m (m.doBarrier r) k := by
  refine ⟨?_, dims_doBarrier _ _, ?_, ns_barrier _ _⟩
  · unfold DM.doBarrier
    split
    · rfl
    · rfl
  · unfold DM.doBarrier
    split
    · rw [Int.toNat_natCast, traceL_barrier, if_neg (fun h => hk h.symm), List.append_nil]
    · rfl
theorem Off.begin (m : DM) {r k : Nat} (hk : k ≠ r) (e : Nat) : Off m (m.doBegin r e) k := by
  unfold DM.doBegin
  exact ((Off.bar m hk).trans (Off.write _ hk _ _)).trans (Off.bar _ hk)
theorem Off.first {r k : Nat} (hk : k ≠ r) (g : Nat) (m : DM) : ∀ j, Off m (firstW r g m j) k
  | 0 => Off.refl _ _
  | j + 1 => (Off.first hk g m j).trans (Off.write _ hk _ _)
theorem Off.make {r k : Nat} (hk : k ≠ r) (m : DM) (n g : Nat) : Off m (makeM m r n g) k := by
  unfold makeM; exact (Off.first hk g m n).trans (Off.begin _ hk _)
theorem Off.homeW {r k : Nat} (hk : k ≠ r) (g : Nat) : ∀ (l : List HB) (m : DM) (o : Nat), Off m (homeW r g m o l) k
  | [], m, o => Off.refl _ _
  | x :: l, m, o => by
    show Off m (Proofs.Ytamnpblijdgdaaa.homeW r g (if x.lg then _ else m) (o + 1) l) k
    refine Off.trans ?_ (Off.homeW hk g l _ _)
    split
    · exact Off.write _ hk _ _
    · exact Off.refl _ _
theorem Off.home {r k : Nat} (hk : k ≠ r) (m : DM) {v : VM} (hv : v.r = (r : Int)) : Off m (homeM m v) k := by
  unfold homeM; rw [hv]; exact (Off.homeW hk _ _ _ _).trans (Off.begin _ hk _)
theorem Off.tidy {r k : Nat} (hk : k ≠ r) (m : DM) {v : VM} (hv : v.r = (r : Int)) : Off m (tidyM m v) k := by
  unfold tidyM; rw [hv]; exact (Off.bar _ hk).trans (Off.home hk _ hv)
theorem Off.log {r k : Nat} (hk : k ≠ r) : ∀ (l : List (List Int)) (m : DM) (o : Nat), Off m (logW r m o l) k
  | [], m, o => Off.refl _ _
  | b :: l, m, o => (Off.write m hk _ _).trans (Off.log hk l _ _)
theorem Off.ch {r k : Nat} (hk : k ≠ r) (m : DM) {v : VM} (hv : v.r = (r : Int)) (l : List Wr) : Off m (chM m v l) k := by
  unfold chM putM
  split
  · split
    · rw [show (homeV v).r = (r : Int) from hv]; exact (Off.tidy hk m hv).trans (Off.log hk _ _ _)
    · rw [hv]; exact Off.log hk _ _ _
  · exact Off.refl _ _
theorem now_len {m m' : DM} (h : dims m' = dims m) : m'.now.length = m.now.length := by
  have := congrArg List.length h
  unfold dims at this
  simpa using this
theorem Fit.other {m m' : DM} {r r' N N' : Nat} (h : Fit m r N) (h' : Fit m' r' N') (ho : Off m m' r) : Fit m' r N :=
  ⟨h'.ok, h'.told, by rw [now_len ho.dims]; exact h.lt, by rw [ho.now]; exact h.len⟩
theorem Mtb.other {m m' : DM} {r n g e : Nat} {S0 : List Bk} {Rs : List (List Wr)} (h : Mtb m r n g e S0 Rs) {r' N' : Nat} (h' : Fit m' r' N') (ho : Off m m' r) : Mtb m' r n g e S0 Rs := by
  refine ⟨h.fit.other h' ho, h.e1, h.e2, h.len, h.ok, h.n200, h.rs, ?_, ?_, ?_, ?_, ?_⟩
  all_goals rw [ho.now]
  · exact h.an
  · exact h.ao
  · exact h.hm
  · exact h.lg
  · exact h.od
/-! Two devices in step, at region r. -/
structure Sim (m m' : DM) (r : Nat) : Prop where
  dims : dims m = dims m'
  s1 : m.stops = false
  s2 : m'.stops = false
  tr : traceL m r = traceL m' r
  nl : 2 ≤ m.now.length
  no : traceL m' (r + 1) = []
theorem Sim.off {m m' m2 : DM} {r : Nat} (h : Sim m m' r) (ho : Off m m2 r) : Sim m2 m' r := ⟨ho.dims.trans h.dims, ho.st.trans h.s1, h.s2, ho.tr.trans h.tr, by rw [now_len ho.dims]; exact h.nl, h.no⟩
theorem Sim.write {m m' : DM} {r : Nat} (h : Sim m m' r) (i : Int) (b : List Int) : Sim (m.doWrite r i b) (m'.doWrite r i b) r := by
  refine ⟨by rw [dims_doWrite, dims_doWrite]; exact h.dims, by rw [ns_write]; exact h.s1, by rw [ns_write]; exact h.s2, ?_, by rw [now_len (dims_doWrite _ _ _ _)]; exact h.nl, (Off.write m' (by omega) i b).tr.trans h.no⟩
  unfold DM.doWrite
  rw [hasB_dims h.dims, ns_of h.s1, ns_of h.s2]
  split
  · rw [traceL_write, traceL_write, h.tr]
  · exact h.tr
theorem Sim.bar {m m' : DM} {r : Nat} (h : Sim m m' r) : Sim (m.doBarrier r) (m'.doBarrier r) r := by
  refine ⟨by rw [dims_doBarrier, dims_doBarrier]; exact h.dims, by rw [ns_barrier]; exact h.s1, by rw [ns_barrier]; exact h.s2, ?_, by rw [now_len (dims_doBarrier _ _)]; exact h.nl, (Off.bar m' (by omega)).tr.trans h.no⟩
  unfold DM.doBarrier
  rw [hasR_dims h.dims, ns_of h.s1, ns_of h.s2]
  split
  · rw [traceL_barrier, traceL_barrier, h.tr]
  · exact h.tr
theorem Sim.begin {m m' : DM} {r : Nat} (h : Sim m m' r) (e : Nat) : Sim (m.doBegin r e) (m'.doBegin r e) r := by
  unfold DM.doBegin; exact (h.bar.write _ _).bar
theorem Sim.first {m m' : DM} {r : Nat} (h : Sim m m' r) (g : Nat) : ∀ j, Sim (firstW r g m j) (firstW r g m' j) r
  | 0 => h
  | j + 1 => (h.first g j).write _ _
theorem Sim.make {m m' : DM} {r : Nat} (h : Sim m m' r) (n g : Nat) : Sim (makeM m r n g) (makeM m' r n g) r := by
  unfold makeM; exact (h.first g n).begin _
theorem Sim.homeW {r : Nat} (g : Nat) : ∀ (l : List HB) (m m' : DM) (o : Nat), Sim m m' r → Sim (homeW r g m o l) (homeW r g m' o l) r
  | [], m, m', o, h => h
  | x :: l, m, m', o, h => by
    show Sim (Proofs.Ytamnpblijdgdaaa.homeW r g (if x.lg then _ else m) (o + 1) l) (Proofs.Ytamnpblijdgdaaa.homeW r g (if x.lg then _ else m') (o + 1) l) r
    refine Sim.homeW g l _ _ _ ?_
    cases x.lg
    · exact h
    · exact h.write _ _
theorem Sim.home {m m' : DM} {r : Nat} (h : Sim m m' r) {v : VM} (hv : v.r = (r : Int)) : Sim (homeM m v) (homeM m' v) r := by
  unfold homeM; rw [hv]; exact (Sim.homeW _ _ _ _ _ h).begin _
theorem Sim.tidy {m m' : DM} {r : Nat} (h : Sim m m' r) {v : VM} (hv : v.r = (r : Int)) : Sim (tidyM m v) (tidyM m' v) r := by
  unfold tidyM; rw [hv]; exact h.bar.home hv
theorem Sim.log {r : Nat} : ∀ (l : List (List Int)) (m m' : DM) (o : Nat), Sim m m' r → Sim (logW r m o l) (logW r m' o l) r
  | [], m, m', o, h => h
  | b :: l, m, m', o, h => Sim.log l _ _ _ (h.write _ _)
theorem Sim.ch {m m' : DM} {r : Nat} (h : Sim m m' r) {v : VM} (hv : v.r = (r : Int)) (l : List Wr) : Sim (chM m v l) (chM m' v l) r := by
  unfold chM putM
  split
  · split
    · rw [show (homeV v).r = (r : Int) from hv]; exact Sim.log _ _ _ _ (h.tidy hv)
    · rw [hv]; exact Sim.log _ _ _ _ h
  · exact h
/-- Mounted without a record: what it is hangs on the blocks alone. -/
theorem hb_ext {a b : List HB} (h1 : a.map val = b.map val) (h2 : ∀ x ∈ a, x.lg = false) (h3 : ∀ x ∈ b, x.lg = false) : a = b := by
  induction a generalizing b with
  | nil => cases b with
    | nil => rfl
    | cons y b => cases h1
  | cons x a ih =>
    cases b with
    | nil => cases h1
    | cons y b =>
      rw [List.map_cons, List.map_cons] at h1
      injection h1 with h4 h5
      have e1 := h2 x (by simp)
      have e2 := h3 y (by simp)
      obtain ⟨k, bs, lg⟩ := x
      obtain ⟨k', bs', lg'⟩ := y
      injection h4 with h6 h7
      obtain rfl : k = k' := h6
      obtain rfl : bs = bs' := h7
      obtain rfl : lg = false := e1
      obtain rfl : lg' = false := e2
      rw [ih h5 (fun z hz => h2 z (by simp [hz])) (fun z hz => h3 z (by simp [hz]))]
theorem unlog_all (l : List HB) : ∀ x ∈ l.map unlog, x.lg = false := fun x hx => by
  obtain ⟨y, _, rfl⟩ := List.mem_map.1 hx; rfl
theorem mnt_same {m m' : DM} {r n g e : Nat} {S0 : List Bk} (h : Mtb m r n g e S0 []) (h' : Mtb m' r n g e S0 []) (fr : Int) (hr : r < 1000) (hg : g ≤ 1000) : homeV (mntV m r n g e fr []) = homeV (mntV m' r n g e fr []) := by
  have t1 := (h.tied fr hr hg).val
  have t2 := (h'.tied fr hr hg).val
  have hB : (mntV m r n g e fr []).B.map unlog = (mntV m' r n g e fr []).B.map unlog := hb_ext (by rw [unlog_val, unlog_val, t1, t2]) (unlog_all _) (unlog_all _)
  unfold homeV
  rw [hB]; rfl
theorem mnt_homeW {r : Int} {g : Nat} : ∀ (l : List HB) (m : DM) (o : Nat), (∀ x ∈ l, x.lg = false) → homeW r g m o l = m
  | [], _, _, _ => rfl
  | x :: l, m, o, h => by
    show homeW r g (if x.lg then _ else m) (o + 1) l = m
    rw [h x (by simp)]
    exact mnt_homeW l m (o + 1) (fun y hy => h y (by simp [hy]))
end Go.Proofs.Ytamnpblijdgdaaa

/- Two devices, three vols: contracts at them. -/
namespace Go.Proofs.Ytamnpblijdgdaaa
open Go.ChangeShapes Go.WideShapes Go.ChangeAt Go.RowKit
set_option linter.unusedVariables false
set_option maxRecDepth 100000
/-- Two devices, apart from each other, and from what is protected. -/
structure DD (w0 W : World) (P : Nat → Prop) (q : Nat) (m : DM) (q' : Nat) (m' : DM) : Prop where
  devs : ∃ F F' : Nat → Prop, Dev W F q m ∧ Dev W F' q' m' ∧ (∀ k, F k → w0.heap.size ≤ k) ∧ (∀ k, F' k → w0.heap.size ≤ k) ∧ (∀ k, P k → ¬ F k) ∧ (∀ k, P k → ¬ F' k) ∧ ∀ k, F k → ¬ F' k
  low : ∀ k, P k → k < W.heap.size
  bel : Below w0.heap.size w0 W
/-- The other one. -/
def Oth (w0 W : World) (P : Nat → Prop) (q' : Nat) (m' : DM) (F' : Nat → Prop) : Prop := Dev W F' q' m' ∧ (∀ k, F' k → w0.heap.size ≤ k) ∧ ∀ k, P k → ¬ F' k
section
variable {w0 W W' W1 W2 : World} {P F' : Nat → Prop} {q q' : Nat} {m m' m1 : DM}
theorem DD.swap (h : DD w0 W P q m q' m') : DD w0 W P q' m' q m := by
  obtain ⟨F, F', h1, h2, h3, h4, h5, h6, h7⟩ := h.devs
  exact ⟨⟨F', F, h2, h1, h4, h3, h6, h5, fun k hk hf => h7 k hf hk⟩, h.low, h.bel⟩
theorem DD.left (h : DD w0 W P q m q' m') : ∃ F', Oth w0 W P q' m' F' ∧ DS w0 W (fun k => P k ∨ F' k) q m := by
  obtain ⟨F, F', h1, h2, h3, h4, h5, h6, h7⟩ := h.devs
  refine ⟨F', ⟨h2, h4, h6⟩, ⟨F, h1, h3, fun k hk hf => ?_⟩, fun k hk => ?_, h.bel⟩
  · rcases hk with hk | hk
    · exact h5 k hk hf
    · exact h7 k hf hk
  · rcases hk with hk | hk
    · exact h.low k hk
    · exact h2.lt k hk
theorem Oth.back (h : Oth w0 W P q' m' F') (hd : DS w0 W' (fun k => P k ∨ F' k) q m1) (hs : ∀ k, F' k → W'.heap[k]? = W.heap[k]?) (hz : W.heap.size ≤ W'.heap.size) : DD w0 W' P q m1 q' m' := by
  obtain ⟨F, h1, h2, h3⟩ := hd.dev
  exact ⟨⟨F, F', h1, h.1.keep (fun k _ hk => hs k hk) hz, h2, h.2.1, fun k hk => h3 k (Or.inl hk), h.2.2, fun k hk hf => h3 k (Or.inr hf) hk⟩, fun k hk => hd.low k (Or.inl hk), hd.bel⟩
theorem DD.below {P' : Nat → Prop} (h : DD w0 W P q m q' m') (hb : Below W.heap.size W W') (hP : ∀ k, P' k → P k ∨ (W.heap.size ≤ k ∧ k < W'.heap.size)) : DD w0 W' P' q m q' m' := by
  obtain ⟨F, F', h1, h2, h3, h4, h5, h6, h7⟩ := h.devs
  refine ⟨⟨F, F', h1.below hb, h2.below hb, h3, h4, fun k hk hf => ?_, fun k hk hf => ?_, h7⟩, fun k hk => ?_, h.bel.trans (hb.mono h.bel.size)⟩
  · rcases hP k hk with h8 | h8
    · exact h5 k h8 hf
    · have := h1.lt k hf; omega
  · rcases hP k hk with h8 | h8
    · exact h6 k h8 hf
    · have := h2.lt k hf; omega
  · rcases hP k hk with h8 | h8
    · have := h.low k h8; have := hb.size; omega
    · exact h8.2
theorem DD.made (h : DS w0 W P q m) (hb : Below W.heap.size W W1) (h1 : Dev W2 F' q' m') (h2 : ∀ k, F' k → W1.heap.size ≤ k) (hb2 : Below W1.heap.size W1 W2) : DD w0 W2 P q m q' m' := by
  obtain ⟨F, g1, g2, g3⟩ := h.dev
  have hbb := hb.trans (hb2.mono hb.size)
  have s1 := hb.size
  have s0 := h.bel.size
  refine ⟨⟨F, F', g1.below hbb, h1, g2, fun k hk => by have := h2 k hk; omega, g3, fun k hk hf => ?_, fun k hk hf => ?_⟩, fun k hk => ?_, h.bel.trans (hbb.mono h.bel.size)⟩
  · have := h2 k hf; have := h.low k hk; omega
  · have := h2 k hf; have := g1.lt k hk; omega
  · have := h.low k hk; have := hbb.size; omega
theorem DD.ds (h : DD w0 W P q m q' m') : DS w0 W P q m := by
  obtain ⟨F, F', h1, h2, h3, h4, h5, h6, h7⟩ := h.devs
  exact ⟨⟨F, h1, h3, h5⟩, h.low, h.bel⟩
theorem DD.make (h : DD w0 W P q m q' m') (r : Nat) (hr : r < 1000) (n g : Nat) (hn : n ≤ 200) (hg : g ≤ 1000) (hyes : (rowV m (r : Int) ((1 + g + n : Nat) : Int)).isSome = true) (hmax : m.done.length + n ≤ 999000) :
    Calls Try.prog 15 #[.pointer (some ⟨q, 0, none⟩), .int .i64 r, shQ 0 0 n g 3] W fun e w' => e = .returned (.bool true) ∧ DD w0 w' P q (makeM m r n g) q' m' ∧ Same P W w' := by
  obtain ⟨F', ho, hd⟩ := h.left
  refine (vmake_any hd r (by constructor <;> omega) n g 3 hn hg hyes hmax).mono ?_
  rintro e w' ⟨he, hd', hs⟩
  exact ⟨he, ho.back hd' (fun k hk => hs.blk k (Or.inr hk)) hs.size, hs.mono fun k hk => Or.inl hk⟩
theorem DD.mount (h : DD w0 W P q m q' m') {r n g e : Nat} {S0 : List Bk} (hm : Mtb m r n g e S0 []) (hr : r < 1000) (hg : g ≤ 1000) (hmax : m.done.length ≤ 999000) :
    Calls Try.prog 16 #[.pointer (some ⟨q, 0, none⟩), .int .i64 r, shQ 0 0 n g 3] W fun en w' => ∃ hp rb : Nat, en = .returned (.tuple #[.pointer (some ⟨hp, 0, none⟩), .int .i64 0]) ∧
      DD w0 w' (fun k => P k ∨ k = hp ∨ k = rb) q (homeM m (mntV m r n g e 3 [])) q' m' ∧ VolAt w' q hp rb (homeV (mntV m r n g e 3 [])) ∧ hp ≠ rb ∧ Same P W w' ∧ W.heap.size ≤ hp ∧ W.heap.size ≤ rb := by
  obtain ⟨F', ho, hd⟩ := h.left
  refine (mount_mtb hd hm hr hg 3 (by simp) hmax).mono ?_
  rintro en w' ⟨hp, rb, he, hsv, hs, h1, h2⟩
  have ho' : Oth w0 W (fun k => P k ∨ k = hp ∨ k = rb) q' m' F' := ⟨ho.1, ho.2.1, fun k hk hf => by
    have := ho.1.lt k hf
    rcases hk with hk | rfl | rfl
    · exact ho.2.2 k hk hf
    · omega
    · omega⟩
  refine ⟨hp, rb, he, ho'.back (hsv.ds.mono fun k hk => ?_) (fun k hk => hs.blk k (Or.inr hk)) hs.size, hsv.at_, hsv.ne, hs.mono fun k hk => Or.inl hk, h1, h2⟩
  rcases hk with (hk | hk) | hk
  · exact Or.inl (Or.inl hk)
  · exact Or.inr hk
  · exact Or.inl (Or.inr hk)
end
/-- Two vols in one device, one in another. -/
structure Tw (w W : World) (P : Nat → Prop) (q q' gs c0 c1 c2 h1 b1 h2 b2 h3 b3 n G : Nat) (m m' : DM) (v u x : VM) : Prop where
  dd : DD w W P q m q' m'
  a1 : VolAt W q h1 b1 v
  a2 : VolAt W q h2 b2 u
  a3 : VolAt W q' h3 b3 x
  pin : (P h1 ∧ P b1) ∧ (P h2 ∧ P b2) ∧ P h3 ∧ P b3
  ord : w.heap.size ≤ c0 ∧ gs < c0 ∧ c0 ≤ h1 ∧ c0 ≤ b1 ∧ h1 < c1 ∧ b1 < c1 ∧ c1 ≤ h2 ∧ c1 ≤ b2 ∧ h2 < c2 ∧ b2 < c2 ∧ c2 ≤ h3 ∧ c2 ≤ b3
  ne : h1 ≠ b1 ∧ h2 ≠ b2 ∧ h3 ≠ b3
  sh : W.heap[gs]? = some (.cells (shC n G 3) 30 (0, 0))
  pgs : P gs
  old : ∀ k, k < w.heap.size → P k
section
variable {w W W' : World} {P F' : Nat → Prop} {q q' gs c0 c1 c2 h1 b1 h2 b2 h3 b3 n G : Nat} {m m' m1 : DM} {v u x y : VM}
theorem Tw.below (h : Tw w W P q q' gs c0 c1 c2 h1 b1 h2 b2 h3 b3 n G m m' v u x) (hb : Below W.heap.size W W') : Tw w W' P q q' gs c0 c1 c2 h1 b1 h2 b2 h3 b3 n G m m' v u x :=
  { h with dd := h.dd.below hb (fun k hk => Or.inl hk), a1 := h.a1.below hb, a2 := h.a2.below hb, a3 := h.a3.below hb, sh := kb hb h.sh }
theorem Tw.sv1 (h : Tw w W P q q' gs c0 c1 c2 h1 b1 h2 b2 h3 b3 n G m m' v u x) : ∃ F', Oth w W P q' m' F' ∧ SV w W (fun k => P k ∨ F' k) q m h1 b1 v := by
  obtain ⟨F', ho, hd⟩ := h.dd.left
  have := h.ord
  exact ⟨F', ho, hd, h.a1, Or.inl h.pin.1.1, Or.inl h.pin.1.2, by omega, by omega, h.ne.1⟩
theorem Tw.back1 (h : Tw w W P q q' gs c0 c1 c2 h1 b1 h2 b2 h3 b3 n G m m' v u x) (ho : Oth w W P q' m' F') (hsv : SV w W' (fun k => P k ∨ F' k) q m1 h1 b1 y) (hs : Same (Rst (fun k => P k ∨ F' k) h1 b1) W W') : Tw w W' P q q' gs c0 c1 c2 h1 b1 h2 b2 h3 b3 n G m1 m' y u x := by
  have := h.ord
  have nf := fun k hk (hf : F' k) => ho.2.2 k hk hf
  exact { h with
    dd := ho.back hsv.ds (fun k hk => hs.blk k ⟨Or.inr hk, fun e => nf h1 h.pin.1.1 (e ▸ hk), fun e => nf b1 h.pin.1.2 (e ▸ hk)⟩) hs.size
    a1 := hsv.at_
    a2 := h.a2.keep (hs.blk _ ⟨Or.inl h.pin.2.1.1, by omega, by omega⟩) (hs.blk _ ⟨Or.inl h.pin.2.1.2, by omega, by omega⟩)
    a3 := h.a3.keep (hs.blk _ ⟨Or.inl h.pin.2.2.1, by omega, by omega⟩) (hs.blk _ ⟨Or.inl h.pin.2.2.2, by omega, by omega⟩)
    sh := (hs.blk _ ⟨Or.inl h.pgs, by omega, by omega⟩).trans h.sh }
theorem Tw.sv2 (h : Tw w W P q q' gs c0 c1 c2 h1 b1 h2 b2 h3 b3 n G m m' v u x) : ∃ F', Oth w W P q' m' F' ∧ SV w W (fun k => P k ∨ F' k) q m h2 b2 u := by
  obtain ⟨F', ho, hd⟩ := h.dd.left
  have := h.ord
  exact ⟨F', ho, hd, h.a2, Or.inl h.pin.2.1.1, Or.inl h.pin.2.1.2, by omega, by omega, h.ne.2.1⟩
theorem Tw.back2 (h : Tw w W P q q' gs c0 c1 c2 h1 b1 h2 b2 h3 b3 n G m m' v u x) (ho : Oth w W P q' m' F') (hsv : SV w W' (fun k => P k ∨ F' k) q m1 h2 b2 y) (hs : Same (Rst (fun k => P k ∨ F' k) h2 b2) W W') : Tw w W' P q q' gs c0 c1 c2 h1 b1 h2 b2 h3 b3 n G m1 m' v y x := by
  have := h.ord
  have nf := fun k hk (hf : F' k) => ho.2.2 k hk hf
  exact { h with
    dd := ho.back hsv.ds (fun k hk => hs.blk k ⟨Or.inr hk, fun e => nf h2 h.pin.2.1.1 (e ▸ hk), fun e => nf b2 h.pin.2.1.2 (e ▸ hk)⟩) hs.size
    a2 := hsv.at_
    a1 := h.a1.keep (hs.blk _ ⟨Or.inl h.pin.1.1, by omega, by omega⟩) (hs.blk _ ⟨Or.inl h.pin.1.2, by omega, by omega⟩)
    a3 := h.a3.keep (hs.blk _ ⟨Or.inl h.pin.2.2.1, by omega, by omega⟩) (hs.blk _ ⟨Or.inl h.pin.2.2.2, by omega, by omega⟩)
    sh := (hs.blk _ ⟨Or.inl h.pgs, by omega, by omega⟩).trans h.sh }
theorem Tw.sv3 (h : Tw w W P q q' gs c0 c1 c2 h1 b1 h2 b2 h3 b3 n G m m' v u x) : ∃ F', Oth w W P q m F' ∧ SV w W (fun k => P k ∨ F' k) q' m' h3 b3 x := by
  obtain ⟨F', ho, hd⟩ := h.dd.swap.left
  have := h.ord
  exact ⟨F', ho, hd, h.a3, Or.inl h.pin.2.2.1, Or.inl h.pin.2.2.2, by omega, by omega, h.ne.2.2⟩
theorem Tw.back3 (h : Tw w W P q q' gs c0 c1 c2 h1 b1 h2 b2 h3 b3 n G m m' v u x) (ho : Oth w W P q m F') (hsv : SV w W' (fun k => P k ∨ F' k) q' m1 h3 b3 y) (hs : Same (Rst (fun k => P k ∨ F' k) h3 b3) W W') : Tw w W' P q q' gs c0 c1 c2 h1 b1 h2 b2 h3 b3 n G m m1 v u y := by
  have := h.ord
  have nf := fun k hk (hf : F' k) => ho.2.2 k hk hf
  exact { h with
    dd := (ho.back hsv.ds (fun k hk => hs.blk k ⟨Or.inr hk, fun e => nf h3 h.pin.2.2.1 (e ▸ hk), fun e => nf b3 h.pin.2.2.2 (e ▸ hk)⟩) hs.size).swap
    a3 := hsv.at_
    a1 := h.a1.keep (hs.blk _ ⟨Or.inl h.pin.1.1, by omega, by omega⟩) (hs.blk _ ⟨Or.inl h.pin.1.2, by omega, by omega⟩)
    a2 := h.a2.keep (hs.blk _ ⟨Or.inl h.pin.2.1.1, by omega, by omega⟩) (hs.blk _ ⟨Or.inl h.pin.2.1.2, by omega, by omega⟩)
    sh := (hs.blk _ ⟨Or.inl h.pgs, by omega, by omega⟩).trans h.sh }
/-- What is in bounds. -/
structure VBd (v : VM) (r n G E D : Nat) (m : DM) : Prop where
  vo : VOk v r n G
  ep : v.ep ≤ E
  dn : m.done.length ≤ D
theorem VBd.facts {r E D : Nat} (h : VBd v r n G E D m) (hG : G ≤ 1000) (hE : E ≤ 60000) (hD : D ≤ 900000) : v.us ≤ v.g ∧ v.ep + 1 < 4294967296 ∧ v.sq + 1 < 4294967296 ∧ m.done.length ≤ 998000 := by
  have h1 := h.vo.us
  have h2 := h.vo.sq
  have h3 := h.vo.vg
  have h4 := h.ep
  have h5 := h.dn
  exact ⟨by omega, by omega, by omega, by omega⟩
theorem VBd.len {r E D : Nat} (h : VBd v r n G E D m) : v.B.length = n := by rw [h.vo.ok.len, h.vo.vn]
theorem VBd.ch {r E D : Nat} (h : VBd v r n G E D m) (hn : n ≤ 40) (hG : G ≤ 1000) (h13 : 13 ≤ G) (hE : E ≤ 60000) {l : List Wr} (hok : WrsOk l) : VBd (chV v l) r n G (E + 1) (D + 60) (chM m v l) := by
  have h1 := h.ep
  have h2 := chV_ep v l
  have h3 := chM_done m v l
  have h4 := h.len
  have h5 := h.dn
  exact ⟨h.vo.ch hG h13 (by omega) hok, by rw [h2]; split <;> omega, by omega⟩
theorem VBd.tidy {r E D : Nat} (h : VBd v r n G E D m) (hn : n ≤ 40) (hE : E ≤ 60000) : VBd (homeV v) r n G (E + 1) (D + 60) (tidyM m v) := by
  have h1 := h.ep
  have h3 := tidyM_done m v
  have h4 := h.len
  have h5 := h.dn
  exact ⟨h.vo.home (by omega), by show v.ep + 1 ≤ _; omega, by omega⟩
theorem VBd.dev {r E D D' : Nat} (h : VBd v r n G E D m) {m2 : DM} (hd : m2.done.length ≤ D') : VBd v r n G E D' m2 := ⟨h.vo, h.ep, hd⟩
theorem VBd.mono {r E D E' D' : Nat} (h : VBd v r n G E D m) (hE : E ≤ E') (hD : D ≤ D') : VBd v r n G E' D' m := ⟨h.vo, Nat.le_trans h.ep hE, Nat.le_trans h.dn hD⟩
theorem Tw.change1 (h : Tw w W P q q' gs c0 c1 c2 h1 b1 h2 b2 h3 b3 n G m m' v u x) (hf : v.us ≤ v.g ∧ v.ep + 1 < 4294967296 ∧ v.sq + 1 < 4294967296 ∧ m.done.length ≤ 998000) (hg : 13 ≤ v.g) (A : Option Addr) (l : List Wr) (c d : Nat) (hl : l.length = c) (hc : c ≤ d) (hd : d ≤ 9223372036854775807) (hok : WrsOk l) (hy0 : Wrs w A l) (hy : Wrs W A l) :
    Calls Try.prog 22 #[.pointer (some ⟨h1, 0, none⟩), .slice A c d] W fun e w' => e = .returned (.int .i64 (if ChOk v l then 0 else 1)) ∧ Tw w w' P q q' gs c0 c1 c2 h1 b1 h2 b2 h3 b3 n G (chM m v l) m' (chV v l) u x := by
  obtain ⟨F', ho, hsv⟩ := h.sv1
  have := h.ord
  refine (vchange_any hsv A l c d hl hc hd hok (Wrs.old hy0 hy fun k hk => ⟨Or.inl (h.old k hk), by omega, by omega⟩) hf.1 hg hf.2.1 hf.2.2.1 hf.2.2.2).mono ?_
  rintro e w' ⟨he, hs, hm⟩
  exact ⟨he, h.back1 ho hs hm⟩
theorem Tw.change2 (h : Tw w W P q q' gs c0 c1 c2 h1 b1 h2 b2 h3 b3 n G m m' v u x) (hf : u.us ≤ u.g ∧ u.ep + 1 < 4294967296 ∧ u.sq + 1 < 4294967296 ∧ m.done.length ≤ 998000) (hg : 13 ≤ u.g) (A : Option Addr) (l : List Wr) (c d : Nat) (hl : l.length = c) (hc : c ≤ d) (hd : d ≤ 9223372036854775807) (hok : WrsOk l) (hy0 : Wrs w A l) (hy : Wrs W A l) :
    Calls Try.prog 22 #[.pointer (some ⟨h2, 0, none⟩), .slice A c d] W fun e w' => e = .returned (.int .i64 (if ChOk u l then 0 else 1)) ∧ Tw w w' P q q' gs c0 c1 c2 h1 b1 h2 b2 h3 b3 n G (chM m u l) m' v (chV u l) x := by
  obtain ⟨F', ho, hsv⟩ := h.sv2
  have := h.ord
  refine (vchange_any hsv A l c d hl hc hd hok (Wrs.old hy0 hy fun k hk => ⟨Or.inl (h.old k hk), by omega, by omega⟩) hf.1 hg hf.2.1 hf.2.2.1 hf.2.2.2).mono ?_
  rintro e w' ⟨he, hs, hm⟩
  exact ⟨he, h.back2 ho hs hm⟩
theorem Tw.change3 (h : Tw w W P q q' gs c0 c1 c2 h1 b1 h2 b2 h3 b3 n G m m' v u x) (hf : x.us ≤ x.g ∧ x.ep + 1 < 4294967296 ∧ x.sq + 1 < 4294967296 ∧ m'.done.length ≤ 998000) (hg : 13 ≤ x.g) (A : Option Addr) (l : List Wr) (c d : Nat) (hl : l.length = c) (hc : c ≤ d) (hd : d ≤ 9223372036854775807) (hok : WrsOk l) (hy0 : Wrs w A l) (hy : Wrs W A l) :
    Calls Try.prog 22 #[.pointer (some ⟨h3, 0, none⟩), .slice A c d] W fun e w' => e = .returned (.int .i64 (if ChOk x l then 0 else 1)) ∧ Tw w w' P q q' gs c0 c1 c2 h1 b1 h2 b2 h3 b3 n G m (chM m' x l) v u (chV x l) := by
  obtain ⟨F', ho, hsv⟩ := h.sv3
  have := h.ord
  refine (vchange_any hsv A l c d hl hc hd hok (Wrs.old hy0 hy fun k hk => ⟨Or.inl (h.old k hk), by omega, by omega⟩) hf.1 hg hf.2.1 hf.2.2.1 hf.2.2.2).mono ?_
  rintro e w' ⟨he, hs, hm⟩
  exact ⟨he, h.back3 ho hs hm⟩
theorem Tw.tidy1 (h : Tw w W P q q' gs c0 c1 c2 h1 b1 h2 b2 h3 b3 n G m m' v u x) (he : v.ep + 1 < 4294967296) (hd : m.done.length ≤ 998000) :
    Calls Try.prog 21 #[.pointer (some ⟨h1, 0, none⟩)] W fun e w' => e = .returned (.tuple #[]) ∧ Tw w w' P q q' gs c0 c1 c2 h1 b1 h2 b2 h3 b3 n G (tidyM m v) m' (homeV v) u x := by
  obtain ⟨F', ho, hsv⟩ := h.sv1
  refine (vtidy_any hsv he (by omega)).mono ?_
  rintro e w' ⟨he, hs, hm⟩
  exact ⟨he, h.back1 ho hs hm⟩
theorem Tw.tidy2 (h : Tw w W P q q' gs c0 c1 c2 h1 b1 h2 b2 h3 b3 n G m m' v u x) (he : u.ep + 1 < 4294967296) (hd : m.done.length ≤ 998000) :
    Calls Try.prog 21 #[.pointer (some ⟨h2, 0, none⟩)] W fun e w' => e = .returned (.tuple #[]) ∧ Tw w w' P q q' gs c0 c1 c2 h1 b1 h2 b2 h3 b3 n G (tidyM m u) m' v (homeV u) x := by
  obtain ⟨F', ho, hsv⟩ := h.sv2
  refine (vtidy_any hsv he (by omega)).mono ?_
  rintro e w' ⟨he, hs, hm⟩
  exact ⟨he, h.back2 ho hs hm⟩
theorem Tw.tidy3 (h : Tw w W P q q' gs c0 c1 c2 h1 b1 h2 b2 h3 b3 n G m m' v u x) (he : x.ep + 1 < 4294967296) (hd : m'.done.length ≤ 998000) :
    Calls Try.prog 21 #[.pointer (some ⟨h3, 0, none⟩)] W fun e w' => e = .returned (.tuple #[]) ∧ Tw w w' P q q' gs c0 c1 c2 h1 b1 h2 b2 h3 b3 n G m (tidyM m' x) v u (homeV x) := by
  obtain ⟨F', ho, hsv⟩ := h.sv3
  refine (vtidy_any hsv he (by omega)).mono ?_
  rintro e w' ⟨he, hs, hm⟩
  exact ⟨he, h.back3 ho hs hm⟩
end
end Go.Proofs.Ytamnpblijdgdaaa

/- The opening of a law of two regions in two devices: made, mounted, in step. -/
namespace Go.Proofs.Ytamnpblijdgdaaa
open Go.ChangeShapes Go.WideShapes Go.ChangeAt Go.RowKit
set_option linter.unusedVariables false
set_option maxRecDepth 100000
theorem mnt_lg (m : DM) (r n g e : Nat) (fr : Int) : ∀ x ∈ (mntV m r n g e fr []).B, x.lg = false := fun x hx => by
  obtain ⟨i, hi⟩ := List.getElem?_of_mem hx
  have h1 : (fetchB _ 0 (layB (List.replicate n zH) ([] : List (List Wr)).flatten))[i]? = some x := hi
  rw [fetchB_at] at h1
  obtain ⟨y, hy, rfl⟩ := Option.map_eq_some_iff.1 h1
  have h2 : (List.replicate n zH)[i]? = some y := hy
  have h3 := List.eq_of_mem_replicate (List.mem_of_getElem? h2)
  subst h3
  rfl
theorem mnt_home (m : DM) (r n g e : Nat) (fr : Int) : homeM m (mntV m r n g e fr []) = m.doBegin r (e + 1) := by
  unfold homeM
  rw [mnt_homeW _ _ _ (mnt_lg m r n g e fr)]; rfl
def dev2 (n g : Nat) : DM := DM.make [((2 + g + n : Nat) : Int), ((2 + g + n : Nat) : Int)]
theorem may2 (n g : Nat) (hn : n ≤ 40) (hg : g ≤ 60) : mayV [((2 + g + n : Nat) : Int), ((2 + g + n : Nat) : Int)] = true := by
  have h : badSize ((2 + g + n : Nat) : Int) = false := by
    unfold badSize; simp only [Bool.or_eq_false_iff, decide_eq_false_iff_not]; omega
  unfold mayV
  rw [show ([((2 + g + n : Nat) : Int), ((2 + g + n : Nat) : Int)].any badSize) = false by rw [List.any_cons, List.any_cons, h]; rfl]; rfl
theorem row2 {n g : Nat} (hn : n ≤ 40) (hg : g ≤ 60) {m : DM} {r N' r' : Nat} (hr : r < 2) (hm : m = dev2 n g ∨ (Fit m r' N' ∧ Off (dev2 n g) m r)) : (rowV m (r : Int) ((1 + g + n : Nat) : Int)).isSome = true := by
  have hz : [((2 + g + n : Nat) : Int), ((2 + g + n : Nat) : Int)][r]? = some ((2 + g + n : Nat) : Int) := by
    match r, hr with
    | 0, _ => rfl
    | 1, _ => rfl
  have hf0 := make_fit (N := 2 + g + n) (may2 n g hn hg) hz (by omega)
  have hf : Fit m r (2 + g + n) := by
    rcases hm with rfl | ⟨h1, h2⟩
    · exact hf0
    · exact Fit.other (m := dev2 n g) hf0 h1 h2
  obtain ⟨b, hb⟩ := hf.get (i := 1 + g + n) (by omega)
  rw [hf.rV, hb]; rfl
def d2a (n g : Nat) : DM := makeM (dev2 n g) (0 : Nat) n g
def d2b (n g : Nat) : DM := makeM (d2a n g) (1 : Nat) n g
def d2c (n g : Nat) : DM := homeM (d2b n g) (mntV (d2b n g) 0 n g 1 3 [])
def d2d (n g : Nat) : DM := homeM (d2c n g) (mntV (d2c n g) 1 n g 1 3 [])
def d2x (n g : Nat) : DM := homeM (d2a n g) (mntV (d2a n g) 0 n g 1 3 [])
def v2a (n g : Nat) : VM := homeV (mntV (d2b n g) 0 n g 1 3 [])
def v2b (n g : Nat) : VM := homeV (mntV (d2c n g) 1 n g 1 3 [])
structure Two0 (n g : Nat) : Prop where
  r0 : (rowV (dev2 n g) ((0 : Nat) : Int) ((1 + g + n : Nat) : Int)).isSome = true
  r1 : (rowV (d2a n g) ((1 : Nat) : Int) ((1 + g + n : Nat) : Int)).isSome = true
  m0 : Mtb (d2b n g) 0 n g 1 (firstS n) []
  m1 : Mtb (d2c n g) 1 n g 1 (firstS n) []
  mx : Mtb (d2a n g) 0 n g 1 (firstS n) []
  same : homeV (mntV (d2a n g) 0 n g 1 3 []) = v2a n g
  da : (d2a n g).done.length ≤ 60
  db : (d2b n g).done.length ≤ 120
  dc : (d2c n g).done.length ≤ 180
  sim : Sim (d2d n g) (d2x n g) 0
  bv : VBd (v2a n g) 0 n g 2 300 (d2d n g)
  bu : VBd (v2b n g) 1 n g 2 300 (d2d n g)
  bx : VBd (v2a n g) 0 n g 2 300 (d2x n g)
theorem two0 {n g : Nat} (hn : n ≤ 40) (hg : g ≤ 60) : Two0 n g := by
  have hmay := may2 n g hn hg
  have hz0 : [((2 + g + n : Nat) : Int), ((2 + g + n : Nat) : Int)][0]? = some ((2 + g + n : Nat) : Int) := rfl
  have hz1 : [((2 + g + n : Nat) : Int), ((2 + g + n : Nat) : Int)][1]? = some ((2 + g + n : Nat) : Int) := rfl
  obtain ⟨i0, _, s0⟩ := new_idle hmay hz0 (n := n) (g := g) (by omega) (by omega)
  have i0' : Idle (d2a n g) 0 n g 1 (firstS n) [] 0 [] 0 := i0
  have oa : Off (dev2 n g) (d2a n g) 1 := Off.make (by omega) _ _ _
  have f1 : Fit (d2a n g) 1 (2 + g + n) := Fit.other (m := dev2 n g) (make_fit (N := 2 + g + n) hmay hz1 (by omega)) i0'.fit oa
  have i1 := (make_idle (n := n) (g := g) f1 s0 (by omega) (fun i b _ hb => by rw [oa.now] at hb; exact make_zero hz1 hb)).1
  have i1' : Idle (d2b n g) 1 n g 1 (firstS n) [] 0 [] 0 := i1
  have ob : Off (d2a n g) (d2b n g) 0 := Off.make (by omega) _ _ _
  have m0 : Mtb (d2b n g) 0 n g 1 (firstS n) [] := i0'.mtb_now.other i1'.fit ob
  have t0 := m0.tied 3 (by omega) (by omega)
  have sb : (d2b n g).stops = false := by show (makeM _ _ _ _).stops = false; rw [ns_make]; exact s0
  have sc : (d2c n g).stops = false := by show (homeM _ _).stops = false; rw [ns_home]; exact sb
  have sd : (d2d n g).stops = false := by show (homeM _ _).stops = false; rw [ns_home]; exact sc
  have sx : (d2x n g).stops = false := by show (homeM _ _).stops = false; rw [ns_home]; exact s0
  have l0 := m0.live t0 (by omega) (ns_of sc)
  have oc : Off (d2b n g) (d2c n g) 1 := Off.home (r := 0) (by omega) _ t0.vr
  have m1 : Mtb (d2c n g) 1 n g 1 (firstS n) [] := i1'.mtb_now.other l0.1.idle.fit oc
  have t1 := m1.tied 3 (by omega) (by omega)
  have l1 := m1.live t1 (by omega) (ns_of sd)
  have mx : Mtb (d2a n g) 0 n g 1 (firstS n) [] := i0'.mtb_now
  have e1 : homeV (mntV (d2a n g) 0 n g 1 3 []) = v2a n g := mnt_same mx m0 3 (by omega) (by omega)
  have da := makeM_done (dev2 n g) ((0 : Nat) : Int) n g
  have db := makeM_done (d2a n g) ((1 : Nat) : Int) n g
  have dc := homeM_done' (d2b n g) 0 n g 1 3 []
  have dd := homeM_done' (d2c n g) 1 n g 1 3 []
  have dx := homeM_done' (d2a n g) 0 n g 1 3 []
  have d0 : (dev2 n g).done.length = 0 := rfl
  have da' : (d2a n g).done.length ≤ 60 := by unfold d2a; omega
  have db' : (d2b n g).done.length ≤ 120 := by unfold d2b; omega
  have dc' : (d2c n g).done.length ≤ 180 := by unfold d2c; omega
  have sm0 : Sim (d2b n g) (d2a n g) 0 := (Sim.off (r := 0) ⟨rfl, s0, s0, rfl, by rw [now_len oa.dims]; exact Nat.le_refl _, oa.tr.trans rfl⟩ ob)
  have sm1 : Sim (d2c n g) (d2x n g) 0 := by
    unfold d2c d2x
    rw [mnt_home, mnt_home]
    exact sm0.begin _
  have od : Off (d2c n g) (d2d n g) 0 := Off.home (r := 1) (by omega) _ t1.vr
  refine ⟨row2 hn hg (by omega) (r' := 0) (N' := 0) (Or.inl rfl), row2 hn hg (by omega) (Or.inr ⟨i0'.fit, oa⟩), m0, m1, mx, e1, da', db', dc', sm1.off od, ⟨l0.1.vok, Nat.le_refl _, by unfold d2d; omega⟩, ⟨l1.1.vok, Nat.le_refl _, by unfold d2d; omega⟩, ⟨l0.1.vok, Nat.le_refl _, by unfold d2x; omega⟩⟩
end Go.Proofs.Ytamnpblijdgdaaa
