/- Contract: clathriref4's front. -/
import Derived.Test.YtbcnjilhibkcnaaMc
namespace Go.Proofs.Ytbcnjilhibkcnaa
open Go.ChangeShapes Go.WideShapes Go.ChangeAt Go.RowKit
set_option linter.unusedVariables false
def VFr (w0 : World) (h b n cap k : Nat) (X : List Ent) (i : Nat) (v : Value) (w : World) : Prop :=
  match i with
  | 1 | 2 | 8 | 9 => v = .pointer (some ⟨h, 0, none⟩)
  | 3 | 10 => v = .pointer (some ⟨h, 1, none⟩)
  | 4 | 11 => v = .slice (some ⟨b, 0, none⟩) n cap
  | 5 | 12 => v = .int .i64 (k : Int)
  | 6 => v = .slice (some ⟨b, 0, none⟩) k cap
  | 13 => v = .int .i64 ((k : Int) + 1)
  | 0 => w.ownsRow 0 64 59 v 0 [] ∧ ∀ x, v.ownBlock = some x → w0.heap.size ≤ x
  | 7 => w.ownsRow 0 64 59 v k (rowL enE (X.take k)) ∧ ∀ x, v.ownBlock = some x → w0.heap.size ≤ x
  | 14 => ∃ ad c, v = .slice (some ad) (n - (k + 1)) c ∧ (0 < n - (k + 1) → ad = ⟨b, (k + 1) * 59, none⟩)
  | 15 => w.ownsRow 0 64 59 v (n - 1) (rowL enE (X.eraseIdx k)) ∧ ∀ x, v.ownBlock = some x → w0.heap.size ≤ x
  | _ => True
def SFr (k i : Nat) (w w' : World) : Prop := Keeps 64 59 (if i = 7 then 0 else if i = 15 then k else 1000000) w w'
theorem VFr.on {w0 : World} {h b n cap k : Nat} {X : List Ent} {i j : Nat} {v : Value} {w w' : World} (hk : k ≤ 1000) (hn : n ≤ 1000) (hij : i ≠ j) (hnw : j = 15 → i ≠ 7) (H : VFr w0 h b n cap k X j v w) (hs : SFr k i w w') : VFr w0 h b n cap k X j v w' := by
  unfold VFr at H ⊢
  split at H
  all_goals try exact H
  · exact ⟨hs _ _ _ (Nat.zero_le _) H.1, H.2⟩
  · exact ⟨hs _ _ _ (by rw [if_neg hij]; split <;> omega) H.1, H.2⟩
  · exact ⟨hs _ _ _ (by rw [if_neg (hnw rfl), if_neg hij]; omega) H.1, H.2⟩
set_option maxRecDepth 100000 in
set_option maxHeartbeats 1600000 in
theorem rfront_any {w : World} {h F : Nat} {X : List Ent} {R : Nat → Prop} (H0 : RA w h F X R) (hR : ∀ k, R k → k < w.heap.size) {k : Nat} {x : Ent} (hx : X[k]? = some x) :
    Calls Try.prog 23 #[.pointer (some ⟨h, 0, none⟩), .int .i64 k] w fun e w' => e = .returned (.tuple #[]) ∧ RA w' h F (x :: X.eraseIdx k) (New R w w') ∧ Stp R w w' := by
  obtain ⟨v, H⟩ := H0
  obtain ⟨A, cap, rfl, hc1, hc2, hA⟩ := H.val
  obtain ⟨b, rfl⟩ := hA k x hx
  have h51 := H.len
  have hkn := (List.getElem?_eq_some_iff.1 hx).1
  have hx56 := (H.ok.at hx).len
  have hz : zE.1.bs.length = 56 := zW_len
  have c1 := H.c1
  have HRG := Lib.hid (H.rangeE hx)
  have HNF := Lib.hid (heap_alloc_new w (.cells (enA zE) 64))
  have HH := Lib.hid H
  have HX := Lib.hid hx
  clear H hA hx
  generalize hn : X.length = n at *
  have HN := Lib.hid hn
  clear hn
  have hki : (k : Int) < n := by omega
  have HRGA : Hid ((w.alloc (.cells (enA zE) 64)).rangeAt b (k * 59) (enE x)) := ((HH.out.below ((Below.refl _ _).alloc (Nat.le_refl _) _)).rangeE HX.out)
  go_enter Try.func23, Try.ntmps23
  go_upto_region 1 with (first
    | (refine wpList_loadE rfl (.tmp 11) rfl b (k * 59) rfl x hx56 HRG.out ?_)
    | (refine wpList_allocE rfl rfl ?_)
    | (refine wpList_storeE rfl (.tmp 4) (.tmp 12) rfl w.heap.size rfl x zE rfl hx56 hz HNF.out ?_))
  have hb1 := new_en_below w x
  have H1 := Lib.hid (HH.out.below hb1)
  have HF1 := Lib.hid (new_en w x)
  have HB1 := Lib.hid hb1
  have hJ0 : Below ((w.alloc (.cells (enA zE) 64)).setRow w.heap.size (enA x)).heap.size ((w.alloc (.cells (enA zE) 64)).setRow w.heap.size (enA x)) ((w.alloc (.cells (enA zE) 64)).setRow w.heap.size (enA x)).drew := (Below.refl _ _).drew
  clear c1 HRG HNF HRGA hb1
  generalize (w.alloc (.cells (enA zE) 64)).setRow w.heap.size (enA x) = W1 at *
  have HC : Hid (∀ W, Below W1.heap.size W1 W → W.cell? ⟨h, 1, none⟩ = some (.slice (some ⟨b, 0, none⟩) n cap)) := fun W hb => (H1.out.below hb).c1
  have HL7 : Hid ((rowL enE (X.take k)).length = k * 59) := by
    unfold Hid
    rw [rowL_length (fun y hy => H1.out.ok.fits y (List.mem_of_mem_take hy)), List.length_take, HN.out]; congr 1; omega
  have HL15 : Hid ((rowL enE (X.drop (k + 1))).length = (n - (k + 1)) * 59) := by
    unfold Hid
    rw [rowL_length (fun y hy => H1.out.ok.fits y (List.mem_of_mem_drop hy)), List.length_drop, HN.out]
  have HS7 : Hid (∀ W, Below W1.heap.size W1 W → ∀ j y, (rowL enE (X.take k))[j]? = some y → W.cell? ((⟨b, 0, none⟩ : Addr).add j) = some y) := fun W hb j y hj => by
    have hr := H1.out.below hb
    rw [Addr.add_mid, Nat.zero_add]
    refine own_cell (show W.ownsRow 0 _ 59 (.slice (some ⟨b, 0, none⟩) n cap) n (rowL enE X) by have := hr.own; rwa [HN.out] at this) ?_
    rw [← rowL_take hr.ok.fits, List.getElem?_take] at hj
    split at hj
    · exact hj
    · cases hj
  have HS15 : Hid (∀ W, Below W1.heap.size W1 W → ∀ ad : Addr, (0 < n - (k + 1) → ad = ⟨b, (k + 1) * 59, none⟩) → ∀ j y, (rowL enE (X.drop (k + 1)))[j]? = some y → W.cell? (ad.add j) = some y) := fun W hb ad had j y hj => by
    have hr := H1.out.below hb
    have hpos : 0 < n - (k + 1) := by
      have := (List.getElem?_eq_some_iff.1 hj).1
      rw [HL15.out] at this
      omega
    rw [had hpos, Addr.add_mid]
    refine own_cell (show W.ownsRow 0 _ 59 (.slice (some ⟨b, 0, none⟩) n cap) n (rowL enE X) by have := hr.own; rwa [HN.out] at this) ?_
    rw [← rowL_drop hr.ok.fits, List.getElem?_drop] at hj
    exact hj
  have srefl : ∀ (i : Nat) (W : World), SFr k i W W := fun i W => Keeps.refl _ _ _ _
  have hkc : (k : Int) ≤ cap := by omega
  have hkc2 : k ≤ cap := by omega
  have hk0 : (0 : Int) ≤ k := by omega
  have wk : IntKind.i64.wrap ((k : Int) + 1) = (k : Int) + 1 := IntWalk.i64_in _ (by omega)
  have hk1 : (k : Int) + 1 ≤ n := by omega
  have hk2 : (0 : Int) ≤ (k : Int) + 1 := by omega
  have hnc : (n : Int) ≤ cap := by omega
  have hk3 : ((k : Int) + 1).toNat = k + 1 := by omega
  have hk4 : k + 1 ≤ n := by omega
  refine wp_region_rgk (VFr W1 h b n cap k X) (fun L W => Below W1.heap.size W1 W) (SFr k) (by kernel_rfl) (by kernel_rfl) (fun i j v' w' w'' hij hind hv hg => VFr.on (by omega) (by omega) hij (fun hj hi => by subst hj; subst hi; exact absurd (hind.symm.trans (show indepB _ 15 7 = false by kernel_rfl)) (by decide)) hv hg) hJ0 ?_
  clear hJ0
  simp only [RAll]
  refine ⟨?_, ?_, ?_, ?_, ?_, ?_, ?_, ?_, ?_, ?_, ?_, ?_, ?_, ?_, ?_, ?_, ?_⟩
  · refine RStepK.of rfl fun T W L hag hL hJ hLs hd => ?_   -- 0: 13 := Op.buildSlice 42 0 #[]
    clear hag hd
    go_simp
    exact ⟨_, rfl, ⟨World.ownsRow_lit W #[] 0 (Nat.zero_le _) (Nat.zero_le _) rfl, fun y hy => by injection hy with hy; subst hy; exact hJ.size⟩, hJ.alloc hJ.size _, Keeps.none (World.grownBy_alloc W _ none)⟩
  · refine RStepK.of rfl fun T W L hag hL hJ hLs hd => ?_   -- 1: 14 := Op.move (Operand.tmp 0)
    have e0 : T.getD 0 undef = _ := (agree_at hag 0 (by kernel_rfl)).trans rfl
    clear hag hd
    go_simp
    exact ⟨_, rfl, rfl⟩
  · refine RStepK.of rfl fun T W L hag hL hJ hLs hd => ?_   -- 2: 15 := Op.nilCheck (Operand.tmp 14)
    have d14 : T.getD 14 undef = _ := hd ⟨1, .data⟩ (by simp) rfl _ rfl
    clear hag hd
    go_simp
    exact ⟨_, rfl, rfl⟩
  · refine RStepK.of rfl fun T W L hag hL hJ hLs hd => ?_   -- 3: 16 := Op.fieldAddr 44 (Operand.tmp 15) 1
    have d15 : T.getD 15 undef = _ := hd ⟨2, .data⟩ (by simp) rfl _ rfl
    clear hag hd
    go_simp
    exact ⟨_, rfl, rfl⟩
  · refine RStepK.of rfl fun T W L hag hL hJ hLs hd => ?_   -- 4: 17 := Op.load 42 (Operand.tmp 16)
    have d16 : T.getD 16 undef = _ := hd ⟨3, .data⟩ (by simp) rfl _ rfl
    have fct0 := HC.out W hJ
    clear hag hd
    go_simp
    exact ⟨_, rfl, rfl⟩
  · refine RStepK.of rfl fun T W L hag hL hJ hLs hd => ?_   -- 5: 18 := Op.move (Operand.tmp 1)
    have e1 : T.getD 1 undef = _ := (agree_at hag 1 (by kernel_rfl)).trans rfl
    clear hag hd
    go_simp
    exact ⟨_, rfl, rfl⟩
  · refine RStepK.of rfl fun T W L hag hL hJ hLs hd => ?_   -- 6: 19 := Op.slice 42 (Operand.tmp 17) none (some (Operand.tmp 18)) no
    have d17 : T.getD 17 undef = _ := hd ⟨4, .data⟩ (by simp) rfl _ rfl
    have d18 : T.getD 18 undef = _ := hd ⟨5, .data⟩ (by simp) rfl _ rfl
    clear hag hd
    go_simp
    exact ⟨_, rfl, rfl⟩
  · refine RStepK.of rfl fun T W L hag hL hJ hLs hd => ?_   -- 7: 20 := Op.call { callee := Callee.builtin Builtin.append, args := #
    have x13 := hd ⟨0, .data⟩ (by simp) rfl _ rfl
    have d19 : T.getD 19 undef = _ := hd ⟨6, .data⟩ (by simp) rfl _ rfl
    have x13 : W.ownsRow 0 64 59 (T.getD 13 undef) 0 [] ∧ ∀ x, (T.getD 13 undef).ownBlock = some x → W1.heap.size ≤ x := x13
    clear hag hd
    refine wp_app_E (.tmp 13) (.tmp 19) rfl _ 0 [] rfl x13.1 _ k (rowL enE (X.take k)) d19 (.inr ⟨_, _, rfl, ?_⟩) HL7.out (rowL_one enE_one _) (by omega) ?_
    · exact HS7.out W hJ
    · intro v' w' h1 h2 h3 h4
      refine ⟨_, rfl, ⟨by simpa using h1, fun y hy => ?_⟩, hJ.grown h2 hJ.size x13.2, h4⟩
      rcases h3 with h3 | h3
      · exact x13.2 y (h3.symm.trans hy)
      · rw [h3] at hy; injection hy with hy; subst hy; exact hJ.size
  · refine RStepK.of rfl fun T W L hag hL hJ hLs hd => ?_   -- 8: 21 := Op.move (Operand.tmp 0)
    have e0 : T.getD 0 undef = _ := (agree_at hag 0 (by kernel_rfl)).trans rfl
    clear hag hd
    go_simp
    exact ⟨_, rfl, rfl⟩
  · refine RStepK.of rfl fun T W L hag hL hJ hLs hd => ?_   -- 9: 22 := Op.nilCheck (Operand.tmp 21)
    have d21 : T.getD 21 undef = _ := hd ⟨8, .data⟩ (by simp) rfl _ rfl
    clear hag hd
    go_simp
    exact ⟨_, rfl, rfl⟩
  · refine RStepK.of rfl fun T W L hag hL hJ hLs hd => ?_   -- 10: 23 := Op.fieldAddr 44 (Operand.tmp 22) 1
    have d22 : T.getD 22 undef = _ := hd ⟨9, .data⟩ (by simp) rfl _ rfl
    clear hag hd
    go_simp
    exact ⟨_, rfl, rfl⟩
  · refine RStepK.of rfl fun T W L hag hL hJ hLs hd => ?_   -- 11: 24 := Op.load 42 (Operand.tmp 23)
    have d23 : T.getD 23 undef = _ := hd ⟨10, .data⟩ (by simp) rfl _ rfl
    have fct0 := HC.out W hJ
    clear hag hd
    go_simp
    exact ⟨_, rfl, rfl⟩
  · refine RStepK.of rfl fun T W L hag hL hJ hLs hd => ?_   -- 12: 25 := Op.move (Operand.tmp 1)
    have e1 : T.getD 1 undef = _ := (agree_at hag 1 (by kernel_rfl)).trans rfl
    clear hag hd
    go_simp
    exact ⟨_, rfl, rfl⟩
  · refine RStepK.of rfl fun T W L hag hL hJ hLs hd => ?_   -- 13: 26 := Op.binOp BinOp.add 3 (Operand.tmp 25) (Operand.const (Value.
    have d25 : T.getD 25 undef = _ := hd ⟨12, .data⟩ (by simp) rfl _ rfl
    clear hag hd
    go_simp
    exact ⟨_, rfl, rfl⟩
  · refine RStepK.of rfl fun T W L hag hL hJ hLs hd => ?_   -- 14: 27 := Op.slice 42 (Operand.tmp 24) (some (Operand.tmp 26)) none no
    have d24 : T.getD 24 undef = _ := hd ⟨11, .data⟩ (by simp) rfl _ rfl
    have d26 : T.getD 26 undef = _ := hd ⟨13, .data⟩ (by simp) rfl _ rfl
    clear hag hd
    go_simp
    refine ⟨_, rfl, ?_⟩
    by_cases hcc : cap = k + 1
    · rw [if_pos hcc]; exact ⟨_, _, rfl, fun h0 => by omega⟩
    · rw [if_neg hcc]; exact ⟨_, _, rfl, fun _ => rfl⟩
  · refine RStepK.of rfl fun T W L hag hL hJ hLs hd => ?_   -- 15: 28 := Op.call { callee := Callee.builtin Builtin.append, args := #
    have x20 := hd ⟨7, .data⟩ (by simp) rfl _ rfl
    have x27 := hd ⟨14, .data⟩ (by simp) rfl _ rfl
    have x20 : W.ownsRow 0 64 59 (T.getD 20 undef) k (rowL enE (X.take k)) ∧ ∀ x, (T.getD 20 undef).ownBlock = some x → W1.heap.size ≤ x := x20
    clear hag hd
    obtain ⟨ad, c, e27, had⟩ := x27
    refine wp_app_E (.tmp 20) (.tmp 27) rfl _ k _ rfl x20.1 _ (n - (k + 1)) (rowL enE (X.drop (k + 1))) e27 (.inr ⟨_, _, rfl, ?_⟩) HL15.out (rowL_one enE_one _) (by omega) ?_
    · exact HS15.out W hJ ad had
    · intro v' w' h1 h2 h3 h4
      rw [← rowL_append, ← List.eraseIdx_eq_take_drop_succ, show k + (n - (k + 1)) = n - 1 by omega] at h1
      refine ⟨_, rfl, ⟨h1, fun y hy => ?_⟩, hJ.grown h2 hJ.size x20.2, h4⟩
      rcases h3 with h3 | h3
      · exact x20.2 y (h3.symm.trans hy)
      · rw [h3] at hy; injection hy with hy; subst hy; exact hJ.size
  · refine RLastK.of rfl fun T W L hag hLs hL hJ hd => ?_
    have x28 : W.ownsRow 0 64 59 (T.getD 28 undef) (n - 1) (rowL enE (X.eraseIdx k)) ∧ ∀ x, (T.getD 28 undef).ownBlock = some x → W1.heap.size ≤ x := hd 15 _ (by simp) rfl
    obtain ⟨f, hf, hT⟩ := agree_fn hag
    have h28 := hf 28
    rw [← h28] at x28
    have HX28 := Lib.hid x28
    have HJ := Lib.hid hJ
    clear hag hd x28 h28 hJ hf
    rw [hT]
    clear hT
    simp only [List.pop_toArray, List.dropLast_cons_cons, List.dropLast_singleton, List.filterMap_cons, List.filterMap_nil, List.foldl_cons, List.foldl_nil]
    obtain ⟨vn, hvn⟩ : ∃ vn, vn = f 28 := ⟨_, rfl⟩
    rw [← hvn] at HX28 ⊢
    clear hvn
    have HF2 := Lib.hid (kb HJ.out HF1.out)
    have H2 := Lib.hid (H1.out.below HJ.out)
    have HB2 := Lib.hid (keepB HB1.out HJ.out)
    have HEL : Hid ((X.eraseIdx k).length = n - 1) := by unfold Hid; rw [List.length_eraseIdx_of_lt (by rw [HN.out]; omega), HN.out]
    have HLX : Hid ((rowL enE (X.eraseIdx k)).length = (n - 1) * 59) := by
      unfold Hid
      rw [rowL_length (fun y hy => H1.out.ok.fits y (List.mem_of_mem_eraseIdx hy)), HEL.out]
    have HSZ1 : Hid (w.heap.size ≤ W.heap.size) := HB2.out.size
    have HOKX : Hid (EntsOk (x :: X.eraseIdx k)) := fun y hy => by
      rcases List.mem_cons.1 hy with rfl | hy
      · exact H1.out.ok.at HX.out
      · exact H1.out.ok y (List.mem_of_mem_eraseIdx hy)
    go_wp2_with (first
      | (refine wpList_loadE rfl (.tmp 4) rfl w.heap.size 0 rfl x hx56 (range_en HF2.out) ?_)
      | (refine wpList_oneE rfl (.tmp 30) rfl x hx56 rfl ?_)
      | (at_builtin
         go_loud (refine wpList_app_E rfl (.tmp 31) (.tmp 32) rfl _ 1 (rowL enE [x]) rfl (own_oneE hx56) vn (n - 1) (rowL enE (X.eraseIdx k)) rfl (Src.own (HX28.out.1.alloc _)) HLX.out (rowL_one enE_one _) (by omega) ?_)
         intro v2 w2 h1 h2 h3 h4
         replace h2 : (W.alloc (.cells (enA x) 64)).grownBy w2 (some W.heap.size) := h2
         replace h3 : v2.ownBlock = some W.heap.size ∨ v2.ownBlock = some (W.alloc (.cells (enA x) 64)).heap.size := h3
         rw [← rowL_append, List.singleton_append, show 1 + (n - 1) = (x :: X.eraseIdx k).length by rw [List.length_cons, HEL.out]; omega] at h1
         obtain ⟨bn, cn, rfl⟩ := own_is h1 (by simp)
         have hbk : w2.heap[h]? = some (.cells #[.int .i64 F, .slice (some ⟨b, 0, none⟩) n cap] 44 (0, 0)) := by
           rw [h2.block h (by rw [size_alloc']; have := H2.out.glt; omega) (fun e => by injection e with e; have := H2.out.glt; omega)]
           exact heap_alloc_old' _ _ H2.out.blk
         have hv2 : ∀ y, (Value.slice (some ⟨bn, 0, none⟩) (x :: X.eraseIdx k).length cn).ownBlock = some y → w.heap.size ≤ y := fun y hy => by
           have := HSZ1.out
           rcases h3 with h3 | h3
           · rw [h3] at hy; injection hy with hy; subst hy; exact this
           · rw [h3, size_alloc'] at hy; injection hy with hy; omega
         have hst : Stp R w w2 := ((((Stp.refl R w).ofBelow HB2.out).alloc _).grown h2 (fun y hy hlt => by injection hy with hy; have := HSZ1.out; omega))
         have HR2 := Lib.hid (RV.next (w := w) (R := R) hbk h1 hv2 H2.out.Rg HH.out.glt HOKX.out H2.out.few (by rw [List.length_cons, HEL.out]; omega))
         have HS2 : Hid (Stp R w (w2.setCell ⟨h, 1, none⟩ (.slice (some ⟨bn, 0, none⟩) (x :: X.eraseIdx k).length cn))) := hst.setCell (fun _ => H2.out.Rg) _
         have cw : w2.cell? ⟨h, 1, none⟩ = some (.slice (some ⟨b, 0, none⟩) n cap) := by rw [blk_cell hbk]; rfl
         have cf : w2.frozen? ⟨h, 1, none⟩ = false := blk_free hbk 1
         clear h1 h2 h3 h4 hbk hv2 hst))
    go_end0
    exact ⟨rfl, ⟨_, HR2.out⟩, HS2.out⟩

end Go.Proofs.Ytbcnjilhibkcnaa
