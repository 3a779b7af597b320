/- Contracts: clathriref4's Peek, Clean; cache.Clean; what a nil cache tells. -/
import Derived.Test.YtbcnjilhibkcnaaMa
namespace Go.Proofs.Ytbcnjilhibkcnaa
open Go.ChangeShapes Go.WideShapes Go.ChangeAt Go.RowKit
open Fx
set_option linter.unusedVariables false
set_option maxRecDepth 100000 in
theorem rpeek_any {w : World} {h F : Nat} {L : List Ent} {R : Nat → Prop} (H0 : RA w h F L R) (t : Int) (ht : i64 t) :
    Calls Try.prog 13 #[.pointer (some ⟨h, 0, none⟩), .int .i64 t] w fun e w' => e = .returned (ansM L t) ∧ Below w.heap.size w w' := by
  obtain ⟨v, H⟩ := H0
  obtain ⟨A, cap, rfl, hc1, hc2, hA⟩ := H.val
  have hbel0 : Below w.heap.size w (w.alloc (.cells (blkA 0 zBs) 32)) := (Below.refl _ _).alloc (Nat.le_refl _) _
  have H1 := Lib.hid (H.below hbel0)
  have c1 := H1.out.c1
  have HM1 := Lib.hid (heap_alloc_new w (.cells (blkA 0 zBs) 32))
  have HB1 := Lib.hid hbel0
  have HA := Lib.hid hA
  have hz := zBs_len
  have h51 := H.len
  clear H hA hbel0
  generalize hn : L.length = n at *
  have HN := Lib.hid hn
  clear hn
  go_enter Try.func13, Try.ntmps13
  go_upto_region 1 with (first
    | (refine wpList_allocB rfl rfl ?_))
  generalize w.alloc (.cells (blkA 0 zBs) 32) = W1 at *
  go_wp2_with fail
  refine (rplace_any H1.out t ht).mono ?_
  rintro e W2 ⟨rfl, rfl⟩
  rcases hp : posL L t with _ | k
  · have e0 : placeI L t = -1 := by unfold placeI; rw [hp]
    have e1 : ansM L t = ansB 0 zBs false := by unfold ansM; rw [hp]
    rw [e0]
    have HE1 := Lib.hid e1
    have hlt : (-1 : Int) < 0 := by omega
    clear hp e0 e1
    go_wp2_with (first
      | (refine wpList_buildB0 rfl rfl ?_)
      | (refine wpList_storeB rfl (.tmp 4) (.tmp 12) rfl w.heap.size rfl 0 0 zBs zBs rfl hz hz HM1.out ?_))
    (try simp only [Exit.jump])
    refine bodyPost_ret (results_blk rfl _ _ w.heap.size 0 zBs rfl hz (setRow_heap _ _ _ _ _ _ HM1.out)) rfl ?_
    exact ⟨by rw [HE1.out]; rfl, below_setRow HB1.out (Nat.le_refl _) _⟩
  · obtain ⟨x, hx, hxt⟩ := posL_is hp
    obtain ⟨b, rfl⟩ := HA.out k x hx
    have hkn := posL_lt hp
    rw [HN.out] at hkn
    have e0 : placeI L t = k := by unfold placeI; rw [hp]
    have e1 : ansM L t = ansB x.1.k x.1.bs true := by unfold ansM; rw [hp]; simp only; rw [getD_of hx]
    rw [e0]
    have HE1 := Lib.hid e1
    have hx56 := (H1.out.ok.at hx).len
    have HRG := Lib.hid (H1.out.rangeB hx)
    have hlt : ¬ (k : Int) < 0 := by omega
    have hkl : (k : Int) < n := by omega
    clear hp hx hxt e0 e1
    go_wp2_with (first
      | (refine wpList_loadBm rfl (.tmp 19) rfl b (k * 59 + 1) rfl x.1.k x.1.bs hx56 HRG.out ?_)
      | (refine wpList_storeB rfl (.tmp 4) (.tmp 20) rfl w.heap.size rfl x.1.k 0 x.1.bs zBs rfl hx56 hz HM1.out ?_))
    (try simp only [Exit.jump])
    refine bodyPost_ret (results_blk rfl _ _ w.heap.size x.1.k x.1.bs rfl hx56 (setRow_heap _ _ _ _ _ _ HM1.out)) rfl ?_
    exact ⟨by rw [HE1.out]; rfl, below_setRow HB1.out (Nat.le_refl _) _⟩
/-! Clean. -/
def cleanL (L : List Ent) : List Ent := L.map fun x => (x.1, false)
theorem cleanL_next {L : List Ent} {k : Nat} {x : Ent} (h : L[k]? = some x) : (cleanL (L.take k) ++ L.drop k).set k (x.1, false) = cleanL (L.take (k + 1)) ++ L.drop (k + 1) := by
  have hl := (List.getElem?_eq_some_iff.1 h).1
  unfold cleanL
  rw [List.set_append_right _ _ (by simp; omega), take_snoc' h, List.map_append]
  simp only [List.length_map, List.length_take]
  rw [show k - min k L.length = 0 by omega, List.drop_eq_getElem_cons hl]
  simp only [List.set_cons_zero, List.map_cons, List.map_nil, List.append_assoc, List.singleton_append]
theorem cleanL_at {L : List Ent} {k : Nat} {x : Ent} (h : L[k]? = some x) : (cleanL (L.take k) ++ L.drop k)[k]? = some x := by
  have hl := (List.getElem?_eq_some_iff.1 h).1
  unfold cleanL
  rw [List.getElem?_append_right (by simp; omega)]
  simp only [List.length_map, List.length_take]
  rw [show k - min k L.length = 0 by omega, List.getElem?_drop]
  exact h
theorem cleanL_whole (L : List Ent) {n : Nat} (h : L.length = n) : cleanL (L.take n) ++ L.drop n = cleanL L := by
  rw [List.take_of_length_le (by omega), List.drop_of_length_le (by omega), List.append_nil]
set_option maxRecDepth 100000 in
theorem rclean_any {w : World} {h F : Nat} {L : List Ent} {R : Nat → Prop} (H0 : RA w h F L R) :
    Calls Try.prog 15 #[.pointer (some ⟨h, 0, none⟩)] w fun e w' => e = .returned (.tuple #[]) ∧ RA w' h F (cleanL L) R ∧ Stp R w w' := by
  obtain ⟨v, H⟩ := H0
  obtain ⟨A, cap, rfl, hc1, hc2, hA⟩ := H.val
  have HH := Lib.hid H
  have HA := Lib.hid hA
  have h51 := H.len
  clear H hA
  generalize hn : L.length = n at *
  have HN := Lib.hid hn
  clear hn
  go_enter Try.func15, Try.ntmps15
  go_wp2
  go_loopw [2] (fun i wr => ∃ j : Nat, i = .int .i64 j ∧ j ≤ n ∧ Hid (RV wr h F (cleanL (L.take j) ++ L.drop j) R (.slice A n cap)) ∧ Hid (Stp R w wr)) (fun i _ => n - (intOf i).toNat)
  case atStart => exact ⟨0, rfl, Nat.zero_le _, by unfold cleanL; simpa using HH, Stp.refl _ _⟩
  case round =>
    obtain ⟨j, rfl, hj, HC, HST⟩ := hrel
    obtain ⟨W, rfl⟩ : ∃ W, W = wr := ⟨wr, rfl⟩
    have c1 := HC.out.c1
    by_cases hlt : j < n
    · have hlt2 : (j : Int) < n := by omega
      obtain ⟨x, hx⟩ : ∃ x, L[j]? = some x := ⟨_, List.getElem?_eq_getElem (by rw [HN.out]; exact hlt)⟩
      obtain ⟨b, rfl⟩ := HA.out j x hx
      have hat := cleanL_at hx
      have e58 := HC.out.cell58 hat
      have ff58 := HC.out.ffree (j * 59 + 58)
      have hnx := HC.out.setD hat false
      rw [cleanL_next hx] at hnx
      have HNX := Lib.hid hnx
      have HS2 : Hid (Stp R w (W.setCell ⟨b, j * 59 + 58, none⟩ (.bool false))) := HST.out.setCell (fun _ => (HC.out.Rv b rfl).1) _
      clear hat hnx hx
      go_wp2_with fail
      go_roundw
      case rel => exact ⟨j + 1, by go_num, by omega, HNX, HS2⟩
      case measure => simp [intOf]; omega
    · obtain rfl : j = n := by omega
      have hnn : ¬ (j : Int) < j := by omega
      have hw := HC.out
      rw [cleanL_whole L HN.out] at hw
      have HW := Lib.hid hw
      clear hw HC
      go_wp2_with fail
      go_end0
      exact ⟨rfl, ⟨_, HW.out⟩, HST.out⟩
/-- A frame that is clean. -/
def clF (f : Fr) : Fr := ⟨f.w, f.a, false⟩
def clFs (l : List Fr) : List Fr := l.map clF
theorem clFs_next {l : List Fr} {k : Nat} {f : Fr} (h : l[k]? = some f) : (clFs (l.take k) ++ l.drop k).set k ⟨f.w, f.a, false⟩ = clFs (l.take (k + 1)) ++ l.drop (k + 1) := by
  have hl := (List.getElem?_eq_some_iff.1 h).1
  unfold clFs
  rw [List.set_append_right _ _ (by simp; omega), take_snoc' h, List.map_append]
  simp only [List.length_map, List.length_take]
  rw [show k - min k l.length = 0 by omega, List.drop_eq_getElem_cons hl]
  simp only [List.set_cons_zero, List.map_cons, List.map_nil, List.append_assoc, List.singleton_append]
  rfl
theorem clFs_at {l : List Fr} {k : Nat} {f : Fr} (h : l[k]? = some f) : (clFs (l.take k) ++ l.drop k)[k]? = some f := by
  have hl := (List.getElem?_eq_some_iff.1 h).1
  unfold clFs
  rw [List.getElem?_append_right (by simp; omega)]
  simp only [List.length_map, List.length_take]
  rw [show k - min k l.length = 0 by omega, List.getElem?_drop]
  exact h
theorem clFs_whole (l : List Fr) {n : Nat} (h : l.length = n) : clFs (l.take n) ++ l.drop n = clFs l := by
  rw [List.take_of_length_le (by omega), List.drop_of_length_le (by omega), List.append_nil]
set_option maxRecDepth 100000 in
theorem clean_any {w : World} {g m : Nat} {l : List Fr} {R : Nat → Prop} (H0 : CAt w g m l R) :
    Calls Try.prog 14 #[.pointer (some ⟨g, 0, none⟩)] w fun e w' => e = .returned (.tuple #[]) ∧ CAt w' g m (clFs l) R ∧ Stp R w w' := by
  obtain ⟨v, H⟩ := H0
  obtain ⟨A, cap, rfl, hc1, hc2, hA⟩ := H.val
  have HH := Lib.hid H
  have HA := Lib.hid hA
  have h51 := H.len
  have c0 := H.c0
  clear H hA
  generalize hn : l.length = n at *
  have HN := Lib.hid hn
  clear hn
  go_enter Try.func14, Try.ntmps14
  go_wp2
  go_loopw [11] (fun i wr => ∃ j : Nat, i = .int .i64 j ∧ j ≤ n ∧ Hid (CV wr g m (clFs (l.take j) ++ l.drop j) R (.slice A n cap)) ∧ Hid (Stp R w wr)) (fun i _ => n - (intOf i).toNat)
  case atStart => exact ⟨0, rfl, Nat.zero_le _, by unfold clFs; simpa using HH, Stp.refl _ _⟩
  case round =>
    obtain ⟨j, rfl, hj, HC, HST⟩ := hrel
    obtain ⟨W, rfl⟩ : ∃ W, W = wr := ⟨wr, rfl⟩
    clear c0
    have c0 := HC.out.c0
    by_cases hlt : j < n
    · have hlt2 : (j : Int) < n := by omega
      obtain ⟨x, hx⟩ : ∃ x, l[j]? = some x := ⟨_, List.getElem?_eq_getElem (by rw [HN.out]; exact hlt)⟩
      obtain ⟨b, rfl⟩ := HA.out j x hx
      have hat := clFs_at hx
      have e58 := HC.out.cell58 hat
      have ff58 := HC.out.ffree (j * 59 + 58)
      have hnx := HC.out.setS hat x.a false
      rw [clFs_next hx] at hnx
      have hcx : cx x.a false = .complex .f64 (fb x.a) 0 := by unfold cx dv; simp [Fx.fb_zero]
      rw [hcx] at hnx
      have HNX := Lib.hid hnx
      have HS2 : Hid (Stp R w (W.setCell ⟨b, j * 59 + 58, none⟩ (.complex .f64 (fb x.a) 0))) := HST.out.setCell (fun _ => (HC.out.Rv b rfl).1) _
      unfold cx at e58
      have hstc := run_storeC (x := fb x.a) (y := 0) e58 ff58
      clear hat hnx hx hcx
      generalize fb x.a = fxa at *
      generalize fb (dv x.d) = fxd at *
      go_wp2_with fail
      go_roundw
      case rel => exact ⟨j + 1, by go_num, by omega, HNX, HS2⟩
      case measure => simp [intOf]; omega
    · obtain rfl : j = n := by omega
      have hnn : ¬ (j : Int) < j := by omega
      have hw := HC.out
      rw [clFs_whole l HN.out] at hw
      have HW := Lib.hid hw
      clear hw HC
      go_wp2_with fail
      go_end0
      exact ⟨rfl, ⟨_, HW.out⟩, HST.out⟩
theorem clean_m {w : World} {g m : Nat} {L : List Ent} {R : Nat → Prop} (h : Cached w g m L R) :
    Calls Try.prog 14 #[.pointer (some ⟨g, 0, none⟩)] w fun e w' => e = .returned (.tuple #[]) ∧ Cached w' g m (cleanL L) R ∧ Stp R w w' := by
  obtain ⟨l, h1, h2, h3, h4⟩ := h
  refine (clean_any h1).mono ?_
  rintro e w' ⟨rfl, hc, hs⟩
  refine ⟨rfl, ⟨_, hc, ⟨by unfold cleanL clFs; simp [h2.len], fun i f hi => ?_, fun i j f f' hi hj e => ?_, fun a ha => ?_⟩, by unfold Dis cleanL; rw [List.map_map]; exact h3, by unfold cleanL; rw [List.length_map]; exact h4⟩, hs⟩
  · unfold clFs at hi
    rw [List.getElem?_map] at hi
    obtain ⟨y, hy, rfl⟩ := Option.map_eq_some_iff.1 hi
    unfold cleanL
    rw [List.getElem?_map, show (clF y).a = y.a from rfl, h2.at_ i y hy]; rfl
  · unfold clFs at hi hj
    rw [List.getElem?_map] at hi hj
    obtain ⟨y, hy, rfl⟩ := Option.map_eq_some_iff.1 hi
    obtain ⟨z, hz, rfl⟩ := Option.map_eq_some_iff.1 hj
    exact h2.inj _ _ _ _ hy hz e
  · unfold clFs at ha ⊢
    rw [List.length_map] at ha
    obtain ⟨i, f, hf, hfa⟩ := h2.sur a ha
    exact ⟨i, clF f, by rw [List.getElem?_map, hf]; rfl, hfa⟩
theorem clean_s {B : Nat} {w : World} {g m : Nat} {L : List Ent} {R : Nat → Prop} (h : St B w g m L R) :
    Calls Try.prog 14 #[.pointer (some ⟨g, 0, none⟩)] w fun e w' => e = .returned (.tuple #[]) ∧ St B w' g m (cleanL L) R ∧ Stp R w w' :=
  (clean_m h.c).mono fun e w' ⟨h1, h2, h3⟩ => ⟨h1, ⟨h2, fun k hk => Nat.lt_of_lt_of_le (h.hi k hk) h3.size, h.lo⟩, h3⟩
theorem clean_nil (w : World) : Calls Try.prog 14 #[.pointer none] w fun e w' => e = .returned (.tuple #[]) ∧ w = w' := by
  go_enter Try.func14, Try.ntmps14
  go_wp2
  (try simp only [Exit.inBlock, Exit.then])
  refine bodyPost_ret (results_none rfl _ _ _) rfl ?_
  exact ⟨rfl, rfl⟩
set_option maxRecDepth 100000 in
theorem find_nil (t : Int) (w : World) : Calls Try.prog 21 #[.pointer none, .int .i64 t] w fun e w' => e = .returned (.pointer none) ∧ w = w' := by
  have HL := Lib.hid (len_nil w)
  go_enter Try.func21, Try.ntmps21
  go_wp2
  refine wp_scope1e (fun a' w' => w' = w ∧ ∃ u6 u7 u8 u9 u10 u11 u12 u13 u14 u15 u16 u17 u18 u19 u20 u21 u22 u23 u24 u25 u26 u27 u28 : Value, a' = { tmps := #[.pointer none, .int .i64 t, undef, undef, .pointer none, .int .i64 0, u6, u7, u8, u9, u10, u11, u12, u13, u14, u15, u16, u17, u18, u19, u20, u21, u22, u23, u24, u25, u26, u27, u28], defers := [] })
    (fun a' _ => 0) rfl ?_ ?_
  · intro HF
    go_wp2
    go_step3
    rename_i hK
    exact hK _ _ (HF _ _ ⟨rfl, _, _, _, _, _, _, _, _, _, _, _, _, _, _, _, _, _, _, _, _, _, _, _, rfl⟩)
  · rintro a' w' ⟨rfl, u6, u7, u8, u9, u10, u11, u12, u13, u14, u15, u16, u17, u18, u19, u20, u21, u22, u23, u24, u25, u26, u27, u28, rfl⟩
    go_wp2_with fail
    refine HL.out.mono ?_; rintro e w' ⟨rfl, rfl⟩
    go_wp2_with fail
    simp only [Exit.jump]
    go_ret
    exact ⟨rfl, rfl⟩
set_option maxRecDepth 100000 in
theorem peek_nil (t : Int) (w : World) : Calls Try.prog 12 #[.pointer none, .int .i64 t] w fun e w' => e = .returned (ansB 0 zBs false) ∧ Below w.heap.size w w' := by
  have hbel0 : Below w.heap.size w (w.alloc (.cells (blkA 0 zBs) 32)) := (Below.refl _ _).alloc (Nat.le_refl _) _
  have HM1 := Lib.hid (heap_alloc_new w (.cells (blkA 0 zBs) 32))
  have HB1 := Lib.hid hbel0
  have hz := zBs_len
  clear hbel0
  go_enter Try.func12, Try.ntmps12
  go_upto_region 1 with (first
    | (refine wpList_allocB rfl rfl ?_))
  generalize w.alloc (.cells (blkA 0 zBs) 32) = W1 at *
  go_wp2_with fail
  refine (find_nil t W1).mono ?_
  rintro e W2 ⟨rfl, rfl⟩
  go_wp2_with (first
    | (refine wpList_buildB0 rfl rfl ?_)
    | (refine wpList_storeB rfl (.tmp 4) (.tmp 12) rfl w.heap.size rfl 0 0 zBs zBs rfl hz hz HM1.out ?_))
  (try simp only [Exit.jump])
  refine bodyPost_ret (results_blk rfl _ _ w.heap.size 0 zBs rfl hz (setRow_heap _ _ _ _ _ _ HM1.out)) rfl ?_
  exact ⟨rfl, below_setRow HB1.out (Nat.le_refl _) _⟩
set_option maxRecDepth 100000 in
theorem get_nil (t : Int) (w : World) : Calls Try.prog 10 #[.pointer none, .int .i64 t] w fun e w' => e = .returned (ansB 0 zBs false) ∧ Below w.heap.size w w' := by
  have hbel0 : Below w.heap.size w (w.alloc (.cells (blkA 0 zBs) 32)) := (Below.refl _ _).alloc (Nat.le_refl _) _
  have HM1 := Lib.hid (heap_alloc_new w (.cells (blkA 0 zBs) 32))
  have HB1 := Lib.hid hbel0
  have hz := zBs_len
  clear hbel0
  go_enter Try.func10, Try.ntmps10
  go_upto_region 1 with (first
    | (refine wpList_allocB rfl rfl ?_))
  generalize w.alloc (.cells (blkA 0 zBs) 32) = W1 at *
  go_wp2_with fail
  refine (find_nil t W1).mono ?_
  rintro e W2 ⟨rfl, rfl⟩
  go_wp2_with (first
    | (refine wpList_buildB0 rfl rfl ?_)
    | (refine wpList_storeB rfl (.tmp 4) (.tmp 12) rfl w.heap.size rfl 0 0 zBs zBs rfl hz hz HM1.out ?_))
  (try simp only [Exit.jump])
  refine bodyPost_ret (results_blk rfl _ _ w.heap.size 0 zBs rfl hz (setRow_heap _ _ _ _ _ _ HM1.out)) rfl ?_
  exact ⟨rfl, below_setRow HB1.out (Nat.le_refl _) _⟩
end Go.Proofs.Ytbcnjilhibkcnaa
