/- Contract: Make. -/
import Derived.Test.YtamnpblijdgdaaaNl
namespace Go.Proofs.Ytamnpblijdgdaaa
open Go.ChangeShapes Go.WideShapes Go.ChangeAt Go.RowKit
set_option linter.unusedVariables false
set_option maxRecDepth 100000
theorem firstK_ok (i : Nat) : 0 ≤ firstK i ∧ firstK i ≤ 7 := by unfold firstK; split <;> omega
/-- The blocks at first, written home. -/
def firstW (r : Int) (g : Nat) (m : DM) : Nat → DM
  | 0 => m
  | k + 1 => (firstW r g m k).doWrite r ((2 + g + k : Nat) : Int) (sealB 0 (firstK k) k (firstB k))
theorem firstW_done (r : Int) (g : Nat) (m : DM) : ∀ k, (firstW r g m k).done.length ≤ m.done.length + k
  | 0 => Nat.le_refl _
  | k + 1 => by
    have h1 := firstW_done r g m k
    have h2 := done_doWrite (firstW r g m k) r ((2 + g + k : Nat) : Int) (sealB 0 (firstK k) k (firstB k))
    show (DM.doWrite _ _ _ _).done.length ≤ _
    omega
def makeM (m : DM) (r : Int) (n g : Nat) : DM := (firstW r g m n).doBegin r 1
def VNmk (q n g k : Nat) (r fr : Int) (i : Nat) (v : Value) (w : World) : Prop :=
  match i with
  | 0 => v = .agg (gndC (some ⟨q, 0, none⟩) r n g fr)
  | 1 | 2 => v = .int .i64 (k : Int)
  | 3 => v = .agg (blkA (firstK k) (firstB k))
  | _ => True
set_option maxHeartbeats 1600000 in
theorem vmake_no {W : World} {d : Option Addr} {r : Int} {row : Int → Option (List Int)} (h : Rd W d r row) (n g : Nat) (fr : Int) (hn : n ≤ 200) (hg : g ≤ 1000) (hno : row ((1 + g + n : Nat) : Int) = none) :
    Calls Try.prog 15 #[.pointer d, .int .i64 r, shQ 0 0 n g fr] W fun e w' => e = .returned (.bool false) ∧ Below W.heap.size W w' := by
  have H0 := Lib.hid h
  have HGO := Lib.hid (fun W => groundOf_any d r n g fr hn hg W)
  have hb1 : ∀ o, Below W.heap.size W (W.alloc o) := fun o => (Below.refl _ _).alloc (Nat.le_refl _) _
  have HNO := Lib.hid hno
  unfold shQ
  clear h hno
  go_enter Try.func15, Try.ntmps15
  go_wp2_with fail
  have HB1 := Lib.hid (hb1 (Obj.cells #[.int .i64 0, .int .i64 0, .int .i64 n, .int .i64 g, .int .i64 fr] 30))
  refine (HGO.out _).mono ?_
  rintro e W2 ⟨rfl, hb2⟩
  have HB2 := Lib.hid (keepB HB1.out hb2)
  clear hb1 hb2
  unfold gndA
  go_upto_region 2 with (refine wpList_storeG rfl (.tmp 7) (.tmp 15) rfl W2.heap.size rfl (gndC d r n g fr) rfl (gndC_one _ _ _ _ _) rfl _ rfl (heap_alloc_new W2 _) ?_)
  have e7 := setRow_blk (D := gndC d r n g fr) (heap_alloc_new W2 (Obj.cells #[.pointer none, .int .i64 0, .int .u8 0, .int .i64 0, .int .i64 0, .int .i64 0, .int .i64 0, .int .i64 0] 82))
  have hb3 : Below W2.heap.size W2 ((W2.alloc (Obj.cells #[.pointer none, .int .i64 0, .int .u8 0, .int .i64 0, .int .i64 0, .int .i64 0, .int .i64 0, .int .i64 0] 82)).setRow W2.heap.size (gndC d r n g fr)) := below_setRow ((Below.refl _ _).alloc (Nat.le_refl _) _) (Nat.le_refl _) _
  have HB3 := Lib.hid (keepB HB2.out hb3)
  generalize (W2.alloc (Obj.cells #[.pointer none, .int .i64 0, .int .u8 0, .int .i64 0, .int .i64 0, .int .i64 0, .int .i64 0, .int .i64 0] 82)).setRow W2.heap.size (gndC d r n g fr) = W3 at *
  generalize W2.heap.size = g7 at *
  clear hb3
  obtain ⟨z0, z1, z2, z3, z4, z5, z6, z7⟩ := gnd_cells e7
  have hf := gfits_any (W := W3) (H0.out.keep HB3.out) n g fr hn hg
  rw [HNO.out] at hf
  have HF := Lib.hid hf
  clear e7 hf
  go_wp2_with fail
  refine HF.out.mono ?_
  rintro e W4 ⟨rfl, hb4⟩
  have HB4 := Lib.hid (keepB HB3.out hb4)
  clear hb4 z0 z1 z2 z3 z4 z5 z6 z7
  go_wp2
  go_ret
  exact ⟨rfl, HB4.out⟩
set_option maxHeartbeats 3200000 in
theorem vmake_any {w0 W : World} {P : Nat → Prop} {q : Nat} {m : DM} (h : DS w0 W P q m) (r : Int) (hr : i64 r) (n g : Nat) (fr : Int) (hn : n ≤ 200) (hg : g ≤ 1000) (hyes : (rowV m r ((1 + g + n : Nat) : Int)).isSome = true) (hmax : m.done.length + n ≤ 999000) :
    Calls Try.prog 15 #[.pointer (some ⟨q, 0, none⟩), .int .i64 r, shQ 0 0 n g fr] W fun e w' => e = .returned (.bool true) ∧ DS w0 w' P q (makeM m r n g) ∧ Same P W w' := by
  have HD := Lib.hid h
  have HR := Lib.hid hr
  have HNG := Lib.hid (And.intro hn hg)
  have HMX := Lib.hid hmax
  have HGO := Lib.hid (fun W => groundOf_any (some ⟨q, 0, none⟩) r n g fr hn hg W)
  have hb1 : ∀ o, Below W.heap.size W (W.alloc o) := fun o => (Below.refl _ _).alloc (Nat.le_refl _) _
  have HYES := Lib.hid hyes
  have e5 := fun o => heap_alloc_new W o
  unfold shQ makeM
  clear h hyes hmax
  go_enter Try.func15, Try.ntmps15
  go_wp2_with fail
  have HB1 := Lib.hid (hb1 (Obj.cells #[.int .i64 0, .int .i64 0, .int .i64 n, .int .i64 g, .int .i64 fr] 30))
  have he5 := e5 (Obj.cells #[.int .i64 0, .int .i64 0, .int .i64 n, .int .i64 g, .int .i64 fr] 30)
  refine (HGO.out _).mono ?_
  rintro e W2 ⟨rfl, hb2⟩
  have he6 := kb hb2 he5
  have HB2 := Lib.hid (keepB HB1.out hb2)
  clear hb1 hb2 e5 he5
  unfold gndA
  go_upto_region 2 with (refine wpList_storeG rfl (.tmp 7) (.tmp 15) rfl W2.heap.size rfl (gndC (some ⟨q, 0, none⟩) r n g fr) rfl (gndC_one _ _ _ _ _) rfl _ rfl (heap_alloc_new W2 _) ?_)
  have e7 := setRow_blk (D := gndC (some ⟨q, 0, none⟩) r n g fr) (heap_alloc_new W2 (Obj.cells #[.pointer none, .int .i64 0, .int .u8 0, .int .i64 0, .int .i64 0, .int .i64 0, .int .i64 0, .int .i64 0] 82))
  have hb3 : Below W2.heap.size W2 ((W2.alloc (Obj.cells #[.pointer none, .int .i64 0, .int .u8 0, .int .i64 0, .int .i64 0, .int .i64 0, .int .i64 0, .int .i64 0] 82)).setRow W2.heap.size (gndC (some ⟨q, 0, none⟩) r n g fr)) := below_setRow ((Below.refl _ _).alloc (Nat.le_refl _) _) (Nat.le_refl _) _
  have HB3 := Lib.hid (keepB HB2.out hb3)
  have e5 := kb hb3 he6
  have hlt5 : W.heap.size < W2.heap.size := room_lt he6
  have hsz3 : W2.heap.size < ((W2.alloc (Obj.cells #[.pointer none, .int .i64 0, .int .u8 0, .int .i64 0, .int .i64 0, .int .i64 0, .int .i64 0, .int .i64 0] 82)).setRow W2.heap.size (gndC (some ⟨q, 0, none⟩) r n g fr)).heap.size := room_lt e7
  have hws := HB2.out.size
  generalize (W2.alloc (Obj.cells #[.pointer none, .int .i64 0, .int .u8 0, .int .i64 0, .int .i64 0, .int .i64 0, .int .i64 0, .int .i64 0] 82)).setRow W2.heap.size (gndC (some ⟨q, 0, none⟩) r n g fr) = W3 at *
  generalize W2.heap.size = g7 at *
  clear hb3
  have hf := gfits_any (W := W3) ((HD.out.rd r hr).keep HB3.out) n g fr hn hg
  rw [HYES.out] at hf
  have HF := Lib.hid hf
  obtain ⟨z0, z1, z2, z3, z4, z5, z6, z7⟩ := gnd_cells e7
  have HE7 := Lib.hid e7
  have HE5 := Lib.hid e5
  clear e7 hf e5 he6
  go_wp2_with fail
  refine HF.out.mono ?_
  rintro e W4 ⟨rfl, hb4⟩
  have he5 := kb hb4 HE5.out
  have hd4 : DS w0 W4 (fun k => P k ∨ k = g7) q m := HD.out.below (keepB HB3.out hb4) (fun k hk => by
    rcases hk with hk | rfl
    · exact Or.inl hk
    · exact Or.inr ⟨hws, Nat.lt_of_lt_of_le hsz3 hb4.size⟩)
  have HD4 := Lib.hid hd4
  have HE74 := Lib.hid (kb hb4 HE7.out)
  have HSM4 := Lib.hid (HD.out.same (keepB HB3.out hb4))
  have y2 : W4.cell? ⟨W.heap.size, 2, none⟩ = some (.int .i64 n) := (blk_cell he5 2).trans rfl
  clear he5 hd4 hb4 z0 z1 z2 z3 z4 z5 z6 z7 hlt5 hsz3 hws
  go_wp2
  clear y2
  go_loopw [26] (fun i wr => ∃ k : Nat, i = .int .i64 k ∧ k ≤ n ∧ Hid (DS w0 wr (fun k => P k ∨ k = g7) q (firstW r g m k)) ∧ Hid (Same (fun k => P k ∨ k = g7) W4 wr)) (fun i _ => n - (intOf i).toNat)
  case atStart => exact ⟨0, rfl, by omega, HD4.out, Same.refl _ _⟩
  case round =>
    obtain ⟨kk, rfl, hk, HD5, HSM⟩ := hrel
    obtain ⟨w5, rfl⟩ : ∃ w5, w5 = wr := ⟨wr, rfl⟩
    have HG5 := Lib.hid ((HSM.out.blk g7 (Or.inr rfl)).trans HE74.out)
    by_cases hlt : kk < n
    · have hki : (kk : Int) < n := by omega
      have HM : Hid ((firstW r g m kk).done.length ≤ 1000000) := by
        have h1 := firstW_done r g m kk
        have h2 := HMX.out
        unfold Hid; omega
      have HG : Hid (∀ W', Below w5.heap.size w5 W' → W'.heap[g7]? = some (.cells (gndC (some ⟨q, 0, none⟩) r n g fr) 82 (0, 0))) := fun W' h => kb h HG5.out
      go_upto_region 7 with fail
      refine wp_region_rgk (VNmk q n g kk r fr) (fun _ W => Below w5.heap.size w5 W) (fun _ w w' => Below w.heap.size w w') (by kernel_rfl) (by kernel_rfl) (fun i j v w w' _ _ h hs => by unfold VNmk at *; exact h) ((Below.refl _ _).drew) ?_
      simp only [RAll]
      refine ⟨?_, ?_, ?_, ?_, ?_⟩
      · refine RStepK.of rfl fun T W L hag hL hJ hLs hd => ?_   -- 0: 29 := Op.load 82 (Operand.tmp 7)
        have e7 : T.getD 7 undef = _ := (agree_at hag 7 (by kernel_rfl)).trans rfl
        obtain ⟨z0, z1, z2, z3, z4, z5, z6, z7⟩ := gnd_cells (HG.out W hJ)
        clear hag hd
        go_simp
        first | exact ⟨_, rfl, rfl⟩ | exact ⟨_, rfl, rfl, brefl _⟩ | exact ⟨_, rfl, rfl, hJ, brefl _⟩
      · refine RStepK.of rfl fun T W L hag hL hJ hLs hd => ?_   -- 1: 30 := Op.move (Operand.tmp 9)
        have e9 : T.getD 9 undef = _ := (agree_at hag 9 (by kernel_rfl)).trans rfl
        clear hag hd
        go_simp
        first | exact ⟨_, rfl, rfl⟩ | exact ⟨_, rfl, rfl, brefl _⟩ | exact ⟨_, rfl, rfl, hJ, brefl _⟩
      · refine RStepK.of rfl fun T W L hag hL hJ hLs hd => ?_   -- 2: 31 := Op.move (Operand.tmp 9)
        have e9 : T.getD 9 undef = _ := (agree_at hag 9 (by kernel_rfl)).trans rfl
        clear hag hd
        go_simp
        first | exact ⟨_, rfl, rfl⟩ | exact ⟨_, rfl, rfl, brefl _⟩ | exact ⟨_, rfl, rfl, hJ, brefl _⟩
      · refine RStepK.of rfl fun T W L hag hL hJ hLs hd => ?_   -- 3: 32 := Op.call { callee := Callee.value (Operand.func 36), args := 
        have d31 : T.getD 31 undef = _ := hd ⟨2, .data⟩ (by simp) rfl _ rfl
        clear hag hd
        go_simp
        refine (atFirst_any kk W).mono ?_
        rintro e w' ⟨rfl, hb⟩
        exact ⟨_, rfl, rfl, keepB hJ hb, hb⟩
      · refine RLastK.of rfl fun T W L hag hLs hL hJ hd => ?_   -- 4: 33 := Op.call { callee := Callee.value (Operand.func 35), args := 
        have d29 : T.getD 29 undef = _ := hd 0 _ (by simp) rfl
        have d30 : T.getD 30 undef = _ := hd 1 _ (by simp) rfl
        have d32 : T.getD 32 undef = _ := hd 3 _ (by simp) rfl
        obtain ⟨f, hf, hT⟩ := agree_fn hag
        have h29 := (hf 29).trans d29
        have h30 := (hf 30).trans d30
        have d31 : T.getD 31 undef = _ := hd 2 _ (by simp) rfl
        have h31 := (hf 31).trans d31
        have h32 := (hf 32).trans d32
        have HJ := Lib.hid hJ
        clear hag hd d29 d30 d31 d32 hJ hf
        rw [hT]
        clear hT
        simp only [List.pop_toArray, List.dropLast_cons_cons, List.dropLast_singleton, List.filterMap_cons, List.filterMap_nil, List.foldl_cons, List.foldl_nil, List.setIfInBounds_toArray, List.set_cons_succ, List.set_cons_zero, h29, h30, h31, h32]
        have hd := HD5.out.below HJ.out (fun k hk => Or.inl hk)
        go_simp
        refine (gsettle_any hd r HR.out n g fr HNG.out.1 HNG.out.2 kk hlt (firstK kk) (firstB kk) (firstK_ok kk) (firstB_len kk) (firstB_ok kk) HM.out).mono ?_
        rintro e w' ⟨rfl, hd', hs⟩
        have HD6 := Lib.hid hd'
        have HSM6 := Lib.hid ((HSM.out.trans (HD5.out.same HJ.out)).trans hs)
        clear hd hd' hs HJ
        go_wp2
        go_roundw
        case rel => exact ⟨kk + 1, by go_num, by omega, HD6.out, HSM6.out⟩
        case measure => simp [intOf]; omega

    · obtain rfl : kk = n := by omega
      have hki : ¬ ((kk : Int) < kk) := by omega
      have HM : Hid ((firstW r g m kk).done.length ≤ 999990) := by
        have h1 := firstW_done r g m kk
        have h2 := HMX.out
        unfold Hid; omega
      have HBG := Lib.hid (fun W (h : DS w0 W (fun k => P k ∨ k = g7) q (firstW r g m kk)) => gbegin_any h r hr kk g fr 1 (by omega) HM.out)
      go_wp2_with (refine wpList_loadG rfl (.tmp 7) rfl g7 rfl (gndC (some ⟨q, 0, none⟩) r kk g fr) rfl HG5.out ?_)
      refine (HBG.out _ HD5.out).mono ?_
      rintro e w' ⟨rfl, hd', hs⟩
      have HF1 := Lib.hid (hd'.mono fun k hk => Or.inl hk)
      have HF2 := Lib.hid ((HSM4.out.trans (HSM.out.mono fun k hk => Or.inl hk)).trans (hs.mono fun k hk => Or.inl hk))
      clear hd' hs
      go_wp2
      go_ret
      exact ⟨rfl, HF1.out, HF2.out⟩
end Go.Proofs.Ytamnpblijdgdaaa
