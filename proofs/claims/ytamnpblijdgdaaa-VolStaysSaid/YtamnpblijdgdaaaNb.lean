/- Contracts: settle, begin, fits. -/
import Derived.Test.YtamnpblijdgdaaaNa
import Derived.Deep.DeepCutAuto
import Derived.StillTailTactics
namespace Go.Proofs.Ytamnpblijdgdaaa
open Go.ChangeShapes Go.WideShapes Go.ChangeAt Go.RowKit
set_option linter.unusedVariables false
set_option maxRecDepth 100000
theorem brefl (W : World) : Below W.heap.size W W := Below.refl _ _
def VSE (q gb n g a : Nat) (r fr : Int) (A : Option Addr) (c : Nat) (i : Nat) (v : Value) (w : World) : Prop :=
  match i with
  | 0 => v = .agg (gndC (some ⟨q, 0, none⟩) r n g fr)
  | 1 => v = .pointer (some ⟨gb, 3, none⟩)
  | 2 => v = shQ 0 0 n g fr
  | 3 => v = .int .i64 a
  | 4 => v = .int .i64 ((2 + g + a : Nat) : Int)
  | 5 => v = .slice A 64 c
  | _ => True
set_option maxHeartbeats 3200000 in
theorem gsettle_any {w0 W : World} {P : Nat → Prop} {q : Nat} {m : DM} (h : DS w0 W P q m) (r : Int) (hr : i64 r) (n g : Nat) (fr : Int) (hn : n ≤ 200) (hg : g ≤ 1000) (a : Nat) (ha : a < n) (k : Int) (bs : List Int) (hk : 0 ≤ k ∧ k ≤ 7) (h56 : bs.length = 56) (hB : AllB bs) (hmax : m.done.length ≤ 1000000) :
    Calls Try.prog 35 #[gndA (some ⟨q, 0, none⟩) r n g fr, .int .i64 a, .agg (blkA k bs)] W fun e w' => e = .returned (.tuple #[]) ∧ DS w0 w' P q (m.doWrite r ((2 + g + a : Nat) : Int) (sealB 0 k a bs)) ∧ Same P W w' := by
  have HD := Lib.hid h
  have HM := Lib.hid hmax
  have HSE := Lib.hid (fun W => seal_yes 0 k a (blkA k bs) bs W (by omega) hk (by omega) (blkA_list _ _) h56 hB)
  have HSL := Lib.hid (sealB_length (l := 0) (k := k) (t := a) h56)
  have HSB := Lib.hid (sealB_allB (l := 0) (t := a) (by omega) hk hB)
  have HH := Lib.hid (fun W => Home_any 0 0 n g fr a (by omega) hg (by omega) W)
  rw [show blockV (2 + g) n a = ((2 + g + a : Nat) : Int) by unfold blockV; rw [if_pos (by omega)]; omega] at HH
  have HNG := Lib.hid (And.intro hn hg)
  have H56 := Lib.hid h56
  clear h hmax h56 hB hk
  unfold gndA
  generalize sealB 0 k a bs = sb at *
  go_enter Try.func35, Try.ntmps35
  go_upto_region 1 with fail
  obtain ⟨e0, e1, hb⟩ := alloc2 W (Obj.cells (gndC (some ⟨q, 0, none⟩) r n g fr) 82) (Obj.cells (blkA k bs) 46)
  generalize hgb : W.heap.size = gb at *
  have hz : (W.alloc (Obj.cells (gndC (some ⟨q, 0, none⟩) r n g fr) 82)).heap.size = gb + 1 := by simp [hgb]
  generalize (W.alloc (Obj.cells (gndC (some ⟨q, 0, none⟩) r n g fr) 82)).alloc (Obj.cells (blkA k bs) 46) = W1 at *
  have c2 := (gnd_cells e0).2.2.1
  have HB : Hid (Below W.heap.size W W1) := by rw [hgb]; exact hb
  have HE0 := Lib.hid e0
  clear e0 hb
  go_wp2_with (refine wpList_loadB rfl (.tmp 5) rfl (gb + 1) rfl k bs H56.out e1 ?_)
  refine (HSE.out _).mono ?_
  rintro e W2 ⟨v, rfl, own, hb2⟩
  obtain ⟨A, c, rfl, _, _, hby⟩ := byt_own own HSL.out
  rw [HSL.out]
  have HB2 := Lib.hid (keepB HB.out hb2)
  have HG : Hid (∀ W', Below W2.heap.size W2 W' → W'.heap[gb]? = some (.cells (gndC (some ⟨q, 0, none⟩) r n g fr) 82 (0, 0))) := fun W' h => kb h (kb hb2 HE0.out)
  have HY : Hid (∀ W', Below W2.heap.size W2 W' → Byt W' A sb) := fun W' h => hby.keep h
  clear own hby hb2 c2 e1 HE0 HB HSE
  go_upto_region 2 with fail
  refine wp_region_rgk (VSE q gb n g a r fr A c) (fun _ W => Below W2.heap.size W2 W) (fun _ w w' => Below w.heap.size w w') (by kernel_rfl) (by kernel_rfl) (fun i j v w w' _ _ h _ => by unfold VSE at *; exact h) ((Below.refl _ _).drew) ?_
  simp only [RAll]
  refine ⟨?_, ?_, ?_, ?_, ?_, ?_, ?_⟩
  · refine RStepK.of rfl fun T W L hag hL hJ hLs hd => ?_   -- 0: 16 := Op.load 82 (Operand.tmp 3)
    have e3 : T.getD 3 undef = _ := (agree_at hag 3 (by kernel_rfl)).trans rfl
    obtain ⟨z0, z1, z2, z3, z4, z5, z6, z7⟩ := gnd_cells (HG.out W hJ)
    clear hag hd
    go_simp
    first | exact ⟨_, rfl, rfl⟩ | exact ⟨_, rfl, rfl, brefl _⟩ | exact ⟨_, rfl, rfl, hJ, brefl _⟩
  · refine RStepK.of rfl fun T W L hag hL hJ hLs hd => ?_   -- 1: 17 := Op.fieldAddr 82 (Operand.tmp 3) 3
    have e3 : T.getD 3 undef = _ := (agree_at hag 3 (by kernel_rfl)).trans rfl
    clear hag hd
    go_simp
    first | exact ⟨_, rfl, rfl⟩ | exact ⟨_, rfl, rfl, brefl _⟩ | exact ⟨_, rfl, rfl, hJ, brefl _⟩
  · refine RStepK.of rfl fun T W L hag hL hJ hLs hd => ?_   -- 2: 18 := Op.load 30 (Operand.tmp 17)
    have d17 : T.getD 17 undef = _ := hd ⟨1, .data⟩ (by simp) rfl _ rfl
    obtain ⟨z0, z1, z2, z3, z4, z5, z6, z7⟩ := gnd_cells (HG.out W hJ)
    clear hag hd
    go_simp
    first | exact ⟨_, rfl, rfl⟩ | exact ⟨_, rfl, rfl, brefl _⟩ | exact ⟨_, rfl, rfl, hJ, brefl _⟩
  · refine RStepK.of rfl fun T W L hag hL hJ hLs hd => ?_   -- 3: 19 := Op.move (Operand.tmp 1)
    have e1 : T.getD 1 undef = _ := (agree_at hag 1 (by kernel_rfl)).trans rfl
    clear hag hd
    go_simp
    first | exact ⟨_, rfl, rfl⟩ | exact ⟨_, rfl, rfl, brefl _⟩ | exact ⟨_, rfl, rfl, hJ, brefl _⟩
  · refine RStepK.of rfl fun T W L hag hL hJ hLs hd => ?_   -- 4: 20 := Op.call { callee := Callee.value (Operand.func 62), args := 
    have d18 : T.getD 18 undef = _ := hd ⟨2, .data⟩ (by simp) rfl _ rfl
    have d19 : T.getD 19 undef = _ := hd ⟨3, .data⟩ (by simp) rfl _ rfl
    clear hag hd
    go_simp
    refine (HH.out W).mono ?_
    rintro e w' ⟨rfl, hb⟩
    exact ⟨_, rfl, rfl, keepB hJ hb, hb⟩
  · refine RStepK.of rfl fun T W L hag hL hJ hLs hd => ?_   -- 5: 21 := Op.move (Operand.tmp 6)
    have e6 : T.getD 6 undef = _ := (agree_at hag 6 (by kernel_rfl)).trans rfl
    clear hag hd
    go_simp
    first | exact ⟨_, rfl, rfl⟩ | exact ⟨_, rfl, rfl, brefl _⟩ | exact ⟨_, rfl, rfl, hJ, brefl _⟩
  · refine RLastK.of rfl fun T W L hag hLs hL hJ hd => ?_   -- 6: 22 := Op.call { callee := Callee.value (Operand.func 61), args := 
    have d16 : T.getD 16 undef = _ := hd 0 _ (by simp) rfl
    have d20 : T.getD 20 undef = _ := hd 4 _ (by simp) rfl
    have d21 : T.getD 21 undef = _ := hd 5 _ (by simp) rfl
    obtain ⟨f, hf, hT⟩ := agree_fn hag
    have h16 := (hf 16).trans d16
    have h20 := (hf 20).trans d20
    have h21 := (hf 21).trans d21
    have HJ := Lib.hid hJ
    clear hag hd d16 d20 d21 hJ hf
    rw [hT]
    clear hT
    simp only [List.pop_toArray, List.dropLast_cons_cons, List.dropLast_singleton, List.filterMap_cons, List.filterMap_nil, List.foldl_cons, List.foldl_nil, List.setIfInBounds_toArray, List.set_cons_succ, List.set_cons_zero, h16, h20, h21]
    have hd := HD.out.below (keepB HB2.out HJ.out) (fun k hk => Or.inl hk)
    go_simp
    refine (gwrite_any hd r hr n g fr _ (by constructor <;> omega) A sb c ⟨HSL.out, HSB.out⟩ (HY.out W HJ.out) HM.out).mono ?_
    rintro e w' ⟨rfl, hd', hs⟩
    have HD' := Lib.hid hd'
    have HS := Lib.hid ((HD.out.same (keepB HB2.out HJ.out)).trans hs)
    clear hd hd' hs
    go_wp2
    go_end0
    exact ⟨rfl, HD'.out, HS.out⟩

theorem DS.mono {w0 W : World} {P P' : Nat → Prop} {q : Nat} {m : DM} (h : DS w0 W P q m) (hp : ∀ k, P' k → P k) : DS w0 W P' q m := by
  obtain ⟨F, h1, h2, h3⟩ := h.dev
  exact ⟨⟨F, h1, h2, fun k hk => h3 k (hp k hk)⟩, fun k hk => h.low k (hp k hk), h.bel⟩
theorem Same.mono {P P' : Nat → Prop} {w w' : World} (h : Same P w w') (hp : ∀ k, P' k → P k) : Same P' w w' := ⟨fun k hk => h.blk k (hp k hk), h.size⟩
theorem Same.refl (P : Nat → Prop) (w : World) : Same P w w := ⟨fun _ _ => rfl, Nat.le_refl _⟩
/-- What begins an epoch. -/
def DM.doBegin (m : DM) (r : Int) (e : Nat) : DM := ((m.doBarrier r).doWrite r ((e % 2 : Nat) : Int) (anchorB 0 e)).doBarrier r
def VNbe (q gb base n g e e2 : Nat) (r fr : Int) (i : Nat) (v : Value) (w : World) : Prop :=
  match i with
  | 0 => v = .agg (gndC (some ⟨q, 0, none⟩) r n g fr)
  | 1 | 5 => v = .int .u32 e
  | 2 => v = .int .i64 (e2 : Int)
  | 3 => v = .pointer (some ⟨gb, 2, none⟩)
  | 4 => v = .int .u8 0
  | 6 => w.ownsRow base 5 1 v 64 (Bs (anchorB 0 e))
  | _ => True
set_option maxHeartbeats 3200000 in
theorem gbegin_any {w0 W : World} {P : Nat → Prop} {q : Nat} {m : DM} (h : DS w0 W P q m) (r : Int) (hr : i64 r) (n g : Nat) (fr : Int) (e : Nat) (he : e < 4294967296) (hmax : m.done.length ≤ 999990) :
    Calls Try.prog 37 #[gndA (some ⟨q, 0, none⟩) r n g fr, .int .u32 e] W fun en w' => en = .returned (.tuple #[]) ∧ DS w0 w' P q (m.doBegin r e) ∧ Same P W w' := by
  have HD := Lib.hid h
  have hm1 := done_doBarrier m r
  have hm2 := done_doWrite (m.doBarrier r) r ((e % 2 : Nat) : Int) (anchorB 0 e)
  have HM := Lib.hid (And.intro hmax (And.intro hm1 hm2))
  have HAN := Lib.hid (fun W => anchor_any 0 e W (by omega) he)
  have HAP := Lib.hid (fun W => aranchor_any (e : Int) (by omega) W)
  rw [show (e : Int) % 2 = ((e % 2 : Nat) : Int) by omega] at HAP
  have HE2 : Hid (e % 2 < 2) := Nat.mod_lt _ (by omega)
  clear h hmax hm1 hm2
  unfold gndA DM.doBegin
  generalize e % 2 = e2 at *
  go_enter Try.func37, Try.ntmps37
  go_upto_region 1 with fail
  have e0 := heap_alloc_new W (Obj.cells (gndC (some ⟨q, 0, none⟩) r n g fr) 82)
  have hb : Below W.heap.size W (W.alloc (Obj.cells (gndC (some ⟨q, 0, none⟩) r n g fr) 82)) := (Below.refl _ _).alloc (Nat.le_refl _) _
  have hz : (W.alloc (Obj.cells (gndC (some ⟨q, 0, none⟩) r n g fr) 82)).heap.size = W.heap.size + 1 := by simp
  generalize hgb : W.heap.size = gb at *
  generalize W.alloc (Obj.cells (gndC (some ⟨q, 0, none⟩) r n g fr) 82) = W1 at *
  have hd1 : DS w0 W1 (fun k => P k ∨ k = gb) q m := HD.out.below (by rw [hgb]; exact hb) (fun k hk => hk.elim Or.inl (fun h => Or.inr (by omega)))
  have hs1 := HD.out.same (by rw [hgb]; exact hb)
  have HD1 := Lib.hid hd1
  have HS1 := Lib.hid hs1
  clear hd1 hs1 hb hz
  go_wp2_with (refine wpList_loadG rfl (.tmp 2) rfl gb rfl (gndC (some ⟨q, 0, none⟩) r n g fr) rfl e0 ?_)
  refine (gbarrier_any HD1.out r hr n g fr (by have := HM.out.1; omega)).mono ?_
  rintro en W2 ⟨rfl, hd2, hs2⟩
  have e1 := (hs2.blk gb (Or.inr rfl)).trans e0
  have HD2 := Lib.hid hd2
  have HS2 := Lib.hid (HS1.out.trans (hs2.mono fun k hk => Or.inl hk))
  have HG : Hid (∀ W', Below W2.heap.size W2 W' → W'.heap[gb]? = some (.cells (gndC (some ⟨q, 0, none⟩) r n g fr) 82 (0, 0))) := fun W' h => kb h e1
  clear e0 hd2 hs2 e1 HS1 HD1
  go_upto_region 2 with fail
  refine wp_region_rgk (VNbe q gb W2.heap.size n g e e2 r fr) (fun _ W => Below W2.heap.size W2 W) (fun _ w w' => Below w.heap.size w w') (by kernel_rfl) (by kernel_rfl) (fun i j v w w' _ _ h hs => by revert h; unfold VNbe; split <;> intro h <;> first | exact h | exact ownB h hs | trivial) ((Below.refl _ _).drew) ?_
  simp only [RAll]
  refine ⟨?_, ?_, ?_, ?_, ?_, ?_, ?_, ?_⟩
  · refine RStepK.of rfl fun T W L hag hL hJ hLs hd => ?_   -- 0: 6 := Op.load 82 (Operand.tmp 2)
    have e2 : T.getD 2 undef = _ := (agree_at hag 2 (by kernel_rfl)).trans rfl
    obtain ⟨z0, z1, z2, z3, z4, z5, z6, z7⟩ := gnd_cells (HG.out W hJ)
    clear hag hd
    go_simp
    first | exact ⟨_, rfl, rfl⟩ | exact ⟨_, rfl, rfl, brefl _⟩ | exact ⟨_, rfl, rfl, hJ, brefl _⟩
  · refine RStepK.of rfl fun T W L hag hL hJ hLs hd => ?_   -- 1: 7 := Op.move (Operand.tmp 1)
    have e1 : T.getD 1 undef = _ := (agree_at hag 1 (by kernel_rfl)).trans rfl
    clear hag hd
    go_simp
    first | exact ⟨_, rfl, rfl⟩ | exact ⟨_, rfl, rfl, brefl _⟩ | exact ⟨_, rfl, rfl, hJ, brefl _⟩
  · refine RStepK.of rfl fun T W L hag hL hJ hLs hd => ?_   -- 2: 8 := Op.call { callee := Callee.value (Operand.func 63), args := 
    have d7 : T.getD 7 undef = _ := hd ⟨1, .data⟩ (by simp) rfl _ rfl
    clear hag hd
    go_simp
    refine (HAP.out W).mono ?_
    rintro e w' ⟨rfl, rfl⟩
    exact ⟨_, rfl, rfl, hJ, brefl _⟩
  · refine RStepK.of rfl fun T W L hag hL hJ hLs hd => ?_   -- 3: 9 := Op.fieldAddr 82 (Operand.tmp 2) 2
    have e2 : T.getD 2 undef = _ := (agree_at hag 2 (by kernel_rfl)).trans rfl
    clear hag hd
    go_simp
    first | exact ⟨_, rfl, rfl⟩ | exact ⟨_, rfl, rfl, brefl _⟩ | exact ⟨_, rfl, rfl, hJ, brefl _⟩
  · refine RStepK.of rfl fun T W L hag hL hJ hLs hd => ?_   -- 4: 10 := Op.load 5 (Operand.tmp 9)
    have d9 : T.getD 9 undef = _ := hd ⟨3, .data⟩ (by simp) rfl _ rfl
    obtain ⟨z0, z1, z2, z3, z4, z5, z6, z7⟩ := gnd_cells (HG.out W hJ)
    clear hag hd
    go_simp
    first | exact ⟨_, rfl, rfl⟩ | exact ⟨_, rfl, rfl, brefl _⟩ | exact ⟨_, rfl, rfl, hJ, brefl _⟩
  · refine RStepK.of rfl fun T W L hag hL hJ hLs hd => ?_   -- 5: 11 := Op.move (Operand.tmp 1)
    have e1 : T.getD 1 undef = _ := (agree_at hag 1 (by kernel_rfl)).trans rfl
    clear hag hd
    go_simp
    first | exact ⟨_, rfl, rfl⟩ | exact ⟨_, rfl, rfl, brefl _⟩ | exact ⟨_, rfl, rfl, hJ, brefl _⟩
  · refine RStepK.of rfl fun T W L hag hL hJ hLs hd => ?_   -- 6: 12 := Op.call { callee := Callee.value (Operand.func 64), args := 
    have d10 : T.getD 10 undef = _ := hd ⟨4, .data⟩ (by simp) rfl _ rfl
    have d11 : T.getD 11 undef = _ := hd ⟨5, .data⟩ (by simp) rfl _ rfl
    clear hag hd
    go_simp
    refine (HAN.out W).mono ?_
    rintro e w' ⟨v, rfl, own, hb⟩
    exact ⟨_, rfl, own.mono hJ.size, keepB hJ hb, hb⟩
  · refine RLastK.of rfl fun T W L hag hLs hL hJ hd => ?_   -- 7: 13 := Op.call { callee := Callee.value (Operand.func 61), args := 
    have d6 : T.getD 6 undef = _ := hd 0 _ (by simp) rfl
    have d8 : T.getD 8 undef = _ := hd 2 _ (by simp) rfl
    have x12 := hd 6 _ (by simp) rfl
    obtain ⟨f, hf, hT⟩ := agree_fn hag
    have h6 := (hf 6).trans d6
    have d7 : T.getD 7 undef = _ := hd 1 _ (by simp) rfl
    have h7 := (hf 7).trans d7
    have h8 := (hf 8).trans d8
    have d9 : T.getD 9 undef = _ := hd 3 _ (by simp) rfl
    have h9 := (hf 9).trans d9
    have d10 : T.getD 10 undef = _ := hd 4 _ (by simp) rfl
    have h10 := (hf 10).trans d10
    have d11 : T.getD 11 undef = _ := hd 5 _ (by simp) rfl
    have h11 := (hf 11).trans d11
    have HJ := Lib.hid hJ
    have x12b : W.ownsRow W2.heap.size 5 1 (T.getD 12 undef) 64 (Bs (anchorB 0 e)) := x12
    obtain ⟨A, c, hv, _, _, hby⟩ := byt_own x12b (anchorB_length 0 e)
    rw [anchorB_length] at hv
    have h12 := (hf 12).trans hv
    have HBY := Lib.hid hby
    clear x12 x12b hby hv
    clear hag hd d6 d7 d8 d9 d10 d11 hJ hf
    rw [hT]
    clear hT
    simp only [List.pop_toArray, List.dropLast_cons_cons, List.dropLast_singleton, List.filterMap_cons, List.filterMap_nil, List.foldl_cons, List.foldl_nil, List.setIfInBounds_toArray, List.set_cons_succ, List.set_cons_zero, h6, h7, h8, h9, h10, h11]
    simp only [h12]
    have hd := HD2.out.below HJ.out (fun k hk => Or.inl hk)
    go_simp
    refine (gwrite_any hd r hr n g fr e2 (by have := HE2.out; constructor <;> omega) A (anchorB 0 e) c ⟨anchorB_length 0 e, anchorB_allB e (by omega)⟩ HBY.out (by have := HM.out.1; have := HM.out.2.1; omega)).mono ?_
    rintro en W3 ⟨rfl, hd3, hs3⟩
    have hgc := HG.out W HJ.out
    have e1 := (hs3.blk gb (Or.inr rfl)).trans hgc
    have HD3 := Lib.hid hd3
    have HS3 := Lib.hid ((HS2.out.trans (HD2.out.same HJ.out |>.mono fun k hk => Or.inl hk)).trans (hs3.mono fun k hk => Or.inl hk))
    clear hd hd3 hs3 hgc HBY HJ h12
    go_wp2_with (refine wpList_loadG rfl (.tmp 2) rfl gb rfl (gndC (some ⟨q, 0, none⟩) r n g fr) rfl e1 ?_)
    refine (gbarrier_any HD3.out r hr n g fr (by have := HM.out.1; have := HM.out.2.1; have := HM.out.2.2; omega)).mono ?_
    rintro en W4 ⟨rfl, hd4, hs4⟩
    have HD4 := Lib.hid (hd4.mono fun k hk => Or.inl hk)
    have HS4 := Lib.hid (HS3.out.trans (hs4.mono fun k hk => Or.inl hk))
    clear hd4 hs4 e1 HD3 HS3
    go_wp2
    go_end0
    exact ⟨rfl, HD4.out, HS4.out⟩

end Go.Proofs.Ytamnpblijdgdaaa
