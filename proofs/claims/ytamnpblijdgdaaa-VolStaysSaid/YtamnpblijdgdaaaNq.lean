/- Contracts: Mount that finds no anchor. -/
import Derived.Test.YtamnpblijdgdaaaNp
namespace Go.Proofs.Ytamnpblijdgdaaa
open Go.ChangeShapes Go.WideShapes Go.ChangeAt Go.RowKit
set_option linter.unusedVariables false
set_option maxRecDepth 100000
def volD (d : Option Addr) (rb : Nat) (v : VM) : Array Value := #[.pointer d, .int .i64 v.r, .int .u8 0, .int .i64 0, .int .i64 0, .int .i64 v.n, .int .i64 v.g, .int .i64 v.fr, .slice (some ⟨rb, 0, none⟩) v.n v.n, .int .u32 v.ep, .int .u32 v.sq, .int .i64 v.us]
theorem built90d (d : Option Addr) (rb : Nat) (r fr : Int) (n g : Nat) : Try.prog.built 90 [(0, .agg (gndC d r n g fr)), (1, .slice (some ⟨rb, 0, none⟩) n n)] = some (volD d rb (vm0 r fr n g)) := by kernel_rfl
def VNmn (d : Option Addr) (g5 n g base : Nat) (r fr : Int) (i : Nat) (v : Value) (w : World) : Prop :=
  match i with
  | 0 => v = .agg (gndC d r n g fr)
  | 1 => v = .pointer (some ⟨g5, 2, none⟩)
  | 2 => v = .int .i64 n
  | 3 => ∃ rb, v = .slice (some ⟨rb, 0, none⟩) n n ∧ w.heap[rb]? = some (.cells (rowL hbL (List.replicate n zH)).toArray 95 (0, 0)) ∧ base ≤ rb
  | 4 => ∃ rb, v = .agg (volD d rb (vm0 r fr n g)) ∧ w.heap[rb]? = some (.cells (rowL hbL (List.replicate n zH)).toArray 95 (0, 0)) ∧ base ≤ rb
  | 5 => ∃ hp rb, v = .pointer (some ⟨hp, 0, none⟩) ∧ w.heap[hp]? = some (.cells (volD d rb (vm0 r fr n g)) 90 (0, 0)) ∧ w.heap[rb]? = some (.cells (rowL hbL (List.replicate n zH)).toArray 95 (0, 0)) ∧ base ≤ rb ∧ base ≤ hp ∧ hp ≠ rb
  | _ => True
def AtMno (d : Option Addr) (W : World) (a' : Act) (w' : World) : Prop := Hid (Below W.heap.size W w') ∧ ∃ u1 u2 u3 u4 u5 u6 u7 u8 u9 u10 u11 u12 u13 u14 u15 u16 u17 u18 u19 u20 u21 u22 u23 u24 u25 u26 u27 u28 u29 u30 u31 u32 u33 u34 u35 u36 u37 u38 u39 u40 u41 u42 u43 : Value, a' = { tmps := #[.pointer d, u1, u2, u3, u4, u5, u6, u7, u8, u9, u10, u11, u12, u13, u14, u15, u16, u17, u18, u19, u20, u21, u22, u23, u24, u25, u26, u27, u28, u29, u30, u31, u32, u33, u34, u35, u36, u37, u38, u39, u40, u41, u42, u43], defers := [] }
set_option maxHeartbeats 3200000 in
theorem vmount_no {WW : World} {d : Option Addr} {r : Int} {row : Int → Option (List Int)} (h : Rd WW d r row) (hblk : ∀ i b, row i = some b → BlkOk b) (n g : Nat) (fr : Int) (hn : n ≤ 200) (hg : g ≤ 1000) (ep : Nat) (hep : epN row 2 = (ep, false)) :
    Calls Try.prog 16 #[.pointer d, .int .i64 r, shQ 0 0 n g fr] WW fun en w' => en = .returned (.tuple #[.pointer none, .int .i64 14]) ∧ Below WW.heap.size WW w' := by
  have H0 := Lib.hid h
  have HNG := Lib.hid (And.intro hn hg)
  have HGO := Lib.hid (fun W => groundOf_any d r n g fr hn hg W)
  have hb1 : ∀ o, Below WW.heap.size WW (WW.alloc o) := fun o => (Below.refl _ _).alloc (Nat.le_refl _) _
  have e5 := fun o => heap_alloc_new WW o
  have HEP := Lib.hid hep
  have HBL := Lib.hid hblk
  obtain ⟨i0, hi0, hz0, hz1, hz2⟩ := info_parts info95
  have hmk := fun w : World => run_make (P := Try.prog) w 88 95 i0 _ Try.underlying88 hi0 hz0 .i64 .i64 (n : Int) (n : Int) (by omega) (by omega) (by rw [hz2]; omega) (by omega)
  rw [Int.toNat_natCast, hz1, show (hbL ⟨0, zBs, false⟩) = hbL zH from rfl, made95] at hmk
  have HMK := Lib.hid hmk
  unfold shQ
  clear h hep hblk hi0 hz0 hz1 hz2 hmk
  go_enter Try.func16, Try.ntmps16
  go_wp2
  refine wp_scope1e (AtMno d WW) (fun _ _ => 0) rfl ?_ ?_
  · intro HF0
    have HF := Lib.hid HF0
    clear HF0
    go_wp2_with fail
    have HB1 := Lib.hid (hb1 (Obj.cells #[.int .i64 0, .int .i64 0, .int .i64 n, .int .i64 g, .int .i64 fr] 30))
    have he5 := e5 (Obj.cells #[.int .i64 0, .int .i64 0, .int .i64 n, .int .i64 g, .int .i64 fr] 30)
    refine (HGO.out _).mono ?_
    rintro en W2 ⟨rfl, hb2⟩
    have he6 := kb hb2 he5
    have HB2 := Lib.hid (keepB HB1.out hb2)
    clear hb1 hb2 e5 he5
    unfold gndA
    go_upto_region 3 with (refine wpList_storeG rfl (.tmp 9) (.tmp 16) rfl W2.heap.size rfl (gndC d r n g fr) rfl (gndC_one _ _ _ _ _) rfl _ rfl (heap_alloc_new W2 _) ?_)
    have e7 := setRow_blk (D := gndC d r n g fr) (heap_alloc_new W2 (Obj.cells #[.pointer none, .int .i64 0, .int .u8 0, .int .i64 0, .int .i64 0, .int .i64 0, .int .i64 0, .int .i64 0] 82))
    have hb3 : Below W2.heap.size W2 ((W2.alloc (Obj.cells #[.pointer none, .int .i64 0, .int .u8 0, .int .i64 0, .int .i64 0, .int .i64 0, .int .i64 0, .int .i64 0] 82)).setRow W2.heap.size (gndC d r n g fr)) := below_setRow ((Below.refl _ _).alloc (Nat.le_refl _) _) (Nat.le_refl _) _
    have HB3 := Lib.hid (keepB HB2.out hb3)
    have e5 := kb hb3 he6
    have hlt5 : WW.heap.size < W2.heap.size := room_lt he6
    have hsz3 : W2.heap.size < ((W2.alloc (Obj.cells #[.pointer none, .int .i64 0, .int .u8 0, .int .i64 0, .int .i64 0, .int .i64 0, .int .i64 0, .int .i64 0] 82)).setRow W2.heap.size (gndC d r n g fr)).heap.size := room_lt e7
    generalize (W2.alloc (Obj.cells #[.pointer none, .int .i64 0, .int .u8 0, .int .i64 0, .int .i64 0, .int .i64 0, .int .i64 0, .int .i64 0] 82)).setRow W2.heap.size (gndC d r n g fr) = W3 at *
    generalize W2.heap.size = g9 at *
    clear hb3
    have HSZ := Lib.hid (And.intro hlt5 hsz3)
    have HG := Lib.hid (fun (W' : World) (hb' : Below W3.heap.size W3 W') => kb hb' e7)
    have HY2 : Hid (∀ W', Below W3.heap.size W3 W' → W'.cell? ⟨WW.heap.size, 2, none⟩ = some (.int .i64 n)) := fun W' hb' => (blk_cell (kb hb' e5) 2).trans rfl
    clear e7 e5 he6 hlt5 hsz3
    go_upto_region 4 with fail
    refine wp_region_rgk (VNmn d WW.heap.size n g W3.heap.size r fr) (fun _ W => Below W3.heap.size W3 W) (fun _ w w' => Below w.heap.size w w') (by kernel_rfl) (by kernel_rfl) (fun i j v w w' _ _ h hs => by revert h; unfold VNmn; split <;> intro h <;> first | exact h | (obtain ⟨p, h1, h2, h3⟩ := h; exact ⟨p, h1, kb hs h2, h3⟩) | (obtain ⟨p, p2, h1, h2, h3, h4⟩ := h; exact ⟨p, p2, h1, kb hs h2, kb hs h3, h4⟩) | trivial) ((Below.refl _ _).drew) ?_
    simp only [RAll]
    refine ⟨?_, ?_, ?_, ?_, ?_, ?_, ?_⟩
    · refine RStepK.of rfl fun T W L hag hL hJ hLs hd => ?_   -- 0: 20 := Op.load 82 (Operand.tmp 9)
      have e9 : T.getD 9 undef = _ := (agree_at hag 9 (by kernel_rfl)).trans rfl
      obtain ⟨z0, z1, z2, z3, z4, z5, z6, z7⟩ := gnd_cells (HG.out W hJ)
      have y2 := HY2.out W hJ
      clear hag hd
      go_simp
      first | exact ⟨_, rfl, rfl⟩ | exact ⟨_, rfl, rfl, brefl _⟩ | exact ⟨_, rfl, rfl, hJ, brefl _⟩
    · refine RStepK.of rfl fun T W L hag hL hJ hLs hd => ?_   -- 1: 21 := Op.fieldAddr 30 (Operand.tmp 5) 1
      have e5 : T.getD 5 undef = _ := (agree_at hag 5 (by kernel_rfl)).trans rfl
      clear hag hd
      go_simp
      first | exact ⟨_, rfl, rfl⟩ | exact ⟨_, rfl, rfl, brefl _⟩ | exact ⟨_, rfl, rfl, hJ, brefl _⟩
    · refine RStepK.of rfl fun T W L hag hL hJ hLs hd => ?_   -- 2: 22 := Op.load 3 (Operand.tmp 21)
      have d21 : T.getD 21 undef = _ := hd ⟨1, .data⟩ (by simp) rfl _ rfl
      obtain ⟨z0, z1, z2, z3, z4, z5, z6, z7⟩ := gnd_cells (HG.out W hJ)
      have y2 := HY2.out W hJ
      clear hag hd
      go_simp
      first | exact ⟨_, rfl, rfl⟩ | exact ⟨_, rfl, rfl, brefl _⟩ | exact ⟨_, rfl, rfl, hJ, brefl _⟩
    · refine RStepK.of rfl fun T W L hag hL hJ hLs hd => ?_   -- 3: 23 := Op.makeSlice 88 (Operand.tmp 22) (Operand.tmp 22)
      have d22 : T.getD 22 undef = _ := hd ⟨2, .data⟩ (by simp) rfl _ rfl
      have ev22 : (⟨T, []⟩ : Act).eval (.tmp 22) = .int .i64 n := d22
      clear hag hd
      refine wp_run (v := .slice (some ⟨W.heap.size, 0, none⟩) n n) (w' := W.alloc (.cells (rowL hbL (List.replicate n zH)).toArray 95)) ?_ ⟨_, rfl, ⟨_, rfl, heap_alloc_new W _, hJ.size⟩, hJ.alloc hJ.size _, (brefl W).alloc (Nat.le_refl _) _⟩
      have hm := HMK.out W
      unfold execOp
      simp only [ev22, Sem.run_bind, hm, Result.andThen_ok, Sem.run_pure]
    · refine RStepK.of rfl fun T W L hag hL hJ hLs hd => ?_   -- 4: 24 := Op.build 90 #[(0, Operand.tmp 20), (1, Operand.tmp 23)]
      have d20 : T.getD 20 undef = _ := hd ⟨0, .data⟩ (by simp) rfl _ rfl
      have x23 := hd ⟨3, .data⟩ (by simp) rfl _ rfl
      obtain ⟨rb, (hs : T.getD 23 undef = _), hp, hbs⟩ := x23
      have ev20 : (⟨T, []⟩ : Act).eval (.tmp 20) = .agg (gndC d r n g fr) := d20
      have ev23 : (⟨T, []⟩ : Act).eval (.tmp 23) = .slice (some ⟨rb, 0, none⟩) n n := hs
      clear hag hd
      have hb := run_build (P := Try.prog) W 90 #[(0, .agg (gndC d r n g fr)), (1, .slice (some ⟨rb, 0, none⟩) n n)] _ (built90d d rb r fr n g)
      refine wp_run (v := .agg (volD d rb (vm0 r fr n g))) (w' := W) ?_ ⟨_, rfl, ⟨_, rfl, hp, hbs⟩, hJ, brefl _⟩
      unfold execOp
      simp only [List.map_toArray, List.map_cons, List.map_nil, ev20, ev23, Sem.run_bind, hb, Result.andThen_ok, Sem.run_pure]
    · refine RStepK.of rfl fun T W L hag hL hJ hLs hd => ?_   -- 5: 25 := Op.box 90 (Operand.tmp 24)
      have x24 := hd ⟨4, .data⟩ (by simp) rfl _ rfl
      obtain ⟨rb, (hs : T.getD 24 undef = _), hp, hbs⟩ := x24
      clear hag hd
      go_simp
      exact ⟨_, rfl, ⟨W.heap.size, rb, rfl, heap_alloc_new W _, kb ((brefl W).alloc (Nat.le_refl _) _) hp, hbs, hJ.size, by have := room_lt hp; omega⟩, hJ.alloc hJ.size _, (brefl W).alloc (Nat.le_refl _) _⟩
    · refine RLastK.of rfl fun T W L hag hLs hL hJ hd => ?_   -- 6: 8 := Op.assign (Operand.tmp 25)
      have x25 := hd 5 _ (by simp) rfl
      obtain ⟨f, hf, hT⟩ := agree_fn hag
      have d20 : T.getD 20 undef = _ := hd 0 _ (by simp) rfl
      have h20 := (hf 20).trans d20
      have d21 : T.getD 21 undef = _ := hd 1 _ (by simp) rfl
      have h21 := (hf 21).trans d21
      have d22 : T.getD 22 undef = _ := hd 2 _ (by simp) rfl
      have h22 := (hf 22).trans d22
      have HJ := Lib.hid hJ
      obtain ⟨hp, rb, (hv : T.getD 25 undef = _), hh1, hh2, hb1, hb2, hne⟩ := x25
      have h25 := (hf 25).trans hv
      have HH := Lib.hid (And.intro hh1 (And.intro hh2 (And.intro hb1 (And.intro hb2 hne))))
      clear hv hh1 hh2 hb1 hb2 hne
      clear hag hd d20 d21 d22 hJ hf
      rw [hT]
      clear hT
      simp only [List.pop_toArray, List.dropLast_cons_cons, List.dropLast_singleton, List.filterMap_cons, List.filterMap_nil, List.foldl_cons, List.foldl_nil, List.setIfInBounds_toArray, List.set_cons_succ, List.set_cons_zero, h20, h21, h22]
      simp only [h25]
      have HB5 := Lib.hid (keepB HB3.out HJ.out)
      have he9 := HG.out W HJ.out
      have z9 : W.cell? ⟨hp, 9, none⟩ = some (.int .u32 0) := (blk_cell HH.out.1 9).trans rfl
      have hepo := gepoch_any (H0.out.keep HB5.out) HBL.out n g fr
      rw [HEP.out] at hepo
      have HEPO := Lib.hid hepo
      have hlh : WW.heap.size ≤ hp := by have h1 := HB3.out.size; have h2 := HH.out.2.2.2.1; omega
      have HH1 := Lib.hid HH.out.1
      have HLH := Lib.hid hlh
      clear hepo HJ HG HY2 HMK HH hlh z9
      go_wp2_with (refine wpList_loadG rfl (.tmp 9) rfl g9 rfl (gndC d r n g fr) rfl he9 ?_)
      refine HEPO.out.mono ?_
      rintro en W6 ⟨rfl, hb6⟩
      have e6 := kb hb6 HH1.out
      have z9 : W6.cell? ⟨hp, 9, none⟩ = some (.int .u32 0) := (blk_cell e6 9).trans rfl
      have y9 : W6.frozen? ⟨hp, 9, none⟩ = false := blk_free e6 9
      have HB6 := Lib.hid ((keepB HB5.out hb6).setCell (p := ⟨hp, 9, none⟩) HLH.out (.int .u32 ep))
      clear e6 hb6 he9 HEPO
      go_wp2
      go_step3
      exact ⟨rfl, (show AtMno d WW _ _ from ⟨HB6.out, _, _, _, _, _, _, _, _, _, _, _, _, _, _, _, _, _, _, _, _, _, _, _, _, _, _, _, _, _, _, _, _, _, _, _, _, _, _, _, _, _, _, _, rfl⟩)⟩
  · rintro a' w5 ⟨HB, u1, u2, u3, u4, u5, u6, u7, u8, u9, u10, u11, u12, u13, u14, u15, u16, u17, u18, u19, u20, u21, u22, u23, u24, u25, u26, u27, u28, u29, u30, u31, u32, u33, u34, u35, u36, u37, u38, u39, u40, u41, u42, u43, rfl⟩
    go_wp2
    simp only [Exit.jump]
    go_ret2
    exact ⟨rfl, HB.out⟩
end Go.Proofs.Ytamnpblijdgdaaa
