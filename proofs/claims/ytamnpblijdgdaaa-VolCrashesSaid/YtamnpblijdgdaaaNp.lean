/- Contracts: Mount. -/
import Derived.Test.YtamnpblijdgdaaaNo
namespace Go.Proofs.Ytamnpblijdgdaaa
open Go.ChangeShapes Go.WideShapes Go.ChangeAt Go.RowKit
set_option linter.unusedVariables false
set_option maxRecDepth 100000
def zH : HB := ⟨0, zBs, false⟩
theorem zH_ok : zH.Ok := ⟨by show (0 : Int) ≤ 0 ∧ (0 : Int) ≤ 7; omega, zBs_len, zBs_allB⟩
def vm0 (r fr : Int) (n g : Nat) : VM := ⟨r, fr, n, g, List.replicate n zH, 0, 0, 0⟩
theorem built90 (q rb : Nat) (r fr : Int) (n g : Nat) : Try.prog.built 90 [(0, .agg (gndC (some ⟨q, 0, none⟩) r n g fr)), (1, .slice (some ⟨rb, 0, none⟩) n n)] = some (volC q rb (vm0 r fr n g)) := by kernel_rfl
theorem made95 (n : Nat) : madeCells (Value.agg (hbL zH).toArray).cells (n * 58) = (rowL hbL (List.replicate n zH)).toArray := by
  have hf : Fits hbL 58 (List.replicate n zH) := fun x hx => by rw [List.eq_of_mem_replicate hx]; exact hbL_len zBs_len
  apply Array.toList_inj.1
  rw [List.toList_toArray]
  apply List.ext_getElem?
  intro j
  by_cases hj : j < n * 58
  · have hl : (madeCells (Value.agg (hbL zH).toArray).cells (n * 58)).toList[j]? = some ((hbL zH).toArray[j % (hbL zH).toArray.size]!) := by simp [madeCells, hj, Value.cells]
    have hsz : (hbL zH).toArray.size = 58 := by rw [List.size_toArray]; exact hbL_len zBs_len
    have hr : j % 58 < 58 := Nat.mod_lt _ (by omega)
    have hi : j / 58 < n := Nat.div_lt_of_lt_mul (by omega)
    obtain ⟨u, hu⟩ : ∃ u, (hbL zH)[j % 58]? = some u := ⟨_, List.getElem?_eq_getElem (by rw [hbL_len zBs_len]; exact hr)⟩
    have h2 := rowL_at hf (i := j / 58) (x := zH) (by rw [List.getElem?_replicate, if_pos hi]) hu
    rw [show j / 58 * 58 + j % 58 = j by omega] at h2
    rw [hl, hsz, h2]
    congr 1
    rw [getElem!_def, List.getElem?_toArray, hu]
  · rw [List.getElem?_eq_none (by rw [Array.length_toList, size_madeCells]; omega), List.getElem?_eq_none (by rw [rowL_length hf, List.length_replicate]; omega)]
def VNmo (q g5 n g base : Nat) (r fr : Int) (i : Nat) (v : Value) (w : World) : Prop :=
  match i with
  | 0 => v = .agg (gndC (some ⟨q, 0, none⟩) r n g fr)
  | 1 => v = .pointer (some ⟨g5, 2, none⟩)
  | 2 => v = .int .i64 n
  | 3 => ∃ rb, v = .slice (some ⟨rb, 0, none⟩) n n ∧ w.heap[rb]? = some (.cells (rowL hbL (List.replicate n zH)).toArray 95 (0, 0)) ∧ base ≤ rb
  | 4 => ∃ rb, v = .agg (volC q rb (vm0 r fr n g)) ∧ w.heap[rb]? = some (.cells (rowL hbL (List.replicate n zH)).toArray 95 (0, 0)) ∧ base ≤ rb
  | 5 => ∃ hp rb, v = .pointer (some ⟨hp, 0, none⟩) ∧ w.heap[hp]? = some (.cells (volC q rb (vm0 r fr n g)) 90 (0, 0)) ∧ w.heap[rb]? = some (.cells (rowL hbL (List.replicate n zH)).toArray 95 (0, 0)) ∧ base ≤ rb ∧ base ≤ hp ∧ hp ≠ rb
  | _ => True
set_option maxHeartbeats 3200000 in
theorem vmount_any {w0 W : World} {P : Nat → Prop} {q : Nat} {m : DM} (h : DS w0 W P q m) (r : Int) (hr : i64 r) (n g : Nat) (fr : Int) (hn : n ≤ 200) (hg : g ≤ 1000) (e : Nat) (hep : epN (rowV m r) 2 = (e, true)) (he : e + 1 < 4294967296) (hblk : ∀ i b, rowV m r i = some b → BlkOk b)
    (LG : List (List Int)) (hL : LG.length = g) (hrow : ∀ i b, LG[i]? = some b → rowV m r ((2 + i : Nat) : Int) = some b) (hLB : ∀ b ∈ LG, BlkOk b)
    (Rs : List (List Wr)) (rest : List (List Int)) (hRs : ∀ l ∈ Rs, MayL l ∧ WrsOk l) (hLs : LG = putsL e 0 Rs ++ rest) (hnt : ¬ Taken 0 e Rs.length rest) (hrl : Rs.length ≤ 1000000)
    (X : Nat → List Int) (hX : ∀ i, i < n → rowV m r ((2 + g + i : Nat) : Int) = some (X i) ∧ BlkOk (X i)) (hop : ∀ (i : Nat) (x : HB), (layB (List.replicate n zH) Rs.flatten)[i]? = some x → x.lg = false → Opens 0 i (X i)) (hmax : m.done.length ≤ 999000) :
    Calls Try.prog 16 #[.pointer (some ⟨q, 0, none⟩), .int .i64 r, shQ 0 0 n g fr] W fun en w' => ∃ hp rb, en = .returned (.tuple #[.pointer (some ⟨hp, 0, none⟩), .int .i64 0]) ∧
      SV w0 w' (fun k => P k ∨ k = hp ∨ k = rb) q (homeM m ⟨r, fr, n, g, fetchB X 0 (layB (List.replicate n zH) Rs.flatten), e, 0, 0⟩) hp rb (homeV ⟨r, fr, n, g, fetchB X 0 (layB (List.replicate n zH) Rs.flatten), e, 0, 0⟩) ∧ Same P W w' ∧ W.heap.size ≤ hp ∧ W.heap.size ≤ rb := by
  obtain ⟨WW, rfl⟩ : ∃ WW, WW = W := ⟨W, rfl⟩
  have HD := Lib.hid h
  have HR := Lib.hid hr
  have HNG := Lib.hid (And.intro hn hg)
  have HMX := Lib.hid hmax
  have HGO := Lib.hid (fun W => groundOf_any (some ⟨q, 0, none⟩) r n g fr hn hg W)
  have hb1 : ∀ o, Below WW.heap.size WW (WW.alloc o) := fun o => (Below.refl _ _).alloc (Nat.le_refl _) _
  have e5 := fun o => heap_alloc_new WW o
  have HEP := Lib.hid hep
  have HE := Lib.hid he
  have HBL := Lib.hid hblk
  have HRP := Lib.hid (And.intro hL (And.intro hrow (And.intro hLB (And.intro hRs (And.intro hLs (And.intro hnt hrl))))))
  have HXX := Lib.hid (And.intro hX hop)
  obtain ⟨i0, hi0, hz0, hz1, hz2⟩ := info_parts info95
  have hmk := fun w : World => run_make (P := Try.prog) w 88 95 i0 _ Try.underlying88 hi0 hz0 .i64 .i64 (n : Int) (n : Int) (by omega) (by omega) (by rw [hz2]; omega) (by omega)
  rw [Int.toNat_natCast, hz1, show (hbL ⟨0, zBs, false⟩) = hbL zH from rfl, made95] at hmk
  have HMK := Lib.hid hmk
  unfold shQ
  clear h hmax hep he hblk hL hrow hLB hRs hLs hnt hrl hX hop hi0 hz0 hz1 hz2 hmk
  go_enter Try.func16, Try.ntmps16
  go_wp2
  go_step3
  go_wp2_with fail
  have HB1 := Lib.hid (hb1 (Obj.cells #[.int .i64 0, .int .i64 0, .int .i64 n, .int .i64 g, .int .i64 fr] 30))
  have he5 := e5 (Obj.cells #[.int .i64 0, .int .i64 0, .int .i64 n, .int .i64 g, .int .i64 fr] 30)
  refine (HGO.out _).mono ?_
  rintro en W2 ⟨rfl, hb2⟩
  have he6 := kb hb2 he5
  have HB2 := Lib.hid (keepB HB1.out hb2)
  clear hb1 hb2 e5 he5
  unfold gndA
  go_upto_region 3 with (refine wpList_storeG rfl (.tmp 9) (.tmp 16) rfl W2.heap.size rfl (gndC (some ⟨q, 0, none⟩) r n g fr) rfl (gndC_one _ _ _ _ _) rfl _ rfl (heap_alloc_new W2 _) ?_)
  have e7 := setRow_blk (D := gndC (some ⟨q, 0, none⟩) r n g fr) (heap_alloc_new W2 (Obj.cells #[.pointer none, .int .i64 0, .int .u8 0, .int .i64 0, .int .i64 0, .int .i64 0, .int .i64 0, .int .i64 0] 82))
  have hb3 : Below W2.heap.size W2 ((W2.alloc (Obj.cells #[.pointer none, .int .i64 0, .int .u8 0, .int .i64 0, .int .i64 0, .int .i64 0, .int .i64 0, .int .i64 0] 82)).setRow W2.heap.size (gndC (some ⟨q, 0, none⟩) r n g fr)) := below_setRow ((Below.refl _ _).alloc (Nat.le_refl _) _) (Nat.le_refl _) _
  have HB3 := Lib.hid (keepB HB2.out hb3)
  have e5 := kb hb3 he6
  have hlt5 : WW.heap.size < W2.heap.size := room_lt he6
  have hsz3 : W2.heap.size < ((W2.alloc (Obj.cells #[.pointer none, .int .i64 0, .int .u8 0, .int .i64 0, .int .i64 0, .int .i64 0, .int .i64 0, .int .i64 0] 82)).setRow W2.heap.size (gndC (some ⟨q, 0, none⟩) r n g fr)).heap.size := room_lt e7
  generalize (W2.alloc (Obj.cells #[.pointer none, .int .i64 0, .int .u8 0, .int .i64 0, .int .i64 0, .int .i64 0, .int .i64 0, .int .i64 0] 82)).setRow W2.heap.size (gndC (some ⟨q, 0, none⟩) r n g fr) = W3 at *
  generalize W2.heap.size = g9 at *
  clear hb3
  have HSZ := Lib.hid (And.intro hlt5 hsz3)
  have HG := Lib.hid (fun (W' : World) (hb' : Below W3.heap.size W3 W') => kb hb' e7)
  have HY2 : Hid (∀ W', Below W3.heap.size W3 W' → W'.cell? ⟨WW.heap.size, 2, none⟩ = some (.int .i64 n)) := fun W' hb' => (blk_cell (kb hb' e5) 2).trans rfl
  clear e7 e5 he6 hlt5 hsz3
  go_upto_region 4 with fail
  refine wp_region_rgk (VNmo q WW.heap.size n g W3.heap.size r fr) (fun _ W => Below W3.heap.size W3 W) (fun _ w w' => Below w.heap.size w w') (by kernel_rfl) (by kernel_rfl) (fun i j v w w' _ _ h hs => by revert h; unfold VNmo; split <;> intro h <;> first | exact h | (obtain ⟨p, h1, h2, h3⟩ := h; exact ⟨p, h1, kb hs h2, h3⟩) | (obtain ⟨p, p2, h1, h2, h3, h4⟩ := h; exact ⟨p, p2, h1, kb hs h2, kb hs h3, h4⟩) | trivial) ((Below.refl _ _).drew) ?_
  simp only [RAll]
  refine ⟨?_, ?_, ?_, ?_, ?_, ?_, ?_⟩
  · refine RStepK.of rfl fun T W L hag hL hJ hLs hd => ?_   -- 0: 20 := Op.load 82 (Operand.tmp 9)
    have e9 : T.getD 9 undef = _ := (agree_at hag 9 (by kernel_rfl)).trans rfl
    obtain ⟨z0, z1, z2, z3, z4, z5, z6, z7⟩ := gnd_cells (HG.out W hJ)
    have y2 := HY2.out W hJ
    clear hag hd
    go_simp
    first | exact ⟨_, rfl, rfl⟩ | exact ⟨_, rfl, rfl, brefl _⟩ | exact ⟨_, rfl, rfl, hJ, brefl _⟩
  · refine RStepK.of rfl fun T W L hag hL hJ hLs hd => ?_   -- 1: 21 := Op.fieldAddr 30 (Operand.tmp 5) 1
    have e5 : T.getD 5 undef = _ := (agree_at hag 5 (by kernel_rfl)).trans rfl
    clear hag hd
    go_simp
    first | exact ⟨_, rfl, rfl⟩ | exact ⟨_, rfl, rfl, brefl _⟩ | exact ⟨_, rfl, rfl, hJ, brefl _⟩
  · refine RStepK.of rfl fun T W L hag hL hJ hLs hd => ?_   -- 2: 22 := Op.load 3 (Operand.tmp 21)
    have d21 : T.getD 21 undef = _ := hd ⟨1, .data⟩ (by simp) rfl _ rfl
    obtain ⟨z0, z1, z2, z3, z4, z5, z6, z7⟩ := gnd_cells (HG.out W hJ)
    have y2 := HY2.out W hJ
    clear hag hd
    go_simp
    first | exact ⟨_, rfl, rfl⟩ | exact ⟨_, rfl, rfl, brefl _⟩ | exact ⟨_, rfl, rfl, hJ, brefl _⟩
  · refine RStepK.of rfl fun T W L hag hL hJ hLs hd => ?_   -- 3: 23 := Op.makeSlice 88 (Operand.tmp 22) (Operand.tmp 22)
    have d22 : T.getD 22 undef = _ := hd ⟨2, .data⟩ (by simp) rfl _ rfl
    have ev22 : (⟨T, []⟩ : Act).eval (.tmp 22) = .int .i64 n := d22
    clear hag hd
    refine wp_run (v := .slice (some ⟨W.heap.size, 0, none⟩) n n) (w' := W.alloc (.cells (rowL hbL (List.replicate n zH)).toArray 95)) ?_ ⟨_, rfl, ⟨_, rfl, heap_alloc_new W _, hJ.size⟩, hJ.alloc hJ.size _, (brefl W).alloc (Nat.le_refl _) _⟩
    have hm := HMK.out W
    unfold execOp
    simp only [ev22, Sem.run_bind, hm, Result.andThen_ok, Sem.run_pure]
  · refine RStepK.of rfl fun T W L hag hL hJ hLs hd => ?_   -- 4: 24 := Op.build 90 #[(0, Operand.tmp 20), (1, Operand.tmp 23)]
    have d20 : T.getD 20 undef = _ := hd ⟨0, .data⟩ (by simp) rfl _ rfl
    have x23 := hd ⟨3, .data⟩ (by simp) rfl _ rfl
    obtain ⟨rb, (hs : T.getD 23 undef = _), hp, hbs⟩ := x23
    have ev20 : (⟨T, []⟩ : Act).eval (.tmp 20) = .agg (gndC (some ⟨q, 0, none⟩) r n g fr) := d20
    have ev23 : (⟨T, []⟩ : Act).eval (.tmp 23) = .slice (some ⟨rb, 0, none⟩) n n := hs
    clear hag hd
    have hb := run_build (P := Try.prog) W 90 #[(0, .agg (gndC (some ⟨q, 0, none⟩) r n g fr)), (1, .slice (some ⟨rb, 0, none⟩) n n)] _ (built90 q rb r fr n g)
    refine wp_run (v := .agg (volC q rb (vm0 r fr n g))) (w' := W) ?_ ⟨_, rfl, ⟨_, rfl, hp, hbs⟩, hJ, brefl _⟩
    unfold execOp
    simp only [List.map_toArray, List.map_cons, List.map_nil, ev20, ev23, Sem.run_bind, hb, Result.andThen_ok, Sem.run_pure]
  · refine RStepK.of rfl fun T W L hag hL hJ hLs hd => ?_   -- 5: 25 := Op.box 90 (Operand.tmp 24)
    have x24 := hd ⟨4, .data⟩ (by simp) rfl _ rfl
    obtain ⟨rb, (hs : T.getD 24 undef = _), hp, hbs⟩ := x24
    clear hag hd
    go_simp
    exact ⟨_, rfl, ⟨W.heap.size, rb, rfl, heap_alloc_new W _, kb ((brefl W).alloc (Nat.le_refl _) _) hp, hbs, hJ.size, by have := room_lt hp; omega⟩, hJ.alloc hJ.size _, (brefl W).alloc (Nat.le_refl _) _⟩
  · refine RLastK.of rfl fun T W L hag hLs hL hJ hd => ?_   -- 6: 8 := Op.assign (Operand.tmp 25)
    have x25 := hd 5 _ (by simp) rfl
    obtain ⟨f, hf, hT⟩ := agree_fn hag
    have d20 : T.getD 20 undef = _ := hd 0 _ (by simp) rfl
    have h20 := (hf 20).trans d20
    have d21 : T.getD 21 undef = _ := hd 1 _ (by simp) rfl
    have h21 := (hf 21).trans d21
    have d22 : T.getD 22 undef = _ := hd 2 _ (by simp) rfl
    have h22 := (hf 22).trans d22
    have HJ := Lib.hid hJ
    obtain ⟨hp, rb, (hv : T.getD 25 undef = _), hh1, hh2, hb1, hb2, hne⟩ := x25
    have h25 := (hf 25).trans hv
    have HH := Lib.hid (And.intro hh1 (And.intro hh2 (And.intro hb1 (And.intro hb2 hne))))
    clear hv hh1 hh2 hb1 hb2 hne
    clear hag hd d20 d21 d22 hJ hf
    rw [hT]
    clear hT
    simp only [List.pop_toArray, List.dropLast_cons_cons, List.dropLast_singleton, List.filterMap_cons, List.filterMap_nil, List.foldl_cons, List.foldl_nil, List.setIfInBounds_toArray, List.set_cons_succ, List.set_cons_zero, h20, h21, h22]
    simp only [h25]
    have HB5 := Lib.hid (keepB HB3.out HJ.out)
    have hlh := room_lt HH.out.1
    have hlr := room_lt HH.out.2.1
    have hs3 := HB3.out.size
    have hs0 := HD.out.bel.size
    have hd5 : DS w0 W (fun k => P k ∨ k = hp ∨ k = rb) q m := HD.out.below HB5.out (fun k hk => by
      rcases hk with hk | rfl | rfl
      · exact Or.inl hk
      · exact Or.inr ⟨by have := HH.out.2.2.2.1; omega, hlh⟩
      · exact Or.inr ⟨by have := HH.out.2.2.1; omega, hlr⟩)
    have hv0 : VolAt W q hp rb (vm0 r fr n g) := { len := List.length_replicate, ok := (fun x hx => by rw [List.eq_of_mem_replicate hx]; exact zH_ok), n := HNG.out.1, g := HNG.out.2, r := HR.out, ep := (by show (0 : Nat) < 4294967296; omega), sq := (by show (0 : Nat) < 4294967296; omega), us := (by show (0 : Nat) ≤ 2000; omega), hd := HH.out.1, row := HH.out.2.1 }
    have hsv5 : SV w0 W (fun k => P k ∨ k = hp ∨ k = rb) q m hp rb (vm0 r fr n g) := { ds := hd5, at_ := hv0, ph := Or.inr (Or.inl rfl), pr := Or.inr (Or.inr rfl), lh := (by have := HH.out.2.2.2.1; omega), lr := (by have := HH.out.2.2.1; omega), ne := HH.out.2.2.2.2 }
    have HS5 := Lib.hid hsv5
    have HSM5 := Lib.hid (HD.out.same HB5.out)
    have HLO : Hid (WW.heap.size ≤ hp ∧ WW.heap.size ≤ rb) := ⟨by have := HH.out.2.2.2.1; omega, by have := HH.out.2.2.1; omega⟩
    have HRST : Hid (∀ k, P k → Rst (fun k => P k ∨ k = hp ∨ k = rb) hp rb k) := fun k hk => by
      have := HD.out.low k hk
      have h1 := HLO.out.1
      have h2 := HLO.out.2
      exact ⟨Or.inl hk, by omega, by omega⟩
    have he9 := HG.out W HJ.out
    have hepo := gepoch_any ((HD.out.rd r HR.out).keep HB5.out) HBL.out n g fr
    rw [HEP.out] at hepo
    have HEPO := Lib.hid hepo
    clear hlh hlr hs3 hs0 hd5 hv0 hsv5 hepo HJ HG HY2 HMK
    go_wp2_with (refine wpList_loadG rfl (.tmp 9) rfl g9 rfl (gndC (some ⟨q, 0, none⟩) r n g fr) rfl he9 ?_)
    refine HEPO.out.mono ?_
    rintro en W6 ⟨rfl, hb6⟩
    have hs6 := HS5.out.below hb6
    have hs7 := hs6.setHd (i := 9) (u := .int .u32 e) (v' := { vm0 r fr n g with ep := e }) rfl rfl { hs6.at_.toOk with ep := (by show e < 4294967296; have := HE.out; omega) }
    have z9 : W6.cell? ⟨hp, 9, none⟩ = some (.int .u32 0) := hs6.at_.c9
    have y9 := hs6.at_.f 9
    have HS7 := Lib.hid hs7.1
    have HSM7 := Lib.hid ((HSM5.out.trans ((HS5.out.same hb6).mono fun k hk => Or.inl hk)).trans (hs7.2.mono HRST.out))
    clear he9 hs6 hs7 hb6 HEPO
    obtain ⟨h1, h2, h3, h4, h5, h6, h7⟩ := HRP.out
    have hre := fun W (hs : SV w0 W (fun k => P k ∨ k = hp ∨ k = rb) q m hp rb { vm0 r fr n g with ep := e }) => vreplay_any hs LG h1 h2 h3 Rs rest h4 h5 h6 h7
    have HRE := Lib.hid hre
    clear hre h1 h2 h3 h4 h5 h6 h7
    go_upto_region 6 with fail
    generalize W6.setCell ⟨hp, 9, none⟩ (.int .u32 e) = W7 at *
    clear z9 y9
    go_wp2_with fail
    refine (HRE.out W7 HS7.out).mono ?_
    rintro en W8 ⟨rfl, hs8, hm8⟩
    have hfe := vfetch_any hs8 X HXX.out.1 HXX.out.2
    have HFE := Lib.hid hfe
    have HSM8 := Lib.hid (HSM7.out.trans (hm8.mono HRST.out))
    clear hs8 hm8 hfe HRE HS7
    go_wp2_with fail
    refine HFE.out.mono ?_
    rintro en W9 ⟨rfl, hs9, hm9⟩
    have hgo := vgoHome_any hs9 HE.out HMX.out
    have HGH := Lib.hid hgo
    have HSM9 := Lib.hid (HSM8.out.trans (hm9.mono HRST.out))
    clear hs9 hm9 hgo HFE
    go_wp2_with fail
    refine HGH.out.mono ?_
    rintro en W10 ⟨rfl, hs10, hm10⟩
    have HF := Lib.hid hs10
    have HSM10 := Lib.hid (HSM9.out.trans (hm10.mono HRST.out))
    clear hs10 hm10 HGH
    go_wp2
    try rw [Exit.noGoto_ret]
    go_ret2
    exact ⟨hp, rb, rfl, HF.out, HSM10.out, HLO.out.1, HLO.out.2⟩

end Go.Proofs.Ytamnpblijdgdaaa
