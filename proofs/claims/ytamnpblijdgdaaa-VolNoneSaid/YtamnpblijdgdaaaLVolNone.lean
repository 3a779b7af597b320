/- The law VolNone answers true for every input, and leaves its arguments alone. No condition. -/
import Derived.Test.YtamnpblijdgdaaaRows
import Derived.Test.YtamnpblijdgdaaaNx
import Derived.WalkKit
import Derived.ProofKit
import Derived.OpenShut
namespace Go.Proofs.Ytamnpblijdgdaaa.volNone
open Go.ChangeShapes Go.WideShapes Go.ChangeAt Go.RowKit Go.Joins
set_option linter.unusedVariables false
theorem own : ownKnob Try.prog.godebug = none := by kernel_rfl
theorem laidOut : laidOutB Try.prog = true := by kernel_rfl
set_option maxRecDepth 100000
def VNnn (base : Nat) (i : Nat) (v : Value) (w : World) : Prop :=
  match i with
  | 0 | 3 => v = shQ 0 0 5 17 3
  | 1 | 4 => v = .int .i64 24
  | 2 => v = .int .i64 23
  | 9 => v = .bool true
  | 5 => ∃ g', v = .slice (some ⟨g', 0, none⟩) 2 2 ∧ w.heap[g']? = some (.cells ([23, 24].map (Value.int .i64)).toArray 3 (0, 0))
  | 6 => ∃ q F, v = .tuple #[.pointer (some ⟨q, 0, none⟩), .bool true] ∧ Dev w F q (DM.make [23, 24]) ∧ ∀ k, F k → base ≤ k
  | 7 => ∃ q F, v = .tuple #[.pointer (some ⟨q, 0, none⟩), .bool true] ∧ Dev w F q (DM.make [23, 24]) ∧ ∀ k, F k → base ≤ k
  | 8 => ∃ q F, v = .pointer (some ⟨q, 0, none⟩) ∧ Dev w F q (DM.make [23, 24]) ∧ ∀ k, F k → base ≤ k
  | 10 => ∃ q F, v = .pointer (some ⟨q, 0, none⟩) ∧ Dev w F q (DM.make [23, 24]) ∧ ∀ k, F k → base ≤ k
  | _ => True
theorem rowd (r i : Int) (zs : List Int) (hm : mayV zs = true) : ∀ b, rowV (DM.make zs) r i = some b → BlkOk b := fun b h => by rw [make_rows hm r i b h]; exact zeroBlk
theorem none_at {x1 : Int} (hx : x1 ≠ 1) : rowV (DM.make [23, 24]) x1 ((1 + 17 + 5 : Nat) : Int) = none := by
  unfold rowV
  rw [if_neg]
  intro hh
  obtain ⟨rn, j, row, e1, e2, hrow, hj⟩ := hasB_row hh
  have hrow' : ([23, 24].map zeroRow)[rn]? = some row := hrow
  have hj2 : j = 23 := by omega
  subst hj2
  match rn, hrow' with
  | 0, h => have h1 : zeroRow 23 = row := Option.some.inj h
            rw [← h1, show (zeroRow 23).length = 23 from List.length_replicate] at hj; omega
  | 1, h => exact hx e1
  | n + 2, h => simp at h
theorem some_at : (rowV (DM.make [23, 24]) 1 ((1 + 17 + 5 : Nat) : Int)).isSome = true := by kernel_rfl
set_option maxHeartbeats 3200000 in
theorem walk (x0 : Int) (x1 : Int) (w : World) (hx0 : -9223372036854775808 ≤ x0 ∧ x0 ≤ 9223372036854775807) (hx1 : -9223372036854775808 ≤ x1 ∧ x1 ≤ 9223372036854775807) :
    Calls Try.prog 5 #[.int .i64 x0, .int .i64 x1] w fun e w' => e = .returned (.bool true) ∧ Below w.heap.size w w' := by
  have hm : mayV [23, 24] = true := by decide
  go_enter Try.func5, Try.ntmps5
  go_wp2_with fail
  refine (begun9_any w).mono ?_
  rintro e w0 ⟨rfl, hb0⟩
  have HB0 := Lib.hid hb0
  clear hb0
  go_wp2_with fail
  refine (vget_nil w0 x0 (by constructor <;> omega)).mono ?_
  rintro e w1 ⟨rfl, hb1⟩
  have HB1 := Lib.hid (HB0.out.trans (hb1.mono HB0.out.size))
  clear hb1 HB0
  go_upto_region 5 with (first | (refine wpList_allocB rfl rfl ?_) | (refine wpList_storeB rfl (.tmp 6) (.tmp 22) rfl w1.heap.size rfl 0 0 zBs zBs rfl zBs_len zBs_len (heap_alloc_new w1 _) ?_))
  have hb2 : Below w1.heap.size w1 ((w1.alloc (Obj.cells (blkA 0 zBs) 46)).setRow w1.heap.size (blkA 0 zBs)) := below_setRow ((Below.refl _ _).alloc (Nat.le_refl _) _) (Nat.le_refl _) _
  generalize (w1.alloc (Obj.cells (blkA 0 zBs) 46)).setRow w1.heap.size (blkA 0 zBs) = w2 at *
  have HB2 := Lib.hid (HB1.out.trans (hb2.mono HB1.out.size))
  clear hb2 HB1
  generalize w1.heap.size = g6 at *
  try simp only [Act.put]
  go_wp2_with fail
  refine (vsync_nil w2).mono ?_
  rintro e w' ⟨rfl, rfl⟩
  go_wp2_with fail
  refine (vtidy_nil w2).mono ?_
  rintro e w' ⟨rfl, rfl⟩
  go_wp2_with fail
  refine (share_any 1 1 (by omega) (by omega) w2).mono ?_
  rintro e w3 ⟨rfl, hb3⟩
  have HB3 := Lib.hid (HB2.out.trans (hb3.mono HB2.out.size))
  clear hb3 HB2
  simp only [show 4 + 1 % 30 = 5 from rfl, show 16 + 1 % 30 = 17 from rfl]
  go_upto_region 8 with (refine wpList_storeS rfl (.tmp 8) (.tmp 28) rfl w3.heap.size rfl 5 17 3 rfl _ rfl (heap_alloc_new w3 _) ?_)
  have e8 := setRow_blk (D := shC 5 17 3) (heap_alloc_new w3 (Obj.cells #[.int .i64 0, .int .i64 0, .int .i64 0, .int .i64 0, .int .i64 0] 30))
  have hb4 : Below w3.heap.size w3 ((w3.alloc (Obj.cells #[.int .i64 0, .int .i64 0, .int .i64 0, .int .i64 0, .int .i64 0] 30)).setRow w3.heap.size (shC 5 17 3)) := below_setRow ((Below.refl _ _).alloc (Nat.le_refl _) _) (Nat.le_refl _) _
  have HB4 := Lib.hid (HB3.out.trans (hb4.mono HB3.out.size))
  obtain ⟨g8, hg8⟩ : ∃ g8, g8 = w3.heap.size := ⟨_, rfl⟩
  rw [← hg8] at e8 hb4 HB4 ⊢
  clear hb4 HB3 hg8
  generalize (w3.alloc (Obj.cells #[.int .i64 0, .int .i64 0, .int .i64 0, .int .i64 0, .int .i64 0] 30)).setRow g8 (shC 5 17 3) = w4 at *
  simp only [Act.put]
  have HDL : Hid ((DM.make [23, 24]).done.length + 5 ≤ 999000) := by show 0 + 5 ≤ 999000; omega
  have HG8 := Lib.hid (room_lt e8)
  have HE8 := Lib.hid (fun (W' : World) (hb' : Below w4.heap.size w4 W') => kb hb' e8)
  clear e8
  refine wp_region_rgk (VNnn w4.heap.size) (fun _ W => Below w4.heap.size w4 W) (fun _ w w' => Below w.heap.size w w') (by kernel_rfl) (by kernel_rfl) (fun i j v w w' _ _ h hs => by revert h; unfold VNnn; split <;> intro h <;> first | exact h | (obtain ⟨p, h1, h2⟩ := h; exact ⟨p, h1, kb hs h2⟩) | (obtain ⟨p, F, h1, h2, h3⟩ := h; exact ⟨p, F, h1, h2.below hs, h3⟩) | trivial) ((Below.refl _ _).drew) ?_
  simp only [RAll]
  refine ⟨?_, ?_, ?_, ?_, ?_, ?_, ?_, ?_, ?_, ?_, ?_, ?_⟩
  · refine RStepK.of rfl fun T W L hag hL hJ hLs hd => ?_   -- 0: 30 := Op.load 30 (Operand.tmp 8)
    have e8 : T.getD 8 undef = _ := (agree_at hag 8 (by kernel_rfl)).trans rfl
    obtain ⟨z0, z1, z2, z3, z4⟩ := sh_cells (HE8.out W hJ)
    clear hag hd
    go_simp
    first | exact ⟨_, rfl, rfl⟩ | exact ⟨_, rfl, rfl, brefl _⟩ | exact ⟨_, rfl, rfl, hJ, brefl _⟩
  · refine RStepK.of rfl fun T W L hag hL hJ hLs hd => ?_   -- 1: 31 := Op.call { callee := Callee.value (Operand.func 14), args := 
    have d30 : T.getD 30 undef = _ := hd ⟨0, .data⟩ (by simp) rfl _ rfl
    clear hag hd
    go_simp
    refine (size_any 0 0 5 17 3 (by omega) (by omega) W).mono ?_
    rintro e w' ⟨rfl, hb⟩
    exact ⟨_, rfl, rfl, keepB hJ hb, hb⟩
  · refine RStepK.of rfl fun T W L hag hL hJ hLs hd => ?_   -- 2: 32 := Op.binOp BinOp.sub 3 (Operand.tmp 31) (Operand.const (Value.
    have d31 : T.getD 31 undef = _ := hd ⟨1, .data⟩ (by simp) rfl _ rfl
    clear hag hd
    go_simp
    first | exact ⟨_, rfl, rfl⟩ | exact ⟨_, rfl, rfl, brefl _⟩ | exact ⟨_, rfl, rfl, hJ, brefl _⟩
  · refine RStepK.of rfl fun T W L hag hL hJ hLs hd => ?_   -- 3: 33 := Op.load 30 (Operand.tmp 8)
    have e8 : T.getD 8 undef = _ := (agree_at hag 8 (by kernel_rfl)).trans rfl
    obtain ⟨z0, z1, z2, z3, z4⟩ := sh_cells (HE8.out W hJ)
    clear hag hd
    go_simp
    first | exact ⟨_, rfl, rfl⟩ | exact ⟨_, rfl, rfl, brefl _⟩ | exact ⟨_, rfl, rfl, hJ, brefl _⟩
  · refine RStepK.of rfl fun T W L hag hL hJ hLs hd => ?_   -- 4: 34 := Op.call { callee := Callee.value (Operand.func 14), args := 
    have d33 : T.getD 33 undef = _ := hd ⟨3, .data⟩ (by simp) rfl _ rfl
    clear hag hd
    go_simp
    refine (size_any 0 0 5 17 3 (by omega) (by omega) W).mono ?_
    rintro e w' ⟨rfl, hb⟩
    exact ⟨_, rfl, rfl, keepB hJ hb, hb⟩
  · refine RStepK.of rfl fun T W L hag hL hJ hLs hd => ?_   -- 5: 35 := Op.buildSlice 36 2 #[(0, Operand.tmp 32), (1, Operand.tmp 34
    have d32 : T.getD 32 undef = _ := hd ⟨2, .data⟩ (by simp) rfl _ rfl
    have d34 : T.getD 34 undef = _ := hd ⟨4, .data⟩ (by simp) rfl _ rfl
    clear hag hd
    simp only [Array.getD_eq_getD_getElem?] at d32 d34
    go_simp
    exact ⟨_, rfl, ⟨W.heap.size, rfl, heap_alloc_new W _⟩, hJ.alloc hJ.size _, (brefl W).alloc (Nat.le_refl _) _⟩
  · refine RStepK.of rfl fun T W L hag hL hJ hLs hd => ?_   -- 6: 36 := Op.call { callee := Callee.value (Operand.func 13), args := 
    have x35 := hd ⟨5, .data⟩ (by simp) rfl _ rfl
    obtain ⟨g', (hs : T.getD 35 undef = _), hgp⟩ := x35
    clear hag hd
    go_simp
    refine (new_at W g' [23, 24] 2 rfl (by decide) (fun x hx => by simp at hx; rcases hx with rfl | rfl <;> constructor <;> omega) _ hgp).mono ?_
    rintro e w' ⟨⟨q, F, rfl, hdv, hF⟩, hb⟩
    exact ⟨_, rfl, ⟨q, F, rfl, hdv, fun k hk => Nat.le_trans hJ.size (hF k hk)⟩, keepB hJ hb, hb⟩
  · refine RStepK.of rfl fun T W L hag hL hJ hLs hd => ?_   -- 7: 29 := Op.move (Operand.tmp 36)
    have x36 := hd ⟨6, .data⟩ (by simp) rfl _ rfl
    obtain ⟨q, F, (hs : T.getD 36 undef = _), hdv, hF⟩ := x36
    clear hag hd
    go_simp
    exact ⟨_, rfl, ⟨q, F, rfl, hdv, hF⟩, brefl _⟩
  · refine RStepK.of rfl fun T W L hag hL hJ hLs hd => ?_   -- 8: 37 := Op.extract (Operand.tmp 29) 0
    have x29 := hd ⟨7, .data⟩ (by simp) rfl _ rfl
    obtain ⟨q, F, (hs : T.getD 29 undef = _), hdv, hF⟩ := x29
    clear hag hd
    go_simp
    exact ⟨_, rfl, ⟨q, F, rfl, hdv, hF⟩, brefl _⟩
  · refine RStepK.of rfl fun T W L hag hL hJ hLs hd => ?_   -- 9: 38 := Op.extract (Operand.tmp 29) 1
    have x29 := hd ⟨7, .data⟩ (by simp) rfl _ rfl
    obtain ⟨q, F, (hs : T.getD 29 undef = _), hdv, hF⟩ := x29
    clear hag hd hdv hF
    go_simp
    first | exact ⟨_, rfl, rfl⟩ | exact ⟨_, rfl, rfl, brefl _⟩ | exact ⟨_, rfl, rfl, hJ, brefl _⟩
  · refine RStepK.of rfl fun T W L hag hL hJ hLs hd => ?_   -- 10: 9 := Op.assign (Operand.tmp 37)
    have x37 := hd ⟨8, .data⟩ (by simp) rfl _ rfl
    obtain ⟨q, F, (hs : T.getD 37 undef = _), hdv, hF⟩ := x37
    clear hag hd
    go_simp
    exact ⟨_, rfl, ⟨q, F, rfl, hdv, hF⟩, brefl _⟩
  · refine RLastK.of rfl fun T W L hag hLs hL hJ hd => ?_   -- 11: 10 := Op.assign (Operand.tmp 38)
    have d38 : T.getD 38 undef = _ := hd 9 _ (by simp) rfl
    obtain ⟨f, hf, hT⟩ := agree_fn hag
    have d30 : T.getD 30 undef = _ := hd 0 _ (by simp) rfl
    have h30 := (hf 30).trans d30
    have d31 : T.getD 31 undef = _ := hd 1 _ (by simp) rfl
    have h31 := (hf 31).trans d31
    have d32 : T.getD 32 undef = _ := hd 2 _ (by simp) rfl
    have h32 := (hf 32).trans d32
    have d33 : T.getD 33 undef = _ := hd 3 _ (by simp) rfl
    have h33 := (hf 33).trans d33
    have d34 : T.getD 34 undef = _ := hd 4 _ (by simp) rfl
    have h34 := (hf 34).trans d34
    have h38 := (hf 38).trans d38
    have HJ := Lib.hid hJ
    have x9 := hd 10 _ (by simp) rfl
    obtain ⟨q, F, (hv : T.getD 9 undef = _), hdv, hF⟩ := x9
    have h9 := (hf 9).trans hv
    have HDV := Lib.hid (And.intro hdv hF)
    clear hv hdv hF
    clear hag hd d30 d31 d32 d33 d34 d38 hJ hf
    rw [hT]
    clear hT
    simp only [List.pop_toArray, List.dropLast_cons_cons, List.dropLast_singleton, List.filterMap_cons, List.filterMap_nil, List.foldl_cons, List.foldl_nil, List.setIfInBounds_toArray, List.set_cons_succ, List.set_cons_zero, h30, h31, h32, h33, h34, h38]
    simp only [h9]
    obtain ⟨hdv, hF⟩ := HDV.out
    have hds := DS.made (HB4.out) hdv hF HJ.out
    have hlt : g8 < w4.heap.size := HG8.out
    have HDS := Lib.hid (And.intro hds hlt)
    have HE := Lib.hid (HE8.out W HJ.out)
    clear hdv hF hds hlt HDV HE8 HJ HG8 HB4
    generalize w4.heap.size = s4 at *
    have hno : x1 ≠ 1 → rowV (DM.make [23, 24]) x1 ((1 + 17 + 5 : Nat) : Int) = none := fun hx => none_at hx
    have hyes : (rowV (DM.make [23, 24]) 1 ((1 + 17 + 5 : Nat) : Int)).isSome = true := some_at
    have HNO := Lib.hid hno
    have HYES := Lib.hid hyes
    clear hno hyes
    have hhm := hm
    have hz : ∀ r i b, rowV (DM.make [23, 24]) r i = some b → b = z64b := fun r i b h => make_rows hm r i b h
    have hzb : ∀ r i b, rowV (DM.make [23, 24]) r i = some b → BlkOk b := fun r i b h => rowd r i _ hm b h
    have HZ := Lib.hid (And.intro hz hzb)
    clear hz hzb hhm hm
    generalize DM.make [23, 24] = md at *
    have HDN : Hid (md.done.length + 5 ≤ 999000) := HDL.out
    clear HDL
    go_wp2_with (refine wpList_loadS rfl (.tmp 8) rfl g8 rfl 5 17 3 HE.out ?_)
    refine (vmount_no (HDS.out.1.rd 1 (by constructor <;> omega)) (fun i b hb => HZ.out.2 1 i b hb) 5 17 3 (by omega) (by omega) 0 (no_epoch_zero (fun i b hb => HZ.out.1 1 i b hb))).mono ?_
    rintro e w6 ⟨rfl, hb6⟩
    have HDS6 := Lib.hid (HDS.out.1.below hb6 (fun k hk => Or.inl hk))
    have HE6 := Lib.hid (kb hb6 HE.out)
    have HLT := Lib.hid HDS.out.2
    clear hb6 HE HDS
    go_wp2_with (refine wpList_loadS rfl (.tmp 8) rfl g8 rfl 5 17 3 HE6.out ?_)
    refine (vmount_no (HDS6.out.rd 0 (by constructor <;> omega)) (fun i b hb => HZ.out.2 0 i b hb) 5 17 3 (by omega) (by omega) 0 (no_epoch_zero (fun i b hb => HZ.out.1 0 i b hb))).mono ?_
    rintro e w7 ⟨rfl, hb7⟩
    have HDS7 := Lib.hid (HDS6.out.below hb7 (fun k hk => Or.inl hk))
    have HE7 := Lib.hid (kb hb7 HE6.out)
    clear hb7 HE6 HDS6
    by_cases hx : x1 = 1
    · subst hx
      go_upto_region 12 with fail
      go_wp2_with (first | (refine wpList_buildTw rfl (.const (.int .i64 1)) 1 rfl rfl ?_) | (refine wpList_oneWw rfl (.tmp 60) rfl ⟨1, 0, zBs⟩ zBs_len rfl ?_))
      have hb8 : Below w7.heap.size w7 (w7.alloc (Obj.cells (wrA ⟨1, 0, zBs⟩) 55)) := (Below.refl _ _).alloc (Nat.le_refl _) _
      have HDS8 := Lib.hid (HDS7.out.below hb8 (fun k hk => Or.inl hk))
      have HE8 := Lib.hid (kb hb8 HE7.out)
      clear hb8 HDS7 HE7
      generalize w7.alloc (Obj.cells (wrA ⟨1, 0, zBs⟩) 55) = w8 at *
      generalize w7.heap.size = s7 at *
      refine (vchange_nil w8 (some ⟨s7, 0, none⟩) 1 1).mono ?_
      rintro e w' ⟨rfl, rfl⟩
      go_wp2_with fail
      refine (vepoch_nil w8).mono ?_
      rintro e w' ⟨rfl, rfl⟩
      go_wp2_with fail
      refine (vroom_nil w8).mono ?_
      rintro e w' ⟨rfl, rfl⟩
      go_wp2_with fail
      refine (vblocks_nil w8).mono ?_
      rintro e w' ⟨rfl, rfl⟩
      go_wp2_with (refine wpList_loadSw rfl (.tmp 8) rfl g8 rfl 5 17 3 HE8.out ?_)
      refine (vmake_any HDS8.out 1 (by constructor <;> omega) 5 17 3 (by omega) (by omega) HYES.out HDN.out).mono ?_
      rintro e w9 ⟨rfl, hd9, hs9⟩
      have HE9 := Lib.hid ((hs9.blk g8 HLT.out).trans HE8.out)
      have HB9 := Lib.hid hd9.bel
      clear hd9 hs9 HE8 HDS8
      go_wp2_with (refine wpList_loadSw rfl (.tmp 8) rfl g8 rfl 5 17 3 HE9.out ?_)
      refine (vmake_no (Rd.none w9 1) 5 17 3 (by omega) (by omega) rfl).mono ?_
      rintro e w10 ⟨rfl, hb10⟩
      have HF := Lib.hid (HB9.out.trans (hb10.mono HB9.out.size))
      clear hb10
      go_wp2
      go_ret
      exact ⟨rfl, HF.out⟩
    · have HX : Hid (x1 ≠ 1) := hx
      have hbq : (x1 == 1) = false := by simpa using hx
      go_upto_region 12 with fail
      try simp only [hbq]
      go_wp2_with (first | (refine wpList_buildTw rfl (.const (.int .i64 1)) 1 rfl rfl ?_) | (refine wpList_oneWw rfl (.tmp 60) rfl ⟨1, 0, zBs⟩ zBs_len rfl ?_))
      have hb8 : Below w7.heap.size w7 (w7.alloc (Obj.cells (wrA ⟨1, 0, zBs⟩) 55)) := (Below.refl _ _).alloc (Nat.le_refl _) _
      have HDS8 := Lib.hid (HDS7.out.below hb8 (fun k hk => Or.inl hk))
      have HE8 := Lib.hid (kb hb8 HE7.out)
      clear hb8 HDS7 HE7
      generalize w7.alloc (Obj.cells (wrA ⟨1, 0, zBs⟩) 55) = w8 at *
      generalize w7.heap.size = s7 at *
      refine (vchange_nil w8 (some ⟨s7, 0, none⟩) 1 1).mono ?_
      rintro e w' ⟨rfl, rfl⟩
      go_wp2_with fail
      refine (vepoch_nil w8).mono ?_
      rintro e w' ⟨rfl, rfl⟩
      go_wp2_with fail
      refine (vroom_nil w8).mono ?_
      rintro e w' ⟨rfl, rfl⟩
      go_wp2_with fail
      refine (vblocks_nil w8).mono ?_
      rintro e w' ⟨rfl, rfl⟩
      go_wp2_with (refine wpList_loadSw rfl (.tmp 8) rfl g8 rfl 5 17 3 HE8.out ?_)
      refine (vmake_no (HDS8.out.rd x1 (by constructor <;> omega)) 5 17 3 (by omega) (by omega) (HNO.out HX.out)).mono ?_
      rintro e w9 ⟨rfl, hb9⟩
      have HE9 := Lib.hid (kb hb9 HE8.out)
      have HB9 := Lib.hid (HDS8.out.bel.trans (hb9.mono HDS8.out.bel.size))
      clear hb9 HE8 HDS8
      go_wp2_with (refine wpList_loadSw rfl (.tmp 8) rfl g8 rfl 5 17 3 HE9.out ?_)
      refine (vmake_no (Rd.none w9 1) 5 17 3 (by omega) (by omega) rfl).mono ?_
      rintro e w10 ⟨rfl, hb10⟩
      have HF := Lib.hid (HB9.out.trans (hb10.mono HB9.out.size))
      clear hb10
      go_wp2
      go_ret
      exact ⟨rfl, HF.out⟩

set_option maxRecDepth 100000 in
theorem lifted (os : Os) (started : os.Started) (H : Type) (enc : TypeId × Value → H) :
    ReturnsInHanded {} Try.checked os 5 .any (Rows.volNoneSpec.pre6 enc Try.prog Try.f5 Rows.volNoneRow.domain false) (Rows.volNoneSpec.post enc Try.prog Try.f5 false true false false) := by
  refine returnsInHanded_of_change (C := Try.checked) own started (by kernel_rfl) Try.func5
    (ChangeSpec.witness6 (enc := enc) (C := Try.checked) false ⟨#[], #[.int .i64 0, .int .i64 0], []⟩ 8 (by kernel_rfl) (by kernel_rfl) (by kernel_rfl) (by kernel_rfl)) ?_
  intro W base args ds gs before hval0 hW hcnd _
  have hval : ∀ (j : Nat) t v, Try.f5.params[j]? = some t → args[j]? = some v → Value.okWide Try.prog W .any base t v := hval0
  have hW' := hW
  obtain ⟨p, q, hA0, hV, rfl, hfz, hnd⟩ := hW
  have hA : DataW.TrodAll enc Try.prog W 0 (fun _ => true) true Try.f5.params.toList args.toList ds p := hA0
  rw [Try.params5] at hA hval
  obtain ⟨v0, vs0, d0, ds0, p0, q0, hargs, rfl, rfl, h0, r0⟩ := trodAll_cons hA
  obtain ⟨v1, vs1, d1, ds1, p1, q1, rfl, rfl, rfl, h1, r1⟩ := trodAll_cons r0
  obtain ⟨rfl, rfl, rfl⟩ := trodAll_nil r1
  obtain rfl : args = #[v0, v1] := by cases args; simp_all
  obtain ⟨rfl, rfl⟩ := trodVars_none hV
  obtain ⟨x0, rfl, rfl, rfl, wx0⟩ := open_int Try.underlying3 (hval 0 3 v0 rfl rfl) h0
  obtain ⟨x1, rfl, rfl, rfl, wx1⟩ := open_int Try.underlying3 (hval 1 3 v1 rfl rfl) h1
  clear hA0 hval0
  simp only [List.append_nil] at hW'
  refine (walk x0 x1 W (by have := bounds_i64 wx0; omega) (by have := bounds_i64 wx1; omega)).mono fun e W' ⟨he, bel⟩ => ?_
  subst he
  exact ⟨_, rfl, _, _, _, [], _, [], hW', (trodAll_cons_mk (shut_bool Try.underlying4 _) trodAll_mk0), (trodAll_cons_mk (shut_int Try.underlying3 wx0) (trodAll_cons_mk (shut_int Try.underlying3 wx1) trodAll_mk0)), rfl, bel.frame _, fun h => by cases h⟩

theorem over : Rows.volNoneRow.holds Try.pinned (OpenSpec.ofChange Rows.volNoneSpec) :=
  OpenClaim.holds_of_wide 5 Try.f5 rfl rfl rfl rfl rfl rfl rfl ⟨rfl, rfl, rfl, rfl, rfl⟩ rfl rfl rfl rfl rfl (by kernel_rfl) Try.func5 (by kernel_rfl)
    (of_decide_eq_true (by kernel_rfl)) (by unfold Func.isWrapper; first | (rw [if_pos (by decide +kernel)]; kernel_rfl) | (rw [if_neg (by decide +kernel)]; exact ⟨rfl, rfl⟩))
    (fun os started H enc _ => lifted os started H enc)

theorem proved : Rows.VolNoneSaid :=
  over
#print axioms proved
end Go.Proofs.Ytamnpblijdgdaaa.volNone
