/- The law VolStays answers true for every input, and leaves its arguments alone. No condition. -/
import Derived.Test.YtamnpblijdgdaaaRows
import Derived.Test.YtamnpblijdgdaaaOC
import Derived.WalkKit
import Derived.ProofKit
import Derived.OpenShut
namespace Go.Proofs.Ytamnpblijdgdaaa.volStays
open Go.ChangeShapes Go.WideShapes Go.ChangeAt Go.RowKit Go.Joins
set_option linter.unusedVariables false
theorem own : ownKnob Try.prog.godebug = none := by kernel_rfl
theorem laidOut : laidOutB Try.prog = true := by kernel_rfl
set_option maxRecDepth 100000
theorem kind3 (k : Int) : ∃ t : Int, Int.tmod k 3 = t ∧ -3 < t ∧ t < 3 := ⟨_, rfl, Int.lt_tmod_of_pos k (show (0 : Int) < 3 by omega), Int.tmod_lt_of_pos k (show (0 : Int) < 3 by omega)⟩
def VS6 (n G Z base : Nat) (i : Nat) (v : Value) (w : World) : Prop :=
  match i with
  | 0 | 2 => v = shQ 0 0 n G 3
  | 1 | 3 => v = .int .i64 (Z : Int)
  | 8 => v = .bool true
  | 4 => ∃ g', v = .slice (some ⟨g', 0, none⟩) 2 2 ∧ w.heap[g']? = some (.cells ([(Z : Int), (Z : Int)].map (Value.int .i64)).toArray 3 (0, 0))
  | 5 => ∃ q F, v = .tuple #[.pointer (some ⟨q, 0, none⟩), .bool true] ∧ Dev w F q (DM.make [(Z : Int), (Z : Int)]) ∧ ∀ k, F k → base ≤ k
  | 6 => ∃ q F, v = .tuple #[.pointer (some ⟨q, 0, none⟩), .bool true] ∧ Dev w F q (DM.make [(Z : Int), (Z : Int)]) ∧ ∀ k, F k → base ≤ k
  | 7 => ∃ q F, v = .pointer (some ⟨q, 0, none⟩) ∧ Dev w F q (DM.make [(Z : Int), (Z : Int)]) ∧ ∀ k, F k → base ≤ k
  | 9 => ∃ q F, v = .pointer (some ⟨q, 0, none⟩) ∧ Dev w F q (DM.make [(Z : Int), (Z : Int)]) ∧ ∀ k, F k → base ≤ k
  | _ => True
def VS23 (h1 h3 N0 d0 k ln xc : Nat) (ad : Addr) (xA : Option Addr) (r : Int) (i : Nat) (v : Value) (w : World) : Prop :=
  match i with
  | 0 => v = .pointer (some ⟨h1, 0, none⟩)
  | 1 | 8 => v = .slice (some ad) N0 d0
  | 2 | 9 => v = .int .i64 (k : Int)
  | 3 | 10 => v = .pointer (some (ad.add (k * 3)))
  | 4 | 11 => v = .pointer (some ⟨(ad.add (k * 3)).block, (ad.add (k * 3)).off + 1, none⟩)
  | 5 | 12 => v = .slice xA ln xc
  | 6 | 13 => v = .int .i64 r
  | 7 => v = .pointer (some ⟨h3, 0, none⟩)
  | _ => True
def JS (w : World) (P : Nat → Prop) (q q' gs c0 c1 c2 h1 b1 h2 b2 h3 b3 n G : Nat) (m m' mv mx : DM) (v u vv : VM) (Ls : Nat → Bool) (W : World) : Prop := Tw w W P q q' gs c0 c1 c2 h1 b1 h2 b2 h3 b3 n G (if Ls 6 then mv else m) (if Ls 13 then mx else m') (if Ls 6 then vv else v) u (if Ls 13 then vv else v)
section
variable {w W W' : World} {P : Nat → Prop} {q q' gs c0 c1 c2 h1 b1 h2 b2 h3 b3 n G : Nat} {m m' mv mx : DM} {v u vv : VM} {Ls : Nat → Bool}
theorem JS.bel (h : JS w P q q' gs c0 c1 c2 h1 b1 h2 b2 h3 b3 n G m m' mv mx v u vv Ls W) : Below w.heap.size w W := Tw.dd h |>.bel
theorem JS.add (h : JS w P q q' gs c0 c1 c2 h1 b1 h2 b2 h3 b3 n G m m' mv mx v u vv Ls W) (i : Nat) (ha : i ≠ 6) (hb : i ≠ 13) : JS w P q q' gs c0 c1 c2 h1 b1 h2 b2 h3 b3 n G m m' mv mx v u vv (fun j => decide (i = j) || Ls j) W := by
  have e6 : (fun j => decide (i = j) || Ls j) 6 = Ls 6 := by show (decide (i = 6) || Ls 6) = Ls 6; rw [decide_eq_false ha]; rfl
  have e13 : (fun j => decide (i = j) || Ls j) 13 = Ls 13 := by show (decide (i = 13) || Ls 13) = Ls 13; rw [decide_eq_false hb]; rfl
  unfold JS at *
  rw [e6, e13]; exact h
theorem JS.fst (h : JS w P q q' gs c0 c1 c2 h1 b1 h2 b2 h3 b3 n G m m' mv mx v u vv Ls W) (hn : Ls 6 = false) : Tw w W P q q' gs c0 c1 c2 h1 b1 h2 b2 h3 b3 n G m (if Ls 13 then mx else m') v u (if Ls 13 then vv else v) := by
  unfold JS at h; rw [hn] at h; exact h
theorem JS.snd (h : JS w P q q' gs c0 c1 c2 h1 b1 h2 b2 h3 b3 n G m m' mv mx v u vv Ls W) (hn : Ls 13 = false) : Tw w W P q q' gs c0 c1 c2 h1 b1 h2 b2 h3 b3 n G (if Ls 6 then mv else m) m' (if Ls 6 then vv else v) u v := by
  unfold JS at h; rw [hn] at h; exact h
theorem JS.did1 (h : Tw w W' P q q' gs c0 c1 c2 h1 b1 h2 b2 h3 b3 n G mv (if Ls 13 then mx else m') vv u (if Ls 13 then vv else v)) : JS w P q q' gs c0 c1 c2 h1 b1 h2 b2 h3 b3 n G m m' mv mx v u vv (fun j => decide (6 = j) || Ls j) W' := by
  unfold JS; exact h
theorem JS.did2 (h : Tw w W' P q q' gs c0 c1 c2 h1 b1 h2 b2 h3 b3 n G (if Ls 6 then mv else m) mx (if Ls 6 then vv else v) u vv) : JS w P q q' gs c0 c1 c2 h1 b1 h2 b2 h3 b3 n G m m' mv mx v u vv (fun j => decide (13 = j) || Ls j) W' := by
  unfold JS; exact h
theorem JS.both (h : JS w P q q' gs c0 c1 c2 h1 b1 h2 b2 h3 b3 n G m m' mv mx v u vv Ls W) (ha : Ls 6 = true) (hb : Ls 13 = true) : Tw w W P q q' gs c0 c1 c2 h1 b1 h2 b2 h3 b3 n G mv mx vv u vv := by
  unfold JS at h; rw [ha, hb] at h; exact h
end
set_option maxHeartbeats 6400000 in
theorem walk (A0 : Option Addr) (l0 : List Wd) (d0 : Nat) (A1 : Option Addr) (l1 : List Wd) (d1 : Nat) (w : World) (hd0 : l0.length ≤ d0) (hm0 : d0 ≤ 9223372036854775807) (hB0 : WdsOk l0) (hy0 : Wds w A0 l0) (hd1 : l1.length ≤ d1) (hm1 : d1 ≤ 9223372036854775807) (hB1 : WdsOk l1) (hy1 : Wds w A1 l1) :
    Calls Try.prog 4 #[.slice A0 l0.length d0, .slice A1 l1.length d1] w fun e w' => e = .returned (.bool true) ∧ Below w.heap.size w w' := by
  have HY0 := Lib.hid hy0
  have HBK0 := Lib.hid hB0
  have HY1 := Lib.hid hy1
  have HBK1 := Lib.hid hB1
  obtain ⟨N0, hN0⟩ : ∃ N, l0.length = N := ⟨_, rfl⟩
  obtain ⟨N1, hN1⟩ : ∃ N, l1.length = N := ⟨_, rfl⟩
  rw [hN0] at hd0 ⊢
  rw [hN1] at hd1 ⊢
  have HN0 := Lib.hid hN0
  have HN1 := Lib.hid hN1
  clear hy0 hB0 hN0 hy1 hB1 hN1
  go_enter Try.func4, Try.ntmps4
  go_wp2_with fail
  refine (begun9_any w).mono ?_
  rintro e w0 ⟨rfl, hb0⟩
  have HB0 := Lib.hid hb0
  clear hb0
  go_wp2_with fail
  refine (light_any A0 l0 N0 d0 w0 HN0.out hd0 hm0 HBK0.out (HY0.out.keep HB0.out)).mono ?_
  rintro e w' ⟨rfl, rfl⟩
  cases hli : lightK l0
  · go_wp2
    go_ret
    exact ⟨rfl, HB0.out⟩
  have HLI0 := Lib.hid ((lightK_iff l0).1 hli).1
  clear hli
  go_wp2_with fail
  refine (light_any A1 l1 N1 d1 w0 HN1.out hd1 hm1 HBK1.out (HY1.out.keep HB0.out)).mono ?_
  rintro e w' ⟨rfl, rfl⟩
  cases hli : lightK l1
  · go_wp2
    go_ret
    exact ⟨rfl, HB0.out⟩
  have HLI1 := Lib.hid ((lightK_iff l1).1 hli).1
  clear hli
  go_wp2_with fail
  refine (share_any 9 3 (by omega) (by omega) w0).mono ?_
  rintro e w1 ⟨rfl, hb1⟩
  have HB1 := Lib.hid (HB0.out.trans (hb1.mono HB0.out.size))
  clear hb1 HB0
  obtain ⟨G, hG⟩ : ∃ G, 16 + 3 % 30 = G := ⟨_, rfl⟩
  obtain ⟨n, hn⟩ : ∃ n, 4 + 9 % 30 = n := ⟨_, rfl⟩
  have hG1 : 16 ≤ G ∧ G ≤ 45 ∧ 4 ≤ n ∧ n ≤ 33 := by omega
  rw [hG, hn]
  clear hG hn
  go_upto_region 6 with (refine wpList_storeS rfl (.tmp 5) (.tmp 35) rfl w1.heap.size rfl n G 3 rfl _ rfl (heap_alloc_new w1 _) ?_)
  have e2 := setRow_blk (D := shC n G 3) (heap_alloc_new w1 (Obj.cells #[.int .i64 0, .int .i64 0, .int .i64 0, .int .i64 0, .int .i64 0] 30))
  have hb2 : Below w1.heap.size w1 ((w1.alloc (Obj.cells #[.int .i64 0, .int .i64 0, .int .i64 0, .int .i64 0, .int .i64 0] 30)).setRow w1.heap.size (shC n G 3)) := below_setRow ((Below.refl _ _).alloc (Nat.le_refl _) _) (Nat.le_refl _) _
  have HB3 := Lib.hid (HB1.out.trans (hb2.mono HB1.out.size))
  obtain ⟨g5, hg5⟩ : ∃ g5, g5 = w1.heap.size := ⟨_, rfl⟩
  rw [← hg5] at e2 hb2 HB3 ⊢
  clear hb2 HB1 hg5
  generalize (w1.alloc (Obj.cells #[.int .i64 0, .int .i64 0, .int .i64 0, .int .i64 0, .int .i64 0] 30)).setRow g5 (shC n G 3) = w3 at *
  simp only [Act.put]
  have HE : Hid (∀ W', Below w3.heap.size w3 W' → W'.heap[g5]? = some (.cells (shC n G 3) 30 (0, 0))) := fun W' hb => kb hb e2
  clear e2
  have hsz := fun W => size_any 0 0 n G 3 (by omega) (by omega) W
  have hmay := may2 n G (by omega) (by omega)
  obtain ⟨Z, hZ⟩ : ∃ Z, 2 + G + n = Z := ⟨_, rfl⟩
  rw [hZ] at hsz hmay
  have HSZ := Lib.hid hsz
  have HMAY := Lib.hid hmay
  have HZI : Hid (AllI [(Z : Int), (Z : Int)]) := fun x hx => by simp at hx; subst hx; constructor <;> omega
  have HZ := Lib.hid hZ
  clear hsz hmay hZ
  refine wp_region_rgk (VS6 n G Z w3.heap.size) (fun _ W => Below w3.heap.size w3 W) (fun _ w w' => Below w.heap.size w w') (by kernel_rfl) (by kernel_rfl) (fun i j v w w' _ _ h hs => by revert h; unfold VS6; split <;> intro h <;> first | exact h | (obtain ⟨p, h1, h2⟩ := h; exact ⟨p, h1, kb hs h2⟩) | (obtain ⟨p, F, h1, h2, h3⟩ := h; exact ⟨p, F, h1, h2.below hs, h3⟩) | trivial) ((Below.refl _ _).drew) ?_
  simp only [RAll]
  refine ⟨?_, ?_, ?_, ?_, ?_, ?_, ?_, ?_, ?_, ?_, ?_⟩
  · refine RStepK.of rfl fun T W L hag hL hJ hLs hd => ?_   -- 0: 37 := Op.load 30 (Operand.tmp 5)
    have e5 : T.getD 5 undef = _ := (agree_at hag 5 (by kernel_rfl)).trans rfl
    obtain ⟨z0, z1, z2, z3, z4⟩ := sh_cells (HE.out W hJ)
    clear hag hd
    go_simp
    first | exact ⟨_, rfl, rfl⟩ | exact ⟨_, rfl, rfl, brefl _⟩ | exact ⟨_, rfl, rfl, hJ, brefl _⟩
  · refine RStepK.of rfl fun T W L hag hL hJ hLs hd => ?_   -- 1: 38 := Op.call { callee := Callee.value (Operand.func 14), args := 
    have d37 : T.getD 37 undef = _ := hd ⟨0, .data⟩ (by simp) rfl _ rfl
    clear hag hd
    go_simp
    refine (HSZ.out W).mono ?_
    rintro e w' ⟨rfl, hb⟩
    exact ⟨_, rfl, rfl, keepB hJ hb, hb⟩
  · refine RStepK.of rfl fun T W L hag hL hJ hLs hd => ?_   -- 2: 39 := Op.load 30 (Operand.tmp 5)
    have e5 : T.getD 5 undef = _ := (agree_at hag 5 (by kernel_rfl)).trans rfl
    obtain ⟨z0, z1, z2, z3, z4⟩ := sh_cells (HE.out W hJ)
    clear hag hd
    go_simp
    first | exact ⟨_, rfl, rfl⟩ | exact ⟨_, rfl, rfl, brefl _⟩ | exact ⟨_, rfl, rfl, hJ, brefl _⟩
  · refine RStepK.of rfl fun T W L hag hL hJ hLs hd => ?_   -- 3: 40 := Op.call { callee := Callee.value (Operand.func 14), args := 
    have d39 : T.getD 39 undef = _ := hd ⟨2, .data⟩ (by simp) rfl _ rfl
    clear hag hd
    go_simp
    refine (HSZ.out W).mono ?_
    rintro e w' ⟨rfl, hb⟩
    exact ⟨_, rfl, rfl, keepB hJ hb, hb⟩
  · refine RStepK.of rfl fun T W L hag hL hJ hLs hd => ?_   -- 4: 41 := Op.buildSlice 36 2 #[(0, Operand.tmp 38), (1, Operand.tmp 40
    have d38 : T.getD 38 undef = _ := hd ⟨1, .data⟩ (by simp) rfl _ rfl
    have d40 : T.getD 40 undef = _ := hd ⟨3, .data⟩ (by simp) rfl _ rfl
    clear hag hd
    simp only [Array.getD_eq_getD_getElem?] at d38 d40
    go_simp
    exact ⟨_, rfl, ⟨W.heap.size, rfl, heap_alloc_new W _⟩, hJ.alloc hJ.size _, (brefl W).alloc (Nat.le_refl _) _⟩
  · refine RStepK.of rfl fun T W L hag hL hJ hLs hd => ?_   -- 5: 42 := Op.call { callee := Callee.value (Operand.func 13), args := 
    have x41 := hd ⟨4, .data⟩ (by simp) rfl _ rfl
    obtain ⟨g', (hs : T.getD 41 undef = _), hgp⟩ := x41
    clear hag hd
    go_simp
    refine (new_at W g' [(Z : Int), (Z : Int)] 2 rfl HMAY.out HZI.out _ hgp).mono ?_
    rintro e w' ⟨⟨q, F, rfl, hdv, hF⟩, hb⟩
    exact ⟨_, rfl, ⟨q, F, rfl, hdv, fun k hk => Nat.le_trans hJ.size (hF k hk)⟩, keepB hJ hb, hb⟩
  · refine RStepK.of rfl fun T W L hag hL hJ hLs hd => ?_   -- 6: 36 := Op.move (Operand.tmp 42)
    have x42 := hd ⟨5, .data⟩ (by simp) rfl _ rfl
    obtain ⟨q, F, (hs : T.getD 42 undef = _), hdv, hF⟩ := x42
    clear hag hd
    go_simp
    exact ⟨_, rfl, ⟨q, F, rfl, hdv, hF⟩, brefl _⟩
  · refine RStepK.of rfl fun T W L hag hL hJ hLs hd => ?_   -- 7: 43 := Op.extract (Operand.tmp 36) 0
    have x36 := hd ⟨6, .data⟩ (by simp) rfl _ rfl
    obtain ⟨q, F, (hs : T.getD 36 undef = _), hdv, hF⟩ := x36
    clear hag hd
    go_simp
    exact ⟨_, rfl, ⟨q, F, rfl, hdv, hF⟩, brefl _⟩
  · refine RStepK.of rfl fun T W L hag hL hJ hLs hd => ?_   -- 8: 44 := Op.extract (Operand.tmp 36) 1
    have x36 := hd ⟨6, .data⟩ (by simp) rfl _ rfl
    obtain ⟨q, F, (hs : T.getD 36 undef = _), hdv, hF⟩ := x36
    clear hag hd hdv hF
    go_simp
    first | exact ⟨_, rfl, rfl⟩ | exact ⟨_, rfl, rfl, brefl _⟩ | exact ⟨_, rfl, rfl, hJ, brefl _⟩
  · refine RStepK.of rfl fun T W L hag hL hJ hLs hd => ?_   -- 9: 6 := Op.assign (Operand.tmp 43)
    have x43 := hd ⟨7, .data⟩ (by simp) rfl _ rfl
    obtain ⟨q, F, (hs : T.getD 43 undef = _), hdv, hF⟩ := x43
    clear hag hd
    go_simp
    exact ⟨_, rfl, ⟨q, F, rfl, hdv, hF⟩, brefl _⟩
  · refine RLastK.of rfl fun T W L hag hLs hL hJ hd => ?_   -- 10: 7 := Op.assign (Operand.tmp 44)
    have d44 : T.getD 44 undef = _ := hd 8 _ (by simp) rfl
    obtain ⟨f, hf, hT⟩ := agree_fn hag
    have d37 : T.getD 37 undef = _ := hd 0 _ (by simp) rfl
    have h37 := (hf 37).trans d37
    have d38 : T.getD 38 undef = _ := hd 1 _ (by simp) rfl
    have h38 := (hf 38).trans d38
    have d39 : T.getD 39 undef = _ := hd 2 _ (by simp) rfl
    have h39 := (hf 39).trans d39
    have d40 : T.getD 40 undef = _ := hd 3 _ (by simp) rfl
    have h40 := (hf 40).trans d40
    have h44 := (hf 44).trans d44
    have HJ := Lib.hid hJ
    have x6 := hd 9 _ (by simp) rfl
    obtain ⟨q, F, (hv : T.getD 6 undef = _), hdv, hF⟩ := x6
    have h6 := (hf 6).trans hv
    have HDV := Lib.hid (And.intro hdv hF)
    clear hv hdv hF
    clear hag hd d37 d38 d39 d40 d44 hJ hf
    rw [hT]
    clear hT
    simp only [List.pop_toArray, List.dropLast_cons_cons, List.dropLast_singleton, List.filterMap_cons, List.filterMap_nil, List.foldl_cons, List.foldl_nil, List.setIfInBounds_toArray, List.set_cons_succ, List.set_cons_zero, h37, h38, h39, h40, h44]
    simp only [h6]
    obtain ⟨hdv, hF⟩ := HDV.out
    have hds := DS.made HB3.out hdv hF HJ.out
    have hlt := room_lt (HE.out w3 (brefl _))
    have HDS := Lib.hid hds
    have HE6 := Lib.hid (HE.out W HJ.out)
    have HLT : Hid (g5 < w3.heap.size ∧ w.heap.size ≤ w3.heap.size) := ⟨hlt, HB3.out.size⟩
    clear hdv hF hds hlt HDV HE HJ HB3
    obtain ⟨w6, rfl⟩ : ∃ w6, w6 = W := ⟨W, rfl⟩
    generalize w3.heap.size = s3 at *
    have HE : Hid (∀ W', Below w6.heap.size w6 W' → W'.heap[g5]? = some (.cells (shC n G 3) 30 (0, 0))) := fun W' hb => kb hb HE6.out
    go_upto_region 7 with fail
    refine wp_region_rgk (VS6 n G Z w6.heap.size) (fun _ W => Below w6.heap.size w6 W) (fun _ w w' => Below w.heap.size w w') (by kernel_rfl) (by kernel_rfl) (fun i j v w w' _ _ h hs => by revert h; unfold VS6; split <;> intro h <;> first | exact h | (obtain ⟨p, h1, h2⟩ := h; exact ⟨p, h1, kb hs h2⟩) | (obtain ⟨p, F, h1, h2, h3⟩ := h; exact ⟨p, F, h1, h2.below hs, h3⟩) | trivial) ((Below.refl _ _).drew) ?_
    simp only [RAll]
    refine ⟨?_, ?_, ?_, ?_, ?_, ?_, ?_, ?_, ?_, ?_, ?_⟩
    · refine RStepK.of rfl fun T W L hag hL hJ hLs hd => ?_   -- 0: 46 := Op.load 30 (Operand.tmp 5)
      have e5 : T.getD 5 undef = _ := (agree_at hag 5 (by kernel_rfl)).trans rfl
      obtain ⟨z0, z1, z2, z3, z4⟩ := sh_cells (HE.out W hJ)
      clear hag hd
      go_simp
      first | exact ⟨_, rfl, rfl⟩ | exact ⟨_, rfl, rfl, brefl _⟩ | exact ⟨_, rfl, rfl, hJ, brefl _⟩
    · refine RStepK.of rfl fun T W L hag hL hJ hLs hd => ?_   -- 1: 47 := Op.call { callee := Callee.value (Operand.func 14), args := 
      have d46 : T.getD 46 undef = _ := hd ⟨0, .data⟩ (by simp) rfl _ rfl
      clear hag hd
      go_simp
      refine (HSZ.out W).mono ?_
      rintro e w' ⟨rfl, hb⟩
      exact ⟨_, rfl, rfl, keepB hJ hb, hb⟩
    · refine RStepK.of rfl fun T W L hag hL hJ hLs hd => ?_   -- 2: 48 := Op.load 30 (Operand.tmp 5)
      have e5 : T.getD 5 undef = _ := (agree_at hag 5 (by kernel_rfl)).trans rfl
      obtain ⟨z0, z1, z2, z3, z4⟩ := sh_cells (HE.out W hJ)
      clear hag hd
      go_simp
      first | exact ⟨_, rfl, rfl⟩ | exact ⟨_, rfl, rfl, brefl _⟩ | exact ⟨_, rfl, rfl, hJ, brefl _⟩
    · refine RStepK.of rfl fun T W L hag hL hJ hLs hd => ?_   -- 3: 49 := Op.call { callee := Callee.value (Operand.func 14), args := 
      have d48 : T.getD 48 undef = _ := hd ⟨2, .data⟩ (by simp) rfl _ rfl
      clear hag hd
      go_simp
      refine (HSZ.out W).mono ?_
      rintro e w' ⟨rfl, hb⟩
      exact ⟨_, rfl, rfl, keepB hJ hb, hb⟩
    · refine RStepK.of rfl fun T W L hag hL hJ hLs hd => ?_   -- 4: 50 := Op.buildSlice 36 2 #[(0, Operand.tmp 47), (1, Operand.tmp 49
      have d47 : T.getD 47 undef = _ := hd ⟨1, .data⟩ (by simp) rfl _ rfl
      have d49 : T.getD 49 undef = _ := hd ⟨3, .data⟩ (by simp) rfl _ rfl
      clear hag hd
      simp only [Array.getD_eq_getD_getElem?] at d47 d49
      go_simp
      exact ⟨_, rfl, ⟨W.heap.size, rfl, heap_alloc_new W _⟩, hJ.alloc hJ.size _, (brefl W).alloc (Nat.le_refl _) _⟩
    · refine RStepK.of rfl fun T W L hag hL hJ hLs hd => ?_   -- 5: 51 := Op.call { callee := Callee.value (Operand.func 13), args := 
      have x50 := hd ⟨4, .data⟩ (by simp) rfl _ rfl
      obtain ⟨g', (hs : T.getD 50 undef = _), hgp⟩ := x50
      clear hag hd
      go_simp
      refine (new_at W g' [(Z : Int), (Z : Int)] 2 rfl HMAY.out HZI.out _ hgp).mono ?_
      rintro e w' ⟨⟨q', F, rfl, hdv, hF⟩, hb⟩
      exact ⟨_, rfl, ⟨q', F, rfl, hdv, fun k hk => Nat.le_trans hJ.size (hF k hk)⟩, keepB hJ hb, hb⟩
    · refine RStepK.of rfl fun T W L hag hL hJ hLs hd => ?_   -- 6: 45 := Op.move (Operand.tmp 51)
      have x51 := hd ⟨5, .data⟩ (by simp) rfl _ rfl
      obtain ⟨q', F, (hs : T.getD 51 undef = _), hdv, hF⟩ := x51
      clear hag hd
      go_simp
      exact ⟨_, rfl, ⟨q', F, rfl, hdv, hF⟩, brefl _⟩
    · refine RStepK.of rfl fun T W L hag hL hJ hLs hd => ?_   -- 7: 52 := Op.extract (Operand.tmp 45) 0
      have x45 := hd ⟨6, .data⟩ (by simp) rfl _ rfl
      obtain ⟨q', F, (hs : T.getD 45 undef = _), hdv, hF⟩ := x45
      clear hag hd
      go_simp
      exact ⟨_, rfl, ⟨q', F, rfl, hdv, hF⟩, brefl _⟩
    · refine RStepK.of rfl fun T W L hag hL hJ hLs hd => ?_   -- 8: 53 := Op.extract (Operand.tmp 45) 1
      have x45 := hd ⟨6, .data⟩ (by simp) rfl _ rfl
      obtain ⟨q', F, (hs : T.getD 45 undef = _), hdv, hF⟩ := x45
      clear hag hd hdv hF
      go_simp
      first | exact ⟨_, rfl, rfl⟩ | exact ⟨_, rfl, rfl, brefl _⟩ | exact ⟨_, rfl, rfl, hJ, brefl _⟩
    · refine RStepK.of rfl fun T W L hag hL hJ hLs hd => ?_   -- 9: 8 := Op.assign (Operand.tmp 52)
      have x52 := hd ⟨7, .data⟩ (by simp) rfl _ rfl
      obtain ⟨q', F, (hs : T.getD 52 undef = _), hdv, hF⟩ := x52
      clear hag hd
      go_simp
      exact ⟨_, rfl, ⟨q', F, rfl, hdv, hF⟩, brefl _⟩
    · refine RLastK.of rfl fun T W L hag hLs hL hJ hd => ?_   -- 10: 9 := Op.assign (Operand.tmp 53)
      have d53 : T.getD 53 undef = _ := hd 8 _ (by simp) rfl
      obtain ⟨f, hf, hT⟩ := agree_fn hag
      have d46 : T.getD 46 undef = _ := hd 0 _ (by simp) rfl
      have h46 := (hf 46).trans d46
      have d47 : T.getD 47 undef = _ := hd 1 _ (by simp) rfl
      have h47 := (hf 47).trans d47
      have d48 : T.getD 48 undef = _ := hd 2 _ (by simp) rfl
      have h48 := (hf 48).trans d48
      have d49 : T.getD 49 undef = _ := hd 3 _ (by simp) rfl
      have h49 := (hf 49).trans d49
      have h53 := (hf 53).trans d53
      have HJ := Lib.hid hJ
      have x8 := hd 9 _ (by simp) rfl
      obtain ⟨q', F, (hv : T.getD 8 undef = _), hdv, hF⟩ := x8
      have h8 := (hf 8).trans hv
      have HDV := Lib.hid (And.intro hdv hF)
      clear hv hdv hF
      clear hag hd d46 d47 d48 d49 d53 hJ hf
      rw [hT]
      clear hT
      simp only [List.pop_toArray, List.dropLast_cons_cons, List.dropLast_singleton, List.filterMap_cons, List.filterMap_nil, List.foldl_cons, List.foldl_nil, List.setIfInBounds_toArray, List.set_cons_succ, List.set_cons_zero, h46, h47, h48, h49, h53]
      simp only [h8]
      obtain ⟨hdv, hF⟩ := HDV.out
      have hdd := DD.made HDS.out (brefl w6) hdv hF HJ.out
      have HE7 := Lib.hid (HE.out W HJ.out)
      have hdd0 : DD w W (fun k => k < s3) q (dev2 n G) q' (dev2 n G) := by unfold dev2; rw [HZ.out]; exact hdd
      have HD7 := Lib.hid hdd0
      clear hdv hF hdd hdd0 HDV HE HJ HDS HE6 HSZ HMAY HZI
      obtain ⟨w7, rfl⟩ : ∃ w7, w7 = W := ⟨W, rfl⟩
      have HT0 := Lib.hid (two0 (n := n) (g := G) (by omega) (by omega))
      have HPG : Hid ((fun k => k < s3) g5 ∧ ∀ k, k < w.heap.size → (fun k => k < s3) k) := ⟨HLT.out.1, fun k hk => Nat.lt_of_lt_of_le hk HLT.out.2⟩
      generalize hPP : (fun k => k < s3) = P0 at *
      clear hPP HLT HZ
      go_wp2_with (refine wpList_loadSw rfl (.tmp 5) rfl g5 rfl n G 3 HE7.out ?_)
      refine (HD7.out.make 0 (by omega) n G (by omega) (by omega) HT0.out.r0 (by show (0 : Nat) + n ≤ 999000; omega)).mono ?_
      rintro e w8 ⟨rfl, hd8, hs8⟩
      have HD8 : Hid (DD w w8 P0 q (d2a n G) q' (dev2 n G)) := hd8
      have HE8 := Lib.hid ((hs8.blk g5 HPG.out.1).trans HE7.out)
      clear hd8 hs8 HD7 HE7
      go_wp2_with (refine wpList_loadSw rfl (.tmp 5) rfl g5 rfl n G 3 HE8.out ?_)
      refine (HD8.out.make 1 (by omega) n G (by omega) (by omega) HT0.out.r1 (by have := HT0.out.da; omega)).mono ?_
      rintro e w9 ⟨rfl, hd9, hs9⟩
      have HD9 : Hid (DD w w9 P0 q' (dev2 n G) q (d2b n G)) := DD.swap hd9
      have HE9 := Lib.hid ((hs9.blk g5 HPG.out.1).trans HE8.out)
      clear hd9 hs9 HD8 HE8
      go_wp2_with (refine wpList_loadSw rfl (.tmp 5) rfl g5 rfl n G 3 HE9.out ?_)
      refine (HD9.out.make 0 (by omega) n G (by omega) (by omega) HT0.out.r0 (by show (0 : Nat) + n ≤ 999000; omega)).mono ?_
      rintro e w10 ⟨rfl, hd10, hs10⟩
      have HD10 : Hid (DD w w10 P0 q (d2b n G) q' (d2a n G)) := DD.swap hd10
      have HE10 := Lib.hid ((hs10.blk g5 HPG.out.1).trans HE9.out)
      clear hd10 hs10 HD9 HE9
      go_wp2_with (refine wpList_loadS rfl (.tmp 5) rfl g5 rfl n G 3 HE10.out ?_)
      refine (HD10.out.mount HT0.out.m0 (by omega) (by omega) (by have := HT0.out.db; omega)).mono ?_
      rintro en w11 ⟨h1, b1, rfl, hd11, ha1, hne1, hs11, hl1, hl2⟩
      have HD11 : Hid (DD w w11 (fun k => P0 k ∨ k = h1 ∨ k = b1) q (d2c n G) q' (d2a n G)) := hd11
      have HA1 : Hid (VolAt w11 q h1 b1 (v2a n G)) := ha1
      have HE11 := Lib.hid ((hs11.blk g5 HPG.out.1).trans HE10.out)
      have HO1 : Hid (w.heap.size ≤ w10.heap.size ∧ g5 < w10.heap.size ∧ w10.heap.size ≤ h1 ∧ w10.heap.size ≤ b1 ∧ h1 ≠ b1) := ⟨HD10.out.bel.size, room_lt HE10.out, hl1, hl2, hne1⟩
      clear hd11 ha1 hne1 hs11 hl1 hl2 HD10 HE10
      go_wp2_with (refine wpList_loadS rfl (.tmp 5) rfl g5 rfl n G 3 HE11.out ?_)
      refine (HD11.out.mount HT0.out.m1 (by omega) (by omega) (by have := HT0.out.dc; omega)).mono ?_
      rintro en w12 ⟨h2, b2, rfl, hd12, ha2, hne2, hs12, hl1, hl2⟩
      have HD12 : Hid (DD w w12 (fun k => (P0 k ∨ k = h1 ∨ k = b1) ∨ k = h2 ∨ k = b2) q' (d2a n G) q (d2d n G)) := DD.swap hd12
      have HA2 : Hid (VolAt w12 q h2 b2 (v2b n G)) := ha2
      have HA12 : Hid (VolAt w12 q h1 b1 (v2a n G)) := HA1.out.keep (hs12.blk _ (Or.inr (Or.inl rfl))) (hs12.blk _ (Or.inr (Or.inr rfl)))
      have HE12 := Lib.hid ((hs12.blk g5 (Or.inl HPG.out.1)).trans HE11.out)
      have HO2 : Hid (h1 < w11.heap.size ∧ b1 < w11.heap.size ∧ w11.heap.size ≤ h2 ∧ w11.heap.size ≤ b2 ∧ h2 ≠ b2) := ⟨room_lt HA1.out.hd, room_lt HA1.out.row, hl1, hl2, hne2⟩
      clear hd12 ha2 hne2 hs12 hl1 hl2 HD11 HE11 HA1
      go_wp2_with (refine wpList_loadS rfl (.tmp 5) rfl g5 rfl n G 3 HE12.out ?_)
      refine (HD12.out.mount HT0.out.mx (by omega) (by omega) (by have := HT0.out.da; omega)).mono ?_
      rintro en w13 ⟨h3, b3, rfl, hd13, ha3, hne3, hs13, hl1, hl2⟩
      rw [HT0.out.same] at ha3
      have hO1 := HO1.out
      have hO2 := HO2.out
      have hO3 := room_lt HA2.out.hd
      have hO4 := room_lt HA2.out.row
      have htw : Tw w w13 (fun k => ((P0 k ∨ k = h1 ∨ k = b1) ∨ k = h2 ∨ k = b2) ∨ k = h3 ∨ k = b3) q q' g5 w10.heap.size w11.heap.size w12.heap.size h1 b1 h2 b2 h3 b3 n G (d2d n G) (d2x n G) (v2a n G) (v2b n G) (v2a n G) :=
        ⟨DD.swap hd13, HA12.out.keep (hs13.blk _ (Or.inl (Or.inr (Or.inl rfl)))) (hs13.blk _ (Or.inl (Or.inr (Or.inr rfl)))), HA2.out.keep (hs13.blk _ (Or.inr (Or.inl rfl))) (hs13.blk _ (Or.inr (Or.inr rfl))), ha3, ⟨⟨Or.inl (Or.inl (Or.inr (Or.inl rfl))), Or.inl (Or.inl (Or.inr (Or.inr rfl)))⟩, ⟨Or.inl (Or.inr (Or.inl rfl)), Or.inl (Or.inr (Or.inr rfl))⟩, Or.inr (Or.inl rfl), Or.inr (Or.inr rfl)⟩, by omega, ⟨hO1.2.2.2.2, hO2.2.2.2.2, hne3⟩, (hs13.blk g5 (Or.inl (Or.inl HPG.out.1))).trans HE12.out, Or.inl (Or.inl (Or.inl HPG.out.1)), fun k hk => Or.inl (Or.inl (Or.inl (HPG.out.2 k hk)))⟩
      have HTW := Lib.hid htw
      have HSIM := Lib.hid HT0.out.sim
      have HBV := Lib.hid HT0.out.bv
      have HBU := Lib.hid HT0.out.bu
      have HBX := Lib.hid HT0.out.bx
      clear htw hd13 ha3 hne3 hs13 hl1 hl2 hO1 hO2 hO3 hO4 HO1 HO2 HD12 HE12 HA12 HA2 HPG HT0
      generalize hPP : (fun k => ((P0 k ∨ k = h1 ∨ k = b1) ∨ k = h2 ∨ k = b2) ∨ k = h3 ∨ k = b3) = P at *
      clear hPP
      generalize w10.heap.size = c0 at *
      generalize w11.heap.size = c1 at *
      generalize w12.heap.size = c2 at *
      generalize d2d n G = m0 at *
      generalize d2x n G = m0' at *
      generalize v2a n G = v0 at *
      generalize v2b n G = u0 at *
      obtain ⟨MX, hMX⟩ : ∃ MX, MX = max N0 N1 := ⟨_, rfl⟩
      have hM30 : MX ≤ 30 ∧ N0 ≤ 30 ∧ N1 ≤ 30 := by have := HLI0.out; have := HLI1.out; have := HN0.out; have := HN1.out; omega
      have HMX := Lib.hid hMX
      clear hMX
      go_wp2_with fail
      go_loopw [16] (fun i wr => ∃ (k : Nat) (m m' : DM) (v u : VM), i = .int .i64 k ∧ k ≤ MX ∧ Hid (Tw w wr P q q' g5 c0 c1 c2 h1 b1 h2 b2 h3 b3 n G m m' v u v) ∧ Hid (Sim m m' 0) ∧ Hid (VBd v 0 n G (2 + 2 * k) (300 + 240 * k) m) ∧ Hid (VBd u 1 n G (2 + 2 * k) (300 + 240 * k) m) ∧ Hid (VBd v 0 n G (2 + 2 * k) (300 + 240 * k) m')) (fun i _ => MX - (intOf i).toNat)
      case atStart => exact ⟨0, m0, m0', v0, u0, rfl, by omega, HTW.out, HSIM.out, HBV.out, HBU.out, HBX.out⟩
      case round =>
        clear HTW HSIM HBV HBU HBX
        obtain ⟨k, m, m', v, u, rfl, hk, HTW, HSIM, HBV, HBU, HBX⟩ := hrel
        obtain ⟨w14, rfl⟩ : ∃ w14, w14 = wr := ⟨wr, rfl⟩
        go_upto_region 16 with fail
        go_cut [124] (fun s wx => s = .bool (decide (k < MX)) ∧ wx = w14)
        case first =>
          rcases Nat.lt_trichotomy N0 N1 with hlt | hlt | hlt
          · have e1 : MX = N1 := by rw [HMX.out]; omega
            subst e1
            have i1 : (N0 : Int) < MX := by omega
            have i2 : ¬ (MX : Int) < N0 := by omega
            go_wp2_with fail
            go_meet
            case rel => exact ⟨by simp, rfl⟩
          · subst hlt
            have e1 : MX = N0 := by rw [HMX.out]; omega
            subst e1
            go_wp2_with fail
            go_meet
            case rel => exact ⟨by simp, rfl⟩
          · have e1 : MX = N0 := by rw [HMX.out]; omega
            subst e1
            have i1 : (N1 : Int) < MX := by omega
            have i2 : ¬ (MX : Int) < N1 := by omega
            go_wp2_with fail
            go_meet
            case rel => exact ⟨by simp, rfl⟩
        case rest =>
          obtain ⟨rfl, hwc⟩ := hcut
          subst hwc
          by_cases hkm : k < MX
          · rw [decide_eq_true hkm]
            go_upto_region 18 with fail
            go_cut [130] (fun s wx => s = .bool (decide (k < N1)) ∧ wx = wc)
            case first =>
              by_cases hk1 : k < N1
              · have i1 : (k : Int) < N1 := by omega
                go_wp2_with fail
                go_meet
                case rel => exact ⟨by rw [decide_eq_true hk1], rfl⟩
              · have i1 : ¬ (k : Int) < N1 := by omega
                go_wp2_with fail
                go_meet
                case rel => exact ⟨by rw [decide_eq_false hk1], rfl⟩
            case rest =>
              obtain ⟨rfl, hwc⟩ := hcut
              subst hwc
              go_upto_if 130 with fail
              go_cut [] (fun wx => ∃ (m1 : DM) (u1 : VM), Hid (Tw w wx P q q' g5 c0 c1 c2 h1 b1 h2 b2 h3 b3 n G m1 m' v u1 v) ∧ Hid (Sim m1 m' 0) ∧ Hid (VBd v 0 n G (2 + 2 * k) (300 + 240 * k + 120) m1) ∧ Hid (VBd u1 1 n G (2 + 2 * (k + 1)) (300 + 240 * k + 120) m1))
              case first =>
                by_cases hk1 : k < N1
                · rw [decide_eq_true hk1]
                  obtain ⟨x, hx⟩ : ∃ x, l1[k]? = some x := ⟨_, List.getElem?_eq_getElem (by rw [HN1.out]; exact hk1)⟩
                  have hxo := HBK1.out x (List.mem_of_getElem? hx)
                  obtain ⟨ad0, hA0, hw0⟩ := HY1.out k x hx
                  obtain ⟨ad, rfl, hw⟩ := (HY1.out.keep HTW.out.dd.bel) k x hx
                  injection hA0 with hA0
                  subst hA0
                  have c1 := hw.c1
                  have i1 : (k : Int) < N1 := by omega
                  have hfu := HBU.out.facts (by omega) (by omega) (by omega)
                  have hug : 13 ≤ u.g := by rw [HBU.out.vo.vg]; omega
                  have hch := HTW.out.change2 hfu hug x.A x.l x.l.length x.c rfl hxo.lc hxo.cm hxo.ok hw0.wr hw.wr
                  have hs1 := HSIM.out.off (Off.ch (r := 1) (k := 0) (by omega) m HBU.out.vo.vr x.l)
                  have hb1 := HBU.out.ch (by omega) (by omega) (by omega) (by omega) hxo.ok
                  have hv1 := HBV.out.dev hb1.dn
                  have HCH := Lib.hid hch
                  have HS1 := Lib.hid hs1
                  have HB1 := Lib.hid hb1
                  have HV1 := Lib.hid hv1
                  have HX := Lib.hid hx
                  clear hfu hug hch hs1 hb1 hv1 hw hw0 hxo hx
                  obtain ⟨ln, hln⟩ : ∃ ln, x.l.length = ln := ⟨_, rfl⟩
                  rw [hln] at c1 HCH
                  clear hln
                  generalize x.A = xA at *
                  generalize x.c = xc at *
                  generalize chM m u x.l = m1 at *
                  obtain ⟨r1, hr1⟩ : ∃ r1 : Int, (if ChOk u x.l then (0 : Int) else 1) = r1 := ⟨_, rfl⟩
                  rw [hr1] at HCH
                  clear hr1
                  generalize chV u x.l = u1 at *
                  go_wp2_with fail
                  refine HCH.out.mono ?_
                  rintro e w15 ⟨rfl, htw⟩
                  have HTW2 := Lib.hid htw
                  obtain ⟨ad1, hA1, hw1⟩ := (HY1.out.keep htw.dd.bel) k x HX.out
                  injection hA1 with hA1
                  subst hA1
                  have c0 := hw1.c0
                  obtain ⟨t, ht, ht1, ht2⟩ := kind3 x.k
                  have hwt : IntKind.i64.wrap t = t := IntWalk.i64_in _ (by omega)
                  clear htw hw1 HCH HTW c1
                  by_cases ht0 : t = 0
                  · subst ht0
                    have htd := HTW2.out.tidy2 (by have := HB1.out.ep; omega) (by have := HB1.out.dn; omega)
                    have hs2 := HS1.out.off (Off.tidy (r := 1) (k := 0) (by omega) m1 HB1.out.vo.vr)
                    have hb2 := HB1.out.tidy (by omega) (by omega)
                    have hv2 := HV1.out.dev hb2.dn
                    have HTD := Lib.hid htd
                    have HS2 := Lib.hid hs2
                    have HB2 := Lib.hid (hb2.mono (E' := 2 + 2 * (k + 1)) (D' := 300 + 240 * k + 120) (by omega) (by omega))
                    have HV2 := Lib.hid (hv2.mono (E' := 2 + 2 * k) (D' := 300 + 240 * k + 120) (by omega) (by omega))
                    clear htd hs2 hb2 hv2
                    go_wp2_with fail
                    refine HTD.out.mono ?_
                    rintro e w16 ⟨rfl, htw⟩
                    have HTW3 := Lib.hid htw
                    clear htw HTD HTW2 c0
                    go_wp2_with fail
                    go_meet
                    case rel => exact ⟨_, _, HTW3.out, HS2.out, HV2.out, HB2.out⟩
                  · have hnt : (t == 0) = false := by simp; exact ht0
                    have HB2 := Lib.hid (HB1.out.mono (E' := 2 + 2 * (k + 1)) (D' := 300 + 240 * k + 120) (by omega) (by omega))
                    have HV2 := Lib.hid (HV1.out.mono (E' := 2 + 2 * k) (D' := 300 + 240 * k + 120) (by omega) (by omega))
                    go_wp2_with fail
                    go_meet
                    case rel => exact ⟨_, _, HTW2.out, HS1.out, HV2.out, HB2.out⟩
                · rw [decide_eq_false hk1]
                  have HBV2 := Lib.hid (HBV.out.mono (E' := 2 + 2 * k) (D' := 300 + 240 * k + 120) (by omega) (by omega))
                  have HBU2 := Lib.hid (HBU.out.mono (E' := 2 + 2 * (k + 1)) (D' := 300 + 240 * k + 120) (by omega) (by omega))
                  go_wp2_with fail
                  go_meet
                  case rel => exact ⟨m, u, HTW.out, HSIM.out, HBV2.out, HBU2.out⟩
              case rest =>
                obtain ⟨m1, u1, HTW1, HSIM1, HBV1, HBU1⟩ := hcut
                clear HTW HSIM HBV HBU
                by_cases hk0 : k < N0
                · have i1 : (k : Int) < N0 := by omega
                  have i2 : ¬ (N0 : Int) ≤ k := by omega
                  go_upto_region 23 with fail
                  obtain ⟨x, hx⟩ : ∃ x, l0[k]? = some x := ⟨_, List.getElem?_eq_getElem (by rw [HN0.out]; exact hk0)⟩
                  have hxo := HBK0.out x (List.mem_of_getElem? hx)
                  obtain ⟨ad, hA0, hw0⟩ := HY0.out k x hx
                  subst hA0
                  have hkeep : ∀ W, Below w.heap.size w W → WdAt W (ad.add (k * 3)) x := fun W hb => by
                    obtain ⟨ad1, hA1, hw1⟩ := (HY0.out.keep hb) k x hx
                    injection hA1 with hA1
                    subst hA1
                    exact hw1
                  have hfv := HBV1.out.facts (by omega) (by omega) (by omega)
                  have hfx := HBX.out.facts (by omega) (by omega) (by omega)
                  have hvg : 13 ≤ v.g := by rw [HBV1.out.vo.vg]; omega
                  have hvr := HBV1.out.vo.vr
                  have hb1 := HBV1.out.ch (by omega) (by omega) (by omega) (by omega) hxo.ok
                  have hb3 := HBX.out.ch (by omega) (by omega) (by omega) (by omega) hxo.ok
                  have hu1 := HBU1.out.dev hb1.dn
                  have hs1 := HSIM1.out.ch hvr x.l
                  have hvr2 : (chV v x.l).r = ((0 : Nat) : Int) := hb1.vo.vr
                  obtain ⟨ln, hln⟩ : ∃ ln, x.l.length = ln := ⟨_, rfl⟩
                  obtain ⟨r, hr⟩ : ∃ r : Int, (if ChOk v x.l then (0 : Int) else 1) = r := ⟨_, rfl⟩
                  have hc1 : ∀ W mX xX, Tw w W P q q' g5 c0 c1 c2 h1 b1 h2 b2 h3 b3 n G m1 mX v u1 xX → Calls Try.prog 22 #[.pointer (some ⟨h1, 0, none⟩), .slice x.A ln x.c] W fun e w' => e = .returned (.int .i64 r) ∧ Tw w w' P q q' g5 c0 c1 c2 h1 b1 h2 b2 h3 b3 n G (chM m1 v x.l) mX (chV v x.l) u1 xX := fun W mX xX h => by
                    have h9 := h.change1 hfv hvg x.A x.l ln x.c hln (by rw [← hln]; exact hxo.lc) hxo.cm hxo.ok hw0.wr (hkeep W h.dd.bel).wr
                    rw [hr] at h9; exact h9
                  have hc3 : ∀ W mX vX, Tw w W P q q' g5 c0 c1 c2 h1 b1 h2 b2 h3 b3 n G mX m' vX u1 v → Calls Try.prog 22 #[.pointer (some ⟨h3, 0, none⟩), .slice x.A ln x.c] W fun e w' => e = .returned (.int .i64 r) ∧ Tw w w' P q q' g5 c0 c1 c2 h1 b1 h2 b2 h3 b3 n G mX (chM m' v x.l) vX u1 (chV v x.l) := fun W mX vX h => by
                    have h9 := h.change3 hfx hvg x.A x.l ln x.c hln (by rw [← hln]; exact hxo.lc) hxo.cm hxo.ok hw0.wr (hkeep W h.dd.bel).wr
                    rw [hr] at h9; exact h9
                  have HC1 := Lib.hid hc1
                  have HC3 := Lib.hid hc3
                  have HCL : Hid (∀ W, Below w.heap.size w W → W.cell? ⟨(ad.add (k * 3)).block, (ad.add (k * 3)).off + 1, none⟩ = some (.slice x.A ln x.c)) := fun W hb => by have := (hkeep W hb).c1; rw [hln] at this; exact this
                  have HC0 : Hid (∀ W, Below w.heap.size w W → W.cell? (ad.add (k * 3)) = some (.int .i64 x.k)) := fun W hb => (hkeep W hb).c0
                  have HJ0 : Hid (JS w P q q' g5 c0 c1 c2 h1 b1 h2 b2 h3 b3 n G m1 m' (chM m1 v x.l) (chM m' v x.l) v u1 (chV v x.l) (fun _ => false) wc.drew) := HTW1.out.below ((Below.refl _ _).drew)
                  have HB1 := Lib.hid hb1
                  have HB3 := Lib.hid hb3
                  have HU1 := Lib.hid hu1
                  have HS1 := Lib.hid hs1
                  have HVR := Lib.hid hvr2
                  clear hc1 hc3 hkeep hfv hfx hvg hvr hb1 hb3 hu1 hs1 hvr2 hln hr hw0 hxo hx HBV1 HBX HBU1 HSIM1 HTW1
                  generalize x.A = xA at *
                  generalize x.c = xc at *
                  generalize chM m1 v x.l = mv at *
                  generalize chM m' v x.l = mx at *
                  generalize chV v x.l = vv at *
                  have HGU := u1
                  obtain ⟨u, hu⟩ : ∃ u, u = u1 := ⟨_, rfl⟩
                  subst hu
                  obtain ⟨m, hmm⟩ : ∃ m, m = m1 := ⟨_, rfl⟩
                  subst hmm
                  refine wp_region_rgj (VS23 h1 h3 N0 d0 k ln xc ad xA r) (JS w P q q' g5 c0 c1 c2 h1 b1 h2 b2 h3 b3 n G m m' mv mx v u vv) (fun _ _ _ => True) (by kernel_rfl) (by kernel_rfl) (fun i j v w w' _ h _ => h) HJ0.out ?_
                  simp only [RAll]
                  refine ⟨?_, ?_, ?_, ?_, ?_, ?_, ?_, ?_, ?_, ?_, ?_, ?_, ?_, ?_, ?_⟩
                  · refine RStepJ.of rfl fun T W Ls hag hni hJ hdn hd => ?_   -- 0: 151 := Op.move (Operand.tmp 10)
                    have e10 : T.getD 10 undef = _ := (agree_at hag 10 (by kernel_rfl)).trans rfl
                    clear hag hd hdn
                    go_simp
                    exact ⟨_, rfl, rfl, hJ.add 0 (by decide) (by decide)⟩
                  · refine RStepJ.of rfl fun T W Ls hag hni hJ hdn hd => ?_   -- 1: 152 := Op.move (Operand.tmp 0)
                    have e0 : T.getD 0 undef = _ := (agree_at hag 0 (by kernel_rfl)).trans rfl
                    clear hag hd hdn
                    go_simp
                    exact ⟨_, rfl, rfl, hJ.add 1 (by decide) (by decide)⟩
                  · refine RStepJ.of rfl fun T W Ls hag hni hJ hdn hd => ?_   -- 2: 153 := Op.move (Operand.tmp 16)
                    have e16 : T.getD 16 undef = _ := (agree_at hag 16 (by kernel_rfl)).trans rfl
                    clear hag hd hdn
                    go_simp
                    exact ⟨_, rfl, rfl, hJ.add 2 (by decide) (by decide)⟩
                  · refine RStepJ.of rfl fun T W Ls hag hni hJ hdn hd => ?_   -- 3: 154 := Op.indexAddr 22 (Operand.tmp 152) (Operand.tmp 153
                    have d152 : T.getD 152 undef = _ := hd ⟨1, .data⟩ (by simp) rfl _ rfl
                    have d153 : T.getD 153 undef = _ := hd ⟨2, .data⟩ (by simp) rfl _ rfl
                    clear hag hd hdn
                    go_simp
                    exact ⟨_, rfl, rfl, hJ.add 3 (by decide) (by decide)⟩
                  · refine RStepJ.of rfl fun T W Ls hag hni hJ hdn hd => ?_   -- 4: 155 := Op.fieldAddr 52 (Operand.tmp 154) 1
                    have d154 : T.getD 154 undef = _ := hd ⟨3, .data⟩ (by simp) rfl _ rfl
                    clear hag hd hdn
                    go_simp
                    exact ⟨_, rfl, rfl, hJ.add 4 (by decide) (by decide)⟩
                  · refine RStepJ.of rfl fun T W Ls hag hni hJ hdn hd => ?_   -- 5: 156 := Op.load 50 (Operand.tmp 155)
                    have d155 : T.getD 155 undef = _ := hd ⟨4, .data⟩ (by simp) rfl _ rfl
                    have c1 := HCL.out W hJ.bel
                    clear hag hd hdn
                    go_simp
                    exact ⟨_, rfl, rfl, hJ.add 5 (by decide) (by decide)⟩
                  · refine RStepJ.of rfl fun T W Ls hag hni hJ hdn hd => ?_   -- 6: 157 := Op.call { callee := Callee.value (Operand.func 22)
                    have d151 : T.getD 151 undef = _ := hd ⟨0, .data⟩ (by simp) rfl _ rfl
                    have d156 : T.getD 156 undef = _ := hd ⟨5, .data⟩ (by simp) rfl _ rfl
                    have hc := HC1.out W _ _ (hJ.fst hni)
                    clear hag hd hdn
                    go_simp
                    refine hc.mono ?_
                    rintro e w' ⟨rfl, h'⟩
                    exact ⟨_, rfl, rfl, JS.did1 h'⟩
                  · refine RStepJ.of rfl fun T W Ls hag hni hJ hdn hd => ?_   -- 7: 158 := Op.move (Operand.tmp 14)
                    have e14 : T.getD 14 undef = _ := (agree_at hag 14 (by kernel_rfl)).trans rfl
                    clear hag hd hdn
                    go_simp
                    exact ⟨_, rfl, rfl, hJ.add 7 (by decide) (by decide)⟩
                  · refine RStepJ.of rfl fun T W Ls hag hni hJ hdn hd => ?_   -- 8: 159 := Op.move (Operand.tmp 0)
                    have e0 : T.getD 0 undef = _ := (agree_at hag 0 (by kernel_rfl)).trans rfl
                    clear hag hd hdn
                    go_simp
                    exact ⟨_, rfl, rfl, hJ.add 8 (by decide) (by decide)⟩
                  · refine RStepJ.of rfl fun T W Ls hag hni hJ hdn hd => ?_   -- 9: 160 := Op.move (Operand.tmp 16)
                    have e16 : T.getD 16 undef = _ := (agree_at hag 16 (by kernel_rfl)).trans rfl
                    clear hag hd hdn
                    go_simp
                    exact ⟨_, rfl, rfl, hJ.add 9 (by decide) (by decide)⟩
                  · refine RStepJ.of rfl fun T W Ls hag hni hJ hdn hd => ?_   -- 10: 161 := Op.indexAddr 22 (Operand.tmp 159) (Operand.tmp 160
                    have d159 : T.getD 159 undef = _ := hd ⟨8, .data⟩ (by simp) rfl _ rfl
                    have d160 : T.getD 160 undef = _ := hd ⟨9, .data⟩ (by simp) rfl _ rfl
                    clear hag hd hdn
                    go_simp
                    exact ⟨_, rfl, rfl, hJ.add 10 (by decide) (by decide)⟩
                  · refine RStepJ.of rfl fun T W Ls hag hni hJ hdn hd => ?_   -- 11: 162 := Op.fieldAddr 52 (Operand.tmp 161) 1
                    have d161 : T.getD 161 undef = _ := hd ⟨10, .data⟩ (by simp) rfl _ rfl
                    clear hag hd hdn
                    go_simp
                    exact ⟨_, rfl, rfl, hJ.add 11 (by decide) (by decide)⟩
                  · refine RStepJ.of rfl fun T W Ls hag hni hJ hdn hd => ?_   -- 12: 163 := Op.load 50 (Operand.tmp 162)
                    have d162 : T.getD 162 undef = _ := hd ⟨11, .data⟩ (by simp) rfl _ rfl
                    have c1 := HCL.out W hJ.bel
                    clear hag hd hdn
                    go_simp
                    exact ⟨_, rfl, rfl, hJ.add 12 (by decide) (by decide)⟩
                  · refine RStepJ.of rfl fun T W Ls hag hni hJ hdn hd => ?_   -- 13: 164 := Op.call { callee := Callee.value (Operand.func 22)
                    have d158 : T.getD 158 undef = _ := hd ⟨7, .data⟩ (by simp) rfl _ rfl
                    have d163 : T.getD 163 undef = _ := hd ⟨12, .data⟩ (by simp) rfl _ rfl
                    have hc := HC3.out W _ _ (hJ.snd hni)
                    clear hag hd hdn
                    go_simp
                    refine hc.mono ?_
                    rintro e w' ⟨rfl, h'⟩
                    exact ⟨_, rfl, rfl, JS.did2 h'⟩
                  · refine RLastJ.of rfl fun T W Ls hag hall hni hJ hd => ?_   -- 14: 165 := Op.binOp BinOp.neq 39 (Operand.tmp 157) (Operand.t
                    have d157 : T.getD 157 undef = _ := hd 6 _ (by simp) rfl
                    have d164 : T.getD 164 undef = _ := hd 13 _ (by simp) rfl
                    have hfin := hJ.both (hall 6 (by decide)) (hall 13 (by decide))
                    have HFIN := Lib.hid hfin
                    obtain ⟨f, hf, hT⟩ := agree_fn hag
                    have d151 : T.getD 151 undef = _ := hd 0 _ (by simp) rfl
                    have h151 := (hf 151).trans d151
                    have d152 : T.getD 152 undef = _ := hd 1 _ (by simp) rfl
                    have h152 := (hf 152).trans d152
                    have d153 : T.getD 153 undef = _ := hd 2 _ (by simp) rfl
                    have h153 := (hf 153).trans d153
                    have d154 : T.getD 154 undef = _ := hd 3 _ (by simp) rfl
                    have h154 := (hf 154).trans d154
                    have d155 : T.getD 155 undef = _ := hd 4 _ (by simp) rfl
                    have h155 := (hf 155).trans d155
                    have d156 : T.getD 156 undef = _ := hd 5 _ (by simp) rfl
                    have h156 := (hf 156).trans d156
                    have h157 := (hf 157).trans d157
                    have d158 : T.getD 158 undef = _ := hd 7 _ (by simp) rfl
                    have h158 := (hf 158).trans d158
                    have d159 : T.getD 159 undef = _ := hd 8 _ (by simp) rfl
                    have h159 := (hf 159).trans d159
                    have d160 : T.getD 160 undef = _ := hd 9 _ (by simp) rfl
                    have h160 := (hf 160).trans d160
                    have d161 : T.getD 161 undef = _ := hd 10 _ (by simp) rfl
                    have h161 := (hf 161).trans d161
                    have d162 : T.getD 162 undef = _ := hd 11 _ (by simp) rfl
                    have h162 := (hf 162).trans d162
                    have d163 : T.getD 163 undef = _ := hd 12 _ (by simp) rfl
                    have h163 := (hf 163).trans d163
                    have h164 := (hf 164).trans d164
                    clear hag hd d151 d152 d153 d154 d155 d156 d157 d158 d159 d160 d161 d162 d163 d164 hf hJ hall hfin
                    rw [hT]
                    clear hT
                    simp only [List.filterMap_cons, List.filterMap_nil, List.foldl_cons, List.foldl_nil, List.setIfInBounds_toArray, List.set_cons_succ, List.set_cons_zero, h151, h152, h153, h154, h155, h156, h157, h158, h159, h160, h161, h162, h163, h164]
                    have k0 := HC0.out W HFIN.out.dd.bel
                    obtain ⟨t, ht, ht1, ht2⟩ := kind3 x.k
                    have hwt : IntKind.i64.wrap t = t := IntWalk.i64_in _ (by omega)
                    have hup : r ≠ r → False := fun h => h rfl
                    clear HJ0 HC1 HC3
                    by_cases ht0 : t = 0
                    · subst ht0
                      have hep1 := HB1.out.ep
                      have hdn1 := HB1.out.dn
                      have hep3 := HB3.out.ep
                      have hdn3 := HB3.out.dn
                      have htd := HFIN.out.tidy1 (by omega) (by omega)
                      have hb1 := HB1.out.tidy (by omega) (by omega)
                      have hb3 := HB3.out.tidy (by omega) (by omega)
                      have hu1 := HU1.out.dev hb1.dn
                      have hs1 := HS1.out.tidy HVR.out
                      have HTD := Lib.hid htd
                      have HB1' := Lib.hid (hb1.mono (E' := 2 + 2 * (k + 1)) (D' := 300 + 240 * (k + 1)) (by omega) (by omega))
                      have HB3' := Lib.hid (hb3.mono (E' := 2 + 2 * (k + 1)) (D' := 300 + 240 * (k + 1)) (by omega) (by omega))
                      have HU1' := Lib.hid (hu1.mono (E' := 2 + 2 * (k + 1)) (D' := 300 + 240 * (k + 1)) (by omega) (by omega))
                      have HS1' := Lib.hid hs1
                      have HEP : Hid (vv.ep + 1 < 4294967296 ∧ mx.done.length ≤ 998000) := ⟨by omega, by omega⟩
                      clear htd hb1 hb3 hu1 hs1 hep1 hdn1 hep3 hdn3 HFIN
                      go_wp2_with fail
                      refine HTD.out.mono ?_
                      rintro e w16 ⟨rfl, htw⟩
                      have HTD3 := Lib.hid (htw.tidy3 HEP.out.1 HEP.out.2)
                      clear htw HTD k0
                      go_wp2_with fail
                      refine HTD3.out.mono ?_
                      rintro e w17 ⟨rfl, htw⟩
                      have HTW3 := Lib.hid htw
                      clear htw HTD3
                      go_wp2
                      go_roundw
                      case rel => exact ⟨k + 1, _, _, _, _, by go_num, by omega, HTW3.out, HS1'.out, HB1'.out, HU1'.out, HB3'.out⟩
                      case measure => simp [intOf]; omega
                    · have hnt : (t == 0) = false := by simp; exact ht0
                      have HB1' := Lib.hid (HB1.out.mono (E' := 2 + 2 * (k + 1)) (D' := 300 + 240 * (k + 1)) (by omega) (by omega))
                      have HB3' := Lib.hid (HB3.out.mono (E' := 2 + 2 * (k + 1)) (D' := 300 + 240 * (k + 1)) (by omega) (by omega))
                      have HU1' := Lib.hid (HU1.out.mono (E' := 2 + 2 * (k + 1)) (D' := 300 + 240 * (k + 1)) (by omega) (by omega))
                      go_wp2
                      go_roundw
                      case rel => exact ⟨k + 1, _, _, _, _, by go_num, by omega, HFIN.out, HS1.out, HB1'.out, HU1'.out, HB3'.out⟩
                      case measure => simp [intOf]; omega
                · have i1 : ¬ (k : Int) < N0 := by omega
                  have i2 : (N0 : Int) ≤ k := by omega
                  have HBV2 := Lib.hid (HBV1.out.mono (E' := 2 + 2 * (k + 1)) (D' := 300 + 240 * (k + 1)) (by omega) (by omega))
                  have HBU2 := Lib.hid (HBU1.out.mono (E' := 2 + 2 * (k + 1)) (D' := 300 + 240 * (k + 1)) (by omega) (by omega))
                  have HBX2 := Lib.hid (HBX.out.mono (E' := 2 + 2 * (k + 1)) (D' := 300 + 240 * (k + 1)) (by omega) (by omega))
                  go_wp2
                  go_roundw
                  case rel => exact ⟨k + 1, m1, m', v, u1, by go_num, by omega, HTW1.out, HSIM1.out, HBV2.out, HBU2.out, HBX2.out⟩
                  case measure => simp [intOf]; omega
          · rw [decide_eq_false hkm]
            obtain rfl : k = MX := by omega
            have hnl := HSIM.out.nl
            have hnl2 := now_len HSIM.out.dims.symm
            have hdnv := HBV.out.dn
            have hdnx := HBX.out.dn
            have ht1 := HTW.out.dd.ds.trace 0 (by omega) (by omega)
            have HT1 := Lib.hid ht1
            clear ht1
            go_wp2_with fail
            refine HT1.out.mono ?_
            rintro e wa ⟨⟨tv, rfl, hto⟩, hba⟩
            have HTWa := Lib.hid (HTW.out.below hba)
            have HTO := Lib.hid hto
            have ht2 := HTWa.out.dd.swap.ds.trace 0 (by omega) (by omega)
            rw [← HSIM.out.tr] at ht2
            have HT2 := Lib.hid ht2
            clear ht2 hto hba HT1 HTW
            go_wp2_with fail
            refine HT2.out.mono ?_
            rintro e wb ⟨⟨uv, rfl, huo⟩, hbb⟩
            have HTWb := Lib.hid (HTWa.out.below hbb)
            have hto2 : TxtOwn wb wc.heap.size tv (traceL m 0) := RowsAt.keep HTO.out (fun k hk _ => hbb.block k hk)
            have ht3 := HTWb.out.dd.swap.ds.trace 1 (by omega) (by omega)
            rw [show traceL m' 1 = [] from HSIM.out.no] at ht3
            have HT3 := Lib.hid ht3
            obtain ⟨At, ct, rfl, _, _⟩ := RowsAt.val hto2
            obtain ⟨Au, cu, rfl, _, _⟩ := RowsAt.val huo
            have HTO2 := Lib.hid hto2
            have HUO2 := Lib.hid huo
            obtain ⟨LT, hLT⟩ : ∃ LT, (traceL m 0).length = LT := ⟨_, rfl⟩
            have hlt9 : (traceL m 0).length ≤ 1000000 := by
              have h1 : (traceL m 0).length ≤ m.done.length := by unfold traceL; rw [List.length_map]; exact List.length_filter_le _ _
              omega
            rw [hLT] at HTO2 HUO2 hlt9 ⊢
            have HLT := Lib.hid hLT
            clear ht3 hto2 huo hbb hLT HT2 HTWa HTO hnl hnl2 hdnv hdnx
            go_wp2_with fail
            refine HT3.out.mono ?_
            rintro e wd ⟨⟨vv, rfl, hvo⟩, hbd⟩
            obtain ⟨Av, cv, rfl, _, _⟩ := RowsAt.val hvo
            have HTWd := Lib.hid (HTWb.out.below hbd)
            have HTO3 : Hid (TxtOwn wd wc.heap.size (.slice At LT ct) (traceL m 0)) := RowsAt.keep HTO2.out (fun k hk _ => hbd.block k hk)
            have HUO3 : Hid (TxtOwn wd wa.heap.size (.slice Au LT cu) (traceL m 0)) := RowsAt.keep HUO2.out (fun k hk _ => hbd.block k hk)
            simp only [List.length_nil]
            clear hvo hbd HT3 HTWb HTO2 HUO2
            generalize traceL m 0 = TR at *
            generalize wc.heap.size = bc at *
            generalize wa.heap.size = ba at *
            go_wp2_with fail
            go_loopw [19] (fun i wr => ∃ j : Nat, i = .int .i64 j ∧ j ≤ LT ∧ Hid (Below wd.heap.size wd wr)) (fun i _ => LT - (intOf i).toNat)
            case atStart => exact ⟨0, rfl, by omega, brefl _⟩
            case round =>
              obtain ⟨j, rfl, hj, HBR⟩ := hrel
              obtain ⟨we, rfl⟩ : ∃ we, we = wr := ⟨wr, rfl⟩
              by_cases hjl : j < LT
              · have hji : (j : Int) < LT := by omega
                obtain ⟨b, hb⟩ : ∃ b, TR[j]? = some b := ⟨_, List.getElem?_eq_getElem (by rw [HLT.out]; exact hjl)⟩
                have hto4 : TxtOwn we bc (.slice At LT ct) TR := RowsAt.keep HTO3.out (fun k hk _ => HBR.out.block k hk)
                have huo4 : TxtOwn we ba (.slice Au LT cu) TR := RowsAt.keep HUO3.out (fun k hk _ => HBR.out.block k hk)
                obtain ⟨gt, ct', ut, hvt, _, _, hct, _, hrt⟩ := RowsAt.row hto4 hb
                obtain ⟨gu, cu', uu, hvu, _, _, hcu, _, hru⟩ := RowsAt.row huo4 hb
                obtain ⟨A1, e1, rfl, _, _, hy1⟩ := byt_own hrt.1 rfl
                obtain ⟨A2, e2, rfl, _, _, hy2⟩ := byt_own hru.1 rfl
                injection hvt with hv1 hv2 hv3
                injection hvu with hv4 hv5 hv6
                subst hv1 hv4
                clear hv2 hv3 hv5 hv6
                obtain ⟨str, hstr⟩ : ∃ s, strOfNums b = s := ⟨_, rfl⟩
                obtain ⟨bl, hbl⟩ : ∃ s, b.length = s := ⟨_, rfl⟩
                have s1 := fun q => (conv_any (c := e1) (hy1.drew q) hbl : (convert 24 9 (.slice A1 bl e1)).run Try.prog (we.drewN q) = _)
                have s2 := fun q => (conv_any (c := e2) (hy2.drew q) hbl : (convert 24 9 (.slice A2 bl e2)).run Try.prog (we.drewN q) = _)
                rw [hstr] at s1 s2
                rw [hbl] at hct hcu
                have k1 : ∀ q, (we.drewN q).cell? ⟨gt, j, none⟩ = some (.slice A1 bl e1) := fun q => (show we.cell? _ = _ from hct)
                have k2 : ∀ q, (we.drewN q).cell? ⟨gu, j, none⟩ = some (.slice A2 bl e2) := fun q => (show we.cell? _ = _ from hcu)
                clear hto4 huo4 hrt hru hct hcu hy1 hy2 hstr hbl hb
                go_wp2_with (go_quiet (fail))
                refine ⟨⟨j + 1, by go_num, by omega, bdn HBR.out _⟩, by simp [intOf]; omega⟩
              · obtain rfl : LT = j := by omega
                have hji : ¬ (LT : Int) < LT := by omega
                have HTWe := Lib.hid (HTWd.out.below HBR.out)
                clear HTO3 HUO3 HTWd HBR
                have hvk : v.n = n ∧ v.Ok := ⟨HBV.out.vo.vn, HBV.out.vo.ok⟩
                have HVK := Lib.hid hvk
                clear hvk
                go_wp2_with fail
                go_loopw [20, 21, 22, 23, 24] (fun i p b p2 b2 wr => ∃ j : Nat, i = .int .i64 j ∧ j ≤ n ∧ Hid (Below we.heap.size we wr)) (fun i _ _ _ _ _ => n - (intOf i).toNat)
                case atStart => exact ⟨0, rfl, by omega, brefl _⟩
                case round =>
                  obtain ⟨j, rfl, hj, HBR⟩ := hrel
                  obtain ⟨wf, rfl⟩ : ∃ wf, wf = wr := ⟨wr, rfl⟩
                  obtain ⟨z0, z1, z2, z3, z4⟩ := sh_cells (kb HBR.out HTWe.out.sh)
                  by_cases hjn : j < n
                  · have hji : (j : Int) < n := by omega
                    obtain ⟨x, hx⟩ : ∃ x, v.B[j]? = some x := ⟨_, List.getElem?_eq_getElem (by rw [HVK.out.2.len, HVK.out.1]; exact hjn)⟩
                    have hxo := HVK.out.2.ok x (List.mem_of_getElem? hx)
                    obtain ⟨g1, g2⟩ := getB_in HVK.out.2.len hx
                    have hget : ∀ W, Below wf.heap.size wf W → Calls Try.prog 17 #[.pointer (some ⟨h1, 0, none⟩), .int .i64 j] W fun e w' => e = .returned (.tuple #[.agg (blkA x.k x.bs), .bool true]) ∧ Below W.heap.size W w' := fun W hb => by
                      have h9 := vget_any (HTWe.out.a1.below (HBR.out.trans (hb.mono HBR.out.size))) j (by constructor <;> omega)
                      rw [g1, g2] at h9; exact h9
                    have hget3 : ∀ W, Below wf.heap.size wf W → Calls Try.prog 17 #[.pointer (some ⟨h3, 0, none⟩), .int .i64 j] W fun e w' => e = .returned (.tuple #[.agg (blkA x.k x.bs), .bool true]) ∧ Below W.heap.size W w' := fun W hb => by
                      have h9 := vget_any (HTWe.out.a3.below (HBR.out.trans (hb.mono HBR.out.size))) j (by constructor <;> omega)
                      rw [g1, g2] at h9; exact h9
                    have HG1 := Lib.hid hget
                    have HG3 := Lib.hid hget3
                    have HX5 := Lib.hid (And.intro hxo.len hxo.b)
                    clear hxo hget hget3 g1 g2 hx
                    go_wp2_with fail
                    refine (HG1.out wf (brefl _)).mono ?_
                    rintro e w10 ⟨rfl, hb10⟩
                    have HB10 := Lib.hid hb10
                    clear hb10 z0 z1 z2 z3 z4
                    go_upto_region 40 with (first | (refine wpList_allocB rfl rfl ?_) | (refine wpList_storeB rfl (.tmp 21) (.tmp 219) rfl w10.heap.size rfl x.k 0 x.bs zBs rfl HX5.out.1 zBs_len (heap_alloc_new w10 _) ?_))
                    have hb11 : Below w10.heap.size w10 ((w10.alloc (Obj.cells (blkA 0 zBs) 46)).setRow w10.heap.size (blkA x.k x.bs)) := below_setRow ((Below.refl _ _).alloc (Nat.le_refl _) _) (Nat.le_refl _) _
                    have e11 := setRow_blk (D := blkA x.k x.bs) (heap_alloc_new w10 (Obj.cells (blkA 0 zBs) 46))
                    have HB11 := Lib.hid (HB10.out.trans (hb11.mono HB10.out.size))
                    have HG11 := Lib.hid e11
                    clear hb11 e11 HB10
                    generalize (w10.alloc (Obj.cells (blkA 0 zBs) 46)).setRow w10.heap.size (blkA x.k x.bs) = w11 at *
                    generalize w10.heap.size = g21 at *
                    try simp only [Act.put]
                    go_wp2_with fail
                    refine (HG3.out w11 HB11.out).mono ?_
                    rintro e w12 ⟨rfl, hb12⟩
                    have HB12 := Lib.hid (HB11.out.trans (hb12.mono HB11.out.size))
                    have HG12 := Lib.hid (kb hb12 HG11.out)
                    clear hb12 HB11 HG11 HG1 HG3
                    go_upto_region 41 with (first | (refine wpList_allocB rfl rfl ?_) | (refine wpList_storeB rfl (.tmp 23) (.tmp 225) rfl w12.heap.size rfl x.k 0 x.bs zBs rfl HX5.out.1 zBs_len (heap_alloc_new w12 _) ?_))
                    have hb13 : Below w12.heap.size w12 ((w12.alloc (Obj.cells (blkA 0 zBs) 46)).setRow w12.heap.size (blkA x.k x.bs)) := below_setRow ((Below.refl _ _).alloc (Nat.le_refl _) _) (Nat.le_refl _) _
                    have e13 := setRow_blk (D := blkA x.k x.bs) (heap_alloc_new w12 (Obj.cells (blkA 0 zBs) 46))
                    have HB13 := Lib.hid (HB12.out.trans (hb13.mono HB12.out.size))
                    have HG13 := Lib.hid e13
                    have HG21 := Lib.hid (kb hb13 HG12.out)
                    clear hb13 e13 HB12 HG12
                    generalize (w12.alloc (Obj.cells (blkA 0 zBs) 46)).setRow w12.heap.size (blkA x.k x.bs) = w13 at *
                    generalize w12.heap.size = g23 at *
                    try simp only [Act.put]
                    go_upto_region 38 with (first
                      | (refine wpList_loadB rfl (.tmp 21) rfl g21 rfl x.k x.bs HX5.out.1 HG21.out ?_)
                      | (refine wpList_loadB rfl (.tmp 23) rfl g23 rfl x.k x.bs HX5.out.1 HG13.out ?_)
                      | (refine wpList_neqB9 rfl (.tmp 227) (.tmp 228) _ rfl x.k x.k x.bs x.bs rfl rfl HX5.out.1 HX5.out.2 HX5.out.1 HX5.out.2 ?_; simp only [and_self, decide_true, Bool.not_true]))
                    go_wp2
                    go_roundw
                    case rel => exact ⟨j + 1, by go_num, by omega, HBR.out.trans (HB13.out.mono HBR.out.size)⟩
                    case measure => simp [intOf]; omega
                  · obtain rfl : n = j := by omega
                    have hji : ¬ (n : Int) < n := by omega
                    have HF := Lib.hid ((HTWe.out.below HBR.out).dd.bel)
                    go_wp2_with fail
                    go_ret
                    exact ⟨rfl, HF.out⟩

set_option maxRecDepth 100000 in
theorem lifted (os : Os) (started : os.Started) (H : Type) (enc : TypeId × Value → H) :
    ReturnsInHanded {} Try.checked os 4 .any (Rows.volStaysSpec.pre6 enc Try.prog Try.f4 Rows.volStaysRow.domain false) (Rows.volStaysSpec.post enc Try.prog Try.f4 false true false false) := by
  refine returnsInHanded_of_change (C := Try.checked) own started (by kernel_rfl) Try.func4
    (ChangeSpec.witness6 (enc := enc) (C := Try.checked) false ⟨#[], #[.slice none 0 0, .slice none 0 0], []⟩ 8 (by kernel_rfl) (by kernel_rfl) (by kernel_rfl) (by kernel_rfl)) ?_
  intro W base args ds gs before hval0 hW hcnd _
  have hval : ∀ (j : Nat) t v, Try.f4.params[j]? = some t → args[j]? = some v → Value.okWide Try.prog W .any base t v := hval0
  have hW' := hW
  obtain ⟨p, q, hA0, hV, rfl, hfz, hnd⟩ := hW
  have hA : DataW.TrodAll enc Try.prog W 0 (fun _ => true) true Try.f4.params.toList args.toList ds p := hA0
  rw [Try.params4] at hA hval
  obtain ⟨v0, vs0, d0, ds0, p0, q0, hargs, rfl, rfl, h0, r0⟩ := trodAll_cons hA
  obtain ⟨v1, vs1, d1, ds1, p1, q1, rfl, rfl, rfl, h1, r1⟩ := trodAll_cons r0
  obtain ⟨rfl, rfl, rfl⟩ := trodAll_nil r1
  obtain rfl : args = #[v0, v1] := by cases args; simp_all
  obtain ⟨rfl, rfl⟩ := trodVars_none hV
  obtain ⟨a0, len0, cap0, rfl⟩ := okWide_slice Try.underlying22 (hval 0 22 v0 rfl rfl)
  obtain ⟨a1, len1, cap1, rfl⟩ := okWide_slice Try.underlying22 (hval 1 22 v1 rfl rfl)
  clear hA0 hval0
  simp only [List.append_nil] at hW'
  have hlt0 : ∀ y ∈ p0, y.block < W.heap.size := fun y hy => by simpa using hW'.lt y (by simp [hy])
  have harg0 : ∀ W' : World, Below W.heap.size W W' → DataW.Trod enc Try.prog W' 0 (fun b => decide (b < W.heap.size)) true 22 (.slice a0 len0 cap0) d0 p0 :=
    fun W' hn => Below.trod laidOut (by kernel_rfl) (of_decide_eq_true (by kernel_rfl)) h0 hn (fun y hy => hlt0 y hy)
  have hlt1 : ∀ y ∈ p1, y.block < W.heap.size := fun y hy => by simpa using hW'.lt y (by simp [hy])
  have harg1 : ∀ W' : World, Below W.heap.size W W' → DataW.Trod enc Try.prog W' 0 (fun b => decide (b < W.heap.size)) true 22 (.slice a1 len1 cap1) d1 p1 :=
    fun W' hn => Below.trod laidOut (by kernel_rfl) (of_decide_eq_true (by kernel_rfl)) h1 hn (fun y hy => hlt1 y hy)
  obtain ⟨fu0, hf0⟩ := h0
  obtain ⟨A0, l0, c0, e0, hd0, hm0, hy0, hB0⟩ := open_wds hf0
  simp [Value.cells] at e0
  obtain ⟨rfl, rfl, rfl⟩ := e0
  obtain ⟨fu1, hf1⟩ := h1
  obtain ⟨A1, l1, c1, e1, hd1, hm1, hy1, hB1⟩ := open_wds hf1
  simp [Value.cells] at e1
  obtain ⟨rfl, rfl, rfl⟩ := e1
  refine (walk a0 l0 cap0 a1 l1 cap1 W hd0 hm0 hB0 hy0 hd1 hm1 hB1 hy1).mono fun e W' ⟨he, bel⟩ => ?_
  subst he
  exact ⟨_, rfl, _, _, _, [], _, [], hW', (trodAll_cons_mk (shut_bool Try.underlying4 _) trodAll_mk0), (trodAll_cons_mk (harg0 _ bel) (trodAll_cons_mk (harg1 _ bel) trodAll_mk0)), rfl, bel.frame _, fun h => by cases h⟩

theorem over : Rows.volStaysRow.holds Try.pinned (OpenSpec.ofChange Rows.volStaysSpec) :=
  OpenClaim.holds_of_wide 4 Try.f4 rfl rfl rfl rfl rfl rfl rfl ⟨rfl, rfl, rfl, rfl, rfl⟩ rfl rfl rfl rfl rfl (by kernel_rfl) Try.func4 (by kernel_rfl)
    (of_decide_eq_true (by kernel_rfl)) (by unfold Func.isWrapper; first | (rw [if_pos (by decide +kernel)]; kernel_rfl) | (rw [if_neg (by decide +kernel)]; exact ⟨rfl, rfl⟩))
    (fun os started H enc _ => lifted os started H enc)

theorem proved : Rows.VolStaysSaid :=
  over
#print axioms proved
end Go.Proofs.Ytamnpblijdgdaaa.volStays
