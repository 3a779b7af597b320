/- Contract: the reference's PutEntry. -/
import Derived.Test.YtcmmopngjeonfaaYf
namespace Go.Proofs.Ytcmmopngjeonfaa
open Go.ChangeShapes Go.WideShapes Go.ChangeAt Go.RowKit
set_option linter.unusedVariables false
/-- Where PutEntry stands: the node, the result. -/
structure JGN (w : World) (p : Nat) (n : En) (W : World) : Prop where
  bel : Below p w W
  sz : p + 1 + 1 ≤ W.heap.size
  at_ : EnAt W p n
  res : W.heap[p + 1]? = some (.cells (blkA 0 zBs) 29 (0, 0))
section
variable {w W W' : World} {p : Nat} {n : En}
theorem JGN.below (h : JGN w p n W) (hb : Below W.heap.size W W') : JGN w p n W' :=
  ⟨h.bel.trans (hb.mono (by have := h.sz; omega)), Nat.le_trans h.sz hb.size, h.at_.below hb, kb hb h.res⟩
theorem JGN.alloc (h : JGN w p n W) (o : Obj) : JGN w p n (W.alloc o) := h.below (bel1 o)
theorem JGN.grown {r : Option Nat} (h : JGN w p n W) (hg : W.grownBy W' r) (h1 : ∀ j, r = some j → p ≤ j) (h2 : r ≠ some p) (h3 : r ≠ some (p + 1)) : JGN w p n W' :=
  ⟨h.bel.grown hg (by have := h.sz; omega) h1, Nat.le_trans h.sz hg.size, h.at_.grown hg h2, by rw [hg.block _ (by have := h.sz; omega) (fun e => h3 e.symm)]; exact h.res⟩
end
def VGE (p : Nat) (n : En) (i : Nat) (v : Value) (W : World) : Prop :=
  match i with
  | 0 => v = .pointer (some ⟨p, 0, none⟩)
  | 1 => v = idV n.l n.a n.g
  | 3 => v = .pointer (some ⟨p, 4, none⟩)
  | 4 => v = .int .i64 n.p
  | 5 => v = .int .u64 n.p
  | 8 => v = .pointer (some ⟨p, 5, none⟩)
  | 9 => v = .int .u32 n.n
  | 10 => v = .int .u64 n.n
  | 2 => W.ownsRow (p + 1 + 1) 5 1 v 7 (Bs (idL n.l n.a n.g))
  | 6 => FullAt W (p + 1 + 1) v (be n.p.toNat 2)
  | 7 => W.ownsRow (p + 1 + 1) 5 1 v 9 (Bs (idL n.l n.a n.g ++ be n.p.toNat 2))
  | 11 => FullAt W (p + 1 + 1) v (be n.n.toNat 4)
  | 12 => W.ownsRow (p + 1 + 1) 5 1 v 13 (Bs (headE n))
  | _ => True
def SGE (i : Nat) (w w' : World) : Prop := if i = 7 then KeepB 7 9 w w' else if i = 12 then KeepB 9 13 w w' else w.grownBy w' none
theorem VGE.on {p : Nat} {n : En} {i j : Nat} {v : Value} {w w' : World} (hij : i ≠ j) (hnot : ¬ (i = 7 ∧ j = 12)) (h : VGE p n j v w) (hs : SGE i w w') : VGE p n j v w' := by
  unfold SGE at hs
  by_cases hi : i = 7
  · rw [if_pos hi] at hs
    unfold VGE at *
    split <;> try exact h
    · exact own_keep h hs (by decide)
    · exact FullAt.keep h hs (by rw [be_length]; decide)
    · exact absurd hi hij
    · exact FullAt.keep h hs (by rw [be_length]; decide)
    · exact absurd ⟨hi, rfl⟩ hnot
    · trivial
  · rw [if_neg hi] at hs
    by_cases hi2 : i = 12
    · rw [if_pos hi2] at hs
      unfold VGE at *
      split <;> try exact h
      · exact own_keep h hs (by decide)
      · exact FullAt.keep h hs (by rw [be_length]; decide)
      · exact own_keep h hs (by decide)
      · exact FullAt.keep h hs (by rw [be_length]; decide)
      · exact absurd hi2 hij
      · trivial
    · rw [if_neg hi2] at hs
      unfold VGE at *
      split <;> try exact h
      · exact World.ownsRow.kept h hs (by cases v.ownBlock <;> simp)
      · exact FullAt.grown h hs
      · exact World.ownsRow.kept h hs (by cases v.ownBlock <;> simp)
      · exact FullAt.grown h hs
      · exact World.ownsRow.kept h hs (by cases v.ownBlock <;> simp)
      · trivial
/-- .. in the last region: b7: the length has been appended, b12: the result is stored. -/
structure JGO (w : World) (p : Nat) (n : En) (v6 : Value) (b7 b12 : Bool) (W : World) : Prop where
  bel : Below p w W
  sz : p + 1 + 1 ≤ W.heap.size
  at_ : EnAt W p n
  row : b7 = false → W.ownsRow (p + 1 + 1) 5 1 v6 13 (Bs (headE n))
  res0 : b12 = false → W.heap[p + 1]? = some (.cells (blkA 0 zBs) 29 (0, 0))
  res1 : b12 = true → W.heap[p + 1]? = some (.cells (blkA 6 (pad (bytesE n))) 29 (0, 0))
section
variable {w W W' : World} {p : Nat} {n : En} {v6 : Value} {b7 b12 : Bool}
theorem JGO.below (h : JGO w p n v6 b7 b12 W) (hb : Below W.heap.size W W') : JGO w p n v6 b7 b12 W' :=
  ⟨h.bel.trans (hb.mono (by have := h.sz; omega)), Nat.le_trans h.sz hb.size, h.at_.below hb, fun e => ownB (h.row e) hb, fun e => kb hb (h.res0 e), fun e => kb hb (h.res1 e)⟩
theorem JGO.alloc (h : JGO w p n v6 b7 b12 W) (o : Obj) : JGO w p n v6 b7 b12 (W.alloc o) := h.below (bel1 o)
theorem JGO.push {r : Option Nat} (h : JGO w p n v6 b7 b12 W) (hg : W.grownBy W' r) (hne : ∀ j, r = some j → p + 1 + 1 ≤ j) : JGO w p n v6 true b12 W' := by
  have h3 : r ≠ some (p + 1) := fun e => by have := hne _ e; omega
  exact ⟨h.bel.grown hg (by have := h.sz; omega) (fun j e => by have := hne j e; omega), Nat.le_trans h.sz hg.size, h.at_.grown hg (fun e => by have := hne _ e; omega), (fun e => by cases e), (fun e => by rw [hg.block _ (by have := h.sz; omega) (fun e => h3 e.symm)]; exact h.res0 e), (fun e => by rw [hg.block _ (by have := h.sz; omega) (fun e => h3 e.symm)]; exact h.res1 e)⟩
theorem JGO.push2 {r : Option Nat} (h : JGO w p n v6 b7 b12 W) (hg : W.grownBy W' r) (hne : ∀ j, r = some j → p + 1 + 1 ≤ j) (hb : b7 = true) : JGO w p n v6 b7 b12 W' := by
  have := h.push hg hne
  subst hb
  exact this
theorem JGO.stored (h : JGO w p n v6 b7 b12 W) : JGO w p n v6 b7 true (W.setRow (p + 1) (blkA 6 (pad (bytesE n)))) := by
  have hr : W.heap[p + 1]? = some (.cells (blkA 6 (pad (bytesE n))) 29 (0, 0)) ∨ W.heap[p + 1]? = some (.cells (blkA 0 zBs) 29 (0, 0)) := by
    cases b12
    · exact Or.inr (h.res0 rfl)
    · exact Or.inl (h.res1 rfl)
  exact ⟨below_setRow h.bel (by omega) _, by rw [size_setRow]; exact h.sz, h.at_.other _ (by omega), (fun e => World.ownsRow.kept (h.row e) (grownBy_setRow _ _ _) (Or.inr fun e2 => by have := ((h.row e).lt _ e2).1; omega)), (fun e => by cases e), (fun _ => by rcases hr with h1 | h1 <;> exact setRow_blk h1)⟩
end
def VGO (p : Nat) (n : En) (v6 : Value) (i : Nat) (v : Value) (W : World) : Prop :=
  match i with
  | 0 => v = v6
  | 1 | 7 => v = .pointer (some ⟨p, 3, none⟩)
  | 2 | 8 => v = .string (strOfNums n.t)
  | 3 => v = .int .i64 n.t.length
  | 4 => v = .int .u8 n.t.length
  | 10 => v = .agg (blkA 6 (pad (bytesE n)))
  | 5 => FullAt W (p + 1 + 1) v [(n.t.length : Int)]
  | 6 => W.ownsRow (p + 1 + 1) 5 1 v 14 (Bs (frontE n))
  | 9 => W.ownsRow (p + 1 + 1) 5 1 v (14 + n.t.length) (Bs (bytesE n))
  | _ => True
def SGO (p : Nat) (n : En) (i : Nat) (w w' : World) : Prop := if i = 6 then KeepB 13 14 w w' else if i = 9 then KeepB 14 (14 + n.t.length) w w' else if i = 11 then w.grownBy w' (some (p + 1)) else w.grownBy w' none
theorem VGO.on {p : Nat} {n : En} {v6 : Value} {i j : Nat} {v : Value} {w w' : World} (hij : i ≠ j) (hnot : ¬ (i = 6 ∧ j = 9)) (h : VGO p n v6 j v w) (hs : SGO p n i w w') : VGO p n v6 j v w' := by
  unfold SGO at hs
  by_cases hi : i = 6
  · rw [if_pos hi] at hs
    unfold VGO at *
    split <;> try exact h
    · exact FullAt.keep h hs (show 1 < 14 by omega)
    · exact absurd hi hij
    · exact absurd ⟨hi, rfl⟩ hnot
    · trivial
  · rw [if_neg hi] at hs
    by_cases hi2 : i = 9
    · rw [if_pos hi2] at hs
      unfold VGO at *
      split <;> try exact h
      · exact FullAt.keep h hs (show 1 < 14 + n.t.length by omega)
      · exact own_keep h hs (by decide)
      · exact absurd hi2 hij
      · trivial
    · rw [if_neg hi2] at hs
      by_cases hi3 : i = 11
      · rw [if_pos hi3] at hs
        unfold VGO at *
        split <;> try exact h
        · exact FullAt.kept h hs (by omega)
        · exact own_kept h hs (by omega)
        · exact own_kept h hs (by omega)
        · trivial
      · rw [if_neg hi3] at hs
        unfold VGO at *
        split <;> try exact h
        · exact FullAt.grown h hs
        · exact World.ownsRow.kept h hs (by cases v.ownBlock <;> simp)
        · exact World.ownsRow.kept h hs (by cases v.ownBlock <;> simp)
        · trivial
set_option maxRecDepth 100000 in
set_option maxHeartbeats 6400000 in
theorem renput_any (n : En) (w : World) (hn : EnOk n) (htl0 : n.t.length ≤ 100) : Calls Try.prog 8 #[.agg (enA n)] w fun e w' => e = .returned (.tuple #[.agg (blkA (putEK n) (putEB n)), .bool (decide (MayE n))]) ∧ Below w.heap.size w w' := by
  have HM := Lib.hid (fun w => renmay_any n w hn htl0)
  have HT := Lib.hid hn.t
  have HJ0 : Hid (JGN w w.heap.size n ((w.alloc (Obj.cells (enA n) 26)).alloc (Obj.cells (blkA 0 zBs) 29))) := by
    have s1 : (w.alloc (Obj.cells (enA n) 26)).heap.size = w.heap.size + 1 := size_alloc' _ _
    have B1 := bel1 (w := w) (Obj.cells (enA n) 26)
    have H1 := heap_alloc_new (w.alloc (Obj.cells (enA n) 26)) (Obj.cells (blkA 0 zBs) 29)
    rw [s1] at H1
    exact ⟨B1.alloc B1.size _, by rw [size_alloc', s1]; exact Nat.le_refl _, (EnAt.new w n).alloc _, H1⟩
  go_enter Try.func8, Try.ntmps8
  go_upto_region 1 with (refine wpList_allocB rfl rfl ?_; try simp only [size_alloc'])
  generalize (w.alloc (Obj.cells (enA n) 26)).alloc (Obj.cells (blkA 0 zBs) 29) = W at *
  go_wp2_with (refine wpList_loadE rfl (.tmp 1) rfl w.heap.size rfl n HJ0.out.at_ ?_)
  refine (HM.out _).mono ?_; rintro e w1 ⟨rfl, hb1⟩
  have HJ1 := Lib.hid (HJ0.out.below hb1)
  clear hb1 HJ0
  by_cases hm : MayE n
  · have HPK : Hid (putEK n = 6) := by unfold Hid putEK; rw [if_pos hm]
    have HPB : Hid (putEB n = pad (bytesE n)) := by unfold Hid putEB; rw [if_pos hm]
    have HD := Lib.hid (decide_eq_true hm)
    rw [HD.out]
    have htl := hm.tl
    have hp0 := hm.2.1
    have hn0 := hm.2.2
    have hn32 : n.n < 4294967296 := by have := hn.n.2; omega
    have HPL := Lib.hid (pad_len (ys := bytesE n) (by rw [bytesE_length]; omega))
    have HA := Lib.hid high_int
    have HIP : Hid (∀ W : World, Calls Try.prog 18 #[idV n.l n.a n.g] W fun e w' => ∃ v, e = .returned v ∧ w'.ownsRow W.heap.size 5 1 v 7 (Bs (idL n.l n.a n.g)) ∧ Below W.heap.size W w') := fun W => by
      have h := irput_any n.l n.a n.g W hn.l hn.a hn.g
      rwa [putL_yes hm.1.1, idL_length] at h
    have hpr : 0 ≤ n.p ∧ n.p < 18446744073709551616 := by omega
    have hnr : 0 ≤ n.n ∧ n.n < 18446744073709551616 := by omega
    have wp1 : IntKind.u64.wrap n.p = n.p := IntWalk.u64_in _ (by omega)
    have wn1 : IntKind.u64.wrap n.n = n.n := IntWalk.u64_in _ (by omega)
    clear hm
    go_upto_region 3 with fail
    generalize hp : w.heap.size = p at *
    go_cut [4] (fun s wx => wx.ownsRow (p + 1 + 1) 5 1 s 13 (Bs (headE n)) ∧ JGN w p n wx)
    case first =>
      have hJ0 : JGN w p n w1.drew := ⟨HJ1.out.bel.drew, HJ1.out.sz, HJ1.out.at_, HJ1.out.res⟩
      refine wp_region_rgk (VGE p n) (fun _ W => JGN w p n W) SGE (by kernel_rfl) (by kernel_rfl) (fun i j v' w' w'' hij hind h hg => h.on hij (fun hh => by obtain ⟨rfl, rfl⟩ := hh; exact absurd (hind.symm.trans (show indepB _ 12 7 = false by kernel_rfl)) (by decide)) hg) hJ0 ?_
      have srefl : ∀ (i : Nat) (W : World), SGE i W W := fun i W => by
        unfold SGE; split
        · exact KeepB.grown (World.grownBy.refl _ _)
        · split
          · exact KeepB.grown (World.grownBy.refl _ _)
          · exact World.grownBy.refl _ _
      clear hJ0 HJ1
      simp only [RAll]
      refine ⟨?_, ?_, ?_, ?_, ?_, ?_, ?_, ?_, ?_, ?_, ?_, ?_, ?_, ?_⟩
      · refine RStepK.of rfl fun T W L hag hL hJ hLs hd => ?_   -- 0: 9 := Op.fieldAddr 26 (Operand.tmp 1) 0
        have e1 : T.getD 1 undef = _ := (agree_at hag 1 (by kernel_rfl)).trans rfl
        clear hag hd
        go_simp
        exact ⟨_, rfl, rfl⟩
      · refine RStepK.of rfl fun T W L hag hL hJ hLs hd => ?_   -- 1: 10 := Op.load 24 (Operand.tmp 9)
        have d9 : T.getD 9 undef = _ := hd ⟨0, .data⟩ (by simp) rfl _ rfl
        exact wp_loadDir (.tmp 9) rfl p d9 n hJ.at_ ⟨_, rfl, rfl, hJ, srefl _ _⟩
      · refine RStepK.of rfl fun T W L hag hL hJ hLs hd => ?_   -- 2: 11 := Op.call { callee := Callee.value (Operand.func 18), args := 
        have d10 : T.getD 10 undef = _ := hd ⟨1, .data⟩ (by simp) rfl _ rfl
        clear hag hd
        go_simp
        refine (HIP.out W).mono ?_
        rintro en w' ⟨u, rfl, hf, hb⟩
        exact ⟨_, rfl, hf.mono hJ.sz, hJ.below hb, growN hb⟩
      · refine RStepK.of rfl fun T W L hag hL hJ hLs hd => ?_   -- 3: 12 := Op.fieldAddr 26 (Operand.tmp 1) 2
        have e1 : T.getD 1 undef = _ := (agree_at hag 1 (by kernel_rfl)).trans rfl
        clear hag hd
        go_simp
        exact ⟨_, rfl, rfl⟩
      · refine RStepK.of rfl fun T W L hag hL hJ hLs hd => ?_   -- 4: 13 := Op.load 3 (Operand.tmp 12)
        have d12 : T.getD 12 undef = _ := hd ⟨3, .data⟩ (by simp) rfl _ rfl
        have fct0 := (show W.cell? ⟨p, 4, none⟩ = some (.int .i64 n.p) from hJ.at_.cell 4)
        clear hag hd
        go_simp
        exact ⟨_, rfl, rfl⟩
      · refine RStepK.of rfl fun T W L hag hL hJ hLs hd => ?_   -- 5: 14 := Op.convert 3 45 (Operand.tmp 13)
        have d13 : T.getD 13 undef = _ := hd ⟨4, .data⟩ (by simp) rfl _ rfl
        have fct0 := wp1
        clear hag hd
        go_simp
        exact ⟨_, rfl, rfl⟩
      · refine RStepK.of rfl fun T W L hag hL hJ hLs hd => ?_   -- 6: 15 := Op.call { callee := Callee.value (Operand.func 19), args := 
        have d14 : T.getD 14 undef = _ := hd ⟨5, .data⟩ (by simp) rfl _ rfl
        clear hag hd
        go_simp
        refine (HA.out n.p 2 W hpr (by omega)).mono ?_
        rintro en w' ⟨u, rfl, hf, hb⟩
        exact ⟨_, rfl, hf.mono hJ.sz, hJ.below hb, growN hb⟩
      · refine RStepK.of rfl fun T W L hag hL hJ hLs hd => ?_   -- 7: 16 := Op.call { callee := Callee.builtin Builtin.append, args := #
        have x11 : W.ownsRow (p + 1 + 1) 5 1 (T.getD 11 undef) 7 (Bs (idL n.l n.a n.g)) := hd ⟨2, .data⟩ (by simp) rfl _ rfl
        have x15 : FullAt W (p + 1 + 1) (T.getD 15 undef) (be n.p.toNat 2) := hd ⟨6, .data⟩ (by simp) rfl _ rfl
        obtain ⟨q, (e15 : T.getD 15 undef = _), hy⟩ := x15.byt
        refine wp_app_keep W (.tmp 11) (.tmp 15) rfl (p + 1 + 1) _ 7 _ rfl x11 (some ⟨q, 0, none⟩) 2 2 (be n.p.toNat 2) e15 hy rfl (by omega) hJ.sz ?_
        intro v' w' h1 h2 h3
        have hne : ∀ j, (T.getD 11 undef).ownBlock = some j → p + 1 + 1 ≤ j := fun j e => (x11.lt j e).1
        exact ⟨_, rfl, h1, hJ.grown h2 (fun j e => by have := hne j e; omega) (fun e => by have := hne p e; omega) (fun e => by have := hne (p + 1) e; omega), h3⟩
      · refine RStepK.of rfl fun T W L hag hL hJ hLs hd => ?_   -- 8: 17 := Op.fieldAddr 26 (Operand.tmp 1) 3
        have e1 : T.getD 1 undef = _ := (agree_at hag 1 (by kernel_rfl)).trans rfl
        clear hag hd
        go_simp
        exact ⟨_, rfl, rfl⟩
      · refine RStepK.of rfl fun T W L hag hL hJ hLs hd => ?_   -- 9: 18 := Op.load 22 (Operand.tmp 17)
        have d17 : T.getD 17 undef = _ := hd ⟨8, .data⟩ (by simp) rfl _ rfl
        have fct0 := (show W.cell? ⟨p, 5, none⟩ = some (.int .u32 n.n) from hJ.at_.cell 5)
        clear hag hd
        go_simp
        exact ⟨_, rfl, rfl⟩
      · refine RStepK.of rfl fun T W L hag hL hJ hLs hd => ?_   -- 10: 19 := Op.convert 22 45 (Operand.tmp 18)
        have d18 : T.getD 18 undef = _ := hd ⟨9, .data⟩ (by simp) rfl _ rfl
        have fct0 := wn1
        clear hag hd
        go_simp
        exact ⟨_, rfl, rfl⟩
      · refine RStepK.of rfl fun T W L hag hL hJ hLs hd => ?_   -- 11: 20 := Op.call { callee := Callee.value (Operand.func 19), args := 
        have d19 : T.getD 19 undef = _ := hd ⟨10, .data⟩ (by simp) rfl _ rfl
        clear hag hd
        go_simp
        refine (HA.out n.n 4 W hnr (by omega)).mono ?_
        rintro en w' ⟨u, rfl, hf, hb⟩
        exact ⟨_, rfl, hf.mono hJ.sz, hJ.below hb, growN hb⟩
      · refine RStepK.of rfl fun T W L hag hL hJ hLs hd => ?_   -- 12: 21 := Op.call { callee := Callee.builtin Builtin.append, args := #
        have x16 : W.ownsRow (p + 1 + 1) 5 1 (T.getD 16 undef) 9 (Bs (idL n.l n.a n.g ++ be n.p.toNat 2)) := hd ⟨7, .data⟩ (by simp) rfl _ rfl
        have x20 : FullAt W (p + 1 + 1) (T.getD 20 undef) (be n.n.toNat 4) := hd ⟨11, .data⟩ (by simp) rfl _ rfl
        obtain ⟨q, (e20 : T.getD 20 undef = _), hy⟩ := x20.byt
        refine wp_app_keep W (.tmp 16) (.tmp 20) rfl (p + 1 + 1) _ 9 _ rfl x16 (some ⟨q, 0, none⟩) 4 4 (be n.n.toNat 4) e20 hy rfl (by omega) hJ.sz ?_
        intro v' w' h1 h2 h3
        have hne : ∀ j, (T.getD 16 undef).ownBlock = some j → p + 1 + 1 ≤ j := fun j e => (x16.lt j e).1
        exact ⟨_, rfl, h1, hJ.grown h2 (fun j e => by have := hne j e; omega) (fun e => by have := hne p e; omega) (fun e => by have := hne (p + 1) e; omega), h3⟩
      · refine RLastK.of rfl fun T W L hag hLs hL hJ hd => ?_   -- 13: 4 := Op.assign (Operand.tmp 21)
        have x21 : W.ownsRow (p + 1 + 1) 5 1 (T.getD 21 undef) 13 (Bs (headE n)) := hd 12 _ (by simp) rfl
        obtain ⟨f, hf, hT⟩ := agree_fn hag
        have h21 := hf 21
        rw [← h21] at x21
        have HX21 := Lib.hid x21
        clear h21 x21
        have HJ := Lib.hid hJ
        clear hag hd hJ hf
        rw [hT]
        clear hT
        simp only [List.pop_toArray, List.dropLast_cons_cons, List.dropLast_singleton, List.filterMap_cons, List.filterMap_nil, List.foldl_cons, List.foldl_nil, List.setIfInBounds_toArray, List.set_cons_succ, List.set_cons_zero]
        rename_i hJc hKc
        go_wp2_with fail
        refine hJc _ _ ?_
        repeat apply Exists.intro
        exact ⟨⟨HX21.out, HJ.out⟩, rfl⟩
    case rest =>
      obtain ⟨own, hJ⟩ := hcut
      generalize u4 = v6 at *
      have HO := Lib.hid own
      have HJ := Lib.hid hJ
      clear own hJ HJ1 wp1 wn1 hpr hnr
      have hsz : ((strOfNums n.t).size : Int) = n.t.length := by rw [strOfNums_size]
      have wt : IntKind.u8.wrap (n.t.length : Int) = n.t.length := IntWalk.u8_in _ (by omega)
      go_upto_region 4 with fail
      have hJ0 : JGO w p n v6 false false wc.drew := ⟨HJ.out.bel.drew, HJ.out.sz, HJ.out.at_, (fun _ => HO.out), (fun _ => HJ.out.res), (fun e => by cases e)⟩
      refine wp_region_rgk (VGO p n v6) (fun L W => JGO w p n v6 (L 6) (L 11) W) (SGO p n) (by kernel_rfl) (by kernel_rfl) (fun i j v' w' w'' hij hind h hg => h.on hij (fun hh => by obtain ⟨rfl, rfl⟩ := hh; exact absurd (hind.symm.trans (show indepB _ 9 6 = false by kernel_rfl)) (by decide)) hg) hJ0 ?_
      have srefl : ∀ (i : Nat) (W : World), SGO p n i W W := fun i W => by
        unfold SGO; split
        · exact KeepB.grown (World.grownBy.refl _ _)
        · split
          · exact KeepB.grown (World.grownBy.refl _ _)
          · split <;> exact World.grownBy.refl _ _
      clear hJ0 HJ HO
      simp only [RAll]
      refine ⟨?_, ?_, ?_, ?_, ?_, ?_, ?_, ?_, ?_, ?_, ?_, ?_, ?_⟩
      · refine RStepK.of rfl fun T W L hag hL hJ hLs hd => ?_   -- 0: 22 := Op.move (Operand.tmp 4)
        have e4 : T.getD 4 undef = _ := (agree_at hag 4 (by kernel_rfl)).trans rfl
        clear hag hd
        go_simp
        exact ⟨_, rfl, rfl⟩
      · refine RStepK.of rfl fun T W L hag hL hJ hLs hd => ?_   -- 1: 23 := Op.fieldAddr 26 (Operand.tmp 1) 1
        have e1 : T.getD 1 undef = _ := (agree_at hag 1 (by kernel_rfl)).trans rfl
        clear hag hd
        go_simp
        exact ⟨_, rfl, rfl⟩
      · refine RStepK.of rfl fun T W L hag hL hJ hLs hd => ?_   -- 2: 24 := Op.load 9 (Operand.tmp 23)
        have d23 : T.getD 23 undef = _ := hd ⟨1, .data⟩ (by simp) rfl _ rfl
        have fct0 := (show W.cell? ⟨p, 3, none⟩ = some (.string (strOfNums n.t)) from hJ.at_.cell 3)
        clear hag hd
        go_simp
        exact ⟨_, rfl, rfl⟩
      · refine RStepK.of rfl fun T W L hag hL hJ hLs hd => ?_   -- 3: 25 := Op.call { callee := Callee.builtin Builtin.len, args := #[Op
        have d24 : T.getD 24 undef = _ := hd ⟨2, .data⟩ (by simp) rfl _ rfl
        have fct0 := hsz
        clear hag hd
        go_simp
        exact ⟨_, rfl, rfl⟩
      · refine RStepK.of rfl fun T W L hag hL hJ hLs hd => ?_   -- 4: 26 := Op.convert 3 5 (Operand.tmp 25)
        have d25 : T.getD 25 undef = _ := hd ⟨3, .data⟩ (by simp) rfl _ rfl
        have fct0 := wt
        clear hag hd
        go_simp
        exact ⟨_, rfl, rfl⟩
      · refine RStepK.of rfl fun T W L hag hL hJ hLs hd => ?_   -- 5: 27 := Op.buildSlice 41 1 #[(0, Operand.tmp 26)]
        have d26 : T.getD 26 undef = _ := hd ⟨4, .data⟩ (by simp) rfl _ rfl
        simp only [Array.getD_eq_getD_getElem?] at d26
        clear hag hd
        go_simp
        exact ⟨_, rfl, ⟨_, _, rfl, hJ.sz, heap_alloc_new _ _, rfl⟩, hJ.alloc _, World.grownBy_alloc W _ _⟩
      · refine RStepK.of rfl fun T W L hag hL hJ hLs hd => ?_   -- 6: 28 := Op.call { callee := Callee.builtin Builtin.append, args := #
        have d22 : T.getD 22 undef = _ := hd ⟨0, .data⟩ (by simp) rfl _ rfl
        have x27 : FullAt W (p + 1 + 1) (T.getD 27 undef) [(n.t.length : Int)] := hd ⟨5, .data⟩ (by simp) rfl _ rfl
        obtain ⟨q, (e27 : T.getD 27 undef = _), hy⟩ := x27.byt
        have hrow := hJ.row hL
        refine wp_app_keep W (.tmp 22) (.tmp 27) rfl (p + 1 + 1) _ 13 _ d22 hrow (some ⟨q, 0, none⟩) 1 1 [(n.t.length : Int)] e27 hy rfl (by omega) hJ.sz ?_
        intro v' w' h1 h2 h3
        have hne : ∀ j, v6.ownBlock = some j → p + 1 + 1 ≤ j := fun j e => (hrow.lt j e).1
        exact ⟨_, rfl, h1, hJ.push h2 hne, h3⟩
      · refine RStepK.of rfl fun T W L hag hL hJ hLs hd => ?_   -- 7: 29 := Op.fieldAddr 26 (Operand.tmp 1) 1
        have e1 : T.getD 1 undef = _ := (agree_at hag 1 (by kernel_rfl)).trans rfl
        clear hag hd
        go_simp
        exact ⟨_, rfl, rfl⟩
      · refine RStepK.of rfl fun T W L hag hL hJ hLs hd => ?_   -- 8: 30 := Op.load 9 (Operand.tmp 29)
        have d29 : T.getD 29 undef = _ := hd ⟨7, .data⟩ (by simp) rfl _ rfl
        have fct0 := (show W.cell? ⟨p, 3, none⟩ = some (.string (strOfNums n.t)) from hJ.at_.cell 3)
        clear hag hd
        go_simp
        exact ⟨_, rfl, rfl⟩
      · refine RStepK.of rfl fun T W L hag hL hJ hLs hd => ?_   -- 9: 31 := Op.call { callee := Callee.builtin Builtin.append, args := #
        have x28 : W.ownsRow (p + 1 + 1) 5 1 (T.getD 28 undef) 14 (Bs (frontE n)) := hd ⟨6, .data⟩ (by simp) rfl _ rfl
        have d30 : T.getD 30 undef = _ := hd ⟨8, .data⟩ (by simp) rfl _ rfl
        refine wp_app_str W (.tmp 28) (.tmp 30) rfl (p + 1 + 1) _ 14 _ rfl x28 n.t d30 HT.out (by omega) hJ.sz ?_
        intro v' w' h1 h2 h3
        have hne : ∀ j, (T.getD 28 undef).ownBlock = some j → p + 1 + 1 ≤ j := fun j e => (x28.lt j e).1
        exact ⟨_, rfl, h1, hJ.push2 h2 hne (hLs ⟨6, .data⟩ (by simp) rfl), h3⟩
      · refine RStepK.of rfl fun T W L hag hL hJ hLs hd => ?_   -- 10: 32 := Op.call { callee := Callee.value (Operand.func 20), args := 
        have x31 : W.ownsRow (p + 1 + 1) 5 1 (T.getD 31 undef) (14 + n.t.length) (Bs (bytesE n)) := hd ⟨9, .data⟩ (by simp) rfl _ rfl
        have hbl : (bytesE n).length = 14 + n.t.length := bytesE_length n
        obtain ⟨A2, d2, e31, hle2, hd2, hy2⟩ := byt_own x31 hbl
        rw [hbl] at e31
        have hBO := body_any 6 A2 (bytesE n) (14 + n.t.length) d2 W hbl (by omega) hy2
        clear hag hd
        go_simp
        refine hBO.mono ?_
        rintro en w' ⟨rfl, hb⟩
        exact ⟨_, rfl, rfl, hJ.below hb, growN hb⟩
      · refine RStepK.of rfl fun T W L hag hL hJ hLs hd => ?_   -- 11: None := Op.store 29 (Operand.tmp 2) (Operand.tmp 32)
        have e2 : T.getD 2 undef = _ := (agree_at hag 2 (by kernel_rfl)).trans rfl
        have d32 : T.getD 32 undef = _ := hd ⟨10, .data⟩ (by simp) rfl _ rfl
        clear hag hd
        refine wp_storeB (.tmp 2) (.tmp 32) rfl (p + 1) e2 6 0 (pad (bytesE n)) zBs d32 HPL.out zBs_len (hJ.res0 hL) ?_
        exact ⟨undef, rfl, trivial, hJ.stored, grownBy_setRow _ _ _⟩
      · refine RLastK.of rfl fun T W L hag hLs hL hJ hd => ?_   -- 12: 3 := Op.assign (Operand.const (Value.bool true))
        obtain ⟨f, hf, hT⟩ := agree_fn hag
        have HJ := Lib.hid hJ
        clear hag hd hJ hf
        rw [hT]
        clear hT
        simp only [List.pop_toArray, List.dropLast_cons_cons, List.dropLast_singleton, List.filterMap_cons, List.filterMap_nil, List.foldl_cons, List.foldl_nil, List.setIfInBounds_toArray, List.set_cons_succ, List.set_cons_zero]
        go_wp2_with fail
        refine bodyPost_ret (results_blk rfl _ _ (p + 1) 6 (pad (bytesE n)) rfl HPL.out (HJ.out.res1 (hLs 11 (by decide)))) rfl ?_
        exact ⟨by rw [HPK.out, HPB.out, HD.out]; rfl, by first | exact HJ.out.bel | (rw [hp]; exact HJ.out.bel)⟩
  · have HPK : Hid (putEK n = 0) := by unfold Hid putEK; rw [if_neg hm]
    have HPB : Hid (putEB n = zBs) := by unfold Hid putEB; rw [if_neg hm]
    have HD := Lib.hid (decide_eq_false hm)
    rw [HD.out]
    clear hm
    go_wp2_with (first
      | (refine wpList_buildB0 rfl rfl ?_)
      | (refine wpList_storeB rfl (.tmp 2) (.tmp 8) rfl (w.heap.size + 1) rfl 0 0 zBs zBs rfl zBs_len zBs_len HJ1.out.res ?_))
    refine bodyPost_ret (results_blk rfl _ _ (w.heap.size + 1) 0 zBs rfl zBs_len (setRow_blk HJ1.out.res)) rfl ?_
    exact ⟨by rw [HPK.out, HPB.out, HD.out]; rfl, below_setRow HJ1.out.bel (by omega) _⟩
end Go.Proofs.Ytcmmopngjeonfaa
