/- Contract: the reference's PutNode. -/
import Derived.Test.YtebahdiiokfkfaaGk
import Derived.Test.YtebahdiiokfkfaaAs
namespace Go.Proofs.Ytebahdiiokfkfaa
open Go.ChangeShapes Go.WideShapes Go.ChangeAt Go.RowKit
set_option linter.unusedVariables false
theorem high_int (x : Int) (n : Nat) (w : World) (hv : 0 ≤ x ∧ x < 18446744073709551616) (hn : n ≤ 8) :
    Calls Try.prog 16 #[.int .u64 x, .int .i64 n] w fun e w' => ∃ u, e = .returned u ∧ FullAt w' w.heap.size u (be x.toNat n) ∧ Below w.heap.size w w' := by
  have h := high_full x.toNat n w (by omega) hn
  rwa [show ((x.toNat : Nat) : Int) = x by omega] at h
theorem wp_storeB {o : Oper} {a : Act} {w : World} {K : Act → World → Prop} {Q : Exit → Act → World → Prop} (x y : Operand) (ho : o.op = .store 28 x y) (g : Nat) (hx : a.eval x = .pointer (some ⟨g, 0, none⟩)) (k j : Int) (bs cs : List Int) (hy : a.eval y = .agg (blkA k bs)) (h56 : bs.length = 56) (h56' : cs.length = 56) (hg : w.heap[g]? = some (.cells (blkA j cs) 28 (0, 0)))
    (h : K (a.put o.dst undef) (w.setRow g (blkA k bs))) : o.wp Try.prog a w K Q :=
  wp_store_row 28 x y ho g _ hx hy _ _ hg (by rw [blkA_size h56]; exact size24b) (by rw [blkA_size h56, blkA_size h56']) (blkA_one _ _) h
theorem grownBy_setRow (w : World) (g : Nat) (C : Array Value) : w.grownBy (w.setRow g C) (some g) :=
  ⟨rfl, rfl, rfl, by simp, fun k _ hk => setRow_other w g k C (fun e => hk (by rw [e]))⟩
/-- Where PutNode stands: the node, the result. -/
structure JPN (w : World) (p : Nat) (n : Nd) (W : World) : Prop where
  bel : Below p w W
  sz : p + 1 + 1 ≤ W.heap.size
  at_ : NdAt W p n
  res : W.heap[p + 1]? = some (.cells (blkA 0 zBs) 28 (0, 0))
section
variable {w W W' : World} {p : Nat} {n : Nd}
theorem JPN.below (h : JPN w p n W) (hb : Below W.heap.size W W') : JPN w p n W' :=
  ⟨h.bel.trans (hb.mono (by have := h.sz; omega)), Nat.le_trans h.sz hb.size, h.at_.below hb, kb hb h.res⟩
theorem JPN.alloc (h : JPN w p n W) (o : Obj) : JPN w p n (W.alloc o) := h.below (bel1 o)
theorem JPN.grown {r : Option Nat} (h : JPN w p n W) (hg : W.grownBy W' r) (h1 : ∀ j, r = some j → p ≤ j) (h2 : r ≠ some p) (h3 : r ≠ some (p + 1)) : JPN w p n W' :=
  ⟨h.bel.grown hg (by have := h.sz; omega) h1, Nat.le_trans h.sz hg.size, h.at_.grown hg h2, by rw [hg.block _ (by have := h.sz; omega) (fun e => h3 e.symm)]; exact h.res⟩
end
def VPN (p : Nat) (n : Nd) (i : Nat) (v : Value) (W : World) : Prop :=
  match i with
  | 0 => v = .pointer (some ⟨p, 0, none⟩)
  | 1 => v = .int .u32 n.g
  | 2 => v = .int .u64 n.g
  | 4 => v = .pointer (some ⟨p, 1, none⟩)
  | 5 => v = .int .i64 n.l
  | 6 => v = .int .u64 n.l
  | 9 => v = .pointer (some ⟨p, 2, none⟩)
  | 10 => v = .int .i64 n.s
  | 11 => v = .int .u64 n.s
  | 3 => FullAt W (p + 1 + 1) v (be n.g.toNat 4)
  | 7 => FullAt W (p + 1 + 1) v (be n.l.toNat 2)
  | 8 => W.ownsRow (p + 1 + 1) 5 1 v 6 (Bs (be n.g.toNat 4 ++ be n.l.toNat 2))
  | 12 => FullAt W (p + 1 + 1) v (be n.s.toNat 4)
  | 13 => W.ownsRow (p + 1 + 1) 5 1 v 10 (Bs (headN n))
  | _ => True
def SPN (i : Nat) (w w' : World) : Prop := if i = 13 then KeepB 6 10 w w' else w.grownBy w' none
theorem VPN.on {p : Nat} {n : Nd} {i j : Nat} {v : Value} {w w' : World} (hij : i ≠ j) (h : VPN p n j v w) (hs : SPN i w w') : VPN p n j v w' := by
  unfold SPN at hs
  by_cases hi : i = 13
  · rw [if_pos hi] at hs
    unfold VPN at *
    split <;> try exact h
    · exact FullAt.keep h hs (by rw [be_length]; decide)
    · exact FullAt.keep h hs (by rw [be_length]; decide)
    · exact own_keep h hs (by decide)
    · exact FullAt.keep h hs (by rw [be_length]; decide)
    · exact absurd hi hij
    · trivial
  · rw [if_neg hi] at hs
    unfold VPN at *
    split <;> try exact h
    · exact FullAt.grown h hs
    · exact FullAt.grown h hs
    · exact World.ownsRow.kept h hs (by cases v.ownBlock <;> simp)
    · exact FullAt.grown h hs
    · exact World.ownsRow.kept h hs (by cases v.ownBlock <;> simp)
    · trivial
/-- .. in the last region: b7: the length has been appended, b12: the result is stored. -/
structure JPO (w : World) (p : Nat) (n : Nd) (k : Int) (v6 : Value) (b7 b12 : Bool) (W : World) : Prop where
  bel : Below p w W
  sz : p + 1 + 1 ≤ W.heap.size
  at_ : NdAt W p n
  row : b7 = false → W.ownsRow (p + 1 + 1) 5 1 v6 20 (Bs (headN n ++ plB n.ps))
  res0 : b12 = false → W.heap[p + 1]? = some (.cells (blkA 0 zBs) 28 (0, 0))
  res1 : b12 = true → W.heap[p + 1]? = some (.cells (blkA k (pad (bytesN n))) 28 (0, 0))
section
variable {w W W' : World} {p : Nat} {n : Nd} {k : Int} {v6 : Value} {b7 b12 : Bool}
theorem JPO.below (h : JPO w p n k v6 b7 b12 W) (hb : Below W.heap.size W W') : JPO w p n k v6 b7 b12 W' :=
  ⟨h.bel.trans (hb.mono (by have := h.sz; omega)), Nat.le_trans h.sz hb.size, h.at_.below hb, fun e => ownB (h.row e) hb, fun e => kb hb (h.res0 e), fun e => kb hb (h.res1 e)⟩
theorem JPO.alloc (h : JPO w p n k v6 b7 b12 W) (o : Obj) : JPO w p n k v6 b7 b12 (W.alloc o) := h.below (bel1 o)
theorem JPO.push {r : Option Nat} (h : JPO w p n k v6 b7 b12 W) (hg : W.grownBy W' r) (hne : ∀ j, r = some j → p + 1 + 1 ≤ j) : JPO w p n k v6 true b12 W' := by
  have h3 : r ≠ some (p + 1) := fun e => by have := hne _ e; omega
  exact ⟨h.bel.grown hg (by have := h.sz; omega) (fun j e => by have := hne j e; omega), Nat.le_trans h.sz hg.size, h.at_.grown hg (fun e => by have := hne _ e; omega), (fun e => by cases e), (fun e => by rw [hg.block _ (by have := h.sz; omega) (fun e => h3 e.symm)]; exact h.res0 e), (fun e => by rw [hg.block _ (by have := h.sz; omega) (fun e => h3 e.symm)]; exact h.res1 e)⟩
theorem JPO.push2 {r : Option Nat} (h : JPO w p n k v6 b7 b12 W) (hg : W.grownBy W' r) (hne : ∀ j, r = some j → p + 1 + 1 ≤ j) (hb : b7 = true) : JPO w p n k v6 b7 b12 W' := by
  have := h.push hg hne
  subst hb
  exact this
theorem JPO.stored (h : JPO w p n k v6 b7 b12 W) : JPO w p n k v6 b7 true (W.setRow (p + 1) (blkA k (pad (bytesN n)))) := by
  have hr : W.heap[p + 1]? = some (.cells (blkA k (pad (bytesN n))) 28 (0, 0)) ∨ W.heap[p + 1]? = some (.cells (blkA 0 zBs) 28 (0, 0)) := by
    cases b12
    · exact Or.inr (h.res0 rfl)
    · exact Or.inl (h.res1 rfl)
  exact ⟨below_setRow h.bel (by omega) _, by rw [size_setRow]; exact h.sz, h.at_.other _ (by omega), (fun e => World.ownsRow.kept (h.row e) (grownBy_setRow _ _ _) (Or.inr fun e2 => by have := ((h.row e).lt _ e2).1; omega)), (fun e => by cases e), (fun _ => by rcases hr with h1 | h1 <;> exact setRow_blk h1)⟩
end
def VPO (p : Nat) (n : Nd) (k : Int) (v6 : Value) (i : Nat) (v : Value) (W : World) : Prop :=
  match i with
  | 0 => v = .int .i64 k
  | 1 => v = v6
  | 2 | 8 => v = .pointer (some ⟨p, 8, none⟩)
  | 3 | 9 => v = .string (strOfNums n.t)
  | 4 => v = .int .i64 n.t.length
  | 5 => v = .int .u8 n.t.length
  | 11 => v = .agg (blkA k (pad (bytesN n)))
  | 6 => FullAt W (p + 1 + 1) v [(n.t.length : Int)]
  | 7 => W.ownsRow (p + 1 + 1) 5 1 v 21 (Bs (frontN n))
  | 10 => W.ownsRow (p + 1 + 1) 5 1 v (21 + n.t.length) (Bs (bytesN n))
  | _ => True
def SPO (p : Nat) (n : Nd) (i : Nat) (w w' : World) : Prop := if i = 7 then KeepB 20 21 w w' else if i = 10 then KeepB 21 (21 + n.t.length) w w' else if i = 12 then w.grownBy w' (some (p + 1)) else w.grownBy w' none
theorem FullAt.kept {w w' : World} {base : Nat} {v : Value} {xs : List Int} {r : Nat} (h : FullAt w base v xs) (hg : w.grownBy w' (some r)) (hr : r < base) : FullAt w' base v xs := by
  obtain ⟨q, C, rfl, hb, hq, hc⟩ := h
  exact ⟨q, C, rfl, hb, by rw [hg.block q (room_lt hq) (fun e => by injection e with e; omega)]; exact hq, hc⟩
theorem own_kept {w w' : World} {base m : Nat} {t : TypeId} {v : Value} {xs : List Value} {r : Nat} (h : w.ownsRow base t 1 v m xs) (hg : w.grownBy w' (some r)) (hr : r < base) : w'.ownsRow base t 1 v m xs :=
  World.ownsRow.kept h hg (Or.inr fun e => by have := (h.lt _ e).1; omega)
theorem VPO.on {p : Nat} {n : Nd} {k : Int} {v6 : Value} {i j : Nat} {v : Value} {w w' : World} (hij : i ≠ j) (hnot : ¬ (i = 7 ∧ j = 10)) (h : VPO p n k v6 j v w) (hs : SPO p n i w w') : VPO p n k v6 j v w' := by
  unfold SPO at hs
  by_cases hi : i = 7
  · rw [if_pos hi] at hs
    unfold VPO at *
    split <;> try exact h
    · exact FullAt.keep h hs (show 1 < 21 by omega)
    · exact absurd hi hij
    · exact absurd ⟨hi, rfl⟩ hnot
    · trivial
  · rw [if_neg hi] at hs
    by_cases hi2 : i = 10
    · rw [if_pos hi2] at hs
      unfold VPO at *
      split <;> try exact h
      · exact FullAt.keep h hs (show 1 < 21 + n.t.length by omega)
      · exact own_keep h hs (by decide)
      · exact absurd hi2 hij
      · trivial
    · rw [if_neg hi2] at hs
      by_cases hi3 : i = 12
      · rw [if_pos hi3] at hs
        unfold VPO at *
        split <;> try exact h
        · exact FullAt.kept h hs (by omega)
        · exact own_kept h hs (by omega)
        · exact own_kept h hs (by omega)
        · trivial
      · rw [if_neg hi3] at hs
        unfold VPO at *
        split <;> try exact h
        · exact FullAt.grown h hs
        · exact World.ownsRow.kept h hs (by cases v.ownBlock <;> simp)
        · exact World.ownsRow.kept h hs (by cases v.ownBlock <;> simp)
        · trivial
theorem nd_at (n : Nd) {j : Nat} (h : j < 4) : (ndA n)[3 + j]? = some (.int .i64 (n.ps.getD j 0)) := by
  match j, h with
  | 0, _ => rfl
  | 1, _ => rfl
  | 2, _ => rfl
  | 3, _ => rfl
set_option maxRecDepth 100000 in
set_option maxHeartbeats 6400000 in
theorem rput_any (k : Int) (n : Nd) (w : World) (hn : NdOk n) (htl0 : n.t.length ≤ 100) : Calls Try.prog 8 #[.int .i64 k, .agg (ndA n)] w fun e w' => e = .returned (.tuple #[.agg (blkA (putK k n) (putBs k n)), .bool (decide (MayN k n))]) ∧ Below w.heap.size w w' := by
  have HM := Lib.hid (fun w => rmay_any k n w hn htl0)
  have HT := Lib.hid hn.t
  have HJ0 : Hid (JPN w w.heap.size n ((w.alloc (Obj.cells (ndA n) 25)).alloc (Obj.cells (blkA 0 zBs) 28))) := by
    have s1 : (w.alloc (Obj.cells (ndA n) 25)).heap.size = w.heap.size + 1 := size_alloc' _ _
    have B1 := bel1 (w := w) (Obj.cells (ndA n) 25)
    have H1 := heap_alloc_new (w.alloc (Obj.cells (ndA n) 25)) (Obj.cells (blkA 0 zBs) 28)
    rw [s1] at H1
    exact ⟨B1.alloc B1.size _, by rw [size_alloc', s1]; exact Nat.le_refl _, (NdAt.new w n).alloc _, H1⟩
  go_enter Try.func8, Try.ntmps8
  go_upto_region 1 with (refine wpList_allocB rfl rfl ?_; try simp only [size_alloc'])
  generalize (w.alloc (Obj.cells (ndA n) 25)).alloc (Obj.cells (blkA 0 zBs) 28) = W at *
  go_wp2_with (refine wpList_loadN rfl (.tmp 3) rfl w.heap.size rfl n HJ0.out.at_ ?_)
  refine (HM.out _).mono ?_; rintro e w1 ⟨rfl, hb1⟩
  have HJ1 := Lib.hid (HJ0.out.below hb1)
  clear hb1 HJ0
  by_cases hm : MayN k n
  · have HPK : Hid (putK k n = k) := by unfold Hid putK; rw [if_pos hm]
    have HPB : Hid (putBs k n = pad (bytesN n)) := by unfold Hid putBs; rw [if_pos hm]
    have HD := Lib.hid (decide_eq_true hm)
    rw [HD.out]
    have htl := hm.tl
    have hs0 := hm.sz
    have hg0 := hm.1
    have hg32 : n.g < 4294967296 := by have := hn.g.2; omega
    have HPLC := Lib.hid (fun i hi => hm.at_ (i := i) hi)
    have HPL := Lib.hid (pad_len (ys := bytesN n) (by rw [bytesN_length]; omega))
    have HA := Lib.hid high_int
    have hgr : 0 ≤ n.g ∧ n.g < 18446744073709551616 := by omega
    have hlr : 0 ≤ n.l ∧ n.l < 18446744073709551616 := by omega
    have hsr : 0 ≤ n.s ∧ n.s < 18446744073709551616 := by omega
    have wg : IntKind.u64.wrap n.g = n.g := IntWalk.u64_in _ (by omega)
    have wl : IntKind.u64.wrap n.l = n.l := IntWalk.u64_in _ (by omega)
    have ws : IntKind.u64.wrap n.s = n.s := IntWalk.u64_in _ (by omega)
    clear hm
    go_upto_region 3 with fail
    generalize hp : w.heap.size = p at *
    go_cut [6] (fun s wx => wx.ownsRow (p + 1 + 1) 5 1 s 10 (Bs (headN n)) ∧ JPN w p n wx)
    case first =>
      have hJ0 : JPN w p n w1.drew := ⟨HJ1.out.bel.drew, HJ1.out.sz, HJ1.out.at_, HJ1.out.res⟩
      refine wp_region_rgk (VPN p n) (fun _ W => JPN w p n W) SPN (by kernel_rfl) (by kernel_rfl) (fun i j v' w' w'' hij hind h hg => h.on hij hg) hJ0 ?_
      have srefl : ∀ (i : Nat) (W : World), SPN i W W := fun i W => by unfold SPN; split; exact KeepB.grown (World.grownBy.refl _ _); exact World.grownBy.refl _ _
      clear hJ0 HJ1
      simp only [RAll]
      refine ⟨?_, ?_, ?_, ?_, ?_, ?_, ?_, ?_, ?_, ?_, ?_, ?_, ?_, ?_, ?_⟩
      · refine RStepK.of rfl fun T W L hag hL hJ hLs hd => ?_   -- 0: 13 := Op.fieldAddr 25 (Operand.tmp 3) 0
        have e3 : T.getD 3 undef = _ := (agree_at hag 3 (by kernel_rfl)).trans rfl
        clear hag hd
        go_simp
        exact ⟨_, rfl, rfl⟩
      · refine RStepK.of rfl fun T W L hag hL hJ hLs hd => ?_   -- 1: 14 := Op.load 22 (Operand.tmp 13)
        have d13 : T.getD 13 undef = _ := hd ⟨0, .data⟩ (by simp) rfl _ rfl
        have fct0 := (show W.cell? ⟨p, 0, none⟩ = some (.int .u32 n.g) from hJ.at_.cell 0)
        clear hag hd
        go_simp
        exact ⟨_, rfl, rfl⟩
      · refine RStepK.of rfl fun T W L hag hL hJ hLs hd => ?_   -- 2: 15 := Op.convert 22 45 (Operand.tmp 14)
        have d14 : T.getD 14 undef = _ := hd ⟨1, .data⟩ (by simp) rfl _ rfl
        have fct0 := wg
        clear hag hd
        go_simp
        exact ⟨_, rfl, rfl⟩
      · refine RStepK.of rfl fun T W L hag hL hJ hLs hd => ?_   -- 3: 16 := Op.call { callee := Callee.value (Operand.func 16), args := 
        have d15 : T.getD 15 undef = _ := hd ⟨2, .data⟩ (by simp) rfl _ rfl
        clear hag hd
        go_simp
        refine (HA.out n.g 4 W hgr (by omega)).mono ?_
        rintro en w' ⟨u, rfl, hf, hb⟩
        exact ⟨_, rfl, hf.mono hJ.sz, hJ.below hb, growN hb⟩
      · refine RStepK.of rfl fun T W L hag hL hJ hLs hd => ?_   -- 4: 17 := Op.fieldAddr 25 (Operand.tmp 3) 1
        have e3 : T.getD 3 undef = _ := (agree_at hag 3 (by kernel_rfl)).trans rfl
        clear hag hd
        go_simp
        exact ⟨_, rfl, rfl⟩
      · refine RStepK.of rfl fun T W L hag hL hJ hLs hd => ?_   -- 5: 18 := Op.load 3 (Operand.tmp 17)
        have d17 : T.getD 17 undef = _ := hd ⟨4, .data⟩ (by simp) rfl _ rfl
        have fct0 := (show W.cell? ⟨p, 1, none⟩ = some (.int .i64 n.l) from hJ.at_.cell 1)
        clear hag hd
        go_simp
        exact ⟨_, rfl, rfl⟩
      · refine RStepK.of rfl fun T W L hag hL hJ hLs hd => ?_   -- 6: 19 := Op.convert 3 45 (Operand.tmp 18)
        have d18 : T.getD 18 undef = _ := hd ⟨5, .data⟩ (by simp) rfl _ rfl
        have fct0 := wl
        clear hag hd
        go_simp
        exact ⟨_, rfl, rfl⟩
      · refine RStepK.of rfl fun T W L hag hL hJ hLs hd => ?_   -- 7: 20 := Op.call { callee := Callee.value (Operand.func 16), args := 
        have d19 : T.getD 19 undef = _ := hd ⟨6, .data⟩ (by simp) rfl _ rfl
        clear hag hd
        go_simp
        refine (HA.out n.l 2 W hlr (by omega)).mono ?_
        rintro en w' ⟨u, rfl, hf, hb⟩
        exact ⟨_, rfl, hf.mono hJ.sz, hJ.below hb, growN hb⟩
      · refine RStepK.of rfl fun T W L hag hL hJ hLs hd => ?_   -- 8: 21 := Op.call { callee := Callee.builtin Builtin.append, args := #
        have x16 : FullAt W (p + 1 + 1) (T.getD 16 undef) (be n.g.toNat 4) := hd ⟨3, .data⟩ (by simp) rfl _ rfl
        have x20 : FullAt W (p + 1 + 1) (T.getD 20 undef) (be n.l.toNat 2) := hd ⟨7, .data⟩ (by simp) rfl _ rfl
        obtain ⟨q, (e20 : T.getD 20 undef = _), hy⟩ := x20.byt
        refine wp_app_full' W (.tmp 16) (.tmp 20) rfl (p + 1 + 1) _ (be n.g.toNat 4) rfl x16 (some ⟨q, 0, none⟩) 2 2 (be n.l.toNat 2) e20 hy rfl (by omega) (by simp [be_length]) hJ.sz ?_
        intro v' w' h1 h2
        rw [be_length] at h1
        exact ⟨_, rfl, h1, hJ.grown h2 (by simp) (by simp) (by simp), h2⟩
      · refine RStepK.of rfl fun T W L hag hL hJ hLs hd => ?_   -- 9: 22 := Op.fieldAddr 25 (Operand.tmp 3) 2
        have e3 : T.getD 3 undef = _ := (agree_at hag 3 (by kernel_rfl)).trans rfl
        clear hag hd
        go_simp
        exact ⟨_, rfl, rfl⟩
      · refine RStepK.of rfl fun T W L hag hL hJ hLs hd => ?_   -- 10: 23 := Op.load 3 (Operand.tmp 22)
        have d22 : T.getD 22 undef = _ := hd ⟨9, .data⟩ (by simp) rfl _ rfl
        have fct0 := (show W.cell? ⟨p, 2, none⟩ = some (.int .i64 n.s) from hJ.at_.cell 2)
        clear hag hd
        go_simp
        exact ⟨_, rfl, rfl⟩
      · refine RStepK.of rfl fun T W L hag hL hJ hLs hd => ?_   -- 11: 24 := Op.convert 3 45 (Operand.tmp 23)
        have d23 : T.getD 23 undef = _ := hd ⟨10, .data⟩ (by simp) rfl _ rfl
        have fct0 := ws
        clear hag hd
        go_simp
        exact ⟨_, rfl, rfl⟩
      · refine RStepK.of rfl fun T W L hag hL hJ hLs hd => ?_   -- 12: 25 := Op.call { callee := Callee.value (Operand.func 16), args := 
        have d24 : T.getD 24 undef = _ := hd ⟨11, .data⟩ (by simp) rfl _ rfl
        clear hag hd
        go_simp
        refine (HA.out n.s 4 W hsr (by omega)).mono ?_
        rintro en w' ⟨u, rfl, hf, hb⟩
        exact ⟨_, rfl, hf.mono hJ.sz, hJ.below hb, growN hb⟩
      · refine RStepK.of rfl fun T W L hag hL hJ hLs hd => ?_   -- 13: 26 := Op.call { callee := Callee.builtin Builtin.append, args := #
        have x21 : W.ownsRow (p + 1 + 1) 5 1 (T.getD 21 undef) 6 (Bs (be n.g.toNat 4 ++ be n.l.toNat 2)) := hd ⟨8, .data⟩ (by simp) rfl _ rfl
        have x25 : FullAt W (p + 1 + 1) (T.getD 25 undef) (be n.s.toNat 4) := hd ⟨12, .data⟩ (by simp) rfl _ rfl
        obtain ⟨q, (e25 : T.getD 25 undef = _), hy⟩ := x25.byt
        refine wp_app_keep W (.tmp 21) (.tmp 25) rfl (p + 1 + 1) _ 6 _ rfl x21 (some ⟨q, 0, none⟩) 4 4 (be n.s.toNat 4) e25 hy rfl (by omega) hJ.sz ?_
        intro v' w' h1 h2 h3
        have hne : ∀ j, (T.getD 21 undef).ownBlock = some j → p + 1 + 1 ≤ j := fun j e => (x21.lt j e).1
        exact ⟨_, rfl, h1, hJ.grown h2 (fun j e => by have := hne j e; omega) (fun e => by have := hne p e; omega) (fun e => by have := hne (p + 1) e; omega), h3⟩
      · refine RLastK.of rfl fun T W L hag hLs hL hJ hd => ?_   -- 14: 6 := Op.assign (Operand.tmp 26)
        have x26 : W.ownsRow (p + 1 + 1) 5 1 (T.getD 26 undef) 10 (Bs (headN n)) := hd 13 _ (by simp) rfl
        obtain ⟨f, hf, hT⟩ := agree_fn hag
        have h26 := hf 26
        rw [← h26] at x26
        have HX26 := Lib.hid x26
        clear h26 x26
        have HJ := Lib.hid hJ
        clear hag hd hJ hf
        rw [hT]
        clear hT
        simp only [List.pop_toArray, List.dropLast_cons_cons, List.dropLast_singleton, List.filterMap_cons, List.filterMap_nil, List.foldl_cons, List.foldl_nil, List.setIfInBounds_toArray, List.set_cons_succ, List.set_cons_zero]
        rename_i hJc hKc
        go_wp2_with fail
        refine hJc _ _ ?_
        repeat apply Exists.intro
        exact ⟨⟨HX26.out, HJ.out⟩, rfl⟩
    case rest =>
      obtain ⟨own, hJ⟩ := hcut
      go_wp2_with fail
      have HO := Lib.hid own
      have HJ := Lib.hid hJ
      clear own hJ HJ1 wg wl ws hgr hlr hsr
      go_loopw [6, 7] (fun v i wr => ∃ j : Nat, j ≤ 4 ∧ i = .int .i64 j ∧ Hid (wr.ownsRow (p + 1 + 1) 5 1 v (10 + 2 * j) (Bs (headN n ++ plB (n.ps.take j)))) ∧ Hid (JPN w p n wr)) (fun _ i _ => (4 - intOf i).toNat)
      case atStart => exact ⟨0, by omega, rfl, by rw [List.take_zero]; show Hid (World.ownsRow _ _ _ _ _ _ (Bs (headN n ++ []))); rw [List.append_nil]; exact HO, HJ⟩
      case round =>
        obtain ⟨j, hj, rfl, HOj, HJj⟩ := hrel
        clear HO HJ
        by_cases hlt : j < 4
        · have hx : n.ps[j]? = some (n.ps.getD j 0) := by
            rw [List.getD, List.getElem?_eq_getElem (show j < n.ps.length by show j < 5; omega)]; rfl
          have HT2 : Hid (headN n ++ plB (n.ps.take (j + 1)) = (headN n ++ plB (n.ps.take j)) ++ be (n.ps.getD j 0 + 1).toNat 2) := by
            unfold Hid; rw [take_snoc' hx, plB_snoc, List.append_assoc]
          have hb := HPLC.out j (by omega)
          have c3 := (HJj.out.at_.cell (3 + j)).trans (nd_at n hlt)
          clear hx
          generalize n.ps.getD j 0 = x at *
          have wx1 : IntKind.i64.wrap (x + 1) = x + 1 := IntWalk.i64_in _ (by omega)
          have wx2 : IntKind.u64.wrap (x + 1) = x + 1 := IntWalk.u64_in _ (by omega)
          go_wp2_with fail
          refine (HA.out (x + 1) 2 wr (by omega) (by omega)).mono ?_
          rintro e w6 ⟨u, rfl, hf, hb6⟩
          have HJ6 := Lib.hid (HJj.out.below hb6)
          have HO6 := Lib.hid (ownB HOj.out hb6)
          obtain ⟨q, rfl, hy⟩ := hf.byt
          have HY := Lib.hid hy
          rw [be_length]
          clear hf hb6 hy HOj HJj c3
          go_wp2_with (first
            | (at_builtin
               refine wpList_app_byt _ rfl (.tmp 31) (.tmp 38) rfl (p + 1 + 1) _ (10 + 2 * j) _ rfl HO6.out (some ⟨q, 0, none⟩) 2 2 (be (x + 1).toNat 2) rfl HY.out (be_length _ _) (by omega) HJ6.out.sz ?_
               intro v7 w7 h2 hg2 _
               have HO7 := Lib.hid h2
               have HJ7 := Lib.hid (HJ6.out.grown hg2 (fun i e => by have := (HO6.out.lt i e).1; omega) (fun e => by have := (HO6.out.lt p e).1; omega) (fun e => by have := (HO6.out.lt (p + 1) e).1; omega))
               clear h2 hg2 HO6 HJ6 HY))
          go_roundw
          case rel => exact ⟨j + 1, by omega, by go_num, by rw [HT2.out, show 10 + 2 * (j + 1) = 10 + 2 * j + 2 by omega]; exact HO7, HJ7⟩
          case measure => simp [intOf]; omega
        · obtain rfl : j = 4 := by omega
          have hb := HPLC.out 4 (by omega)
          have hx4 : n.ps.getD 4 0 = n.x := rfl
          rw [hx4] at hb
          have c7 : wr.cell? ⟨p, 7, none⟩ = some (.int .i64 n.x) := HJj.out.at_.cell 7
          have wx1 : IntKind.i64.wrap (n.x + 1) = n.x + 1 := IntWalk.i64_in _ (by omega)
          have wx2 : IntKind.u64.wrap (n.x + 1) = n.x + 1 := IntWalk.u64_in _ (by omega)
          clear hx4
          go_wp2_with fail
          refine (HA.out (n.x + 1) 2 wr (by omega) (by omega)).mono ?_
          rintro e w6 ⟨u, rfl, hf, hb6⟩
          have HJ6 := Lib.hid (HJj.out.below hb6)
          have HO6 : Hid (w6.ownsRow (p + 1 + 1) 5 1 _ 18 (Bs (headN n ++ plB [n.a, n.b, n.c, n.d]))) := ownB HOj.out hb6
          obtain ⟨q, rfl, hy⟩ := hf.byt
          have HY := Lib.hid hy
          rw [be_length]
          clear hf hb6 hy HOj HJj c7
          go_upto_region 9 with (first
            | (at_builtin
               refine wpList_app_byt _ rfl (.tmp 40) (.tmp 45) rfl (p + 1 + 1) _ 18 _ rfl HO6.out (some ⟨q, 0, none⟩) 2 2 (be (n.x + 1).toNat 2) rfl HY.out (be_length _ _) (by omega) HJ6.out.sz ?_
               intro v7 w7 h2 hg2 _
               have HO7' : Hid (w7.ownsRow (p + 1 + 1) 5 1 v7 20 (Bs (headN n ++ plB [n.a, n.b, n.c, n.d] ++ be (n.x + 1).toNat 2))) := h2
               have HJ7 := Lib.hid (HJ6.out.grown hg2 (fun i e => by have := (HO6.out.lt i e).1; omega) (fun e => by have := (HO6.out.lt p e).1; omega) (fun e => by have := (HO6.out.lt (p + 1) e).1; omega))
               clear h2 hg2 HO6 HJ6 HY))
          have e5 : headN n ++ plB [n.a, n.b, n.c, n.d] ++ be (n.x + 1).toNat 2 = headN n ++ plB n.ps := by
            rw [List.append_assoc, ← plB_snoc]; rfl
          rw [e5] at HO7'
          have hsz : ((strOfNums n.t).size : Int) = n.t.length := by rw [strOfNums_size]
          have wt : IntKind.u8.wrap (n.t.length : Int) = n.t.length := IntWalk.u8_in _ (by omega)
          clear e5 hb wx1 wx2
          rename Value => v6
          have hJ0 : JPO w p n k v6 false false w7.drew := ⟨HJ7.out.bel.drew, HJ7.out.sz, HJ7.out.at_, (fun _ => HO7'.out), (fun _ => HJ7.out.res), (fun e => by cases e)⟩
          refine wp_region_rgk (VPO p n k v6) (fun L W => JPO w p n k v6 (L 7) (L 12) W) (SPO p n) (by kernel_rfl) (by kernel_rfl) (fun i j v' w' w'' hij hind h hg => h.on hij (fun hh => by obtain ⟨rfl, rfl⟩ := hh; exact absurd (hind.symm.trans (show indepB _ 10 7 = false by kernel_rfl)) (by decide)) hg) hJ0 ?_
          have srefl : ∀ (i : Nat) (W : World), SPO p n i W W := fun i W => by
            unfold SPO; split
            · exact KeepB.grown (World.grownBy.refl _ _)
            · split
              · exact KeepB.grown (World.grownBy.refl _ _)
              · split <;> exact World.grownBy.refl _ _
          clear hJ0 HJ7 HO7'
          simp only [RAll]
          refine ⟨?_, ?_, ?_, ?_, ?_, ?_, ?_, ?_, ?_, ?_, ?_, ?_, ?_, ?_⟩
          · refine RStepK.of rfl fun T W L hag hL hJ hLs hd => ?_   -- 0: 47 := Op.move (Operand.tmp 0)
            have e0 : T.getD 0 undef = _ := (agree_at hag 0 (by kernel_rfl)).trans rfl
            clear hag hd
            go_simp
            exact ⟨_, rfl, rfl⟩
          · refine RStepK.of rfl fun T W L hag hL hJ hLs hd => ?_   -- 1: 48 := Op.move (Operand.tmp 6)
            have e6 : T.getD 6 undef = _ := (agree_at hag 6 (by kernel_rfl)).trans rfl
            clear hag hd
            go_simp
            exact ⟨_, rfl, rfl⟩
          · refine RStepK.of rfl fun T W L hag hL hJ hLs hd => ?_   -- 2: 49 := Op.fieldAddr 25 (Operand.tmp 3) 5
            have e3 : T.getD 3 undef = _ := (agree_at hag 3 (by kernel_rfl)).trans rfl
            clear hag hd
            go_simp
            exact ⟨_, rfl, rfl⟩
          · refine RStepK.of rfl fun T W L hag hL hJ hLs hd => ?_   -- 3: 50 := Op.load 9 (Operand.tmp 49)
            have d49 : T.getD 49 undef = _ := hd ⟨2, .data⟩ (by simp) rfl _ rfl
            have fct0 := (show W.cell? ⟨p, 8, none⟩ = some (.string (strOfNums n.t)) from hJ.at_.cell 8)
            clear hag hd
            go_simp
            exact ⟨_, rfl, rfl⟩
          · refine RStepK.of rfl fun T W L hag hL hJ hLs hd => ?_   -- 4: 51 := Op.call { callee := Callee.builtin Builtin.len, args := #[Op
            have d50 : T.getD 50 undef = _ := hd ⟨3, .data⟩ (by simp) rfl _ rfl
            have fct0 := hsz
            clear hag hd
            go_simp
            exact ⟨_, rfl, rfl⟩
          · refine RStepK.of rfl fun T W L hag hL hJ hLs hd => ?_   -- 5: 52 := Op.convert 3 5 (Operand.tmp 51)
            have d51 : T.getD 51 undef = _ := hd ⟨4, .data⟩ (by simp) rfl _ rfl
            have fct0 := wt
            clear hag hd
            go_simp
            exact ⟨_, rfl, rfl⟩
          · refine RStepK.of rfl fun T W L hag hL hJ hLs hd => ?_   -- 6: 53 := Op.buildSlice 37 1 #[(0, Operand.tmp 52)]
            have d52 : T.getD 52 undef = _ := hd ⟨5, .data⟩ (by simp) rfl _ rfl
            simp only [Array.getD_eq_getD_getElem?] at d52
            clear hag hd
            go_simp
            exact ⟨_, rfl, ⟨_, _, rfl, hJ.sz, heap_alloc_new _ _, rfl⟩, hJ.alloc _, World.grownBy_alloc W _ _⟩
          · refine RStepK.of rfl fun T W L hag hL hJ hLs hd => ?_   -- 7: 54 := Op.call { callee := Callee.builtin Builtin.append, args := #
            have d48 : T.getD 48 undef = _ := hd ⟨1, .data⟩ (by simp) rfl _ rfl
            have x53 : FullAt W (p + 1 + 1) (T.getD 53 undef) [(n.t.length : Int)] := hd ⟨6, .data⟩ (by simp) rfl _ rfl
            obtain ⟨q, (e53 : T.getD 53 undef = _), hy⟩ := x53.byt
            have hrow := hJ.row hL
            refine wp_app_keep W (.tmp 48) (.tmp 53) rfl (p + 1 + 1) _ 20 _ d48 hrow (some ⟨q, 0, none⟩) 1 1 [(n.t.length : Int)] e53 hy rfl (by omega) hJ.sz ?_
            intro v' w' h1 h2 h3
            have hne : ∀ j, v6.ownBlock = some j → p + 1 + 1 ≤ j := fun j e => (hrow.lt j e).1
            exact ⟨_, rfl, h1, hJ.push h2 hne, h3⟩
          · refine RStepK.of rfl fun T W L hag hL hJ hLs hd => ?_   -- 8: 55 := Op.fieldAddr 25 (Operand.tmp 3) 5
            have e3 : T.getD 3 undef = _ := (agree_at hag 3 (by kernel_rfl)).trans rfl
            clear hag hd
            go_simp
            exact ⟨_, rfl, rfl⟩
          · refine RStepK.of rfl fun T W L hag hL hJ hLs hd => ?_   -- 9: 56 := Op.load 9 (Operand.tmp 55)
            have d55 : T.getD 55 undef = _ := hd ⟨8, .data⟩ (by simp) rfl _ rfl
            have fct0 := (show W.cell? ⟨p, 8, none⟩ = some (.string (strOfNums n.t)) from hJ.at_.cell 8)
            clear hag hd
            go_simp
            exact ⟨_, rfl, rfl⟩
          · refine RStepK.of rfl fun T W L hag hL hJ hLs hd => ?_   -- 10: 57 := Op.call { callee := Callee.builtin Builtin.append, args := #
            have x54 : W.ownsRow (p + 1 + 1) 5 1 (T.getD 54 undef) 21 (Bs (frontN n)) := hd ⟨7, .data⟩ (by simp) rfl _ rfl
            have d56 : T.getD 56 undef = _ := hd ⟨9, .data⟩ (by simp) rfl _ rfl
            refine wp_app_str W (.tmp 54) (.tmp 56) rfl (p + 1 + 1) _ 21 _ rfl x54 n.t d56 HT.out (by omega) hJ.sz ?_
            intro v' w' h1 h2 h3
            have hne : ∀ j, (T.getD 54 undef).ownBlock = some j → p + 1 + 1 ≤ j := fun j e => (x54.lt j e).1
            exact ⟨_, rfl, h1, hJ.push2 h2 hne (hLs ⟨7, .data⟩ (by simp) rfl), h3⟩
          · refine RStepK.of rfl fun T W L hag hL hJ hLs hd => ?_   -- 11: 58 := Op.call { callee := Callee.value (Operand.func 17), args := 
            have d47 : T.getD 47 undef = _ := hd ⟨0, .data⟩ (by simp) rfl _ rfl
            have x57 : W.ownsRow (p + 1 + 1) 5 1 (T.getD 57 undef) (21 + n.t.length) (Bs (bytesN n)) := hd ⟨10, .data⟩ (by simp) rfl _ rfl
            have hbl : (bytesN n).length = 21 + n.t.length := bytesN_length n
            obtain ⟨A2, d2, e57, hle2, hd2, hy2⟩ := byt_own x57 hbl
            rw [hbl] at e57
            have hBO := body_any k A2 (bytesN n) (21 + n.t.length) d2 W hbl (by omega) hy2
            clear hag hd
            go_simp
            refine hBO.mono ?_
            rintro en w' ⟨rfl, hb⟩
            exact ⟨_, rfl, rfl, hJ.below hb, growN hb⟩
          · refine RStepK.of rfl fun T W L hag hL hJ hLs hd => ?_   -- 12: None := Op.store 28 (Operand.tmp 4) (Operand.tmp 58)
            have e4 : T.getD 4 undef = _ := (agree_at hag 4 (by kernel_rfl)).trans rfl
            have d58 : T.getD 58 undef = _ := hd ⟨11, .data⟩ (by simp) rfl _ rfl
            clear hag hd
            refine wp_storeB (.tmp 4) (.tmp 58) rfl (p + 1) e4 k 0 (pad (bytesN n)) zBs d58 HPL.out zBs_len (hJ.res0 hL) ?_
            exact ⟨undef, rfl, trivial, hJ.stored, grownBy_setRow _ _ _⟩
          · refine RLastK.of rfl fun T W L hag hLs hL hJ hd => ?_   -- 13: 5 := Op.assign (Operand.const (Value.bool true))
            obtain ⟨f, hf, hT⟩ := agree_fn hag
            have HJ := Lib.hid hJ
            clear hag hd hJ hf
            rw [hT]
            clear hT
            simp only [List.pop_toArray, List.dropLast_cons_cons, List.dropLast_singleton, List.filterMap_cons, List.filterMap_nil, List.foldl_cons, List.foldl_nil, List.setIfInBounds_toArray, List.set_cons_succ, List.set_cons_zero]
            go_wp2_with fail
            refine bodyPost_ret (results_blk rfl _ _ (p + 1) k (pad (bytesN n)) rfl HPL.out (HJ.out.res1 (hLs 12 (by decide)))) rfl ?_
            exact ⟨by rw [HPK.out, HPB.out, HD.out]; rfl, by first | exact HJ.out.bel | (rw [hp]; exact HJ.out.bel)⟩
  · have HPK : Hid (putK k n = 0) := by unfold Hid putK; rw [if_neg hm]
    have HPB : Hid (putBs k n = zBs) := by unfold Hid putBs; rw [if_neg hm]
    have HD := Lib.hid (decide_eq_false hm)
    rw [HD.out]
    clear hm
    go_wp2_with (first
      | (refine wpList_buildB0 rfl rfl ?_)
      | (refine wpList_storeB rfl (.tmp 4) (.tmp 12) rfl (w.heap.size + 1) rfl 0 0 zBs zBs rfl zBs_len zBs_len HJ1.out.res ?_))
    refine bodyPost_ret (results_blk rfl _ _ (w.heap.size + 1) 0 zBs rfl zBs_len (setRow_blk HJ1.out.res)) rfl ?_
    exact ⟨by rw [HPK.out, HPB.out, HD.out]; rfl, below_setRow HJ1.out.bel (by omega) _⟩
end Go.Proofs.Ytebahdiiokfkfaa
