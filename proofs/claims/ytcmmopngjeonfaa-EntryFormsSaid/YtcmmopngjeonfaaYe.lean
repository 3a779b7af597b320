/- Contract: entry.Put. -/
import Derived.Test.YtcmmopngjeonfaaYd
namespace Go.Proofs.Ytcmmopngjeonfaa
open Go.ChangeShapes Go.WideShapes Go.ChangeAt Go.RowKit
set_option linter.unusedVariables false
theorem putnum_int (g : Nat) (k : Int) (ys : List Int) (a s c : Nat) (x : Int) (w : World) (ha : a = 1 + ys.length) (hg : w.heap[g]? = some (.cells (blkA k (pad ys)) 29 (0, 0))) (ho : ys.length + s ≤ 56) (hs : s ≤ 4) (hc : s ≤ c) (hx : 0 ≤ x ∧ x < 4294967296) :
    Calls Try.prog 17 #[.slice (some ⟨g, a, none⟩) s c, .int .u32 x] w fun e w' => e = .returned (.tuple #[]) ∧ w'.heap[g]? = some (.cells (blkA k (pad (ys ++ be x.toNat s))) 29 (0, 0)) ∧ w.grownBy w' (some g) := by
  subst ha
  have h := putnum_any g k (pad ys) ys.length s c x.toNat w hg (pad_len (by omega)) ho hs hc (by omega)
  rw [pad_ins (by rw [be_length]; exact ho)] at h
  rwa [show ((x.toNat : Nat) : Int) = x by omega] at h
theorem run_copyP (w : World) (ty : TypeId) (g : Nat) (k : Int) (ys zs : List Int) (b dl dc : Nat) (A : Option Addr) (m c : Nat) (hb : b = 1 + ys.length) (hm : zs.length = m) (hdl : m ≤ dl) (hl : ys.length + m ≤ 56) (hy : Byt w A zs) (h0 : 0 < m) (hg : w.heap[g]? = some (.cells (blkA k (pad ys)) 29 (0, 0))) :
    (Builtin.copy_ #[41, 41] ty #[.slice (some ⟨g, b, none⟩) dl dc, .slice A m c]).run Try.prog w = .ok (goInt m) (w.setRow g (blkA k (pad (ys ++ zs)))) := by
  subst hb
  obtain ⟨i0, hi, hz0, hz1, hz2⟩ := info_parts info5
  have hp := pad_len (ys := ys) (by omega)
  obtain ⟨x0, hx0⟩ : ∃ x, zs[0]? = some x := ⟨_, List.getElem?_eq_getElem (by omega)⟩
  obtain ⟨ad, rfl, _⟩ := hy 0 x0 hx0
  have h := run_copy_row Try.prog w 41 41 ty 5 g (1 + ys.length) dl dc ad m c (blkA k (pad ys)) 29 (Bs zs) Try.underlying41 (by rw [hi]; simp [hz1]) hg (by rw [Bs_length, hm]; exact (Nat.min_eq_left hdl).symm)
    (fun j v hj => by
      unfold Bs at hj
      rw [List.getElem?_map] at hj
      obtain ⟨x, hx, rfl⟩ := Option.map_eq_some_iff.1 hj
      obtain ⟨a', e, hc⟩ := hy j x hx
      injection e with e; subst e; exact hc) (by rw [Bs_length, blkA_size hp, hm]; omega) (Bs_one _)
  rw [h, Bs_length, hm]
  congr 2
  rw [← pad_ins (by rw [hm]; exact hl)]
  rw [blkA_list]
  unfold blkA blkL insB
  congr 1
  rw [show 1 + ys.length = ys.length + 1 by omega, List.take_succ_cons, show ys.length + 1 + m = (ys.length + m) + 1 by omega, List.drop_succ_cons, hm]
  unfold Bs
  simp only [List.map_append, List.map_take, List.map_drop, List.cons_append]
theorem wp_copyP {o : Oper} {a : Act} {w : World} {K : Act → World → Prop} {Q : Exit → Act → World → Prop} (s x : Operand) (ho : o.op = .call { callee := .builtin .copy, args := #[s, x], argTypes := #[41, 41] })
    (g : Nat) (k : Int) (ys zs : List Int) (b dl dc : Nat) (A : Option Addr) (m c : Nat) (hs : a.eval s = .slice (some ⟨g, b, none⟩) dl dc) (hb : b = 1 + ys.length) (hx : a.eval x = .slice A m c) (hm : zs.length = m) (hdl : m ≤ dl) (hl : ys.length + m ≤ 56) (hy : Byt w A zs) (h0 : 0 < m) (hg : w.heap[g]? = some (.cells (blkA k (pad ys)) 29 (0, 0)))
    (h : K (a.put o.dst (goInt m)) (w.setRow g (blkA k (pad (ys ++ zs))))) : o.wp Try.prog a w K Q := by
  have hr := run_copyP w o.type g k ys zs b dl dc A m c hb hm hdl hl hy h0 hg
  unfold Oper.wp execOp
  simp only [ho, resolve, invoke, builtin, Sem.run_bind, Sem.run_pure, Result.andThen_ok, List.map_toArray, List.map_cons, List.map_nil, hs, hx, hr]
  exact h
/-- A part of a body, cut out. -/
theorem run_sliceLH (g l h : Nat) (hlh : l ≤ h) (hh : h ≤ 56) (hl : l < 56) (w : World) : (Instr.sliceAt 27 (.pointer (some ⟨g, 1, none⟩)) (some (.int .i64 l)) (some (.int .i64 h)) none).run Try.prog w = .ok (.slice (some ⟨g, 1 + l, none⟩) (h - l) (56 - l)) w := by
  have z3 := Try.sizeOf5
  have e1 : Try.prog.arrayLen 27 = 56 := by kernel_rfl
  have e2 : Try.prog.elem 27 = 5 := by kernel_rfl
  have e3 : Try.prog.underlying 27 = some (.array (Try.prog.arrayLen 27) (Try.prog.elem 27)) := by kernel_rfl
  rw [run_sliceAt_array_lh w 27 _ e3 .i64 .i64 (l : Int) (h : Int) (by omega) (by omega) (by rw [e1]; omega), e1, e2]
  have hm : ¬ 56 = l := by omega
  simp [z3, slicedAt, add_off, hm]
/-- Where Put stands: the name, the result, the block that is made. -/
structure PE (w : World) (p : Nat) (n : En) (k : Int) (ys : List Int) (W : World) : Prop where
  bel : Below p w W
  at_ : EnAt W p n
  res : W.heap[p + 1]? = some (.cells (blkA 0 zBs) 29 (0, 0))
  bd : W.heap[p + 1 + 1]? = some (.cells (blkA k (pad ys)) 29 (0, 0))
section
variable {w W W' : World} {p : Nat} {n : En} {k : Int} {ys zs : List Int}
theorem PE.sz (h : PE w p n k ys W) : p + 1 + 1 + 1 ≤ W.heap.size := room_lt h.bd
theorem PE.below (h : PE w p n k ys W) (hb : Below W.heap.size W W') : PE w p n k ys W' :=
  ⟨h.bel.trans (hb.mono (by have := h.sz; omega)), h.at_.below hb, kb hb h.res, kb hb h.bd⟩
theorem PE.step (h : PE w p n k ys W) (hb : W'.heap[p + 1 + 1]? = some (.cells (blkA k (pad zs)) 29 (0, 0))) (hg : W.grownBy W' (some (p + 1 + 1))) : PE w p n k zs W' :=
  ⟨h.bel.grown hg (by have := h.sz; omega) (fun j hj => by injection hj with hj; omega), h.at_.grown hg (by simp; omega), by rw [hg.block _ (by have := h.sz; omega) (by simp)]; exact h.res, hb⟩
theorem PE.copied (h : PE w p n k ys W) : PE w p n k zs (W.setRow (p + 1 + 1) (blkA k (pad zs))) :=
  ⟨below_setRow h.bel (by omega) _, h.at_.other _ (by omega), by rw [setRow_other W _ _ _ (by omega)]; exact h.res, setRow_blk h.bd⟩
theorem PE.drew (h : PE w p n k ys W) : PE w p n k ys W.drew := ⟨h.bel.drew, h.at_, h.res, h.bd⟩
theorem PE.setB (h : PE w p n k ys W) (y : Int) (i : Nat) (hi : i = 1 + ys.length) (hl : ys.length < 56) : PE w p n k (ys ++ [y]) (W.setCell ⟨p + 1 + 1, i, none⟩ (.int .u8 y)) := by
  subst hi
  refine ⟨h.bel.setCell (show p ≤ p + 1 + 1 by omega) _, by unfold EnAt; rw [heap_setCell_other W _ _ _ (show p ≠ p + 1 + 1 by omega)]; exact h.at_, by rw [heap_setCell_other W _ _ _ (show p + 1 ≠ p + 1 + 1 by omega)]; exact h.res, ?_⟩
  rw [heap_setCell_same' h.bd, blkA_setB, pad_set hl]
end
def VPE (p : Nat) (n : En) (i : Nat) (v : Value) (W : World) : Prop :=
  match i with
  | 0 => v = .pointer (some ⟨p + 1 + 1, 1, none⟩)
  | 1 => v = .slice (some ⟨p + 1 + 1, 1, none⟩) 7 56
  | 2 => v = .pointer (some ⟨p, 0, none⟩)
  | 3 => v = idV n.l n.a n.g
  | 4 => W.ownsRow (p + 1 + 1 + 1) 5 1 v 7 (Bs (idL n.l n.a n.g))
  | _ => True
set_option maxRecDepth 100000 in
set_option maxHeartbeats 6400000 in
theorem enput_any (n : En) (w : World) (hn : EnOk n) : Calls Try.prog 7 #[.agg (enA n)] w fun e w' => e = .returned (.tuple #[.agg (blkA (putEK n) (putEB n)), .bool (decide (MayE n))]) ∧ Below w.heap.size w w' := by
  have HM := Lib.hid (fun w => enmay_any n w hn)
  have hT := hn.t
  have HTA := Lib.hid hT
  have HP : Hid (PE w w.heap.size n 6 [] ((((w.alloc (Obj.cells (enA n) 26)).alloc (Obj.cells (blkA 0 zBs) 29)).alloc (Obj.cells (blkA 0 zBs) 29)).setRow (w.heap.size + 1 + 1) (blkA 6 zBs))) := by
    have s1 : (w.alloc (Obj.cells (enA n) 26)).heap.size = w.heap.size + 1 := size_alloc' _ _
    have s2 : ((w.alloc (Obj.cells (enA n) 26)).alloc (Obj.cells (blkA 0 zBs) 29)).heap.size = w.heap.size + 1 + 1 := by rw [size_alloc', s1]
    have B1 := bel1 (w := w) (Obj.cells (enA n) 26)
    have B2 := B1.alloc B1.size (Obj.cells (blkA 0 zBs) 29)
    have B3 := B2.alloc B2.size (Obj.cells (blkA 0 zBs) 29)
    have H1 := heap_alloc_new (w.alloc (Obj.cells (enA n) 26)) (Obj.cells (blkA 0 zBs) 29)
    rw [s1] at H1
    have H2 := heap_alloc_new ((w.alloc (Obj.cells (enA n) 26)).alloc (Obj.cells (blkA 0 zBs) 29)) (Obj.cells (blkA 0 zBs) 29)
    rw [s2] at H2
    refine ⟨below_setRow B3 (by omega) _, (((EnAt.new w n).alloc _).alloc _).other _ (by omega), ?_, setRow_blk H2⟩
    rw [setRow_other _ _ _ _ (by omega)]
    exact kb (bel1 _) H1
  have HQ : Hid ((((w.alloc (Obj.cells (enA n) 26)).alloc (Obj.cells (blkA 0 zBs) 29)).alloc (Obj.cells (blkA 0 zBs) 29)).heap[w.heap.size + 1 + 1]? = some (.cells (blkA 0 zBs) 29 (0, 0))) := by
    unfold Hid
    have h := heap_alloc_new ((w.alloc (Obj.cells (enA n) 26)).alloc (Obj.cells (blkA 0 zBs) 29)) (Obj.cells (blkA 0 zBs) 29)
    rwa [show ((w.alloc (Obj.cells (enA n) 26)).alloc (Obj.cells (blkA 0 zBs) 29)).heap.size = w.heap.size + 1 + 1 by rw [size_alloc', size_alloc']] at h
  go_enter Try.func7, Try.ntmps7
  go_wp2_with (first
    | (refine wpList_allocB rfl rfl ?_))
  refine wp_scope_fwd' [0] fun F here on => ?_
  have HH := Lib.hid here
  clear here on
  go_upto_region 2 with (first
    | (refine wpList_allocB rfl rfl ?_; try simp only [size_alloc'])
    | (refine wpList_buildBk rfl (.const (.int .i64 6)) 6 rfl rfl ?_)
    | (refine wpList_storeB rfl (.tmp 4) (.tmp 5) rfl (w.heap.size + 1 + 1) rfl 6 0 zBs zBs rfl zBs_len zBs_len HQ.out ?_))
  clear HQ
  generalize (((w.alloc (Obj.cells (enA n) 26)).alloc (Obj.cells (blkA 0 zBs) 29)).alloc (Obj.cells (blkA 0 zBs) 29)).setRow (w.heap.size + 1 + 1) (blkA 6 zBs) = W at *
  by_cases hm : MayE n
  · have HPK : Hid (putEK n = 6) := by unfold Hid putEK; rw [if_pos hm]
    have HPB : Hid (putEB n = pad (bytesE n)) := by unfold Hid putEB; rw [if_pos hm]
    have HD := Lib.hid (decide_eq_true hm)
    rw [HD.out] at HM
    have htl := hm.tl
    have hpr := hm.2.1
    have hn1 := hm.2.2
    have hn32 : n.n < 4294967296 := by have := hn.n.2; omega
    have wp : IntKind.u32.wrap n.p = n.p := IntWalk.u32_in _ (by omega)
    have wt : IntKind.u8.wrap ((strOfNums n.t).size : Int) = n.t.length := by rw [strOfNums_size]; exact IntWalk.u8_in _ (by omega)
    have HIP : Hid (∀ W : World, Calls Try.prog 16 #[idV n.l n.a n.g] W fun e w' => ∃ v, e = .returned v ∧ w'.ownsRow W.heap.size 5 1 v 7 (Bs (idL n.l n.a n.g)) ∧ Below W.heap.size W w') := fun W => by
      have h := iput_any n.l n.a n.g W hn.l hn.a hn.g
      rwa [putL_yes hm.1.1, idL_length] at h
    clear hm
    go_wp2_with (refine wpList_loadE rfl (.tmp 1) rfl w.heap.size rfl n HP.out.at_ ?_)
    refine (HM.out _).mono ?_; rintro e w1 ⟨rfl, hb1⟩
    have HP1 := Lib.hid (HP.out.below hb1)
    clear hb1 HP
    go_upto_region 3 with fail
    generalize hp : w.heap.size = p at *
    go_cut [] (fun wx => PE w p n 6 ([] ++ idL n.l n.a n.g) wx)
    case first =>
      have hJ0 : PE w p n 6 [] w1.drew := HP1.out.drew
      refine wp_region_rgk (VPE p n) (fun _ W => PE w p n 6 [] W) (fun _ w w' => w.grownBy w' none) (by kernel_rfl) (by kernel_rfl) (fun i j v' w' w'' hij hind h hg => by
        unfold VPE at *
        split <;> try exact h
        · exact World.ownsRow.kept h hg (by cases v'.ownBlock <;> simp)
        · trivial) hJ0 ?_
      have srefl : ∀ W : World, W.grownBy W none := fun W => World.grownBy.refl _ _
      clear hJ0 HP1
      simp only [RAll]
      refine ⟨?_, ?_, ?_, ?_, ?_, ?_⟩
      · refine RStepK.of rfl fun T W L hag hL hJ hLs hd => ?_   -- 0: 9 := Op.fieldAddr 29 (Operand.tmp 4) 1
        have e4 : T.getD 4 undef = _ := (agree_at hag 4 (by kernel_rfl)).trans rfl
        clear hag hd
        go_simp
        exact ⟨_, rfl, rfl⟩
      · refine RStepK.of rfl fun T W L hag hL hJ hLs hd => ?_   -- 1: 10 := Op.slice 27 (Operand.tmp 9) none (some (Operand.const (Value
        have d9 : T.getD 9 undef = _ := hd ⟨0, .data⟩ (by simp) rfl _ rfl
        clear hag hd
        go_simp
        exact ⟨_, rfl, rfl⟩
      · refine RStepK.of rfl fun T W L hag hL hJ hLs hd => ?_   -- 2: 11 := Op.fieldAddr 26 (Operand.tmp 1) 0
        have e1 : T.getD 1 undef = _ := (agree_at hag 1 (by kernel_rfl)).trans rfl
        clear hag hd
        go_simp
        exact ⟨_, rfl, rfl⟩
      · refine RStepK.of rfl fun T W L hag hL hJ hLs hd => ?_   -- 3: 12 := Op.load 24 (Operand.tmp 11)
        have d11 : T.getD 11 undef = _ := hd ⟨2, .data⟩ (by simp) rfl _ rfl
        exact wp_loadDir (.tmp 11) rfl p d11 n hJ.at_ ⟨_, rfl, rfl, hJ, World.grownBy.refl _ _⟩
      · refine RStepK.of rfl fun T W L hag hL hJ hLs hd => ?_   -- 4: 13 := Op.call { callee := Callee.value (Operand.func 16), args := 
        have d12 : T.getD 12 undef = _ := hd ⟨3, .data⟩ (by simp) rfl _ rfl
        clear hag hd
        go_simp
        refine (HIP.out W).mono ?_
        rintro en w' ⟨u, rfl, hf, hb⟩
        exact ⟨_, rfl, hf.mono hJ.sz, hJ.below hb, growN hb⟩
      · refine RLastK.of rfl fun T W L hag hLs hL hJ hd => ?_   -- 5: 14 := Op.call { callee := Callee.builtin Builtin.copy, args := #[O
        have d10 : T.getD 10 undef = _ := hd 1 _ (by simp) rfl
        have x13 : W.ownsRow (p + 1 + 1 + 1) 5 1 (T.getD 13 undef) 7 (Bs (idL n.l n.a n.g)) := hd 4 _ (by simp) rfl
        obtain ⟨f, hf, hT⟩ := agree_fn hag
        have h10 := (hf 10).trans d10
        have h13 := hf 13
        rw [← h13] at x13
        have HX13 := Lib.hid x13
        clear h13 x13
        have HJ := Lib.hid hJ
        clear hag hd d10 hJ hf
        rw [hT]
        clear hT
        simp only [List.pop_toArray, List.dropLast_cons_cons, List.dropLast_singleton, List.filterMap_cons, List.filterMap_nil, List.foldl_cons, List.foldl_nil, List.setIfInBounds_toArray, List.set_cons_succ, List.set_cons_zero, h10]
        obtain ⟨A, d, e13, hle, hd2, hy⟩ := byt_own HX13.out (idL_length n.l n.a n.g)
        rw [idL_length] at e13 hle
        rename_i hJc hKc
        refine wp_copyP (.tmp 10) (.tmp 13) rfl (p + 1 + 1) 6 [] (idL n.l n.a n.g) 1 7 56 A 7 d rfl rfl e13 (idL_length _ _ _) (by omega) (by decide) hy (by omega) HJ.out.bd ?_
        have HJ2 := HJ.out.copied (zs := [] ++ idL n.l n.a n.g)
        go_wp2_with fail
        refine hJc _ _ ?_
        repeat apply Exists.intro
        exact ⟨HJ2, rfl⟩
    case rest =>
      have HP2 := Lib.hid hcut
      clear hcut HP1
      generalize hY1 : [] ++ idL n.l n.a n.g = y1 at *
      have HL1 : Hid (y1.length = 7) := by unfold Hid; rw [← hY1]; exact idL_length _ _ _
      have HY1 := Lib.hid hY1
      clear hY1
      have c4 : wc.cell? ⟨p, 4, none⟩ = some (.int .i64 n.p) := HP2.out.at_.cells.2.1
      have hsl : ∀ W, (Instr.sliceAt 27 (.pointer (some ⟨p + 1 + 1, 1, none⟩)) (some (.int .i64 7)) (some (.int .i64 9)) none).run Try.prog W = .ok (.slice (some ⟨p + 1 + 1, 8, none⟩) 2 49) W := fun W => run_sliceLH (p + 1 + 1) 7 9 (by omega) (by omega) (by omega) W
      go_upto_region 4 with fail
      go_still_tail 5, (by kernel_rfl)
      change wpList _ _ _ _ _ wc.drew
      have HP2 := Lib.hid HP2.out.drew
      generalize wc.drew = w2 at *
      clear c4 hsl
      go_wp2_with fail
      refine (putnum_int (p + 1 + 1) 6 y1 8 2 49 n.p _ (by rw [HL1.out]) HP2.out.bd (by rw [HL1.out]; omega) (by omega) (by omega) (by omega)).mono ?_
      rintro e w3 ⟨rfl, hbd, hg⟩
      have HP3 := Lib.hid (HP2.out.step hbd hg)
      clear hbd hg HP2
      generalize hY2 : y1 ++ be n.p.toNat 2 = y2 at *
      have HL2 : Hid (y2.length = 9) := by unfold Hid; rw [← hY2, List.length_append, HL1.out, be_length]
      have HY2 := Lib.hid hY2
      clear hY2
      have c5 : w3.cell? ⟨p, 5, none⟩ = some (.int .u32 n.n) := HP3.out.at_.cells.2.2
      have hsl : ∀ W, (Instr.sliceAt 27 (.pointer (some ⟨p + 1 + 1, 1, none⟩)) (some (.int .i64 9)) (some (.int .i64 13)) none).run Try.prog W = .ok (.slice (some ⟨p + 1 + 1, 10, none⟩) 4 47) W := fun W => run_sliceLH (p + 1 + 1) 9 13 (by omega) (by omega) (by omega) W
      go_upto_region 5 with fail
      go_still_tail 4, (by kernel_rfl)
      change wpList _ _ _ _ _ w3.drew
      have HP3 := Lib.hid HP3.out.drew
      generalize w3.drew = w4 at *
      clear c5 hsl
      go_wp2_with fail
      refine (putnum_int (p + 1 + 1) 6 y2 10 4 47 n.n _ (by rw [HL2.out]) HP3.out.bd (by rw [HL2.out]; omega) (by omega) (by omega) (by omega)).mono ?_
      rintro e w5 ⟨rfl, hbd, hg⟩
      have HP5' := Lib.hid (HP3.out.step hbd hg)
      have HEQ : Hid (y2 ++ be n.n.toNat 4 = headE n) := by unfold Hid; rw [← HY2.out, ← HY1.out]; rfl
      rw [HEQ.out] at HP5'
      clear hbd hg HP3
      obtain ⟨c3, _, _⟩ := HP5'.out.at_.cells
      have hlw := strOfNums_size n.t
      obtain ⟨u, cu⟩ := cell_body HP5'.out.bd (pad_len (by rw [headE_length]; omega)) (i := 13) (by omega)
      have fu : w5.frozen? ⟨p + 1 + 1, 14, none⟩ = false := blk_free HP5'.out.bd _
      have HP6 : Hid (PE w p n 6 (frontE n) (w5.setCell ⟨p + 1 + 1, 14, none⟩ (.int .u8 n.t.length))) := HP5'.out.setB _ 14 (by rw [headE_length]) (by rw [headE_length]; omega)
      go_upto_region 7 with fail
      generalize w5.setCell ⟨p + 1 + 1, 14, none⟩ (.int .u8 n.t.length) = w6 at *
      clear HP5' c3 hlw cu fu
      have c3 := HP6.out.at_.cells.1
      have hsl := fun W => run_sliceAt56 (p + 1 + 1) (m := 14) (by omega) W
      go_still_tail 4, (by kernel_rfl)
      change wpList _ _ _ _ _ w6.drew
      have HPD : Hid (PE w p n 6 (frontE n) w6.drew) := HP6.out.drew
      clear HP6 c3 hsl
      generalize w6.drew = w7 at *
      refine wpList_copyT rfl (.tmp 33) (.tmp 35) rfl (p + 1 + 1) 6 14 (frontE n) n.t (frontE_length n) rfl rfl HPD.out.bd (by omega) HTA.out ?_
      have HPE : Hid (PE w p n 6 (bytesE n) (w7.setRow (p + 1 + 1) (blkA 6 (pad (frontE n ++ n.t))))) := HPD.out.copied
      generalize w7.setRow (p + 1 + 1) (blkA 6 (pad (frontE n ++ n.t))) = w8 at *
      have HLB := Lib.hid (pad_len (ys := bytesE n) (by rw [bytesE_length]; omega))
      clear HPD wt wp hT
      go_wp2_with (first
        | (refine wpList_loadB rfl (.tmp 4) rfl (p + 1 + 1) rfl 6 (pad (bytesE n)) HLB.out HPE.out.bd ?_)
        | (refine wpList_storeB rfl (.tmp 2) (.tmp 37) rfl (p + 1) rfl 6 0 (pad (bytesE n)) zBs rfl HLB.out zBs_len HPE.out.res ?_))
      simp only [jumps_ret]
      refine bodyPost_ret (results_blk rfl _ _ (p + 1) 6 (pad (bytesE n)) rfl HLB.out (setRow_blk HPE.out.res)) rfl ?_
      have hbl := below_setRow HPE.out.bel (show p ≤ p + 1 by omega) (blkA 6 (pad (bytesE n)))
      exact ⟨by rw [HPK.out, HPB.out, HD.out]; rfl, by first | exact hbl | (rw [hp]; exact hbl)⟩
  · have HPK : Hid (putEK n = 0) := by unfold Hid putEK; rw [if_neg hm]
    have HPB : Hid (putEB n = zBs) := by unfold Hid putEB; rw [if_neg hm]
    have HD := Lib.hid (decide_eq_false hm)
    rw [HD.out] at HM
    clear hm
    go_wp2_with (refine wpList_loadE rfl (.tmp 1) rfl w.heap.size rfl n HP.out.at_ ?_)
    refine (HM.out _).mono ?_; rintro e w1 ⟨rfl, hb1⟩
    have HP1 := Lib.hid (HP.out.below hb1)
    clear hb1 HP
    go_wp2_with fail
    go_step3
    refine HH.out _ _ _ _ _ rfl ?_
    go_wp2_with (first
      | (refine wpList_buildB0 rfl rfl ?_)
      | (refine wpList_storeB rfl (.tmp 2) (.tmp 38) rfl (w.heap.size + 1) rfl 0 0 zBs zBs rfl zBs_len zBs_len HP1.out.res ?_))
    simp only [jumps_ret]
    refine bodyPost_ret (results_blk rfl _ _ (w.heap.size + 1) 0 zBs rfl zBs_len (setRow_blk HP1.out.res)) rfl ?_
    exact ⟨by rw [HPK.out, HPB.out, HD.out]; rfl, below_setRow HP1.out.bel (by omega) _⟩
end Go.Proofs.Ytcmmopngjeonfaa
