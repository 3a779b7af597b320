/- Contract: the law's opening test. -/
import Derived.Test.YtflldlhfeiamnaaEt
import Derived.Test.YtflldlhfeiamnaaEv
import Derived.Test.YtflldlhfeiamnaaRk
namespace Go.Proofs.Ytflldlhfeiamnaa
open Go.ChangeShapes Go.WideShapes Go.ChangeAt Go.RowKit
set_option linter.unusedVariables false
def yb : Wr := ⟨1, 4, zBs⟩
theorem yb_ok : yb.Ok := ⟨by constructor <;> (unfold yb; simp only; omega), by constructor <;> (unfold yb; simp only; omega), zBs_len, fun x hx => by unfold yb zBs at hx; rw [List.eq_of_mem_replicate hx]; omega⟩
theorem yb_may : MayL [yb] := ⟨by simp, fun x hx => by simp at hx; subst hx; exact ⟨by unfold yb; simp only; omega, by unfold yb; simp only; omega⟩, by simp⟩
theorem yb_wrs : WrsOk [yb] := fun x hx => by simp at hx; subst hx; exact yb_ok
theorem wp_eqlW {o : Oper} {a : Act} {w : World} {K : Act → World → Prop} {Q : Exit → Act → World → Prop} (x y : Operand) (t : TypeId) (ho : o.op = .binOp .eql 46 x y t) (u v : Wr) (hx : a.eval x = .agg (wrA u)) (hy : a.eval y = .agg (wrA v)) (hb : u.bs.length = 56) (hc : v.bs.length = 56) (hB : AllB u.bs) (hC : AllB v.bs)
    (h : K (a.put o.dst (.bool (decide (u = v)))) w) : o.wp Try.prog a w K Q := by
  have hg := run_eqGuard_agg (P := Try.prog) w .eql 46 x y (wrA u) (wrA v) guardW
  have hr := run_eql_struct (P := Try.prog) w 46 (wrA u) (wrA v)
  rw [eqlW u v hb hc hB hC w] at hr
  unfold Oper.wp execOp
  simp only [ho, hx, hy, Sem.run_bind, hg, hr, Result.andThen_ok]
  exact h
/-! Anchors, plain. -/
theorem anE_anchor {lb : Int} {e : Nat} (he : e < 4294967296) : anE (anchorB lb e) = e := by
  unfold anE anchorB sumd fillB
  have : ∀ tl : List Int, (([65, 78, lb] ++ be e 4 ++ tl).drop 3).take 4 = be e 4 := fun tl => rfl
  rw [List.append_assoc ([65, 78, lb] ++ be e 4), this]
  exact numV_be 4 e (by omega)
theorem anchor_sealed (lb : Int) (e : Nat) : Sealed (anchorB lb e) := sumd_sealed (by simp [be_length])
theorem takenA_anchor {lb lb' : Int} {e : Nat} (he : e < 4294967296) : TakenA lb' (anchorB lb e) ↔ lb' = lb ∧ e ≠ 4294967295 := by
  unfold TakenA
  rw [anE_anchor he]
  constructor
  · rintro ⟨_, h1, h2⟩
    refine ⟨?_, h1⟩
    have h3 := sumd_pre (by simp [be_length]) (by simp [be_length]) (by simp [be_length]) h2
    have := congrArg (fun z : List Int => z.getD 2 0) h3; exact this
  · rintro ⟨rfl, h1⟩
    exact ⟨anchorB_length _ _, h1, rfl⟩
theorem takenA_sealed {lb : Int} {xs : List Int} (h : TakenA lb xs) : Sealed xs := by rw [← h.2.2]; exact anchor_sealed _ _
theorem putX_may {lb : Int} {e s : Nat} {l : List Wr} (h : MayL l) : putX lb e s l = putL lb e s l := by unfold putX; rw [if_pos h]
theorem wrs_new {w : World} {g : Nat} {x : Wr} {t : TypeId} {fr : Nat × Nat} (h : w.heap[g]? = some (.cells (wrA x) t fr)) : Wrs w (some ⟨g, 0, none⟩) [x] := fun i y hi => by
  cases i with
  | zero => injection hi with hi; subst hi; exact ⟨_, rfl, by rw [Nat.zero_mul, show (⟨g, 0, none⟩ : Addr).add 0 = ⟨g, 0, none⟩ from by unfold Addr.add; simp]; exact wrAt_blk h⟩
  | succ i => cases hi
def VBG (A2 A9 : Option Addr) (a4 : Addr) (d2 d4 d9 g1 : Nat) (i : Nat) (v : Value) (w : World) : Prop :=
  match i with
  | 0 | 1 | 4 | 5 | 6 | 7 | 8 | 9 | 11 | 12 | 13 | 16 | 17 | 18 | 26 | 27 | 29 | 30 | 31 | 34 | 35 | 36 | 37 | 38 | 39 | 41 | 42 => v = .bool true
  | 2 => v = .slice A2 2 d2
  | 3 | 10 => v = .int .i64 2
  | 14 | 19 => v = .slice (some a4) 1 d4
  | 15 => v = .int .i64 1
  | 20 => v = .pointer (some a4)
  | 22 => v = .slice (some ⟨g1, 0, none⟩) 1 1
  | 23 => v = .pointer (some ⟨g1, 0, none⟩)
  | 28 => v = .bool false
  | 32 => v = .slice A9 64 d9
  | 33 => v = .int .i64 64
  | 40 => v = .int .u32 9
  | 21 | 24 => v = .agg (wrA yb)
  | 25 => v = .bool true
  | _ => True
theorem VBG.on {A2 A9 : Option Addr} {a4 : Addr} {d2 d4 d9 g1 : Nat} {j : Nat} {v : Value} {w w' : World} (h : VBG A2 A9 a4 d2 d4 d9 g1 j v w) : VBG A2 A9 a4 d2 d4 d9 g1 j v w' := by
  unfold VBG at *
  split <;> first | exact h | trivial
set_option maxRecDepth 100000 in
set_option maxHeartbeats 6400000 in
theorem begun7_any (w : World) : Calls Try.prog 9 #[] w fun e w' => e = .returned (.bool true) ∧ Below w.heap.size w w' := by
  have hb1 : Try.prog.built 44 [(0, .int .i64 4)] = some (blkA 4 zBs) := built24k 4
  have hnew := heap_alloc_new w (Obj.cells (wrA yb) 46)
  have B1 : Below w.heap.size w (w.alloc (Obj.cells (wrA yb) 46)) := (Below.refl _ _).alloc (Nat.le_refl _) _
  have HL1 := Lib.hid (wrAt_blk hnew)
  have HW1 := Lib.hid (wrs_new hnew)
  clear hnew hb1
  go_enter Try.func9, Try.ntmps9
  go_upto_region 2 with (first
    | (refine wpList_buildBk rfl (.const (.int .i64 4)) 4 rfl rfl ?_)
    | (refine wpList_buildW1 rfl (.const (.int .i64 1)) (.tmp 13) 1 4 rfl rfl rfl ?_)
    | (refine wpList_oneW rfl (.tmp 14) rfl yb yb_ok.len rfl ?_))
  have HL1' := HL1
  generalize w.alloc (Obj.cells (wrA yb) 46) = W1 at *
  have HP := Lib.hid (put_any 3 2 0 (some ⟨w.heap.size, 0, none⟩) [yb] 1 1 W1 (by omega) (by omega) (by omega) rfl (by omega) (by omega) yb_wrs HW1.out)
  rw [decide_eq_true yb_may, putX_may yb_may] at HP
  have HPL : Hid ((putL 3 2 0 [yb]).length = 2) := rfl
  have HTX := Lib.hid (putL_txOk (lb := 3) 2 0 (by omega) yb_may yb_wrs)
  have HTY : Hid (Taken 3 2 0 (putL 3 2 0 [yb])) := by have h := (taken_put (lb := 3) (e := 2) (s := 0) (l := [yb]) (rest := []) (lb' := 3) (e' := 2) (s' := 0) yb_may yb_wrs (by omega) (by omega) (by omega) (by omega)).2 ⟨rfl, rfl, rfl⟩; rwa [List.append_nil] at h
  have HTN : Hid (¬ Taken 3 2 1 (putL 3 2 0 [yb])) := fun h => by
    have h1 := (taken_put (lb := 3) (e := 2) (s := 0) (l := [yb]) (rest := []) (lb' := 3) (e' := 2) (s' := 1) yb_may yb_wrs (by omega) (by omega) (by omega) (by omega)).1 (by rw [List.append_nil]; exact h)
    have := h1.2.2; omega
  have HTV : Hid (takeV 3 2 0 (putL 3 2 0 [yb]) = [yb] ∧ takeN 3 2 0 (putL 3 2 0 [yb]) = 2) := by have h := takeV_put (lb := 3) (e := 2) (s := 0) (l := [yb]) (rest := []) yb_may yb_wrs (by omega) (by omega); rwa [List.append_nil] at h
  have HTZ := Lib.hid (takeV_no HTN.out)
  generalize hpl : putL 3 2 0 [yb] = pl at *
  clear hpl HW1 HL1'
  go_wp2_with fail
  refine HP.out.mono ?_
  rintro en w2 ⟨v2, rfl, ot2, hb2⟩
  obtain ⟨A2, d2, rfl, hd2, hd22, htx2⟩ := ot2.tx
  rw [HPL.out] at hd2 ⊢
  have HX2 := Lib.hid htx2
  have HL2 := Lib.hid (HL1.out.keep hb2)
  have B2 := keepB B1 hb2
  have HT1 := Lib.hid (take_any 3 2 0 A2 pl 2 d2 w2 (by omega) (by omega) (by omega) HPL.out hd2 hd22 HTX.out htx2)
  rw [decide_eq_true HTY.out, HTV.out.1, HTV.out.2] at HT1
  clear ot2 htx2 HP HL1 B1 hb2
  go_wp2_with fail
  refine HT1.out.mono ?_
  rintro en w3 ⟨v3, rfl, ow3, hb3⟩
  obtain ⟨A4, d4, rfl, _, _, hw4⟩ := ow3.wrs yb_wrs.len
  obtain ⟨a4, rfl, hat4⟩ := hw4 0 yb rfl
  rw [Nat.zero_mul, show a4.add 0 = a4 from by unfold Addr.add; simp] at hat4
  have HL3 := Lib.hid (HL2.out.keep hb3)
  have HQ3 := Lib.hid hat4
  have B3 := keepB B2 hb3
  have HT2 := Lib.hid (take_any 3 2 1 A2 pl 2 d2 w3 (by omega) (by omega) (by omega) HPL.out hd2 hd22 HTX.out (HX2.out.keep hb3))
  rw [decide_eq_false HTN.out, HTZ.out.1, HTZ.out.2] at HT2
  clear ow3 hw4 hat4 HT1 HL2 B2 hb3
  go_wp2_with fail
  refine HT2.out.mono ?_
  rintro en w4 ⟨v4, rfl, ow4, hb4⟩
  have HL4 := Lib.hid (HL3.out.keep hb4)
  have HQ4 := Lib.hid (HQ3.out.keep hb4)
  have B4 := keepB B3 hb4
  clear ow4 HT2 HL3 HQ3 B3 hb4 HTY HTN HTV HTZ HX2
  go_wp2_with fail
  refine (anchor_any 3 9 w4 (by omega) (by omega)).mono ?_
  rintro en w5 ⟨v5, rfl, own5, hb5⟩
  obtain ⟨A9, d9, rfl, hd9, hd99, hy5⟩ := byt_own own5 (anchorB_length 3 9)
  rw [anchorB_length] at hd9 ⊢
  have HL5 := Lib.hid (HL4.out.keep hb5)
  have HQ5 := Lib.hid (HQ4.out.keep hb5)
  have B5 := keepB B4 hb5
  have HTA : Hid (TakenA 3 (anchorB 3 9)) := (takenA_anchor (by omega)).2 ⟨rfl, by omega⟩
  have HTB : Hid (takeA 3 (anchorB 3 9) = 9) := by unfold Hid takeA; rw [if_pos HTA.out, anE_anchor (by omega)]
  have HT3 := Lib.hid (takea_any 3 A9 (anchorB 3 9) 64 d9 w5 (by omega) (anchorB_length _ _) hd9 hd99 (anchorB_allB 9 (by omega)) hy5)
  rw [decide_eq_true HTA.out, HTB.out] at HT3
  clear own5 hy5 HL4 HQ4 B4 hb5 HTA HTB
  go_wp2_with fail
  refine HT3.out.mono ?_
  rintro en w6 ⟨rfl, hb6⟩
  have HL1 := Lib.hid (HL5.out.keep hb6)
  have HL4 := Lib.hid (HQ5.out.keep hb6)
  have BEL := Lib.hid (keepB B5 hb6)
  clear HT3 HL5 HQ5 B5 hb6
  generalize hg1 : w.heap.size = g1 at *
  have HG := Lib.hid hg1
  clear hg1
  go_upto_region 7 with fail
  have grefl : ∀ W : World, W.grownBy W none := fun W => World.grownBy.refl W _
  refine wp_region_rgk (VBG A2 A9 a4 d2 d4 d9 g1) (fun _ W => Below w6.heap.size w6 W) (fun _ w w' => w.grownBy w' none) (by kernel_rfl) (by kernel_rfl) (fun i j v' w' w'' hij hind h hg => h.on) ((Below.refl _ _).drew) ?_
  simp only [RAll]
  refine ⟨?_, ?_, ?_, ?_, ?_, ?_, ?_, ?_, ?_, ?_, ?_, ?_, ?_, ?_, ?_, ?_, ?_, ?_, ?_, ?_, ?_, ?_, ?_, ?_, ?_, ?_, ?_, ?_, ?_, ?_, ?_, ?_, ?_, ?_, ?_, ?_, ?_, ?_, ?_, ?_, ?_, ?_, ?_, ?_⟩
  · refine RStepK.of rfl fun T W L hag hL hJ hLs hd => ?_   -- 0: 39 := Op.move (Operand.tmp 3)
    have e3 : T.getD 3 undef = _ := (agree_at hag 3 (by kernel_rfl)).trans rfl
    clear hag hd
    go_simp
    exact ⟨_, rfl, rfl⟩
  · refine RStepK.of rfl fun T W L hag hL hJ hLs hd => ?_   -- 1: 40 := Op.move (Operand.tmp 39)
    have d39 : T.getD 39 undef = _ := hd ⟨0, .data⟩ (by simp) rfl _ rfl
    clear hag hd
    go_simp
    exact ⟨_, rfl, rfl⟩
  · refine RStepK.want rfl rfl rfl (by kernel_rfl) (fun v w h => h) fun T W L hag hL hJ hLs hd => ?_   -- 2: 41 := Op.move (Operand.tmp 2)
    have e2 : T.getD 2 undef = _ := (agree_at hag 2 (by kernel_rfl)).trans rfl
    clear hag hd
    go_simp
    exact ⟨_, rfl, rfl⟩
  · refine RStepK.want rfl rfl rfl (by kernel_rfl) (fun v w h => h) fun T W L hag hL hJ hLs hd => ?_   -- 3: 42 := Op.call { callee := Callee.builtin Builtin.len, args := #[Operand.tmp 
    have d41 : T.getD 41 undef = _ := hd ⟨2, .data⟩ (by simp) rfl _ rfl
    clear hag hd
    go_simp
    exact ⟨_, rfl, rfl⟩
  · refine RStepK.want rfl rfl rfl (by kernel_rfl) (fun v w h => h) fun T W L hag hL hJ hLs hd => ?_   -- 4: 43 := Op.binOp BinOp.eql 3 (Operand.tmp 42) (Operand.const (Value.int IntKin
    have d42 : T.getD 42 undef = _ := hd ⟨3, .data⟩ (by simp) rfl _ rfl
    clear hag hd
    go_simp
    exact ⟨_, rfl, rfl⟩
  · refine RStepK.of rfl fun T W L hag hL hJ hLs hd => ?_   -- 5: 44 := Op.pick (Operand.tmp 40) (Operand.tmp 43) (Operand.const (Value.bool f
    have d40 : T.getD 40 undef = _ := hd ⟨1, .data⟩ (by simp) rfl _ rfl
    have d43 : T.getD 43 undef = _ := hd ⟨4, .data⟩ (by simp) rfl _ rfl
    clear hag hd
    go_simp
    exact ⟨_, rfl, rfl⟩
  · refine RStepK.of rfl fun T W L hag hL hJ hLs hd => ?_   -- 6: 45 := Op.move (Operand.tmp 44)
    have d44 : T.getD 44 undef = _ := hd ⟨5, .data⟩ (by simp) rfl _ rfl
    clear hag hd
    go_simp
    exact ⟨_, rfl, rfl⟩
  · refine RStepK.want rfl rfl rfl (by kernel_rfl) (fun v w h => h) fun T W L hag hL hJ hLs hd => ?_   -- 7: 46 := Op.move (Operand.tmp 6)
    have e6 : T.getD 6 undef = _ := (agree_at hag 6 (by kernel_rfl)).trans rfl
    clear hag hd
    go_simp
    exact ⟨_, rfl, rfl⟩
  · refine RStepK.of rfl fun T W L hag hL hJ hLs hd => ?_   -- 8: 47 := Op.pick (Operand.tmp 45) (Operand.tmp 46) (Operand.const (Value.bool f
    have d45 : T.getD 45 undef = _ := hd ⟨6, .data⟩ (by simp) rfl _ rfl
    have d46 : T.getD 46 undef = _ := hd ⟨7, .data⟩ (by simp) rfl _ rfl
    clear hag hd
    go_simp
    exact ⟨_, rfl, rfl⟩
  · refine RStepK.of rfl fun T W L hag hL hJ hLs hd => ?_   -- 9: 48 := Op.move (Operand.tmp 47)
    have d47 : T.getD 47 undef = _ := hd ⟨8, .data⟩ (by simp) rfl _ rfl
    clear hag hd
    go_simp
    exact ⟨_, rfl, rfl⟩
  · refine RStepK.want rfl rfl rfl (by kernel_rfl) (fun v w h => h) fun T W L hag hL hJ hLs hd => ?_   -- 10: 49 := Op.move (Operand.tmp 5)
    have e5 : T.getD 5 undef = _ := (agree_at hag 5 (by kernel_rfl)).trans rfl
    clear hag hd
    go_simp
    exact ⟨_, rfl, rfl⟩
  · refine RStepK.want rfl rfl rfl (by kernel_rfl) (fun v w h => h) fun T W L hag hL hJ hLs hd => ?_   -- 11: 50 := Op.binOp BinOp.eql 3 (Operand.tmp 49) (Operand.const (Value.int IntKin
    have d49 : T.getD 49 undef = _ := hd ⟨10, .data⟩ (by simp) rfl _ rfl
    clear hag hd
    go_simp
    exact ⟨_, rfl, rfl⟩
  · refine RStepK.of rfl fun T W L hag hL hJ hLs hd => ?_   -- 12: 51 := Op.pick (Operand.tmp 48) (Operand.tmp 50) (Operand.const (Value.bool f
    have d48 : T.getD 48 undef = _ := hd ⟨9, .data⟩ (by simp) rfl _ rfl
    have d50 : T.getD 50 undef = _ := hd ⟨11, .data⟩ (by simp) rfl _ rfl
    clear hag hd
    go_simp
    exact ⟨_, rfl, rfl⟩
  · refine RStepK.of rfl fun T W L hag hL hJ hLs hd => ?_   -- 13: 52 := Op.move (Operand.tmp 51)
    have d51 : T.getD 51 undef = _ := hd ⟨12, .data⟩ (by simp) rfl _ rfl
    clear hag hd
    go_simp
    exact ⟨_, rfl, rfl⟩
  · refine RStepK.want rfl rfl rfl (by kernel_rfl) (fun v w h => h) fun T W L hag hL hJ hLs hd => ?_   -- 14: 53 := Op.move (Operand.tmp 4)
    have e4 : T.getD 4 undef = _ := (agree_at hag 4 (by kernel_rfl)).trans rfl
    clear hag hd
    go_simp
    exact ⟨_, rfl, rfl⟩
  · refine RStepK.want rfl rfl rfl (by kernel_rfl) (fun v w h => h) fun T W L hag hL hJ hLs hd => ?_   -- 15: 54 := Op.call { callee := Callee.builtin Builtin.len, args := #[Operand.tmp 
    have d53 : T.getD 53 undef = _ := hd ⟨14, .data⟩ (by simp) rfl _ rfl
    clear hag hd
    go_simp
    exact ⟨_, rfl, rfl⟩
  · refine RStepK.want rfl rfl rfl (by kernel_rfl) (fun v w h => h) fun T W L hag hL hJ hLs hd => ?_   -- 16: 55 := Op.binOp BinOp.eql 3 (Operand.tmp 54) (Operand.const (Value.int IntKin
    have d54 : T.getD 54 undef = _ := hd ⟨15, .data⟩ (by simp) rfl _ rfl
    clear hag hd
    go_simp
    exact ⟨_, rfl, rfl⟩
  · refine RStepK.of rfl fun T W L hag hL hJ hLs hd => ?_   -- 17: 56 := Op.pick (Operand.tmp 52) (Operand.tmp 55) (Operand.const (Value.bool f
    have d52 : T.getD 52 undef = _ := hd ⟨13, .data⟩ (by simp) rfl _ rfl
    have d55 : T.getD 55 undef = _ := hd ⟨16, .data⟩ (by simp) rfl _ rfl
    clear hag hd
    go_simp
    exact ⟨_, rfl, rfl⟩
  · refine RStepK.of rfl fun T W L hag hL hJ hLs hd => ?_   -- 18: 57 := Op.move (Operand.tmp 56)
    have d56 : T.getD 56 undef = _ := hd ⟨17, .data⟩ (by simp) rfl _ rfl
    clear hag hd
    go_simp
    exact ⟨_, rfl, rfl⟩
  · refine RStepK.want rfl rfl rfl (by kernel_rfl) (fun v w h => h) fun T W L hag hL hJ hLs hd => ?_   -- 19: 58 := Op.move (Operand.tmp 4)
    have e4 : T.getD 4 undef = _ := (agree_at hag 4 (by kernel_rfl)).trans rfl
    clear hag hd
    go_simp
    exact ⟨_, rfl, rfl⟩
  · refine RStepK.want rfl rfl rfl (by kernel_rfl) (fun v w h => h) fun T W L hag hL hJ hLs hd => ?_   -- 20: 59 := Op.indexAddr 23 (Operand.tmp 58) (Operand.const (Value.int IntKind.i64
    have d58 : T.getD 58 undef = _ := hd ⟨19, .data⟩ (by simp) rfl _ rfl
    clear hag hd
    go_simp
    exact ⟨_, rfl, rfl⟩
  · refine RStepK.want rfl rfl rfl (by kernel_rfl) (fun v w h => h) fun T W L hag hL hJ hLs hd => ?_   -- 21: 60 := Op.load 46 (Operand.tmp 59)
    have d59 : T.getD 59 undef = _ := hd ⟨20, .data⟩ (by simp) rfl _ rfl
    have ev : (⟨T, []⟩ : Act).eval (.tmp 59) = .pointer (some a4) := d59
    clear hag hd
    refine wp_run (v := .agg (wrA yb)) (w' := W) ?_ ⟨_, rfl, rfl, hJ, World.grownBy.refl _ _⟩
    unfold execOp
    simp only [ev, Sem.run_bind, loadAt_wr W _ yb yb_ok.len (HL4.out.keep hJ), Result.andThen_ok, Sem.run_pure]
  · refine RStepK.want rfl rfl rfl (by kernel_rfl) (fun v w h => h) fun T W L hag hL hJ hLs hd => ?_   -- 22: 61 := Op.move (Operand.tmp 1)
    have e1 : T.getD 1 undef = _ := (agree_at hag 1 (by kernel_rfl)).trans rfl
    clear hag hd
    go_simp
    exact ⟨_, rfl, rfl⟩
  · refine RStepK.want rfl rfl rfl (by kernel_rfl) (fun v w h => h) fun T W L hag hL hJ hLs hd => ?_   -- 23: 62 := Op.indexAddr 23 (Operand.tmp 61) (Operand.const (Value.int IntKind.i64
    have d61 : T.getD 61 undef = _ := hd ⟨22, .data⟩ (by simp) rfl _ rfl
    clear hag hd
    go_simp
    exact ⟨_, rfl, rfl⟩
  · refine RStepK.want rfl rfl rfl (by kernel_rfl) (fun v w h => h) fun T W L hag hL hJ hLs hd => ?_   -- 24: 63 := Op.load 46 (Operand.tmp 62)
    have d62 : T.getD 62 undef = _ := hd ⟨23, .data⟩ (by simp) rfl _ rfl
    have ev : (⟨T, []⟩ : Act).eval (.tmp 62) = .pointer (some ⟨g1, 0, none⟩) := d62
    clear hag hd
    refine wp_run (v := .agg (wrA yb)) (w' := W) ?_ ⟨_, rfl, rfl, hJ, World.grownBy.refl _ _⟩
    unfold execOp
    simp only [ev, Sem.run_bind, loadAt_wr W _ yb yb_ok.len (HL1.out.keep hJ), Result.andThen_ok, Sem.run_pure]
  · refine RStepK.want rfl rfl rfl (by kernel_rfl) (fun v w h => h) fun T W L hag hL hJ hLs hd => ?_   -- 25: 64 := Op.binOp BinOp.eql 46 (Operand.tmp 60) (Operand.tmp 63) 46
    have d60 : T.getD 60 undef = _ := hd ⟨21, .data⟩ (by simp) rfl _ rfl
    have d63 : T.getD 63 undef = _ := hd ⟨24, .data⟩ (by simp) rfl _ rfl
    clear hag hd
    refine wp_eqlW (.tmp 60) (.tmp 63) _ rfl yb yb d60 d63 yb_ok.len yb_ok.len yb_ok.b yb_ok.b ?_
    exact ⟨_, rfl, rfl, hJ, World.grownBy.refl _ _⟩
  · refine RStepK.of rfl fun T W L hag hL hJ hLs hd => ?_   -- 26: 65 := Op.pick (Operand.tmp 57) (Operand.tmp 64) (Operand.const (Value.bool f
    have d57 : T.getD 57 undef = _ := hd ⟨18, .data⟩ (by simp) rfl _ rfl
    have d64 : T.getD 64 undef = _ := hd ⟨25, .data⟩ (by simp) rfl _ rfl
    clear hag hd
    go_simp
    exact ⟨_, rfl, rfl⟩
  · refine RStepK.of rfl fun T W L hag hL hJ hLs hd => ?_   -- 27: 66 := Op.move (Operand.tmp 65)
    have d65 : T.getD 65 undef = _ := hd ⟨26, .data⟩ (by simp) rfl _ rfl
    clear hag hd
    go_simp
    exact ⟨_, rfl, rfl⟩
  · refine RStepK.want rfl rfl rfl (by kernel_rfl) (fun v w h => h) fun T W L hag hL hJ hLs hd => ?_   -- 28: 67 := Op.move (Operand.tmp 9)
    have e9 : T.getD 9 undef = _ := (agree_at hag 9 (by kernel_rfl)).trans rfl
    clear hag hd
    go_simp
    exact ⟨_, rfl, rfl⟩
  · refine RStepK.want rfl rfl rfl (by kernel_rfl) (fun v w h => h) fun T W L hag hL hJ hLs hd => ?_   -- 29: 68 := Op.unOp UnOp.not 4 (Operand.tmp 67)
    have d67 : T.getD 67 undef = _ := hd ⟨28, .data⟩ (by simp) rfl _ rfl
    clear hag hd
    go_simp
    exact ⟨_, rfl, rfl⟩
  · refine RStepK.of rfl fun T W L hag hL hJ hLs hd => ?_   -- 30: 69 := Op.pick (Operand.tmp 66) (Operand.tmp 68) (Operand.const (Value.bool f
    have d66 : T.getD 66 undef = _ := hd ⟨27, .data⟩ (by simp) rfl _ rfl
    have d68 : T.getD 68 undef = _ := hd ⟨29, .data⟩ (by simp) rfl _ rfl
    clear hag hd
    go_simp
    exact ⟨_, rfl, rfl⟩
  · refine RStepK.of rfl fun T W L hag hL hJ hLs hd => ?_   -- 31: 70 := Op.move (Operand.tmp 69)
    have d69 : T.getD 69 undef = _ := hd ⟨30, .data⟩ (by simp) rfl _ rfl
    clear hag hd
    go_simp
    exact ⟨_, rfl, rfl⟩
  · refine RStepK.want rfl rfl rfl (by kernel_rfl) (fun v w h => h) fun T W L hag hL hJ hLs hd => ?_   -- 32: 71 := Op.move (Operand.tmp 10)
    have e10 : T.getD 10 undef = _ := (agree_at hag 10 (by kernel_rfl)).trans rfl
    clear hag hd
    go_simp
    exact ⟨_, rfl, rfl⟩
  · refine RStepK.want rfl rfl rfl (by kernel_rfl) (fun v w h => h) fun T W L hag hL hJ hLs hd => ?_   -- 33: 72 := Op.call { callee := Callee.builtin Builtin.len, args := #[Operand.tmp 
    have d71 : T.getD 71 undef = _ := hd ⟨32, .data⟩ (by simp) rfl _ rfl
    clear hag hd
    go_simp
    exact ⟨_, rfl, rfl⟩
  · refine RStepK.want rfl rfl rfl (by kernel_rfl) (fun v w h => h) fun T W L hag hL hJ hLs hd => ?_   -- 34: 73 := Op.binOp BinOp.eql 3 (Operand.tmp 72) (Operand.const (Value.int IntKin
    have d72 : T.getD 72 undef = _ := hd ⟨33, .data⟩ (by simp) rfl _ rfl
    clear hag hd
    go_simp
    exact ⟨_, rfl, rfl⟩
  · refine RStepK.of rfl fun T W L hag hL hJ hLs hd => ?_   -- 35: 74 := Op.pick (Operand.tmp 70) (Operand.tmp 73) (Operand.const (Value.bool f
    have d70 : T.getD 70 undef = _ := hd ⟨31, .data⟩ (by simp) rfl _ rfl
    have d73 : T.getD 73 undef = _ := hd ⟨34, .data⟩ (by simp) rfl _ rfl
    clear hag hd
    go_simp
    exact ⟨_, rfl, rfl⟩
  · refine RStepK.of rfl fun T W L hag hL hJ hLs hd => ?_   -- 36: 75 := Op.move (Operand.tmp 74)
    have d74 : T.getD 74 undef = _ := hd ⟨35, .data⟩ (by simp) rfl _ rfl
    clear hag hd
    go_simp
    exact ⟨_, rfl, rfl⟩
  · refine RStepK.want rfl rfl rfl (by kernel_rfl) (fun v w h => h) fun T W L hag hL hJ hLs hd => ?_   -- 37: 76 := Op.move (Operand.tmp 12)
    have e12 : T.getD 12 undef = _ := (agree_at hag 12 (by kernel_rfl)).trans rfl
    clear hag hd
    go_simp
    exact ⟨_, rfl, rfl⟩
  · refine RStepK.of rfl fun T W L hag hL hJ hLs hd => ?_   -- 38: 77 := Op.pick (Operand.tmp 75) (Operand.tmp 76) (Operand.const (Value.bool f
    have d75 : T.getD 75 undef = _ := hd ⟨36, .data⟩ (by simp) rfl _ rfl
    have d76 : T.getD 76 undef = _ := hd ⟨37, .data⟩ (by simp) rfl _ rfl
    clear hag hd
    go_simp
    exact ⟨_, rfl, rfl⟩
  · refine RStepK.of rfl fun T W L hag hL hJ hLs hd => ?_   -- 39: 78 := Op.move (Operand.tmp 77)
    have d77 : T.getD 77 undef = _ := hd ⟨38, .data⟩ (by simp) rfl _ rfl
    clear hag hd
    go_simp
    exact ⟨_, rfl, rfl⟩
  · refine RStepK.want rfl rfl rfl (by kernel_rfl) (fun v w h => h) fun T W L hag hL hJ hLs hd => ?_   -- 40: 79 := Op.move (Operand.tmp 11)
    have e11 : T.getD 11 undef = _ := (agree_at hag 11 (by kernel_rfl)).trans rfl
    clear hag hd
    go_simp
    exact ⟨_, rfl, rfl⟩
  · refine RStepK.want rfl rfl rfl (by kernel_rfl) (fun v w h => h) fun T W L hag hL hJ hLs hd => ?_   -- 41: 80 := Op.binOp BinOp.eql 22 (Operand.tmp 79) (Operand.const (Value.int IntKi
    have d79 : T.getD 79 undef = _ := hd ⟨40, .data⟩ (by simp) rfl _ rfl
    clear hag hd
    go_simp
    exact ⟨_, rfl, rfl⟩
  · refine RStepK.of rfl fun T W L hag hL hJ hLs hd => ?_   -- 42: 81 := Op.pick (Operand.tmp 78) (Operand.tmp 80) (Operand.const (Value.bool f
    have d78 : T.getD 78 undef = _ := hd ⟨39, .data⟩ (by simp) rfl _ rfl
    have d80 : T.getD 80 undef = _ := hd ⟨41, .data⟩ (by simp) rfl _ rfl
    clear hag hd
    go_simp
    exact ⟨_, rfl, rfl⟩
  · refine RLastK.of rfl fun T W L hag hLs hL hJ hd => ?_   -- 43: 0 := Op.assign (Operand.tmp 81)
    have d81 : T.getD 81 undef = _ := hd 42 _ (by simp) rfl
    obtain ⟨f, hf, hT⟩ := agree_fn hag
    have h81 := (hf 81).trans d81
    have HJ := Lib.hid hJ
    clear hag hd d81 hJ hf
    rw [hT]
    clear hT
    simp only [List.pop_toArray, List.dropLast_cons_cons, List.dropLast_singleton, List.filterMap_cons, List.filterMap_nil, List.foldl_cons, List.foldl_nil, List.setIfInBounds_toArray, List.set_cons_succ, List.set_cons_zero, h81]
    go_wp2_with fail
    go_ret
    exact ⟨rfl, by have h := BEL.out.trans (HJ.out.mono (by rw [← HG.out]; exact BEL.out.size)); rw [← HG.out] at h; exact h⟩
end Go.Proofs.Ytflldlhfeiamnaa
