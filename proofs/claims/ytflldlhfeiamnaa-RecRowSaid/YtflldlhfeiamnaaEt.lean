/- Contracts: same (texts), the reference's SameWrites. -/
import Derived.Test.YtflldlhfeiamnaaEs
namespace Go.Proofs.Ytflldlhfeiamnaa
open Go.ChangeShapes Go.WideShapes Go.ChangeAt Go.RowKit
set_option linter.unusedVariables false
instance : DecidableEq Wr := fun x y =>
  if h : x.t = y.t ∧ x.k = y.k ∧ x.bs = y.bs then isTrue (by cases x; cases y; simp at h; obtain ⟨rfl, rfl, rfl⟩ := h; rfl) else isFalse (fun e => h (by subst e; exact ⟨rfl, rfl, rfl⟩))
theorem eqlB (d : Nat) (k j : Int) (bs cs : List Int) (hb : bs.length = 56) (hc : cs.length = 56) (hB : AllB bs) (hC : AllB cs) (w : World) :
    (Op.equalIn (d + 3) 44 (.agg (blkA k bs)) (.agg (blkA j cs))).run Try.prog w = .ok (decide (k = j ∧ bs = cs)) w := by
  have hS : Try.prog.underlying 44 = some (.struct (Try.prog.fieldsOf 44)) := by kernel_rfl
  have hp : Try.prog.stoodInHeld 44 = false := by kernel_rfl
  have a3 := Try.isAgg3
  have a22 := Try.isAgg42
  have z22 := Try.sizeOf42
  rw [show d + 3 = (d + 2) + 1 from rfl, run_equalIn_struct w (d + 2) 44 _ _ hS hp]
  clear hS hp
  have p1 : ∀ (k : Int) (bs : List Int) w, bs.length = 56 → (part 42 (blkA k bs) 1).run Try.prog w = .ok (.agg (Bs bs).toArray) w := fun k bs w h => by
    have e : (blkA k bs).extract 1 57 = (Bs bs).toArray := by
      have hl : (Bs bs).length = 56 := by rw [Bs_length, h]
      unfold blkA blkL
      simp [← hl]
    simp [part, a22, z22, e, blkA_size h]
  have p0 : ∀ (k : Int) (bs : List Int) w, (part 3 (blkA k bs) 0).run Try.prog w = .ok (.int .i64 k) w := fun k bs w => by
    simp [part, a3, blkA, blkL]
  have he : ∀ w, (Op.equalIn (d + 2) 42 (.agg (Bs bs).toArray) (.agg (Bs cs).toArray)).run Try.prog w = .ok (decide (bs = cs)) w := fun w => by
    have h := run_equalIn_bytes (P := Try.prog) w d 42 5 56 Try.underlying42 Try.underlying5 (fun w => Try.sizeOf5 w) (u8s bs) (u8s cs) (by unfold u8s; simp [hb]) (by unfold u8s; simp [hc])
    rw [← Bs_cell hB, ← Bs_cell hC] at h
    rw [h]
    congr 1
    rw [Bool.eq_iff_iff]
    simp only [beq_iff_eq, decide_eq_true_eq]
    exact ⟨map_byte_inj hB hC, fun h => by rw [h]⟩
  have hf : (Try.prog.fieldsOf 44).toList.map (fun f => (f.name, f.type, f.offset)) = [("Kind", 3, 0), ("Body", 42, 1)] := by kernel_rfl
  revert hf
  generalize (Try.prog.fieldsOf 44).toList = fs
  intro hf
  obtain ⟨f0, f1, rfl⟩ := two_of (show fs.length = 2 by simpa using congrArg List.length hf)
  simp only [List.map_cons, List.map_nil, List.cons.injEq, Prod.mk.injEq, and_true] at hf
  obtain ⟨⟨n0, t0, o0⟩, ⟨n1, t1, o1⟩⟩ := hf
  have q0 : ∀ (k : Int) (bs : List Int) w, (part f0.type (blkA k bs) f0.offset).run Try.prog w = .ok (.int .i64 k) w := fun k bs w => by rw [t0, o0]; exact p0 k bs w
  have q1 : ∀ (k : Int) (bs : List Int) w, bs.length = 56 → (part f1.type (blkA k bs) f1.offset).run Try.prog w = .ok (.agg (Bs bs).toArray) w := fun k bs w h => by rw [t1, o1]; exact p1 k bs w h
  have e0 : ∀ w, (Op.equalIn (d + 2) f0.type (.int .i64 k) (.int .i64 j)).run Try.prog w = .ok (k == j) w := fun w => by
    rw [t0]; exact run_equalIn_int (P := Try.prog) w (d + 1) 3 .i64 .i64 k j Try.underlying3
  have e1 : ∀ w, (Op.equalIn (d + 2) f1.type (.agg (Bs bs).toArray) (.agg (Bs cs).toArray)).run Try.prog w = .ok (decide (bs = cs)) w := fun w => by
    rw [t1]; exact he w
  have m0 : f0.name ≠ "_" := by rw [n0]; decide
  have m1 : f1.name ≠ "_" := by rw [n1]; decide
  clear p0 p1 he n0 t0 o0 n1 t1 o1 a3 a22 z22
  simp only [Op.eqFields, if_pos m0, if_pos m1, Sem.run_bind, q0, Result.andThen_ok, e0]
  by_cases hk : k = j
  · subst hk
    by_cases hq : bs = cs
    · subst hq; simp [e1, Sem.run_bind, q1 _ _ _ hb]
    · simp [e1, Sem.run_bind, q1 _ _ _ hb, q1 _ _ _ hc, hq]
  · simp [hk]
theorem eqlW (x y : Wr) (hb : x.bs.length = 56) (hc : y.bs.length = 56) (hB : AllB x.bs) (hC : AllB y.bs) (w : World) :
    (Op.equalIn 10000 46 (.agg (wrA x)) (.agg (wrA y))).run Try.prog w = .ok (decide (x = y)) w := by
  have hS : Try.prog.underlying 46 = some (.struct (Try.prog.fieldsOf 46)) := by kernel_rfl
  have hp : Try.prog.stoodInHeld 46 = false := by kernel_rfl
  have a3 := Try.isAgg3
  have a24 := Try.isAgg44
  have z24 := Try.sizeOf44
  rw [show (10000 : Nat) = 9999 + 1 from rfl, run_equalIn_struct w 9999 46 _ _ hS hp]
  clear hS hp
  have p1 : ∀ (x : Wr) w, x.bs.length = 56 → (part 44 (wrA x) 1).run Try.prog w = .ok (.agg (blkA x.k x.bs)) w := fun x w h => by
    have e : (wrA x).extract 1 58 = blkA x.k x.bs := by
      have hl : (blkL x.k x.bs).length = 57 := by unfold blkL; simp [Bs_length, h]
      unfold wrA wrL blkA
      simp [← hl]
    simp [part, a24, z24, e, wrA_size h]
  have p0 : ∀ (x : Wr) w, (part 3 (wrA x) 0).run Try.prog w = .ok (.int .i64 x.t) w := fun x w => by
    simp [part, a3, wrA, wrL]
  have he : ∀ w, (Op.equalIn 9999 44 (.agg (blkA x.k x.bs)) (.agg (blkA y.k y.bs))).run Try.prog w = .ok (decide (x.k = y.k ∧ x.bs = y.bs)) w := fun w => eqlB 9996 _ _ _ _ hb hc hB hC w
  have hf : (Try.prog.fieldsOf 46).toList.map (fun f => (f.name, f.type, f.offset)) = [("At", 3, 0), ("B", 44, 1)] := by kernel_rfl
  revert hf
  generalize (Try.prog.fieldsOf 46).toList = fs
  intro hf
  obtain ⟨f0, f1, rfl⟩ := two_of (show fs.length = 2 by simpa using congrArg List.length hf)
  simp only [List.map_cons, List.map_nil, List.cons.injEq, Prod.mk.injEq, and_true] at hf
  obtain ⟨⟨n0, t0, o0⟩, ⟨n1, t1, o1⟩⟩ := hf
  have q0 : ∀ (x : Wr) w, (part f0.type (wrA x) f0.offset).run Try.prog w = .ok (.int .i64 x.t) w := fun x w => by rw [t0, o0]; exact p0 x w
  have q1 : ∀ (x : Wr) w, x.bs.length = 56 → (part f1.type (wrA x) f1.offset).run Try.prog w = .ok (.agg (blkA x.k x.bs)) w := fun x w h => by rw [t1, o1]; exact p1 x w h
  have e0 : ∀ w, (Op.equalIn 9999 f0.type (.int .i64 x.t) (.int .i64 y.t)).run Try.prog w = .ok (x.t == y.t) w := fun w => by
    rw [t0]; exact run_equalIn_int (P := Try.prog) w 9998 3 .i64 .i64 x.t y.t Try.underlying3
  have e1 : ∀ w, (Op.equalIn 9999 f1.type (.agg (blkA x.k x.bs)) (.agg (blkA y.k y.bs))).run Try.prog w = .ok (decide (x.k = y.k ∧ x.bs = y.bs)) w := fun w => by
    rw [t1]; exact he w
  have m0 : f0.name ≠ "_" := by rw [n0]; decide
  have m1 : f1.name ≠ "_" := by rw [n1]; decide
  clear p0 p1 he n0 t0 o0 n1 t1 o1 a3 a24 z24
  have hd : decide (x = y) = (decide (x.t = y.t) && decide (x.k = y.k ∧ x.bs = y.bs)) := by
    rw [Bool.eq_iff_iff, Bool.and_eq_true, decide_eq_true_eq, decide_eq_true_eq, decide_eq_true_eq]
    constructor
    · rintro rfl; exact ⟨rfl, rfl, rfl⟩
    · rintro ⟨h1, h2, h3⟩; cases x; cases y; simp at h1 h2 h3; subst h1; subst h2; subst h3; rfl
  rw [hd]
  simp only [Op.eqFields, if_pos m0, if_pos m1, Sem.run_bind, q0, Result.andThen_ok, e0]
  by_cases hk : x.t = y.t
  · by_cases hq : x.k = y.k ∧ x.bs = y.bs
    · have e2 : ∀ w, _ = Result.ok true w := fun w => (e1 w).trans (by rw [decide_eq_true hq])
      rw [decide_eq_true hq]
      simp [e2, Sem.run_bind, q1 _ _ hb, q1 _ _ hc, hk]
    · have e2 : ∀ w, _ = Result.ok false w := fun w => (e1 w).trans (by rw [decide_eq_false hq])
      rw [decide_eq_false hq]
      simp [e2, Sem.run_bind, q1 _ _ hb, q1 _ _ hc, hk]
  · simp [hk]
theorem guardW : Try.prog.eqGuardType Try.prog.depth 46 = false := by kernel_rfl
theorem wp_neqW {o : Oper} {a : Act} {w : World} {K : Act → World → Prop} {Q : Exit → Act → World → Prop} (x y : Operand) (t : TypeId) (ho : o.op = .binOp .neq 46 x y t) (u v : Wr) (hx : a.eval x = .agg (wrA u)) (hy : a.eval y = .agg (wrA v)) (hb : u.bs.length = 56) (hc : v.bs.length = 56) (hB : AllB u.bs) (hC : AllB v.bs)
    (h : K (a.put o.dst (.bool (!decide (u = v)))) w) : o.wp Try.prog a w K Q := by
  have hg := run_eqGuard_agg (P := Try.prog) w .neq 46 x y (wrA u) (wrA v) guardW
  have hr := run_neq_struct (P := Try.prog) w 46 (wrA u) (wrA v)
  rw [eqlW u v hb hc hB hC w] at hr
  unfold Oper.wp execOp
  simp only [ho, hx, hy, Sem.run_bind, hg, hr, Result.andThen_ok]
  exact h
set_option maxRecDepth 100000 in
set_option maxHeartbeats 1600000 in
theorem same_any (A B : Option Addr) (ls ms : List (List Int)) (n m c d : Nat) (w : World) (hn : ls.length = n) (hm : ms.length = m) (hnc : n ≤ 9223372036854775807) (hA : TxOk ls) (hB : TxOk ms) (hx : Tx w A ls) (hy : Tx w B ms) :
    Calls Try.prog 16 #[.slice A n c, .slice B m d] w fun e w' => e = .returned (.bool (decide (ls = ms))) ∧ Below w.heap.size w w' := by
  have HX := Lib.hid hx
  have HY := Lib.hid hy
  have HN := Lib.hid hn
  have HM := Lib.hid hm
  have HA := Lib.hid hA
  have HB := Lib.hid hB
  clear hn hm hA hB hx hy
  go_enter Try.func16, Try.ntmps16
  by_cases hl : n = m
  · subst hl
    go_wp2
    go_loopw [5] (fun i wr => ∃ k : Nat, i = .int .i64 k ∧ k ≤ n ∧ ls.take k = ms.take k ∧ Below w.heap.size w wr) (fun i _ => n - (intOf i).toNat)
    case atStart => exact ⟨0, rfl, Nat.zero_le _, rfl, Below.refl _ _⟩
    case round =>
      obtain ⟨k, rfl, hk, hpre, hbq⟩ := hrel
      have HPRE := Lib.hid hpre
      clear hpre
      obtain ⟨w6, rfl⟩ : ∃ w6, w6 = wr := ⟨wr, rfl⟩
      by_cases hlt : k < n
      · obtain ⟨x, hx⟩ : ∃ x, ls[k]? = some x := ⟨_, List.getElem?_eq_getElem (by rw [HN.out]; exact hlt)⟩
        obtain ⟨y, hy⟩ : ∃ y, ms[k]? = some y := ⟨_, List.getElem?_eq_getElem (by rw [HM.out]; exact hlt)⟩
        obtain ⟨a2, X1, dx1, rfl, cx, _, _, byx⟩ := (HX.out.keep hbq) k x hx
        obtain ⟨a3, Y1, dy1, rfl, cy, _, _, byy⟩ := (HY.out.keep hbq) k y hy
        have k1 := fun q => (show (w6.drewN q).cell? _ = _ from cx)
        have k2 := fun q => (show (w6.drewN q).cell? _ = _ from cy)
        have s1 := fun q => (conv_any (c := dx1) (byx.drew q) rfl : _ = _)
        have s2 := fun q => (conv_any (c := dy1) (byy.drew q) rfl : _ = _)
        have HSB := Lib.hid (str_beq (HA.out x (List.mem_of_getElem? hx)) (HB.out y (List.mem_of_getElem? hy)))
        have H1 := Lib.hid hx
        have H2 := Lib.hid hy
        have hj1 : (k : Int) < n := by omega
        have hj0 : (0 : Int) ≤ k := by omega
        clear cx cy byx byy hx hy
        by_cases hq : x = y
        · have HQ := Lib.hid hq
          have hsq := HSB.out
          rw [decide_eq_true hq] at hsq
          clear HSB hq
          generalize strOfNums x = z1 at *
          generalize strOfNums y = z2 at *
          generalize x.length = xl at *
          generalize y.length = yl at *
          go_upto_region 6 with fail
          go_quiet (fail)
          have hbq2 := keepB hbq (bdn (Below.refl w6.heap.size w6) nq)
          clear k1 k2 s1 s2
          generalize w6.drewN nq = w7 at *
          go_wp2
          go_roundw
          case rel => exact ⟨k + 1, by go_num, by omega, by rw [take_snoc' H1.out, take_snoc' H2.out, HPRE.out, HQ.out], hbq2⟩
          case measure => simp [intOf]; omega
        · have HNO : Hid (¬ ls = ms) := fun e => hq (by have h1 := H1.out; rw [e, H2.out] at h1; injection h1 with h1; exact h1.symm)
          have hsq := HSB.out
          rw [decide_eq_false hq] at hsq
          clear HSB hq
          generalize strOfNums x = z1 at *
          generalize strOfNums y = z2 at *
          generalize x.length = xl at *
          generalize y.length = yl at *
          go_upto_region 6 with fail
          go_quiet (fail)
          have hbq2 := keepB hbq (bdn (Below.refl w6.heap.size w6) nq)
          clear k1 k2 s1 s2
          generalize w6.drewN nq = w7 at *
          go_wp2
          go_ret
          exact ⟨ret_bool (decide_eq_false HNO.out).symm, hbq2⟩
      · have HYES : Hid (ls = ms) := by
          have h := HPRE.out
          rw [List.take_of_length_le (by rw [HN.out]; omega), List.take_of_length_le (by rw [HM.out]; omega)] at h
          exact h
        go_wp2
        go_ret
        exact ⟨ret_bool (decide_eq_true HYES.out).symm, hbq⟩
  · have HNO : Hid (¬ ls = ms) := fun e => hl (by rw [← HN.out, ← HM.out, e])
    go_wp2
    go_ret
    exact ⟨ret_bool (decide_eq_false HNO.out).symm, Below.refl _ _⟩
def VSW (a b : Addr) (n c d k : Nat) (x y : Wr) (i : Nat) (v : Value) (w : World) : Prop :=
  match i with
  | 0 => v = .slice (some a) n c
  | 1 | 5 => v = .int .i64 k
  | 2 => v = .pointer (some (a.add (k * 58)))
  | 3 => v = .agg (wrA x)
  | 4 => v = .slice (some b) n d
  | 6 => v = .pointer (some (b.add (k * 58)))
  | 7 => v = .agg (wrA y)
  | _ => True
theorem VSW.on {a b : Addr} {n c d k : Nat} {x y : Wr} {j : Nat} {v : Value} {w w' : World} (h : VSW a b n c d k x y j v w) : VSW a b n c d k x y j v w' := by
  unfold VSW at *
  split <;> first | exact h | trivial
set_option maxRecDepth 100000 in
set_option maxHeartbeats 3200000 in
theorem samew_any (A B : Option Addr) (l r : List Wr) (n m c d : Nat) (w : World) (hn : l.length = n) (hm : r.length = m) (hnc : n ≤ 9223372036854775807) (hA : WrsOk l) (hB : WrsOk r) (hx : Wrs w A l) (hy : Wrs w B r) :
    Calls Try.prog 17 #[.slice A n c, .slice B m d] w fun e w' => e = .returned (.bool (decide (l = r))) ∧ Below w.heap.size w w' := by
  have HX := Lib.hid hx
  have HY := Lib.hid hy
  have HN := Lib.hid hn
  have HM := Lib.hid hm
  have HA := Lib.hid hA
  have HB := Lib.hid hB
  clear hn hm hA hB hx hy
  go_enter Try.func17, Try.ntmps17
  by_cases hl : n = m
  · subst hl
    go_wp2
    go_loopw [5] (fun i wr => ∃ k : Nat, i = .int .i64 k ∧ k ≤ n ∧ l.take k = r.take k ∧ Below w.heap.size w wr) (fun i _ => n - (intOf i).toNat)
    case atStart => exact ⟨0, rfl, Nat.zero_le _, rfl, Below.refl _ _⟩
    case round =>
      obtain ⟨k, rfl, hk, hpre, hbq⟩ := hrel
      have HPRE := Lib.hid hpre
      clear hpre
      obtain ⟨w6, rfl⟩ : ∃ w6, w6 = wr := ⟨wr, rfl⟩
      by_cases hlt : k < n
      · obtain ⟨x, hx⟩ : ∃ x, l[k]? = some x := ⟨_, List.getElem?_eq_getElem (by rw [HN.out]; exact hlt)⟩
        obtain ⟨y, hy⟩ : ∃ y, r[k]? = some y := ⟨_, List.getElem?_eq_getElem (by rw [HM.out]; exact hlt)⟩
        obtain ⟨a, rfl, hax⟩ := (HX.out.keep hbq) k x hx
        obtain ⟨b, rfl, hay⟩ := (HY.out.keep hbq) k y hy
        have hxo := HA.out x (List.mem_of_getElem? hx)
        have hyo := HB.out y (List.mem_of_getElem? hy)
        have H5x := Lib.hid hxo.len
        have H5y := Lib.hid hyo.len
        have HBx := Lib.hid hxo.b
        have HBy := Lib.hid hyo.b
        have HATx := Lib.hid hax
        have HATy := Lib.hid hay
        have H1 := Lib.hid hx
        have H2 := Lib.hid hy
        have hj1 : (k : Int) < n := by omega
        have hj0 : (0 : Int) ≤ k := by omega
        obtain ⟨q, HE⟩ : ∃ q, Hid (decide (x = y) = q) := ⟨_, rfl⟩
        clear hax hay hxo hyo hx hy
        go_upto_region 6 with fail
        have grefl : ∀ W : World, W.grownBy W none := fun W => World.grownBy.refl W _
        refine wp_region_rg (VSW a b n c d k x y) (Below w6.heap.size w6) (fun w w' => w.grownBy w' none) (by kernel_rfl) (by kernel_rfl) (fun j v w w' h hg => h.on) ((Below.refl _ _).drew) ?_
        simp only [RAll]
        refine ⟨?_, ?_, ?_, ?_, ?_, ?_, ?_, ?_, ?_⟩
        · refine RStep.of rfl fun T W hag hJ hd => ?_   -- 0: 17 := Op.move (Operand.tmp 0)
          have e0 : T.getD 0 undef = _ := (agree_at hag 0 (by kernel_rfl)).trans rfl
          clear hag hd
          go_simp
          exact ⟨_, rfl, rfl⟩
        · refine RStep.of rfl fun T W hag hJ hd => ?_   -- 1: 18 := Op.move (Operand.tmp 5)
          have e5 : T.getD 5 undef = _ := (agree_at hag 5 (by kernel_rfl)).trans rfl
          clear hag hd
          go_simp
          exact ⟨_, rfl, rfl⟩
        · refine RStep.of rfl fun T W hag hJ hd => ?_   -- 2: 19 := Op.indexAddr 23 (Operand.tmp 17) (Operand.tmp 18)
          have d17 : T.getD 17 undef = _ := hd ⟨0, .data⟩ (by simp) rfl _ rfl
          have d18 : T.getD 18 undef = _ := hd ⟨1, .data⟩ (by simp) rfl _ rfl
          clear hag hd
          go_simp
          exact ⟨_, rfl, rfl⟩
        · refine RStep.of rfl fun T W hag hJ hd => ?_   -- 3: 20 := Op.load 46 (Operand.tmp 19)
          have d19 : T.getD 19 undef = _ := hd ⟨2, .data⟩ (by simp) rfl _ rfl
          have ev : (⟨T, []⟩ : Act).eval (.tmp 19) = .pointer (some (a.add (k * 58))) := d19
          clear hag hd
          refine wp_run (v := .agg (wrA x)) (w' := W) ?_ ⟨_, rfl, rfl, hJ, World.grownBy.refl _ _⟩
          unfold execOp
          simp only [ev, Sem.run_bind, loadAt_wr W _ x H5x.out (HATx.out.keep hJ), Result.andThen_ok, Sem.run_pure]
        · refine RStep.of rfl fun T W hag hJ hd => ?_   -- 4: 21 := Op.move (Operand.tmp 1)
          have e1 : T.getD 1 undef = _ := (agree_at hag 1 (by kernel_rfl)).trans rfl
          clear hag hd
          go_simp
          exact ⟨_, rfl, rfl⟩
        · refine RStep.of rfl fun T W hag hJ hd => ?_   -- 5: 22 := Op.move (Operand.tmp 5)
          have e5 : T.getD 5 undef = _ := (agree_at hag 5 (by kernel_rfl)).trans rfl
          clear hag hd
          go_simp
          exact ⟨_, rfl, rfl⟩
        · refine RStep.of rfl fun T W hag hJ hd => ?_   -- 6: 23 := Op.indexAddr 23 (Operand.tmp 21) (Operand.tmp 22)
          have d21 : T.getD 21 undef = _ := hd ⟨4, .data⟩ (by simp) rfl _ rfl
          have d22 : T.getD 22 undef = _ := hd ⟨5, .data⟩ (by simp) rfl _ rfl
          clear hag hd
          go_simp
          exact ⟨_, rfl, rfl⟩
        · refine RStep.of rfl fun T W hag hJ hd => ?_   -- 7: 24 := Op.load 46 (Operand.tmp 23)
          have d23 : T.getD 23 undef = _ := hd ⟨6, .data⟩ (by simp) rfl _ rfl
          have ev : (⟨T, []⟩ : Act).eval (.tmp 23) = .pointer (some (b.add (k * 58))) := d23
          clear hag hd
          refine wp_run (v := .agg (wrA y)) (w' := W) ?_ ⟨_, rfl, rfl, hJ, World.grownBy.refl _ _⟩
          unfold execOp
          simp only [ev, Sem.run_bind, loadAt_wr W _ y H5y.out (HATy.out.keep hJ), Result.andThen_ok, Sem.run_pure]
        · refine RLast.of rfl fun T W hag hJ hd => ?_   -- 8: 25 := Op.binOp BinOp.neq 46 (Operand.tmp 20) (Operand.tmp 24) 46
          have d20 : T.getD 20 undef = _ := hd 3 _ (by simp) rfl
          have d24 : T.getD 24 undef = _ := hd 7 _ (by simp) rfl
          obtain ⟨f, hf, hT⟩ := agree_fn hag
          have h20 := (hf 20).trans d20
          have h24 := (hf 24).trans d24
          have HJ := Lib.hid hJ
          clear hag hd d20 d24 hJ hf
          rw [hT]
          clear hT
          simp only [List.filterMap_cons, List.filterMap_nil, List.foldl_cons, List.foldl_nil, List.setIfInBounds_toArray, List.set_cons_succ, List.set_cons_zero, h20, h24]
          refine wp_neqW (.tmp 20) (.tmp 24) _ rfl x y rfl rfl H5x.out H5y.out HBx.out HBy.out ?_
          rw [HE.out]
          cases q with
          | true =>
            have HQ : Hid (x = y) := (show x = y from of_decide_eq_true HE.out)
            go_wp2_with fail
            go_roundw
            case rel => exact ⟨k + 1, by go_num, by omega, by rw [take_snoc' H1.out, take_snoc' H2.out, HPRE.out, HQ.out], keepB hbq HJ.out⟩
            case measure => simp [intOf]; omega
          | false =>
            have HNO : Hid (¬ l = r) := fun e => of_decide_eq_false HE.out (by have h1 := H1.out; rw [e, H2.out] at h1; injection h1 with h1; exact h1.symm)
            go_wp2_with fail
            go_ret
            exact ⟨ret_bool (decide_eq_false HNO.out).symm, keepB hbq HJ.out⟩
      · have HYES : Hid (l = r) := by
          have h := HPRE.out
          rw [List.take_of_length_le (by rw [HN.out]; omega), List.take_of_length_le (by rw [HM.out]; omega)] at h
          exact h
        go_wp2
        go_ret
        exact ⟨ret_bool (decide_eq_true HYES.out).symm, hbq⟩
  · have HNO : Hid (¬ l = r) := fun e => hl (by rw [← HN.out, ← HM.out, e])
    go_wp2
    go_ret
    exact ⟨ret_bool (decide_eq_false HNO.out).symm, Below.refl _ _⟩
end Go.Proofs.Ytflldlhfeiamnaa
