/- The law InoBack answers true for every input, and leaves its arguments alone. No condition. -/
import Derived.Test.YtcnpepfboapljaaRows
import Derived.Test.YtcnpepfboapljaaUj
import Derived.WalkKit
import Derived.ProofKit
import Derived.OpenShut
namespace Go.Proofs.Ytcnpepfboapljaa.inoBack
open Go.ChangeShapes Go.WideShapes Go.ChangeAt Go.RowKit Go.Joins
set_option linter.unusedVariables false
theorem own : ownKnob Try.prog.godebug = none := by kernel_rfl
theorem laidOut : laidOutB Try.prog = true := by kernel_rfl
structure JLB (w : World) (p q9 q10 q12 : Nat) (l a g xl xa xg tl ta tg : Int) (M : List Int) (W : World) : Prop where
  bel : Below p w W
  sz : p < W.heap.size
  arr : W.heap[p]? = some (.cells (Bs M).toArray 32 (0, 0))
  a9 : IdAt W q9 l a g
  a10 : IdAt W q10 xl xa xg
  a12 : IdAt W q12 tl ta tg
theorem JLB.next {w : World} {p q9 q10 q12 : Nat} {l a g xl xa xg tl ta tg : Int} {M : List Int} {W W' : World} (h : JLB w p q9 q10 q12 l a g xl xa xg tl ta tg M W) (hb : Below W.heap.size W W') : JLB w p q9 q10 q12 l a g xl xa xg tl ta tg M W' :=
  ⟨h.bel.trans (hb.mono (Nat.le_of_lt h.sz)), Nat.lt_of_lt_of_le h.sz hb.size, kb hb h.arr, h.a9.below hb, h.a10.below hb, h.a12.below hb⟩
theorem JLB.byt {w : World} {p q9 q10 q12 : Nat} {l a g xl xa xg tl ta tg : Int} {M : List Int} {W : World} (h : JLB w p q9 q10 q12 l a g xl xa xg tl ta tg M W) : Byt W (some ⟨p, 0, none⟩) M := byt_blk h.arr (by simp)
def VB11 (p : Nat) (l a g tl ta tg : Int) (M : List Int) (i : Nat) (v : Value) (W : World) : Prop :=
  match i with
  | 0 | 2 | 3 | 4 | 5 | 10 | 11 | 12 | 13 | 14 | 22 | 23 | 24 | 25 | 26 | 27 | 31 | 32 => v = .bool true
  | 1 => v = .int .u32 g
  | 6 | 7 | 15 | 16 => v = .bool false
  | 8 | 9 => v = .agg (idA l a g)
  | 17 => v = .agg (idA tl ta tg)
  | 19 | 21 => v = .string (strOfNums M)
  | 20 => v = .slice (some ⟨p, 0, none⟩) 7 7
  | 18 => W.ownsRow p 5 1 v M.length (Bs M)
  | _ => True
theorem VB11.on {p : Nat} {l a g tl ta tg : Int} {M : List Int} {j : Nat} {v : Value} {w w' : World} (h : VB11 p l a g tl ta tg M j v w) (hs : w.grownBy w' none) : VB11 p l a g tl ta tg M j v w' := by
  unfold VB11 at *
  split <;> first | exact h | trivial | exact World.ownsRow.kept h hs (by cases v.ownBlock <;> simp)
def VB10 (p : Nat) (l a g tl ta tg : Int) (M : List Int) (i : Nat) (v : Value) (W : World) : Prop :=
  match i with
  | 0 | 2 | 3 | 4 | 5 | 10 | 11 | 12 | 13 | 15 | 16 | 23 | 24 | 25 | 30 | 31 | 32 => v = .bool true
  | 1 => v = .int .u32 g
  | 6 | 7 | 14 | 26 | 27 => v = .bool false
  | 8 | 9 => v = .agg (idA l a g)
  | 28 | 29 => v = .agg (idA 0 0 0)
  | _ => True
theorem VB10.on {p : Nat} {l a g tl ta tg : Int} {M : List Int} {j : Nat} {v : Value} {w w' : World} (h : VB10 p l a g tl ta tg M j v w) (hs : w.grownBy w' none) : VB10 p l a g tl ta tg M j v w' := by
  unfold VB10 at *
  split <;> first | exact h | trivial | exact World.ownsRow.kept h hs (by cases v.ownBlock <;> simp)
def VB01 (p : Nat) (l a g tl ta tg : Int) (M : List Int) (i : Nat) (v : Value) (W : World) : Prop :=
  match i with
  | 0 | 2 | 5 | 15 | 16 => v = .bool false
  | 1 => v = .int .u32 g
  | 3 | 4 | 6 | 7 | 11 | 12 | 13 | 14 | 22 | 23 | 24 | 25 | 26 | 27 | 31 | 32 => v = .bool true
  | 17 => v = .agg (idA tl ta tg)
  | 19 | 21 => v = .string (strOfNums M)
  | 20 => v = .slice (some ⟨p, 0, none⟩) 7 7
  | 18 => W.ownsRow p 5 1 v M.length (Bs M)
  | _ => True
theorem VB01.on {p : Nat} {l a g tl ta tg : Int} {M : List Int} {j : Nat} {v : Value} {w w' : World} (h : VB01 p l a g tl ta tg M j v w) (hs : w.grownBy w' none) : VB01 p l a g tl ta tg M j v w' := by
  unfold VB01 at *
  split <;> first | exact h | trivial | exact World.ownsRow.kept h hs (by cases v.ownBlock <;> simp)
def VB00 (p : Nat) (l a g tl ta tg : Int) (M : List Int) (i : Nat) (v : Value) (W : World) : Prop :=
  match i with
  | 0 | 2 | 5 | 14 | 26 | 27 => v = .bool false
  | 1 => v = .int .u32 g
  | 3 | 4 | 6 | 7 | 11 | 12 | 13 | 15 | 16 | 23 | 24 | 25 | 30 | 31 | 32 => v = .bool true
  | 28 | 29 => v = .agg (idA 0 0 0)
  | _ => True
theorem VB00.on {p : Nat} {l a g tl ta tg : Int} {M : List Int} {j : Nat} {v : Value} {w w' : World} (h : VB00 p l a g tl ta tg M j v w) (hs : w.grownBy w' none) : VB00 p l a g tl ta tg M j v w' := by
  unfold VB00 at *
  split <;> first | exact h | trivial | exact World.ownsRow.kept h hs (by cases v.ownBlock <;> simp)
set_option maxRecDepth 100000 in
set_option maxHeartbeats 6400000 in
theorem walk (x0 : Int) (x1 : Int) (x2 : Int) (g3 : List Int) (w : World) (hx0 : 0 ≤ x0 ∧ x0 ≤ 255) (hx1 : 0 ≤ x1 ∧ x1 ≤ 255) (hx2 : 0 ≤ x2 ∧ x2 ≤ 4294967295) (hL3 : g3.length = 7) (hB3 : AllB g3) :
    Calls Try.prog 4 #[.int .u8 x0, .int .u8 x1, .int .u32 x2, .agg (Bs g3).toArray] w fun e w' => e = .returned (.bool true) ∧ Below w.heap.size w w' := by
  have HA := Lib.hid (heap_alloc_new w (Obj.cells (Bs g3).toArray 32))
  have HB0 := Lib.hid (bel1 (w := w) (Obj.cells (Bs g3).toArray 32))
  have e1 : x0.tmod 8 = x0 % 8 := Int.tmod_eq_emod_of_nonneg (by omega)
  have e2 : x1.tmod 199 = x1 % 199 := Int.tmod_eq_emod_of_nonneg (by omega)
  have u1 : IntKind.u8.wrap (x0 % 8) = x0 % 8 := IntWalk.u8_in _ (by omega)
  have v1 : IntKind.i64.wrap (x0 % 8) = x0 % 8 := IntWalk.i64_in _ (by omega)
  have v2 : IntKind.i64.wrap x1 = x1 := IntWalk.i64_in _ (by omega)
  have v3 : IntKind.i64.wrap (x1 % 199) = x1 % 199 := IntWalk.i64_in _ (by omega)
  have v4 : IntKind.i64.wrap (1 + x1 % 199) = 1 + x1 % 199 := IntWalk.i64_in _ (by omega)
  have hl : 0 ≤ x0 % 8 ∧ x0 % 8 < 8 := by omega
  have ha : 1 ≤ 1 + x1 % 199 ∧ 1 + x1 % 199 < 200 := by omega
  generalize x0 % 8 = l at *
  generalize x1 % 199 = a1 at *
  obtain ⟨a, hae⟩ : ∃ a, a = 1 + a1 := ⟨_, rfl⟩
  have v5 : IntKind.i64.wrap (1 + a1) = a := by rw [v4, hae]
  rw [← hae] at ha
  clear v4 hae
  obtain ⟨g, rfl⟩ : ∃ g, g = x2 := ⟨_, rfl⟩
  have hu : u32 g := ⟨by omega, by omega⟩
  have HP1 := Lib.hid (fun W => put2_any l a g W (by constructor <;> omega) (by constructor <;> omega) hu)
  have HT1 := Lib.hid (fun A d W h1 h2 h3 => take_any A (putL l a g) d W h1 h2 (putL_ok l a g) h3)
  obtain ⟨ok, hok⟩ : ∃ ok, ok = decide (0 < g) := ⟨_, rfl⟩
  have hma : MayI l a g ↔ 0 < g := by unfold MayI Within; omega
  obtain ⟨xl, xa, xg, hx, HOK⟩ : ∃ xl xa xg, takeV (putL l a g) = idV xl xa xg ∧ Hid (ok = true → xl = l ∧ xa = a ∧ xg = g) := by
    by_cases h : 0 < g
    · exact ⟨l, a, g, (take_put (hma.2 h) hu).2, fun _ => ⟨rfl, rfl, rfl⟩⟩
    · refine ⟨0, 0, 0, ?_, (by unfold Hid; intro h2; rw [hok, decide_eq_false h] at h2; cases h2)⟩
      rw [putL_no (fun h2 => h (hma.1 h2)), takeV_no taken_nil]
  have htk : decide (Taken (putL l a g)) = ok := by
    rw [hok]
    by_cases h : 0 < g
    · rw [decide_eq_true h, decide_eq_true (take_put (hma.2 h) hu).1]
    · rw [decide_eq_false h, putL_no (fun h2 => h (hma.1 h2)), decide_eq_false taken_nil]
  rw [hx, htk] at HT1
  have hgt : decide (0 < g) = ok := hok.symm
  have HT2 := Lib.hid (fun A W h3 => take_any A g3 7 W (by omega) (by omega) hB3 h3)
  obtain ⟨is_, his⟩ : ∃ is_, is_ = decide (Taken g3) := ⟨_, rfl⟩
  obtain ⟨tl, ta, tg, ht, HIS, HNI, htu⟩ : ∃ tl ta tg, takeV g3 = idV tl ta tg ∧ Hid (is_ = true → putL tl ta tg = g3) ∧ Hid (is_ = false → tl = 0 ∧ ta = 0 ∧ tg = 0) ∧ (i64 tl ∧ i64 ta ∧ u32 tg) := by
    by_cases h : Taken g3
    · refine ⟨labX g3, plcX g3, genX g3, by unfold takeV; rw [if_pos h], fun _ => put_taken hB3 h, (by unfold Hid; intro h2; rw [his, decide_eq_true h] at h2; cases h2), ?_⟩
      obtain ⟨b0, b1, b2, b3, b4, b5, b6, rfl, l0, l1, l2, l3, l4, l5, l6⟩ := seven h.1 hB3
      have h2 := h.2
      have hg2 : (genX [(b0 : Int), (b1 : Int), (b2 : Int), (b3 : Int), (b4 : Int), (b5 : Int), (b6 : Int)] : Int) = ((b3 * 16777216 + b4 * 65536 + b5 * 256 + b6 : Nat) : Int) := rfl
      rw [hg2] at h2 ⊢
      unfold MayI Within at h2
      refine ⟨by constructor <;> omega, by constructor <;> omega, by constructor <;> omega⟩
    · exact ⟨0, 0, 0, takeV_no h, (by unfold Hid; intro h2; rw [his, decide_eq_false h] at h2; cases h2), fun _ => ⟨rfl, rfl, rfl⟩, by constructor <;> omega, by constructor <;> omega, by constructor <;> omega⟩
  rw [ht, ← his, hL3] at HT2
  have HPUT := Lib.hid (fun W => put_any tl ta tg W htu.1 htu.2.1 htu.2.2)
  have heq := eqlI l a g l a g
  rw [show decide (l = l ∧ a = a ∧ g = g) = true by simp] at heq
  have HEQ : Hid (∀ w, (binOp .eql 24 (.agg (idA l a g)) (.agg (idA l a g))).run Try.prog w = .ok (.bool true) w) := heq
  have heq0 := eqlI 0 0 0 0 0 0
  rw [show decide ((0 : Int) = 0 ∧ (0 : Int) = 0 ∧ (0 : Int) = 0) = true by simp] at heq0
  have HEQ0 : Hid (∀ w, (binOp .eql 24 (.agg (idA 0 0 0)) (.agg (idA 0 0 0))).run Try.prog w = .ok (.bool true) w) := heq0
  have HM7 := Lib.hid hL3
  have hSS : ((strOfNums g3).toList == (strOfNums g3).toList) = true := by simp
  rw [idV_eq] at HP1 HPUT
  clear hx htk ht his htu heq heq0 hma hok hu hl ha hB3
  obtain ⟨M, rfl⟩ : ∃ M, M = g3 := ⟨_, rfl⟩
  clear hL3
  generalize putL l a g = X at *
  generalize hXn : X.length = xn at *
  clear hXn
  go_enter Try.func4, Try.ntmps4
  go_wp2_with fail
  refine (begun_any _).mono ?_
  rintro e W1 ⟨rfl, hb1⟩
  have HA1 := Lib.hid (kb hb1 HA.out)
  have HB1 := Lib.hid (keepB HB0.out hb1)
  have H92 := Lib.hid (IdAt.new W1 l a g)
  have hb2 : Below W1.heap.size W1 (W1.alloc (Obj.cells #[.int .i64 l, .int .i64 a, .int .u32 g] 24)) := bel1 _
  have HA2 := Lib.hid (kb hb2 HA1.out)
  have HB2 := Lib.hid (keepB HB1.out hb2)
  clear hb1 hb2 HA HB0 HA1 HB1
  go_upto_region 4 with fail
  generalize W1.alloc (Obj.cells #[.int .i64 l, .int .i64 a, .int .u32 g] 24) = W2 at *
  generalize W1.heap.size = q9 at *
  go_wp2_with (refine wpList_loadI rfl (.tmp 9) rfl q9 rfl l a g H92.out ?_)
  refine (HP1.out W2).mono ?_
  rintro e W3 ⟨A3, d3, rfl, hd3, hm3, hy3, hb3⟩
  have HA3 := Lib.hid (kb hb3 HA2.out)
  have HB3 := Lib.hid (keepB HB2.out hb3)
  have H93 := Lib.hid (IdAt.below H92.out hb3)
  have HT3 := Lib.hid (HT1.out A3 d3 W3 hd3 hm3 hy3)
  clear hd3 hm3 hy3 hb3 HA2 HB2 H92 HT1 HP1
  go_wp2_with fail
  refine HT3.out.mono ?_
  rintro e W4 ⟨rfl, hb4⟩
  have HA4 := Lib.hid (kb hb4 HA3.out)
  have HB4 := Lib.hid (keepB HB3.out hb4)
  have H94 := Lib.hid (IdAt.below H93.out hb4)
  have HZ4 := Lib.hid (IdAt.new W4 0 0 0)
  have H105 := Lib.hid (HZ4.out.set xl xa xg)
  have hb5 : Below W4.heap.size W4 ((W4.alloc (Obj.cells #[.int .i64 0, .int .i64 0, .int .u32 0] 24)).setRow W4.heap.size (idA xl xa xg)) := below_setRow (bel1 _) (Nat.le_refl _) _
  have HA5 := Lib.hid (kb hb5 HA4.out)
  have HB5 := Lib.hid (keepB HB4.out hb5)
  have H95 := Lib.hid (IdAt.below H94.out hb5)
  clear hb4 hb5 HA3 HB3 H93 HT3 HA4 HB4 H94
  go_upto_region 5 with (refine wpList_storeI rfl (.tmp 10) (.tmp 29) rfl W4.heap.size rfl xl xa xg rfl 0 0 0 HZ4.out ?_)
  clear HZ4
  generalize (W4.alloc (Obj.cells #[.int .i64 0, .int .i64 0, .int .u32 0] 24)).setRow W4.heap.size (idA xl xa xg) = W5 at *
  generalize W4.heap.size = q10 at *
  have hy5 : Byt W5 (some ⟨w.heap.size, 0, none⟩) M := byt_blk HA5.out (by simp)
  have HT5 := Lib.hid (HT2.out _ W5 hy5)
  clear hy5 HT2
  go_wp2_with fail
  refine HT5.out.mono ?_
  rintro e W4 ⟨rfl, hb4⟩
  have HA4 := Lib.hid (kb hb4 HA5.out)
  have HB4 := Lib.hid (keepB HB5.out hb4)
  have H94 := Lib.hid (IdAt.below H95.out hb4)
  have H104 := Lib.hid (IdAt.below H105.out hb4)
  have HZ4 := Lib.hid (IdAt.new W4 0 0 0)
  have H126 := Lib.hid (HZ4.out.set tl ta tg)
  have hb5 : Below W4.heap.size W4 ((W4.alloc (Obj.cells #[.int .i64 0, .int .i64 0, .int .u32 0] 24)).setRow W4.heap.size (idA tl ta tg)) := below_setRow (bel1 _) (Nat.le_refl _) _
  have HA6 := Lib.hid (kb hb5 HA4.out)
  have HB6 := Lib.hid (keepB HB4.out hb5)
  have H96 := Lib.hid (IdAt.below H94.out hb5)
  have H106 := Lib.hid (IdAt.below H104.out hb5)
  clear hb4 hb5 HA5 HB5 H95 H105 HT5 HA4 HB4 H94 H104
  go_upto_region 6 with (refine wpList_storeI rfl (.tmp 12) (.tmp 34) rfl W4.heap.size rfl tl ta tg rfl 0 0 0 HZ4.out ?_)
  clear HZ4
  generalize (W4.alloc (Obj.cells #[.int .i64 0, .int .i64 0, .int .u32 0] 24)).setRow W4.heap.size (idA tl ta tg) = W6 at *
  generalize W4.heap.size = q12 at *
  have HS6 := Lib.hid (room_lt HA6.out)
  generalize hp : w.heap.size = p at *
  have HP := Lib.hid hp
  clear hp
  cases ok <;> cases is_
  · obtain ⟨rfl, rfl, rfl⟩ := HNI.out rfl
    clear HOK HIS HNI HPUT
    have hJ1 : JLB w p q9 q10 q12 l a g xl xa xg 0 0 0 M W6.drew := ⟨HB6.out.drew, HS6.out, HA6.out, H96.out, H106.out, H126.out⟩
    refine wp_region_rgk (VB00 p l a g 0 0 0 M) (fun _ W => JLB w p q9 q10 q12 l a g xl xa xg 0 0 0 M W) (fun _ w w' => w.grownBy w' none) (by kernel_rfl) (by kernel_rfl) (fun i j v' w' w'' hij hind h hg => h.on hg) hJ1 ?_
    have srefl : ∀ (W : World), W.grownBy W none := fun W => World.grownBy.refl _ _
    clear hJ1 HB6 HS6 HA6 H96 H106 H126
    simp only [RAll]
    refine ⟨?_, ?_, ?_, ?_, ?_, ?_, ?_, ?_, ?_, ?_, ?_, ?_, ?_, ?_, ?_, ?_, ?_, ?_, ?_, ?_, ?_, ?_, ?_, ?_, ?_, ?_, ?_, ?_, ?_, ?_, ?_, ?_, ?_, ?_⟩
    · refine RStepK.of rfl fun T W L hag hL hJ hLs hd => ?_   -- 0: 36 := Op.move (Operand.tmp 11)
      have e11 : T.getD 11 undef = _ := (agree_at hag 11 (by kernel_rfl)).trans rfl
      clear hag hd
      go_simp
      exact ⟨_, rfl, rfl⟩
    · refine RStepK.of rfl fun T W L hag hL hJ hLs hd => ?_   -- 1: 37 := Op.move (Operand.tmp 2)
      have e2 : T.getD 2 undef = _ := (agree_at hag 2 (by kernel_rfl)).trans rfl
      clear hag hd
      go_simp
      exact ⟨_, rfl, rfl⟩
    · refine RStepK.of rfl fun T W L hag hL hJ hLs hd => ?_   -- 2: 38 := Op.binOp BinOp.gtr 22 (Operand.tmp 37) (Operand.const (Value
      have d37 : T.getD 37 undef = _ := hd ⟨1, .data⟩ (by simp) rfl _ rfl
      clear hag hd
      go_simp
      exact ⟨_, rfl, rfl⟩
    · refine RStepK.of rfl fun T W L hag hL hJ hLs hd => ?_   -- 3: 39 := Op.binOp BinOp.eql 4 (Operand.tmp 36) (Operand.tmp 38) 4
      have d36 : T.getD 36 undef = _ := hd ⟨0, .data⟩ (by simp) rfl _ rfl
      have d38 : T.getD 38 undef = _ := hd ⟨2, .data⟩ (by simp) rfl _ rfl
      clear hag hd
      go_simp
      exact ⟨_, rfl, rfl⟩
    · refine RStepK.of rfl fun T W L hag hL hJ hLs hd => ?_   -- 4: 40 := Op.move (Operand.tmp 39)
      have d39 : T.getD 39 undef = _ := hd ⟨3, .data⟩ (by simp) rfl _ rfl
      clear hag hd
      go_simp
      exact ⟨_, rfl, rfl⟩
    · refine RStepK.want rfl rfl rfl (by kernel_rfl) (fun v w h => h) fun T W L hag hL hJ hLs hd => ?_   -- 5: 41 := Op.move (Operand.tmp 11)
      have e11 : T.getD 11 undef = _ := (agree_at hag 11 (by kernel_rfl)).trans rfl
      clear hag hd
      go_simp
      exact ⟨_, rfl, rfl⟩
    · refine RStepK.want rfl rfl rfl (by kernel_rfl) (fun v w h => h) fun T W L hag hL hJ hLs hd => ?_   -- 6: 42 := Op.unOp UnOp.not 4 (Operand.tmp 41)
      have d41 : T.getD 41 undef = _ := hd ⟨5, .data⟩ (by simp) rfl _ rfl
      clear hag hd
      go_simp
      exact ⟨_, rfl, rfl⟩
    · refine RStepK.want rfl rfl rfl (by kernel_rfl) (fun v w h => h) fun T W L hag hL hJ hLs hd => ?_   -- 7: 43 := Op.move (Operand.tmp 42)
      have d42 : T.getD 42 undef = _ := hd ⟨6, .data⟩ (by simp) rfl _ rfl
      clear hag hd
      go_simp
      exact ⟨_, rfl, rfl⟩
    · exact RStepK.skip rfl rfl rfl (by kernel_rfl) (fun v w hv => hv) (fun W => trivial) (fun L W hJ => hJ)   -- 8: Op.load 24 (Operand.tmp 10)
    · exact RStepK.skip rfl rfl rfl (by kernel_rfl) (fun v w hv => hv) (fun W => trivial) (fun L W hJ => hJ)   -- 9: Op.load 24 (Operand.tmp 9)
    · exact RStepK.skip rfl rfl rfl (by kernel_rfl) (fun v w hv => hv) (fun W => trivial) (fun L W hJ => hJ)   -- 10: Op.binOp BinOp.eql 24 (Operand.tmp 44) (Operand.tmp 45) 24
    · refine RStepK.want rfl rfl rfl (by kernel_rfl) (fun v w h => h) fun T W L hag hL hJ hLs hd => ?_   -- 11: 47 := Op.pick (Operand.tmp 43) (Operand.const (Value.bool true)) (
      have d43 : T.getD 43 undef = _ := hd ⟨7, .data⟩ (by simp) rfl _ rfl
      have x46 := hd ⟨10, .data⟩ (by simp) rfl _ rfl
      clear hag hd
      go_simp
      exact ⟨_, rfl, rfl⟩
    · refine RStepK.of rfl fun T W L hag hL hJ hLs hd => ?_   -- 12: 48 := Op.pick (Operand.tmp 40) (Operand.tmp 47) (Operand.const (Va
      have d40 : T.getD 40 undef = _ := hd ⟨4, .data⟩ (by simp) rfl _ rfl
      have d47 : T.getD 47 undef = _ := hd ⟨11, .data⟩ (by simp) rfl _ rfl
      clear hag hd
      go_simp
      exact ⟨_, rfl, rfl⟩
    · refine RStepK.of rfl fun T W L hag hL hJ hLs hd => ?_   -- 13: 49 := Op.move (Operand.tmp 48)
      have d48 : T.getD 48 undef = _ := hd ⟨12, .data⟩ (by simp) rfl _ rfl
      clear hag hd
      go_simp
      exact ⟨_, rfl, rfl⟩
    · refine RStepK.want rfl rfl rfl (by kernel_rfl) (fun v w h => h) fun T W L hag hL hJ hLs hd => ?_   -- 14: 50 := Op.move (Operand.tmp 13)
      have e13 : T.getD 13 undef = _ := (agree_at hag 13 (by kernel_rfl)).trans rfl
      clear hag hd
      go_simp
      exact ⟨_, rfl, rfl⟩
    · refine RStepK.want rfl rfl rfl (by kernel_rfl) (fun v w h => h) fun T W L hag hL hJ hLs hd => ?_   -- 15: 51 := Op.unOp UnOp.not 4 (Operand.tmp 50)
      have d50 : T.getD 50 undef = _ := hd ⟨14, .data⟩ (by simp) rfl _ rfl
      clear hag hd
      go_simp
      exact ⟨_, rfl, rfl⟩
    · refine RStepK.want rfl rfl rfl (by kernel_rfl) (fun v w h => h) fun T W L hag hL hJ hLs hd => ?_   -- 16: 52 := Op.move (Operand.tmp 51)
      have d51 : T.getD 51 undef = _ := hd ⟨15, .data⟩ (by simp) rfl _ rfl
      clear hag hd
      go_simp
      exact ⟨_, rfl, rfl⟩
    · exact RStepK.skip rfl rfl rfl (by kernel_rfl) (fun v w hv => hv) (fun W => trivial) (fun L W hJ => hJ)   -- 17: Op.load 24 (Operand.tmp 12)
    · exact RStepK.skip rfl rfl rfl (by kernel_rfl) (fun v w hv => hv) (fun W => trivial) (fun L W hJ => hJ)   -- 18: Op.call { callee := Callee.value (Operand.func 11), args := 
    · exact RStepK.skip rfl rfl rfl (by kernel_rfl) (fun v w hv => hv) (fun W => trivial) (fun L W hJ => hJ)   -- 19: Op.convert 25 9 (Operand.tmp 54)
    · exact RStepK.skip rfl rfl rfl (by kernel_rfl) (fun v w hv => hv) (fun W => trivial) (fun L W hJ => hJ)   -- 20: Op.slice 32 (Operand.tmp 7) none none none
    · exact RStepK.skip rfl rfl rfl (by kernel_rfl) (fun v w hv => hv) (fun W => trivial) (fun L W hJ => hJ)   -- 21: Op.convert 25 9 (Operand.tmp 56)
    · exact RStepK.skip rfl rfl rfl (by kernel_rfl) (fun v w hv => hv) (fun W => trivial) (fun L W hJ => hJ)   -- 22: Op.binOp BinOp.eql 9 (Operand.tmp 55) (Operand.tmp 57) 9
    · refine RStepK.want rfl rfl rfl (by kernel_rfl) (fun v w h => h) fun T W L hag hL hJ hLs hd => ?_   -- 23: 59 := Op.pick (Operand.tmp 52) (Operand.const (Value.bool true)) (
      have d52 : T.getD 52 undef = _ := hd ⟨16, .data⟩ (by simp) rfl _ rfl
      have x58 := hd ⟨22, .data⟩ (by simp) rfl _ rfl
      clear hag hd
      go_simp
      exact ⟨_, rfl, rfl⟩
    · refine RStepK.of rfl fun T W L hag hL hJ hLs hd => ?_   -- 24: 60 := Op.pick (Operand.tmp 49) (Operand.tmp 59) (Operand.const (Va
      have d49 : T.getD 49 undef = _ := hd ⟨13, .data⟩ (by simp) rfl _ rfl
      have d59 : T.getD 59 undef = _ := hd ⟨23, .data⟩ (by simp) rfl _ rfl
      clear hag hd
      go_simp
      exact ⟨_, rfl, rfl⟩
    · refine RStepK.of rfl fun T W L hag hL hJ hLs hd => ?_   -- 25: 61 := Op.move (Operand.tmp 60)
      have d60 : T.getD 60 undef = _ := hd ⟨24, .data⟩ (by simp) rfl _ rfl
      clear hag hd
      go_simp
      exact ⟨_, rfl, rfl⟩
    · refine RStepK.want rfl rfl rfl (by kernel_rfl) (fun v w h => h) fun T W L hag hL hJ hLs hd => ?_   -- 26: 62 := Op.move (Operand.tmp 13)
      have e13 : T.getD 13 undef = _ := (agree_at hag 13 (by kernel_rfl)).trans rfl
      clear hag hd
      go_simp
      exact ⟨_, rfl, rfl⟩
    · refine RStepK.want rfl rfl rfl (by kernel_rfl) (fun v w h => h) fun T W L hag hL hJ hLs hd => ?_   -- 27: 63 := Op.move (Operand.tmp 62)
      have d62 : T.getD 62 undef = _ := hd ⟨26, .data⟩ (by simp) rfl _ rfl
      clear hag hd
      go_simp
      exact ⟨_, rfl, rfl⟩
    · refine RStepK.want rfl rfl rfl (by kernel_rfl) (fun v w h => h) fun T W L hag hL hJ hLs hd => ?_   -- 28: 64 := Op.load 24 (Operand.tmp 12)
      have e12 : T.getD 12 undef = _ := (agree_at hag 12 (by kernel_rfl)).trans rfl
      refine wp_loadI (.tmp 12) rfl q12 e12 0 0 0 hJ.a12 ?_
      exact ⟨_, rfl, rfl, hJ, srefl _⟩
    · refine RStepK.want rfl rfl rfl (by kernel_rfl) (fun v w h => h) fun T W L hag hL hJ hLs hd => ?_   -- 29: 65 := Op.build 24 #[]
      clear hag hd
      go_simp
      exact ⟨_, rfl, rfl⟩
    · refine RStepK.want rfl rfl rfl (by kernel_rfl) (fun v w h => h) fun T W L hag hL hJ hLs hd => ?_   -- 30: 66 := Op.binOp BinOp.eql 24 (Operand.tmp 64) (Operand.tmp 65) 24
      have d64 : T.getD 64 undef = _ := hd ⟨28, .data⟩ (by simp) rfl _ rfl
      have d65 : T.getD 65 undef = _ := hd ⟨29, .data⟩ (by simp) rfl _ rfl
      have fct0 := HEQ0.out
      clear hag hd
      go_simp
      exact ⟨_, rfl, rfl⟩
    · refine RStepK.want rfl rfl rfl (by kernel_rfl) (fun v w h => h) fun T W L hag hL hJ hLs hd => ?_   -- 31: 67 := Op.pick (Operand.tmp 63) (Operand.const (Value.bool true)) (
      have d63 : T.getD 63 undef = _ := hd ⟨27, .data⟩ (by simp) rfl _ rfl
      have d66 : T.getD 66 undef = _ := hd ⟨30, .data⟩ (by simp) rfl _ rfl
      clear hag hd
      go_simp
      exact ⟨_, rfl, rfl⟩
    · refine RStepK.of rfl fun T W L hag hL hJ hLs hd => ?_   -- 32: 68 := Op.pick (Operand.tmp 61) (Operand.tmp 67) (Operand.const (Va
      have d61 : T.getD 61 undef = _ := hd ⟨25, .data⟩ (by simp) rfl _ rfl
      have d67 : T.getD 67 undef = _ := hd ⟨31, .data⟩ (by simp) rfl _ rfl
      clear hag hd
      go_simp
      exact ⟨_, rfl, rfl⟩
    · refine RLastK.of rfl fun T W L hag hLs hL hJ hd => ?_   -- 33: 8 := Op.assign (Operand.tmp 68)
      have d68 : T.getD 68 undef = _ := hd 32 _ (by simp) rfl
      obtain ⟨f, hf, hT⟩ := agree_fn hag
      have h68 := (hf 68).trans d68
      have HJ := Lib.hid hJ
      clear hag hd d68 hJ hf
      rw [hT]
      clear hT
      simp only [List.pop_toArray, List.dropLast_cons_cons, List.dropLast_singleton, List.filterMap_cons, List.filterMap_nil, List.foldl_cons, List.foldl_nil, List.setIfInBounds_toArray, List.set_cons_succ, List.set_cons_zero, h68]
      go_wp2_with fail
      go_ret
      exact ⟨rfl, by rw [HP.out]; exact HJ.out.bel⟩
  · have hpm := HIS.out rfl
    rw [hpm] at HPUT
    clear HOK HIS HNI hpm
    have hJ1 : JLB w p q9 q10 q12 l a g xl xa xg tl ta tg M W6.drew := ⟨HB6.out.drew, HS6.out, HA6.out, H96.out, H106.out, H126.out⟩
    refine wp_region_rgk (VB01 p l a g tl ta tg M) (fun _ W => JLB w p q9 q10 q12 l a g xl xa xg tl ta tg M W) (fun _ w w' => w.grownBy w' none) (by kernel_rfl) (by kernel_rfl) (fun i j v' w' w'' hij hind h hg => h.on hg) hJ1 ?_
    have srefl : ∀ (W : World), W.grownBy W none := fun W => World.grownBy.refl _ _
    clear hJ1 HB6 HS6 HA6 H96 H106 H126
    simp only [RAll]
    refine ⟨?_, ?_, ?_, ?_, ?_, ?_, ?_, ?_, ?_, ?_, ?_, ?_, ?_, ?_, ?_, ?_, ?_, ?_, ?_, ?_, ?_, ?_, ?_, ?_, ?_, ?_, ?_, ?_, ?_, ?_, ?_, ?_, ?_, ?_⟩
    · refine RStepK.of rfl fun T W L hag hL hJ hLs hd => ?_   -- 0: 36 := Op.move (Operand.tmp 11)
      have e11 : T.getD 11 undef = _ := (agree_at hag 11 (by kernel_rfl)).trans rfl
      clear hag hd
      go_simp
      exact ⟨_, rfl, rfl⟩
    · refine RStepK.of rfl fun T W L hag hL hJ hLs hd => ?_   -- 1: 37 := Op.move (Operand.tmp 2)
      have e2 : T.getD 2 undef = _ := (agree_at hag 2 (by kernel_rfl)).trans rfl
      clear hag hd
      go_simp
      exact ⟨_, rfl, rfl⟩
    · refine RStepK.of rfl fun T W L hag hL hJ hLs hd => ?_   -- 2: 38 := Op.binOp BinOp.gtr 22 (Operand.tmp 37) (Operand.const (Value
      have d37 : T.getD 37 undef = _ := hd ⟨1, .data⟩ (by simp) rfl _ rfl
      clear hag hd
      go_simp
      exact ⟨_, rfl, rfl⟩
    · refine RStepK.of rfl fun T W L hag hL hJ hLs hd => ?_   -- 3: 39 := Op.binOp BinOp.eql 4 (Operand.tmp 36) (Operand.tmp 38) 4
      have d36 : T.getD 36 undef = _ := hd ⟨0, .data⟩ (by simp) rfl _ rfl
      have d38 : T.getD 38 undef = _ := hd ⟨2, .data⟩ (by simp) rfl _ rfl
      clear hag hd
      go_simp
      exact ⟨_, rfl, rfl⟩
    · refine RStepK.of rfl fun T W L hag hL hJ hLs hd => ?_   -- 4: 40 := Op.move (Operand.tmp 39)
      have d39 : T.getD 39 undef = _ := hd ⟨3, .data⟩ (by simp) rfl _ rfl
      clear hag hd
      go_simp
      exact ⟨_, rfl, rfl⟩
    · refine RStepK.want rfl rfl rfl (by kernel_rfl) (fun v w h => h) fun T W L hag hL hJ hLs hd => ?_   -- 5: 41 := Op.move (Operand.tmp 11)
      have e11 : T.getD 11 undef = _ := (agree_at hag 11 (by kernel_rfl)).trans rfl
      clear hag hd
      go_simp
      exact ⟨_, rfl, rfl⟩
    · refine RStepK.want rfl rfl rfl (by kernel_rfl) (fun v w h => h) fun T W L hag hL hJ hLs hd => ?_   -- 6: 42 := Op.unOp UnOp.not 4 (Operand.tmp 41)
      have d41 : T.getD 41 undef = _ := hd ⟨5, .data⟩ (by simp) rfl _ rfl
      clear hag hd
      go_simp
      exact ⟨_, rfl, rfl⟩
    · refine RStepK.want rfl rfl rfl (by kernel_rfl) (fun v w h => h) fun T W L hag hL hJ hLs hd => ?_   -- 7: 43 := Op.move (Operand.tmp 42)
      have d42 : T.getD 42 undef = _ := hd ⟨6, .data⟩ (by simp) rfl _ rfl
      clear hag hd
      go_simp
      exact ⟨_, rfl, rfl⟩
    · exact RStepK.skip rfl rfl rfl (by kernel_rfl) (fun v w hv => hv) (fun W => trivial) (fun L W hJ => hJ)   -- 8: Op.load 24 (Operand.tmp 10)
    · exact RStepK.skip rfl rfl rfl (by kernel_rfl) (fun v w hv => hv) (fun W => trivial) (fun L W hJ => hJ)   -- 9: Op.load 24 (Operand.tmp 9)
    · exact RStepK.skip rfl rfl rfl (by kernel_rfl) (fun v w hv => hv) (fun W => trivial) (fun L W hJ => hJ)   -- 10: Op.binOp BinOp.eql 24 (Operand.tmp 44) (Operand.tmp 45) 24
    · refine RStepK.want rfl rfl rfl (by kernel_rfl) (fun v w h => h) fun T W L hag hL hJ hLs hd => ?_   -- 11: 47 := Op.pick (Operand.tmp 43) (Operand.const (Value.bool true)) (
      have d43 : T.getD 43 undef = _ := hd ⟨7, .data⟩ (by simp) rfl _ rfl
      have x46 := hd ⟨10, .data⟩ (by simp) rfl _ rfl
      clear hag hd
      go_simp
      exact ⟨_, rfl, rfl⟩
    · refine RStepK.of rfl fun T W L hag hL hJ hLs hd => ?_   -- 12: 48 := Op.pick (Operand.tmp 40) (Operand.tmp 47) (Operand.const (Va
      have d40 : T.getD 40 undef = _ := hd ⟨4, .data⟩ (by simp) rfl _ rfl
      have d47 : T.getD 47 undef = _ := hd ⟨11, .data⟩ (by simp) rfl _ rfl
      clear hag hd
      go_simp
      exact ⟨_, rfl, rfl⟩
    · refine RStepK.of rfl fun T W L hag hL hJ hLs hd => ?_   -- 13: 49 := Op.move (Operand.tmp 48)
      have d48 : T.getD 48 undef = _ := hd ⟨12, .data⟩ (by simp) rfl _ rfl
      clear hag hd
      go_simp
      exact ⟨_, rfl, rfl⟩
    · refine RStepK.want rfl rfl rfl (by kernel_rfl) (fun v w h => h) fun T W L hag hL hJ hLs hd => ?_   -- 14: 50 := Op.move (Operand.tmp 13)
      have e13 : T.getD 13 undef = _ := (agree_at hag 13 (by kernel_rfl)).trans rfl
      clear hag hd
      go_simp
      exact ⟨_, rfl, rfl⟩
    · refine RStepK.want rfl rfl rfl (by kernel_rfl) (fun v w h => h) fun T W L hag hL hJ hLs hd => ?_   -- 15: 51 := Op.unOp UnOp.not 4 (Operand.tmp 50)
      have d50 : T.getD 50 undef = _ := hd ⟨14, .data⟩ (by simp) rfl _ rfl
      clear hag hd
      go_simp
      exact ⟨_, rfl, rfl⟩
    · refine RStepK.want rfl rfl rfl (by kernel_rfl) (fun v w h => h) fun T W L hag hL hJ hLs hd => ?_   -- 16: 52 := Op.move (Operand.tmp 51)
      have d51 : T.getD 51 undef = _ := hd ⟨15, .data⟩ (by simp) rfl _ rfl
      clear hag hd
      go_simp
      exact ⟨_, rfl, rfl⟩
    · refine RStepK.want rfl rfl rfl (by kernel_rfl) (fun v w h => h) fun T W L hag hL hJ hLs hd => ?_   -- 17: 53 := Op.load 24 (Operand.tmp 12)
      have e12 : T.getD 12 undef = _ := (agree_at hag 12 (by kernel_rfl)).trans rfl
      refine wp_loadI (.tmp 12) rfl q12 e12 tl ta tg hJ.a12 ?_
      exact ⟨_, rfl, rfl, hJ, srefl _⟩
    · refine RStepK.want rfl rfl rfl (by kernel_rfl) (fun v w h => h) fun T W L hag hL hJ hLs hd => ?_   -- 18: 54 := Op.call { callee := Callee.value (Operand.func 11), args := 
      have d53 : T.getD 53 undef = _ := hd ⟨17, .data⟩ (by simp) rfl _ rfl
      clear hag hd
      go_simp
      refine (HPUT.out W).mono ?_
      rintro en w' ⟨u, rfl, ho, hb⟩
      exact ⟨_, rfl, World.ownsRow.mono ho (Nat.le_of_lt hJ.sz), hJ.next hb, growN hb⟩
    · refine RStepK.want rfl rfl rfl (by kernel_rfl) (fun v w h => h) fun T W L hag hL hJ hLs hd => ?_   -- 19: 55 := Op.convert 25 9 (Operand.tmp 54)
      have x54 : W.ownsRow p 5 1 (T.getD 54 undef) M.length (Bs M) := hd ⟨18, .data⟩ (by simp) rfl _ rfl
      obtain ⟨A1, d1, (e54 : T.getD 54 undef = _), _, _, hy1⟩ := byt_own x54 rfl
      have cv := conv_any (c := d1) hy1 rfl
      clear hag hd x54
      go_simp
      exact ⟨_, rfl, rfl⟩
    · refine RStepK.want rfl rfl rfl (by kernel_rfl) (fun v w h => h) fun T W L hag hL hJ hLs hd => ?_   -- 20: 56 := Op.slice 32 (Operand.tmp 7) none none none
      have e7 : T.getD 7 undef = _ := (agree_at hag 7 (by kernel_rfl)).trans rfl
      clear hag hd
      go_simp
      exact ⟨_, rfl, rfl⟩
    · refine RStepK.want rfl rfl rfl (by kernel_rfl) (fun v w h => h) fun T W L hag hL hJ hLs hd => ?_   -- 21: 57 := Op.convert 25 9 (Operand.tmp 56)
      have d56 : T.getD 56 undef = _ := hd ⟨20, .data⟩ (by simp) rfl _ rfl
      have cv := conv_any (c := 7) hJ.byt HM7.out
      clear hag hd
      go_simp
      exact ⟨_, rfl, rfl⟩
    · refine RStepK.want rfl rfl rfl (by kernel_rfl) (fun v w h => h) fun T W L hag hL hJ hLs hd => ?_   -- 22: 58 := Op.binOp BinOp.eql 9 (Operand.tmp 55) (Operand.tmp 57) 9
      have d55 : T.getD 55 undef = _ := hd ⟨19, .data⟩ (by simp) rfl _ rfl
      have d57 : T.getD 57 undef = _ := hd ⟨21, .data⟩ (by simp) rfl _ rfl
      clear hag hd
      go_simp
      exact ⟨_, rfl, rfl⟩
    · refine RStepK.want rfl rfl rfl (by kernel_rfl) (fun v w h => h) fun T W L hag hL hJ hLs hd => ?_   -- 23: 59 := Op.pick (Operand.tmp 52) (Operand.const (Value.bool true)) (
      have d52 : T.getD 52 undef = _ := hd ⟨16, .data⟩ (by simp) rfl _ rfl
      have d58 : T.getD 58 undef = _ := hd ⟨22, .data⟩ (by simp) rfl _ rfl
      clear hag hd
      go_simp
      exact ⟨_, rfl, rfl⟩
    · refine RStepK.of rfl fun T W L hag hL hJ hLs hd => ?_   -- 24: 60 := Op.pick (Operand.tmp 49) (Operand.tmp 59) (Operand.const (Va
      have d49 : T.getD 49 undef = _ := hd ⟨13, .data⟩ (by simp) rfl _ rfl
      have d59 : T.getD 59 undef = _ := hd ⟨23, .data⟩ (by simp) rfl _ rfl
      clear hag hd
      go_simp
      exact ⟨_, rfl, rfl⟩
    · refine RStepK.of rfl fun T W L hag hL hJ hLs hd => ?_   -- 25: 61 := Op.move (Operand.tmp 60)
      have d60 : T.getD 60 undef = _ := hd ⟨24, .data⟩ (by simp) rfl _ rfl
      clear hag hd
      go_simp
      exact ⟨_, rfl, rfl⟩
    · refine RStepK.want rfl rfl rfl (by kernel_rfl) (fun v w h => h) fun T W L hag hL hJ hLs hd => ?_   -- 26: 62 := Op.move (Operand.tmp 13)
      have e13 : T.getD 13 undef = _ := (agree_at hag 13 (by kernel_rfl)).trans rfl
      clear hag hd
      go_simp
      exact ⟨_, rfl, rfl⟩
    · refine RStepK.want rfl rfl rfl (by kernel_rfl) (fun v w h => h) fun T W L hag hL hJ hLs hd => ?_   -- 27: 63 := Op.move (Operand.tmp 62)
      have d62 : T.getD 62 undef = _ := hd ⟨26, .data⟩ (by simp) rfl _ rfl
      clear hag hd
      go_simp
      exact ⟨_, rfl, rfl⟩
    · exact RStepK.skip rfl rfl rfl (by kernel_rfl) (fun v w hv => hv) (fun W => trivial) (fun L W hJ => hJ)   -- 28: Op.load 24 (Operand.tmp 12)
    · exact RStepK.skip rfl rfl rfl (by kernel_rfl) (fun v w hv => hv) (fun W => trivial) (fun L W hJ => hJ)   -- 29: Op.build 24 #[]
    · exact RStepK.skip rfl rfl rfl (by kernel_rfl) (fun v w hv => hv) (fun W => trivial) (fun L W hJ => hJ)   -- 30: Op.binOp BinOp.eql 24 (Operand.tmp 64) (Operand.tmp 65) 24
    · refine RStepK.want rfl rfl rfl (by kernel_rfl) (fun v w h => h) fun T W L hag hL hJ hLs hd => ?_   -- 31: 67 := Op.pick (Operand.tmp 63) (Operand.const (Value.bool true)) (
      have d63 : T.getD 63 undef = _ := hd ⟨27, .data⟩ (by simp) rfl _ rfl
      have x66 := hd ⟨30, .data⟩ (by simp) rfl _ rfl
      clear hag hd
      go_simp
      exact ⟨_, rfl, rfl⟩
    · refine RStepK.of rfl fun T W L hag hL hJ hLs hd => ?_   -- 32: 68 := Op.pick (Operand.tmp 61) (Operand.tmp 67) (Operand.const (Va
      have d61 : T.getD 61 undef = _ := hd ⟨25, .data⟩ (by simp) rfl _ rfl
      have d67 : T.getD 67 undef = _ := hd ⟨31, .data⟩ (by simp) rfl _ rfl
      clear hag hd
      go_simp
      exact ⟨_, rfl, rfl⟩
    · refine RLastK.of rfl fun T W L hag hLs hL hJ hd => ?_   -- 33: 8 := Op.assign (Operand.tmp 68)
      have d68 : T.getD 68 undef = _ := hd 32 _ (by simp) rfl
      obtain ⟨f, hf, hT⟩ := agree_fn hag
      have h68 := (hf 68).trans d68
      have HJ := Lib.hid hJ
      clear hag hd d68 hJ hf
      rw [hT]
      clear hT
      simp only [List.pop_toArray, List.dropLast_cons_cons, List.dropLast_singleton, List.filterMap_cons, List.filterMap_nil, List.foldl_cons, List.foldl_nil, List.setIfInBounds_toArray, List.set_cons_succ, List.set_cons_zero, h68]
      go_wp2_with fail
      go_ret
      exact ⟨rfl, by rw [HP.out]; exact HJ.out.bel⟩
  · obtain ⟨rfl, rfl, rfl⟩ := HOK.out rfl
    obtain ⟨rfl, rfl, rfl⟩ := HNI.out rfl
    clear HOK HIS HNI HPUT
    have hJ1 : JLB w p q9 q10 q12 xl xa xg xl xa xg 0 0 0 M W6.drew := ⟨HB6.out.drew, HS6.out, HA6.out, H96.out, H106.out, H126.out⟩
    refine wp_region_rgk (VB10 p xl xa xg 0 0 0 M) (fun _ W => JLB w p q9 q10 q12 xl xa xg xl xa xg 0 0 0 M W) (fun _ w w' => w.grownBy w' none) (by kernel_rfl) (by kernel_rfl) (fun i j v' w' w'' hij hind h hg => h.on hg) hJ1 ?_
    have srefl : ∀ (W : World), W.grownBy W none := fun W => World.grownBy.refl _ _
    clear hJ1 HB6 HS6 HA6 H96 H106 H126
    simp only [RAll]
    refine ⟨?_, ?_, ?_, ?_, ?_, ?_, ?_, ?_, ?_, ?_, ?_, ?_, ?_, ?_, ?_, ?_, ?_, ?_, ?_, ?_, ?_, ?_, ?_, ?_, ?_, ?_, ?_, ?_, ?_, ?_, ?_, ?_, ?_, ?_⟩
    · refine RStepK.of rfl fun T W L hag hL hJ hLs hd => ?_   -- 0: 36 := Op.move (Operand.tmp 11)
      have e11 : T.getD 11 undef = _ := (agree_at hag 11 (by kernel_rfl)).trans rfl
      clear hag hd
      go_simp
      exact ⟨_, rfl, rfl⟩
    · refine RStepK.of rfl fun T W L hag hL hJ hLs hd => ?_   -- 1: 37 := Op.move (Operand.tmp 2)
      have e2 : T.getD 2 undef = _ := (agree_at hag 2 (by kernel_rfl)).trans rfl
      clear hag hd
      go_simp
      exact ⟨_, rfl, rfl⟩
    · refine RStepK.of rfl fun T W L hag hL hJ hLs hd => ?_   -- 2: 38 := Op.binOp BinOp.gtr 22 (Operand.tmp 37) (Operand.const (Value
      have d37 : T.getD 37 undef = _ := hd ⟨1, .data⟩ (by simp) rfl _ rfl
      clear hag hd
      go_simp
      exact ⟨_, rfl, rfl⟩
    · refine RStepK.of rfl fun T W L hag hL hJ hLs hd => ?_   -- 3: 39 := Op.binOp BinOp.eql 4 (Operand.tmp 36) (Operand.tmp 38) 4
      have d36 : T.getD 36 undef = _ := hd ⟨0, .data⟩ (by simp) rfl _ rfl
      have d38 : T.getD 38 undef = _ := hd ⟨2, .data⟩ (by simp) rfl _ rfl
      clear hag hd
      go_simp
      exact ⟨_, rfl, rfl⟩
    · refine RStepK.of rfl fun T W L hag hL hJ hLs hd => ?_   -- 4: 40 := Op.move (Operand.tmp 39)
      have d39 : T.getD 39 undef = _ := hd ⟨3, .data⟩ (by simp) rfl _ rfl
      clear hag hd
      go_simp
      exact ⟨_, rfl, rfl⟩
    · refine RStepK.want rfl rfl rfl (by kernel_rfl) (fun v w h => h) fun T W L hag hL hJ hLs hd => ?_   -- 5: 41 := Op.move (Operand.tmp 11)
      have e11 : T.getD 11 undef = _ := (agree_at hag 11 (by kernel_rfl)).trans rfl
      clear hag hd
      go_simp
      exact ⟨_, rfl, rfl⟩
    · refine RStepK.want rfl rfl rfl (by kernel_rfl) (fun v w h => h) fun T W L hag hL hJ hLs hd => ?_   -- 6: 42 := Op.unOp UnOp.not 4 (Operand.tmp 41)
      have d41 : T.getD 41 undef = _ := hd ⟨5, .data⟩ (by simp) rfl _ rfl
      clear hag hd
      go_simp
      exact ⟨_, rfl, rfl⟩
    · refine RStepK.want rfl rfl rfl (by kernel_rfl) (fun v w h => h) fun T W L hag hL hJ hLs hd => ?_   -- 7: 43 := Op.move (Operand.tmp 42)
      have d42 : T.getD 42 undef = _ := hd ⟨6, .data⟩ (by simp) rfl _ rfl
      clear hag hd
      go_simp
      exact ⟨_, rfl, rfl⟩
    · refine RStepK.want rfl rfl rfl (by kernel_rfl) (fun v w h => h) fun T W L hag hL hJ hLs hd => ?_   -- 8: 44 := Op.load 24 (Operand.tmp 10)
      have e10 : T.getD 10 undef = _ := (agree_at hag 10 (by kernel_rfl)).trans rfl
      refine wp_loadI (.tmp 10) rfl q10 e10 xl xa xg hJ.a10 ?_
      exact ⟨_, rfl, rfl, hJ, srefl _⟩
    · refine RStepK.want rfl rfl rfl (by kernel_rfl) (fun v w h => h) fun T W L hag hL hJ hLs hd => ?_   -- 9: 45 := Op.load 24 (Operand.tmp 9)
      have e9 : T.getD 9 undef = _ := (agree_at hag 9 (by kernel_rfl)).trans rfl
      refine wp_loadI (.tmp 9) rfl q9 e9 xl xa xg hJ.a9 ?_
      exact ⟨_, rfl, rfl, hJ, srefl _⟩
    · refine RStepK.want rfl rfl rfl (by kernel_rfl) (fun v w h => h) fun T W L hag hL hJ hLs hd => ?_   -- 10: 46 := Op.binOp BinOp.eql 24 (Operand.tmp 44) (Operand.tmp 45) 24
      have d44 : T.getD 44 undef = _ := hd ⟨8, .data⟩ (by simp) rfl _ rfl
      have d45 : T.getD 45 undef = _ := hd ⟨9, .data⟩ (by simp) rfl _ rfl
      have fct0 := HEQ.out
      clear hag hd
      go_simp
      exact ⟨_, rfl, rfl⟩
    · refine RStepK.want rfl rfl rfl (by kernel_rfl) (fun v w h => h) fun T W L hag hL hJ hLs hd => ?_   -- 11: 47 := Op.pick (Operand.tmp 43) (Operand.const (Value.bool true)) (
      have d43 : T.getD 43 undef = _ := hd ⟨7, .data⟩ (by simp) rfl _ rfl
      have d46 : T.getD 46 undef = _ := hd ⟨10, .data⟩ (by simp) rfl _ rfl
      clear hag hd
      go_simp
      exact ⟨_, rfl, rfl⟩
    · refine RStepK.of rfl fun T W L hag hL hJ hLs hd => ?_   -- 12: 48 := Op.pick (Operand.tmp 40) (Operand.tmp 47) (Operand.const (Va
      have d40 : T.getD 40 undef = _ := hd ⟨4, .data⟩ (by simp) rfl _ rfl
      have d47 : T.getD 47 undef = _ := hd ⟨11, .data⟩ (by simp) rfl _ rfl
      clear hag hd
      go_simp
      exact ⟨_, rfl, rfl⟩
    · refine RStepK.of rfl fun T W L hag hL hJ hLs hd => ?_   -- 13: 49 := Op.move (Operand.tmp 48)
      have d48 : T.getD 48 undef = _ := hd ⟨12, .data⟩ (by simp) rfl _ rfl
      clear hag hd
      go_simp
      exact ⟨_, rfl, rfl⟩
    · refine RStepK.want rfl rfl rfl (by kernel_rfl) (fun v w h => h) fun T W L hag hL hJ hLs hd => ?_   -- 14: 50 := Op.move (Operand.tmp 13)
      have e13 : T.getD 13 undef = _ := (agree_at hag 13 (by kernel_rfl)).trans rfl
      clear hag hd
      go_simp
      exact ⟨_, rfl, rfl⟩
    · refine RStepK.want rfl rfl rfl (by kernel_rfl) (fun v w h => h) fun T W L hag hL hJ hLs hd => ?_   -- 15: 51 := Op.unOp UnOp.not 4 (Operand.tmp 50)
      have d50 : T.getD 50 undef = _ := hd ⟨14, .data⟩ (by simp) rfl _ rfl
      clear hag hd
      go_simp
      exact ⟨_, rfl, rfl⟩
    · refine RStepK.want rfl rfl rfl (by kernel_rfl) (fun v w h => h) fun T W L hag hL hJ hLs hd => ?_   -- 16: 52 := Op.move (Operand.tmp 51)
      have d51 : T.getD 51 undef = _ := hd ⟨15, .data⟩ (by simp) rfl _ rfl
      clear hag hd
      go_simp
      exact ⟨_, rfl, rfl⟩
    · exact RStepK.skip rfl rfl rfl (by kernel_rfl) (fun v w hv => hv) (fun W => trivial) (fun L W hJ => hJ)   -- 17: Op.load 24 (Operand.tmp 12)
    · exact RStepK.skip rfl rfl rfl (by kernel_rfl) (fun v w hv => hv) (fun W => trivial) (fun L W hJ => hJ)   -- 18: Op.call { callee := Callee.value (Operand.func 11), args := 
    · exact RStepK.skip rfl rfl rfl (by kernel_rfl) (fun v w hv => hv) (fun W => trivial) (fun L W hJ => hJ)   -- 19: Op.convert 25 9 (Operand.tmp 54)
    · exact RStepK.skip rfl rfl rfl (by kernel_rfl) (fun v w hv => hv) (fun W => trivial) (fun L W hJ => hJ)   -- 20: Op.slice 32 (Operand.tmp 7) none none none
    · exact RStepK.skip rfl rfl rfl (by kernel_rfl) (fun v w hv => hv) (fun W => trivial) (fun L W hJ => hJ)   -- 21: Op.convert 25 9 (Operand.tmp 56)
    · exact RStepK.skip rfl rfl rfl (by kernel_rfl) (fun v w hv => hv) (fun W => trivial) (fun L W hJ => hJ)   -- 22: Op.binOp BinOp.eql 9 (Operand.tmp 55) (Operand.tmp 57) 9
    · refine RStepK.want rfl rfl rfl (by kernel_rfl) (fun v w h => h) fun T W L hag hL hJ hLs hd => ?_   -- 23: 59 := Op.pick (Operand.tmp 52) (Operand.const (Value.bool true)) (
      have d52 : T.getD 52 undef = _ := hd ⟨16, .data⟩ (by simp) rfl _ rfl
      have x58 := hd ⟨22, .data⟩ (by simp) rfl _ rfl
      clear hag hd
      go_simp
      exact ⟨_, rfl, rfl⟩
    · refine RStepK.of rfl fun T W L hag hL hJ hLs hd => ?_   -- 24: 60 := Op.pick (Operand.tmp 49) (Operand.tmp 59) (Operand.const (Va
      have d49 : T.getD 49 undef = _ := hd ⟨13, .data⟩ (by simp) rfl _ rfl
      have d59 : T.getD 59 undef = _ := hd ⟨23, .data⟩ (by simp) rfl _ rfl
      clear hag hd
      go_simp
      exact ⟨_, rfl, rfl⟩
    · refine RStepK.of rfl fun T W L hag hL hJ hLs hd => ?_   -- 25: 61 := Op.move (Operand.tmp 60)
      have d60 : T.getD 60 undef = _ := hd ⟨24, .data⟩ (by simp) rfl _ rfl
      clear hag hd
      go_simp
      exact ⟨_, rfl, rfl⟩
    · refine RStepK.want rfl rfl rfl (by kernel_rfl) (fun v w h => h) fun T W L hag hL hJ hLs hd => ?_   -- 26: 62 := Op.move (Operand.tmp 13)
      have e13 : T.getD 13 undef = _ := (agree_at hag 13 (by kernel_rfl)).trans rfl
      clear hag hd
      go_simp
      exact ⟨_, rfl, rfl⟩
    · refine RStepK.want rfl rfl rfl (by kernel_rfl) (fun v w h => h) fun T W L hag hL hJ hLs hd => ?_   -- 27: 63 := Op.move (Operand.tmp 62)
      have d62 : T.getD 62 undef = _ := hd ⟨26, .data⟩ (by simp) rfl _ rfl
      clear hag hd
      go_simp
      exact ⟨_, rfl, rfl⟩
    · refine RStepK.want rfl rfl rfl (by kernel_rfl) (fun v w h => h) fun T W L hag hL hJ hLs hd => ?_   -- 28: 64 := Op.load 24 (Operand.tmp 12)
      have e12 : T.getD 12 undef = _ := (agree_at hag 12 (by kernel_rfl)).trans rfl
      refine wp_loadI (.tmp 12) rfl q12 e12 0 0 0 hJ.a12 ?_
      exact ⟨_, rfl, rfl, hJ, srefl _⟩
    · refine RStepK.want rfl rfl rfl (by kernel_rfl) (fun v w h => h) fun T W L hag hL hJ hLs hd => ?_   -- 29: 65 := Op.build 24 #[]
      clear hag hd
      go_simp
      exact ⟨_, rfl, rfl⟩
    · refine RStepK.want rfl rfl rfl (by kernel_rfl) (fun v w h => h) fun T W L hag hL hJ hLs hd => ?_   -- 30: 66 := Op.binOp BinOp.eql 24 (Operand.tmp 64) (Operand.tmp 65) 24
      have d64 : T.getD 64 undef = _ := hd ⟨28, .data⟩ (by simp) rfl _ rfl
      have d65 : T.getD 65 undef = _ := hd ⟨29, .data⟩ (by simp) rfl _ rfl
      have fct0 := HEQ0.out
      clear hag hd
      go_simp
      exact ⟨_, rfl, rfl⟩
    · refine RStepK.want rfl rfl rfl (by kernel_rfl) (fun v w h => h) fun T W L hag hL hJ hLs hd => ?_   -- 31: 67 := Op.pick (Operand.tmp 63) (Operand.const (Value.bool true)) (
      have d63 : T.getD 63 undef = _ := hd ⟨27, .data⟩ (by simp) rfl _ rfl
      have d66 : T.getD 66 undef = _ := hd ⟨30, .data⟩ (by simp) rfl _ rfl
      clear hag hd
      go_simp
      exact ⟨_, rfl, rfl⟩
    · refine RStepK.of rfl fun T W L hag hL hJ hLs hd => ?_   -- 32: 68 := Op.pick (Operand.tmp 61) (Operand.tmp 67) (Operand.const (Va
      have d61 : T.getD 61 undef = _ := hd ⟨25, .data⟩ (by simp) rfl _ rfl
      have d67 : T.getD 67 undef = _ := hd ⟨31, .data⟩ (by simp) rfl _ rfl
      clear hag hd
      go_simp
      exact ⟨_, rfl, rfl⟩
    · refine RLastK.of rfl fun T W L hag hLs hL hJ hd => ?_   -- 33: 8 := Op.assign (Operand.tmp 68)
      have d68 : T.getD 68 undef = _ := hd 32 _ (by simp) rfl
      obtain ⟨f, hf, hT⟩ := agree_fn hag
      have h68 := (hf 68).trans d68
      have HJ := Lib.hid hJ
      clear hag hd d68 hJ hf
      rw [hT]
      clear hT
      simp only [List.pop_toArray, List.dropLast_cons_cons, List.dropLast_singleton, List.filterMap_cons, List.filterMap_nil, List.foldl_cons, List.foldl_nil, List.setIfInBounds_toArray, List.set_cons_succ, List.set_cons_zero, h68]
      go_wp2_with fail
      go_ret
      exact ⟨rfl, by rw [HP.out]; exact HJ.out.bel⟩
  · obtain ⟨rfl, rfl, rfl⟩ := HOK.out rfl
    have hpm := HIS.out rfl
    rw [hpm] at HPUT
    clear HOK HIS HNI hpm
    have hJ1 : JLB w p q9 q10 q12 xl xa xg xl xa xg tl ta tg M W6.drew := ⟨HB6.out.drew, HS6.out, HA6.out, H96.out, H106.out, H126.out⟩
    refine wp_region_rgk (VB11 p xl xa xg tl ta tg M) (fun _ W => JLB w p q9 q10 q12 xl xa xg xl xa xg tl ta tg M W) (fun _ w w' => w.grownBy w' none) (by kernel_rfl) (by kernel_rfl) (fun i j v' w' w'' hij hind h hg => h.on hg) hJ1 ?_
    have srefl : ∀ (W : World), W.grownBy W none := fun W => World.grownBy.refl _ _
    clear hJ1 HB6 HS6 HA6 H96 H106 H126
    simp only [RAll]
    refine ⟨?_, ?_, ?_, ?_, ?_, ?_, ?_, ?_, ?_, ?_, ?_, ?_, ?_, ?_, ?_, ?_, ?_, ?_, ?_, ?_, ?_, ?_, ?_, ?_, ?_, ?_, ?_, ?_, ?_, ?_, ?_, ?_, ?_, ?_⟩
    · refine RStepK.of rfl fun T W L hag hL hJ hLs hd => ?_   -- 0: 36 := Op.move (Operand.tmp 11)
      have e11 : T.getD 11 undef = _ := (agree_at hag 11 (by kernel_rfl)).trans rfl
      clear hag hd
      go_simp
      exact ⟨_, rfl, rfl⟩
    · refine RStepK.of rfl fun T W L hag hL hJ hLs hd => ?_   -- 1: 37 := Op.move (Operand.tmp 2)
      have e2 : T.getD 2 undef = _ := (agree_at hag 2 (by kernel_rfl)).trans rfl
      clear hag hd
      go_simp
      exact ⟨_, rfl, rfl⟩
    · refine RStepK.of rfl fun T W L hag hL hJ hLs hd => ?_   -- 2: 38 := Op.binOp BinOp.gtr 22 (Operand.tmp 37) (Operand.const (Value
      have d37 : T.getD 37 undef = _ := hd ⟨1, .data⟩ (by simp) rfl _ rfl
      clear hag hd
      go_simp
      exact ⟨_, rfl, rfl⟩
    · refine RStepK.of rfl fun T W L hag hL hJ hLs hd => ?_   -- 3: 39 := Op.binOp BinOp.eql 4 (Operand.tmp 36) (Operand.tmp 38) 4
      have d36 : T.getD 36 undef = _ := hd ⟨0, .data⟩ (by simp) rfl _ rfl
      have d38 : T.getD 38 undef = _ := hd ⟨2, .data⟩ (by simp) rfl _ rfl
      clear hag hd
      go_simp
      exact ⟨_, rfl, rfl⟩
    · refine RStepK.of rfl fun T W L hag hL hJ hLs hd => ?_   -- 4: 40 := Op.move (Operand.tmp 39)
      have d39 : T.getD 39 undef = _ := hd ⟨3, .data⟩ (by simp) rfl _ rfl
      clear hag hd
      go_simp
      exact ⟨_, rfl, rfl⟩
    · refine RStepK.want rfl rfl rfl (by kernel_rfl) (fun v w h => h) fun T W L hag hL hJ hLs hd => ?_   -- 5: 41 := Op.move (Operand.tmp 11)
      have e11 : T.getD 11 undef = _ := (agree_at hag 11 (by kernel_rfl)).trans rfl
      clear hag hd
      go_simp
      exact ⟨_, rfl, rfl⟩
    · refine RStepK.want rfl rfl rfl (by kernel_rfl) (fun v w h => h) fun T W L hag hL hJ hLs hd => ?_   -- 6: 42 := Op.unOp UnOp.not 4 (Operand.tmp 41)
      have d41 : T.getD 41 undef = _ := hd ⟨5, .data⟩ (by simp) rfl _ rfl
      clear hag hd
      go_simp
      exact ⟨_, rfl, rfl⟩
    · refine RStepK.want rfl rfl rfl (by kernel_rfl) (fun v w h => h) fun T W L hag hL hJ hLs hd => ?_   -- 7: 43 := Op.move (Operand.tmp 42)
      have d42 : T.getD 42 undef = _ := hd ⟨6, .data⟩ (by simp) rfl _ rfl
      clear hag hd
      go_simp
      exact ⟨_, rfl, rfl⟩
    · refine RStepK.want rfl rfl rfl (by kernel_rfl) (fun v w h => h) fun T W L hag hL hJ hLs hd => ?_   -- 8: 44 := Op.load 24 (Operand.tmp 10)
      have e10 : T.getD 10 undef = _ := (agree_at hag 10 (by kernel_rfl)).trans rfl
      refine wp_loadI (.tmp 10) rfl q10 e10 xl xa xg hJ.a10 ?_
      exact ⟨_, rfl, rfl, hJ, srefl _⟩
    · refine RStepK.want rfl rfl rfl (by kernel_rfl) (fun v w h => h) fun T W L hag hL hJ hLs hd => ?_   -- 9: 45 := Op.load 24 (Operand.tmp 9)
      have e9 : T.getD 9 undef = _ := (agree_at hag 9 (by kernel_rfl)).trans rfl
      refine wp_loadI (.tmp 9) rfl q9 e9 xl xa xg hJ.a9 ?_
      exact ⟨_, rfl, rfl, hJ, srefl _⟩
    · refine RStepK.want rfl rfl rfl (by kernel_rfl) (fun v w h => h) fun T W L hag hL hJ hLs hd => ?_   -- 10: 46 := Op.binOp BinOp.eql 24 (Operand.tmp 44) (Operand.tmp 45) 24
      have d44 : T.getD 44 undef = _ := hd ⟨8, .data⟩ (by simp) rfl _ rfl
      have d45 : T.getD 45 undef = _ := hd ⟨9, .data⟩ (by simp) rfl _ rfl
      have fct0 := HEQ.out
      clear hag hd
      go_simp
      exact ⟨_, rfl, rfl⟩
    · refine RStepK.want rfl rfl rfl (by kernel_rfl) (fun v w h => h) fun T W L hag hL hJ hLs hd => ?_   -- 11: 47 := Op.pick (Operand.tmp 43) (Operand.const (Value.bool true)) (
      have d43 : T.getD 43 undef = _ := hd ⟨7, .data⟩ (by simp) rfl _ rfl
      have d46 : T.getD 46 undef = _ := hd ⟨10, .data⟩ (by simp) rfl _ rfl
      clear hag hd
      go_simp
      exact ⟨_, rfl, rfl⟩
    · refine RStepK.of rfl fun T W L hag hL hJ hLs hd => ?_   -- 12: 48 := Op.pick (Operand.tmp 40) (Operand.tmp 47) (Operand.const (Va
      have d40 : T.getD 40 undef = _ := hd ⟨4, .data⟩ (by simp) rfl _ rfl
      have d47 : T.getD 47 undef = _ := hd ⟨11, .data⟩ (by simp) rfl _ rfl
      clear hag hd
      go_simp
      exact ⟨_, rfl, rfl⟩
    · refine RStepK.of rfl fun T W L hag hL hJ hLs hd => ?_   -- 13: 49 := Op.move (Operand.tmp 48)
      have d48 : T.getD 48 undef = _ := hd ⟨12, .data⟩ (by simp) rfl _ rfl
      clear hag hd
      go_simp
      exact ⟨_, rfl, rfl⟩
    · refine RStepK.want rfl rfl rfl (by kernel_rfl) (fun v w h => h) fun T W L hag hL hJ hLs hd => ?_   -- 14: 50 := Op.move (Operand.tmp 13)
      have e13 : T.getD 13 undef = _ := (agree_at hag 13 (by kernel_rfl)).trans rfl
      clear hag hd
      go_simp
      exact ⟨_, rfl, rfl⟩
    · refine RStepK.want rfl rfl rfl (by kernel_rfl) (fun v w h => h) fun T W L hag hL hJ hLs hd => ?_   -- 15: 51 := Op.unOp UnOp.not 4 (Operand.tmp 50)
      have d50 : T.getD 50 undef = _ := hd ⟨14, .data⟩ (by simp) rfl _ rfl
      clear hag hd
      go_simp
      exact ⟨_, rfl, rfl⟩
    · refine RStepK.want rfl rfl rfl (by kernel_rfl) (fun v w h => h) fun T W L hag hL hJ hLs hd => ?_   -- 16: 52 := Op.move (Operand.tmp 51)
      have d51 : T.getD 51 undef = _ := hd ⟨15, .data⟩ (by simp) rfl _ rfl
      clear hag hd
      go_simp
      exact ⟨_, rfl, rfl⟩
    · refine RStepK.want rfl rfl rfl (by kernel_rfl) (fun v w h => h) fun T W L hag hL hJ hLs hd => ?_   -- 17: 53 := Op.load 24 (Operand.tmp 12)
      have e12 : T.getD 12 undef = _ := (agree_at hag 12 (by kernel_rfl)).trans rfl
      refine wp_loadI (.tmp 12) rfl q12 e12 tl ta tg hJ.a12 ?_
      exact ⟨_, rfl, rfl, hJ, srefl _⟩
    · refine RStepK.want rfl rfl rfl (by kernel_rfl) (fun v w h => h) fun T W L hag hL hJ hLs hd => ?_   -- 18: 54 := Op.call { callee := Callee.value (Operand.func 11), args := 
      have d53 : T.getD 53 undef = _ := hd ⟨17, .data⟩ (by simp) rfl _ rfl
      clear hag hd
      go_simp
      refine (HPUT.out W).mono ?_
      rintro en w' ⟨u, rfl, ho, hb⟩
      exact ⟨_, rfl, World.ownsRow.mono ho (Nat.le_of_lt hJ.sz), hJ.next hb, growN hb⟩
    · refine RStepK.want rfl rfl rfl (by kernel_rfl) (fun v w h => h) fun T W L hag hL hJ hLs hd => ?_   -- 19: 55 := Op.convert 25 9 (Operand.tmp 54)
      have x54 : W.ownsRow p 5 1 (T.getD 54 undef) M.length (Bs M) := hd ⟨18, .data⟩ (by simp) rfl _ rfl
      obtain ⟨A1, d1, (e54 : T.getD 54 undef = _), _, _, hy1⟩ := byt_own x54 rfl
      have cv := conv_any (c := d1) hy1 rfl
      clear hag hd x54
      go_simp
      exact ⟨_, rfl, rfl⟩
    · refine RStepK.want rfl rfl rfl (by kernel_rfl) (fun v w h => h) fun T W L hag hL hJ hLs hd => ?_   -- 20: 56 := Op.slice 32 (Operand.tmp 7) none none none
      have e7 : T.getD 7 undef = _ := (agree_at hag 7 (by kernel_rfl)).trans rfl
      clear hag hd
      go_simp
      exact ⟨_, rfl, rfl⟩
    · refine RStepK.want rfl rfl rfl (by kernel_rfl) (fun v w h => h) fun T W L hag hL hJ hLs hd => ?_   -- 21: 57 := Op.convert 25 9 (Operand.tmp 56)
      have d56 : T.getD 56 undef = _ := hd ⟨20, .data⟩ (by simp) rfl _ rfl
      have cv := conv_any (c := 7) hJ.byt HM7.out
      clear hag hd
      go_simp
      exact ⟨_, rfl, rfl⟩
    · refine RStepK.want rfl rfl rfl (by kernel_rfl) (fun v w h => h) fun T W L hag hL hJ hLs hd => ?_   -- 22: 58 := Op.binOp BinOp.eql 9 (Operand.tmp 55) (Operand.tmp 57) 9
      have d55 : T.getD 55 undef = _ := hd ⟨19, .data⟩ (by simp) rfl _ rfl
      have d57 : T.getD 57 undef = _ := hd ⟨21, .data⟩ (by simp) rfl _ rfl
      clear hag hd
      go_simp
      exact ⟨_, rfl, rfl⟩
    · refine RStepK.want rfl rfl rfl (by kernel_rfl) (fun v w h => h) fun T W L hag hL hJ hLs hd => ?_   -- 23: 59 := Op.pick (Operand.tmp 52) (Operand.const (Value.bool true)) (
      have d52 : T.getD 52 undef = _ := hd ⟨16, .data⟩ (by simp) rfl _ rfl
      have d58 : T.getD 58 undef = _ := hd ⟨22, .data⟩ (by simp) rfl _ rfl
      clear hag hd
      go_simp
      exact ⟨_, rfl, rfl⟩
    · refine RStepK.of rfl fun T W L hag hL hJ hLs hd => ?_   -- 24: 60 := Op.pick (Operand.tmp 49) (Operand.tmp 59) (Operand.const (Va
      have d49 : T.getD 49 undef = _ := hd ⟨13, .data⟩ (by simp) rfl _ rfl
      have d59 : T.getD 59 undef = _ := hd ⟨23, .data⟩ (by simp) rfl _ rfl
      clear hag hd
      go_simp
      exact ⟨_, rfl, rfl⟩
    · refine RStepK.of rfl fun T W L hag hL hJ hLs hd => ?_   -- 25: 61 := Op.move (Operand.tmp 60)
      have d60 : T.getD 60 undef = _ := hd ⟨24, .data⟩ (by simp) rfl _ rfl
      clear hag hd
      go_simp
      exact ⟨_, rfl, rfl⟩
    · refine RStepK.want rfl rfl rfl (by kernel_rfl) (fun v w h => h) fun T W L hag hL hJ hLs hd => ?_   -- 26: 62 := Op.move (Operand.tmp 13)
      have e13 : T.getD 13 undef = _ := (agree_at hag 13 (by kernel_rfl)).trans rfl
      clear hag hd
      go_simp
      exact ⟨_, rfl, rfl⟩
    · refine RStepK.want rfl rfl rfl (by kernel_rfl) (fun v w h => h) fun T W L hag hL hJ hLs hd => ?_   -- 27: 63 := Op.move (Operand.tmp 62)
      have d62 : T.getD 62 undef = _ := hd ⟨26, .data⟩ (by simp) rfl _ rfl
      clear hag hd
      go_simp
      exact ⟨_, rfl, rfl⟩
    · exact RStepK.skip rfl rfl rfl (by kernel_rfl) (fun v w hv => hv) (fun W => trivial) (fun L W hJ => hJ)   -- 28: Op.load 24 (Operand.tmp 12)
    · exact RStepK.skip rfl rfl rfl (by kernel_rfl) (fun v w hv => hv) (fun W => trivial) (fun L W hJ => hJ)   -- 29: Op.build 24 #[]
    · exact RStepK.skip rfl rfl rfl (by kernel_rfl) (fun v w hv => hv) (fun W => trivial) (fun L W hJ => hJ)   -- 30: Op.binOp BinOp.eql 24 (Operand.tmp 64) (Operand.tmp 65) 24
    · refine RStepK.want rfl rfl rfl (by kernel_rfl) (fun v w h => h) fun T W L hag hL hJ hLs hd => ?_   -- 31: 67 := Op.pick (Operand.tmp 63) (Operand.const (Value.bool true)) (
      have d63 : T.getD 63 undef = _ := hd ⟨27, .data⟩ (by simp) rfl _ rfl
      have x66 := hd ⟨30, .data⟩ (by simp) rfl _ rfl
      clear hag hd
      go_simp
      exact ⟨_, rfl, rfl⟩
    · refine RStepK.of rfl fun T W L hag hL hJ hLs hd => ?_   -- 32: 68 := Op.pick (Operand.tmp 61) (Operand.tmp 67) (Operand.const (Va
      have d61 : T.getD 61 undef = _ := hd ⟨25, .data⟩ (by simp) rfl _ rfl
      have d67 : T.getD 67 undef = _ := hd ⟨31, .data⟩ (by simp) rfl _ rfl
      clear hag hd
      go_simp
      exact ⟨_, rfl, rfl⟩
    · refine RLastK.of rfl fun T W L hag hLs hL hJ hd => ?_   -- 33: 8 := Op.assign (Operand.tmp 68)
      have d68 : T.getD 68 undef = _ := hd 32 _ (by simp) rfl
      obtain ⟨f, hf, hT⟩ := agree_fn hag
      have h68 := (hf 68).trans d68
      have HJ := Lib.hid hJ
      clear hag hd d68 hJ hf
      rw [hT]
      clear hT
      simp only [List.pop_toArray, List.dropLast_cons_cons, List.dropLast_singleton, List.filterMap_cons, List.filterMap_nil, List.foldl_cons, List.foldl_nil, List.setIfInBounds_toArray, List.set_cons_succ, List.set_cons_zero, h68]
      go_wp2_with fail
      go_ret
      exact ⟨rfl, by rw [HP.out]; exact HJ.out.bel⟩

set_option maxRecDepth 100000 in
theorem lifted (os : Os) (started : os.Started) (H : Type) (enc : TypeId × Value → H) :
    ReturnsInHanded {} Try.checked os 4 .any (Rows.inoBackSpec.pre6 enc Try.prog Try.f4 Rows.inoBackRow.domain false) (Rows.inoBackSpec.post enc Try.prog Try.f4 false true false false) := by
  refine returnsInHanded_of_change (C := Try.checked) own started (by kernel_rfl) Try.func4
    (ChangeSpec.witness6 (enc := enc) (C := Try.checked) false ⟨#[], #[.int .u8 0, .int .u8 0, .int .u32 0, .agg (Bs [0, 0, 0, 0, 0, 0, 0]).toArray], []⟩ 8 (by kernel_rfl) (by kernel_rfl) (by kernel_rfl) (by kernel_rfl)) ?_
  intro W base args ds gs before hval0 hW hcnd _
  have hval : ∀ (j : Nat) t v, Try.f4.params[j]? = some t → args[j]? = some v → Value.okWide Try.prog W .any base t v := hval0
  have hW' := hW
  obtain ⟨p, q, hA0, hV, rfl, hfz, hnd⟩ := hW
  have hA : DataW.TrodAll enc Try.prog W 0 (fun _ => true) true Try.f4.params.toList args.toList ds p := hA0
  rw [Try.params4] at hA hval
  obtain ⟨v0, vs0, d0, ds0, p0, q0, hargs, rfl, rfl, h0, r0⟩ := trodAll_cons hA
  obtain ⟨v1, vs1, d1, ds1, p1, q1, rfl, rfl, rfl, h1, r1⟩ := trodAll_cons r0
  obtain ⟨v2, vs2, d2, ds2, p2, q2, rfl, rfl, rfl, h2, r2⟩ := trodAll_cons r1
  obtain ⟨v3, vs3, d3, ds3, p3, q3, rfl, rfl, rfl, h3, r3⟩ := trodAll_cons r2
  obtain ⟨rfl, rfl, rfl⟩ := trodAll_nil r3
  obtain rfl : args = #[v0, v1, v2, v3] := by cases args; simp_all
  obtain ⟨rfl, rfl⟩ := trodVars_none hV
  obtain ⟨x0, rfl, rfl, rfl, wx0⟩ := open_int Try.underlying5 (hval 0 5 v0 rfl rfl) h0
  obtain ⟨x1, rfl, rfl, rfl, wx1⟩ := open_int Try.underlying5 (hval 1 5 v1 rfl rfl) h1
  obtain ⟨x2, rfl, rfl, rfl, wx2⟩ := open_int Try.underlying22 (hval 2 22 v2 rfl rfl) h2
  obtain ⟨cs3, rfl, _⟩ := okWide_row Try.underlying32 (hval 3 32 v3 rfl rfl)
  clear hA0 hval0
  simp only [List.append_nil] at hW'
  have hlt3 : ∀ y ∈ p3, y.block < W.heap.size := fun y hy => by simpa using hW'.lt y (by simp [hy])
  have harg3 : ∀ W' : World, Below W.heap.size W W' → DataW.Trod enc Try.prog W' 0 (fun b => decide (b < W.heap.size)) true 32 (.agg cs3) d3 p3 :=
    fun W' hn => Below.trod laidOut (by kernel_rfl) (of_decide_eq_true (by kernel_rfl)) h3 hn (fun y hy => hlt3 y hy)
  obtain ⟨fu3, hf3⟩ := h3
  obtain ⟨g3, e3, hL3, hB3⟩ := open_arr7 hf3
  obtain rfl : cs3 = (Bs g3).toArray := by
    rw [← e3]; simp [Value.cells]
  refine (walk x0 x1 x2 g3 W (by have := bounds_u8 wx0; omega) (by have := bounds_u8 wx1; omega) (by have := bounds_u32 wx2; omega) hL3 hB3).mono fun e W' ⟨he, bel⟩ => ?_
  subst he
  exact ⟨_, rfl, _, _, _, [], _, [], hW', (trodAll_cons_mk (shut_bool Try.underlying4 _) trodAll_mk0), (trodAll_cons_mk (shut_int Try.underlying5 wx0) (trodAll_cons_mk (shut_int Try.underlying5 wx1) (trodAll_cons_mk (shut_int Try.underlying22 wx2) (trodAll_cons_mk (harg3 _ bel) trodAll_mk0)))), rfl, bel.frame _, fun h => by cases h⟩

theorem over : Rows.inoBackRow.holds Try.pinned (OpenSpec.ofChange Rows.inoBackSpec) :=
  OpenClaim.holds_of_wide 4 Try.f4 rfl rfl rfl rfl rfl rfl rfl ⟨rfl, rfl, rfl, rfl, rfl⟩ rfl rfl rfl rfl rfl (by kernel_rfl) Try.func4 (by kernel_rfl)
    (of_decide_eq_true (by kernel_rfl)) (by unfold Func.isWrapper; first | (rw [if_pos (by decide +kernel)]; kernel_rfl) | (rw [if_neg (by decide +kernel)]; exact ⟨rfl, rfl⟩))
    (fun os started H enc _ => lifted os started H enc)

theorem proved : Rows.InoBackSaid :=
  over
#print axioms proved
end Go.Proofs.Ytcnpepfboapljaa.inoBack
