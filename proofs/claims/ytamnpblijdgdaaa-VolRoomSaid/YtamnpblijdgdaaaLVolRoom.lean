/- The law VolRoom answers true for every input, and leaves its arguments alone. No condition. -/
import Derived.Test.YtamnpblijdgdaaaRows
import Derived.Test.YtamnpblijdgdaaaNz
import Derived.WalkKit
import Derived.ProofKit
import Derived.OpenShut
namespace Go.Proofs.Ytamnpblijdgdaaa.volRoom
open Go.ChangeShapes Go.WideShapes Go.ChangeAt Go.RowKit Go.Joins
set_option linter.unusedVariables false
theorem own : ownKnob Try.prog.godebug = none := by kernel_rfl
theorem laidOut : laidOutB Try.prog = true := by kernel_rfl
set_option maxRecDepth 100000
def VRa (hp g5 G : Nat) (i : Nat) (v : Value) (w : World) : Prop :=
  match i with
  | 0 => v = .int .i64 0
  | 1 | 2 | 4 | 5 | 6 | 11 | 12 | 13 | 16 => v = .bool false
  | 3 | 7 | 14 => v = .pointer (some ⟨hp, 0, none⟩)
  | 8 | 10 => v = .int .i64 G
  | 9 => v = .pointer (some ⟨g5, 3, none⟩)
  | 15 => v = .int .u32 2
  | _ => True
def VRb (hp g5 G E0 E1 : Nat) (i : Nat) (v : Value) (w : World) : Prop :=
  match i with
  | 0 | 6 => v = .pointer (some ⟨hp, 0, none⟩)
  | 1 | 3 => v = .int .i64 G
  | 2 => v = .pointer (some ⟨g5, 3, none⟩)
  | 4 | 5 | 10 | 11 => v = .bool true
  | 7 | 9 => v = .int .u32 E1
  | 8 => v = .int .u32 E0
  | _ => True
def mkW (c : Nat) : List Wr := (List.range c).map fun (i : Nat) => (⟨(i : Int), 4, zBs⟩ : Wr)
theorem mkW_len (c : Nat) : (mkW c).length = c := by unfold mkW; simp
theorem mkW_succ (c : Nat) : mkW (c + 1) = mkW c ++ [⟨(c : Int), 4, zBs⟩] := by unfold mkW; rw [List.range_succ, List.map_append]; rfl
theorem mkW_mem {c : Nat} {x : Wr} (h : x ∈ mkW c) : ∃ i : Nat, i < c ∧ x = ⟨(i : Int), 4, zBs⟩ := by
  unfold mkW at h
  obtain ⟨i, hi, rfl⟩ := List.mem_map.1 h
  exact ⟨i, List.mem_range.1 hi, rfl⟩
theorem mkW_ok {c : Nat} (hc : c ≤ 12) : WrsOk (mkW c) := fun x hx => by
  obtain ⟨i, hi, rfl⟩ := mkW_mem hx
  exact ⟨by constructor <;> (simp only; omega), by constructor <;> (simp only; omega), zBs_len, zBs_allB⟩
theorem mkW_may {c : Nat} (h1 : 1 ≤ c) (hc : c ≤ 12) : MayL (mkW c) := by
  refine ⟨by rw [mkW_len]; omega, fun x hx => ?_, ?_⟩
  · obtain ⟨i, hi, rfl⟩ := mkW_mem hx
    exact ⟨by simp only; omega, by simp only; omega⟩
  · unfold mkW
    rw [List.map_map]
    exact List.Pairwise.map _ (fun a b h => by simp only [Function.comp]; omega) List.pairwise_lt_range
theorem mkW_ch {v : VM} (hn : v.n = 24) {c : Nat} (h1 : 1 ≤ c) (hc : c ≤ 12) : ChOk v (mkW c) := by
  refine ⟨mkW_may h1 hc, ?_⟩
  unfold hasAllV
  rw [List.all_eq_true]
  intro x hx
  obtain ⟨i, hi, rfl⟩ := mkW_mem hx
  unfold hasV
  simp only [Bool.and_eq_true, decide_eq_true_eq]
  omega
theorem mkW_56 (c : Nat) : Len56 (mkW c) := fun x hx => by obtain ⟨i, hi, rfl⟩ := mkW_mem hx; exact zBs_len
theorem ownW_rst {w : World} {base : Nat} {v : Value} {l : List Wr} {R : Nat → Prop} (h : OwnW w base v l) (h56 : Len56 l) (hR : ∀ k, base ≤ k → k < w.heap.size → R k) : ∃ A d, v = .slice A l.length d ∧ l.length ≤ d ∧ d ≤ 9223372036854775807 ∧ WrsR w R A l := by
  rcases h.2 with ⟨rfl, h0⟩ | ⟨g, cap, cur, rfl, hb, hg, hn', hm, hs, ht⟩
  · refine ⟨none, 0, by rw [h0], by omega, by omega, fun i x hi => ?_⟩
    rw [List.length_eq_zero_iff.1 h0] at hi; cases hi
  · refine ⟨some ⟨g, 0, none⟩, cap, rfl, hn', by simp only [maxLen] at hm; omega, fun i x hi => ⟨_, rfl, fun j v hj => ?_, hR g (h.lt g rfl).1 (h.lt g rfl).2⟩⟩
    have := h.cells (g := g) rfl _ _ (wrsL_at h56 hi hj)
    rw [add_add']; exact this
structure RoomI (w wr : World) (s3 q hp rb g5 G k : Nat) (m : DM) (v : VM) : Prop where
  sv : SV w wr (fun k => k < s3 ∨ k = hp ∨ k = rb) q m hp rb v
  lv : Lv m v 0 24 G
  ns : m.stops = false
  ep : v.ep ≤ 2 + k
  dn : m.done.length ≤ 60 + 60 * k
  sh : wr.heap[g5]? = some (.cells (shC 24 G 3) 30 (0, 0))
theorem chV_room {v : VM} {l : List Wr} (hc : ChOk v l) (hus : v.us ≤ v.g) (hl : 1 + l.length ≤ v.g) : ((chV v l).g - (chV v l).us = if Tight v l then v.g - l.length - 1 else v.g - v.us - l.length - 1) ∧ (chV v l).us ≤ (chV v l).g := by
  unfold chV
  rw [if_pos hc]
  by_cases ht : Tight v l
  · rw [if_pos ht, if_pos ht]
    show v.g - (0 + (1 + l.length)) = _ ∧ 0 + (1 + l.length) ≤ v.g
    omega
  · rw [if_neg ht, if_neg ht]
    unfold Tight at ht
    show v.g - (v.us + (1 + l.length)) = _ ∧ v.us + (1 + l.length) ≤ v.g
    omega
theorem RoomI.below {w wr wr' : World} {s3 q hp rb g5 G k : Nat} {m : DM} {v : VM} (h : RoomI w wr s3 q hp rb g5 G k m v) (hb : Below wr.heap.size wr wr') : RoomI w wr' s3 q hp rb g5 G k m v := ⟨h.sv.below hb, h.lv, h.ns, h.ep, h.dn, kb hb h.sh⟩
set_option maxHeartbeats 6400000 in
theorem walk (x0 : Int) (A1 : Option Addr) (l1 : List Int) (d1 : Nat) (w : World) (hx0 : 0 ≤ x0 ∧ x0 ≤ 255) (hd1 : l1.length ≤ d1) (hm1 : d1 ≤ 9223372036854775807) (hB1 : AllB l1) (hy1 : Byt w A1 l1) :
    Calls Try.prog 7 #[.int .u8 x0, .slice A1 l1.length d1] w fun e w' => e = .returned (.bool true) ∧ Below w.heap.size w w' := by
  have HY := Lib.hid hy1
  have HB := Lib.hid hB1
  obtain ⟨a, rfl⟩ : ∃ a : Nat, x0 = (a : Int) := ⟨x0.toNat, by omega⟩
  have ha : a ≤ 255 := by omega
  obtain ⟨N, hN⟩ : ∃ N, l1.length = N := ⟨_, rfl⟩
  rw [hN] at hd1 ⊢
  have HN := Lib.hid hN
  clear hy1 hB1 hN hx0
  go_enter Try.func7, Try.ntmps7
  go_wp2_with fail
  refine (begun9_any w).mono ?_
  rintro e w0 ⟨rfl, hb0⟩
  have HB0 := Lib.hid hb0
  clear hb0
  by_cases h40 : N ≤ 40
  · have h40i : (N : Int) ≤ 40 := by omega
    go_wp2_with fail
    refine (share_any 20 a (by omega) (by omega) w0).mono ?_
    rintro e w1 ⟨rfl, hb1⟩
    have HB1 := Lib.hid (HB0.out.trans (hb1.mono HB0.out.size))
    clear hb1 HB0
    simp only [show 4 + 20 % 30 = 24 from rfl]
    obtain ⟨G, hG⟩ : ∃ G, 16 + a % 30 = G := ⟨_, rfl⟩
    have hG1 : 16 ≤ G ∧ G ≤ 45 := by omega
    rw [hG]
    have HST := Lib.hid (started (n := 24) (g := G) (by omega) (by omega))
    clear hG
    go_upto_region 6 with (refine wpList_storeS rfl (.tmp 5) (.tmp 22) rfl w1.heap.size rfl 24 G 3 rfl _ rfl (heap_alloc_new w1 _) ?_)
    have e2 := setRow_blk (D := shC 24 G 3) (heap_alloc_new w1 (Obj.cells #[.int .i64 0, .int .i64 0, .int .i64 0, .int .i64 0, .int .i64 0] 30))
    have hb2 : Below w1.heap.size w1 ((w1.alloc (Obj.cells #[.int .i64 0, .int .i64 0, .int .i64 0, .int .i64 0, .int .i64 0] 30)).setRow w1.heap.size (shC 24 G 3)) := below_setRow ((Below.refl _ _).alloc (Nat.le_refl _) _) (Nat.le_refl _) _
    have HB2 := Lib.hid (HB1.out.trans (hb2.mono HB1.out.size))
    obtain ⟨g5, hg5⟩ : ∃ g5, g5 = w1.heap.size := ⟨_, rfl⟩
    rw [← hg5] at e2 hb2 HB2 ⊢
    clear hb2 HB1 hg5
    generalize (w1.alloc (Obj.cells #[.int .i64 0, .int .i64 0, .int .i64 0, .int .i64 0, .int .i64 0] 30)).setRow g5 (shC 24 G 3) = w2 at *
    simp only [Act.put]
    have HE2 := Lib.hid e2
    clear e2
    go_wp2_with (refine wpList_loadS rfl (.tmp 5) rfl g5 rfl 24 G 3 HE2.out ?_)
    refine (size_any 0 0 24 G 3 (by omega) (by omega) w2).mono ?_
    rintro e w3 ⟨rfl, hb3⟩
    have HE3 := Lib.hid (kb hb3 HE2.out)
    have HB3 := Lib.hid (HB2.out.trans (hb3.mono HB2.out.size))
    clear hb3 HE2 HB2
    have hdv : [((2 + G + 24 : Nat) : Int)] = [((2 + G + 24 : Nat) : Int)] := rfl
    go_wp2_with fail
    refine (new_at _ w3.heap.size [((2 + G + 24 : Nat) : Int)] 1 rfl (may1 24 G (by omega) (by omega)) (fun x hx => by simp at hx; subst hx; constructor <;> omega) _ (heap_alloc_new w3 _)).mono ?_
    rintro e w4 ⟨⟨q, F, rfl, hd, hF⟩, hb4⟩
    have hba := HB3.out.alloc HB3.out.size (Obj.cells #[.int .i64 ((2 + G + 24 : Nat) : Int)] 3)
    have hds := DS.made hba hd hF hb4
    have hg5 : g5 < (w3.alloc (Obj.cells #[.int .i64 ((2 + G + 24 : Nat) : Int)] 3)).heap.size := by
      have h1 := room_lt HE3.out
      have h2 := ((Below.refl w3.heap.size w3).alloc (Nat.le_refl _) (Obj.cells #[.int .i64 ((2 + G + 24 : Nat) : Int)] 3)).size
      omega
    have HE4 := Lib.hid (kb hb4 (kb ((Below.refl w3.heap.size w3).alloc (Nat.le_refl _) (Obj.cells #[.int .i64 ((2 + G + 24 : Nat) : Int)] 3)) HE3.out))
    have HS3 := Lib.hid (And.intro hg5 hba.size)
    have HD4 := Lib.hid hds
    clear hd hF hb4 hba hds hg5 HE3 HB3 hdv
    generalize (w3.alloc (Obj.cells #[.int .i64 ((2 + G + 24 : Nat) : Int)] 3)).heap.size = s3 at *
    go_wp2_with (refine wpList_loadSw rfl (.tmp 5) rfl g5 rfl 24 G 3 HE4.out ?_)
    refine (make1 (n := 24) (g := G) (by omega) (by omega) HD4.out).mono ?_
    rintro e w5 ⟨rfl, hd5, hs5⟩
    have HE5 := Lib.hid ((hs5.blk g5 HS3.out.1).trans HE4.out)
    have HD5 := Lib.hid hd5
    clear hd5 hs5 HE4 HD4
    go_wp2_with (refine wpList_loadS rfl (.tmp 5) rfl g5 rfl 24 G 3 HE5.out ?_)
    refine (mount1 (n := 24) (g := G) (by omega) (by omega) HD5.out).mono ?_
    rintro e w6 ⟨hp, rb, rfl, hsv, hs6, hlo1, hlo2⟩
    have HE6 := Lib.hid ((hs6.blk g5 HS3.out.1).trans HE5.out)
    have hg5l := room_lt HE5.out
    have HNE : Hid (g5 ≠ hp ∧ g5 ≠ rb) := ⟨by omega, by omega⟩
    have HSV := Lib.hid hsv
    clear hsv hs6 hlo1 hlo2 hg5l HE5 HD5
    generalize stM 24 G = m at *
    generalize stW 24 G = v at *
    have hrm : ∀ (W : World), Below w6.heap.size w6 W → Calls Try.prog 27 #[.pointer (some ⟨hp, 0, none⟩)] W fun e w' => e = .returned (.int .i64 G) ∧ Below W.heap.size W w' := fun W hJ => by
      have h1 := vroom_any (HSV.out.below hJ).at_ (by rw [HST.out.us]; omega)
      rw [HST.out.us, HST.out.g_] at h1
      exact h1
    have HRM := Lib.hid hrm
    have hepo : ∀ (W : World), Below w6.heap.size w6 W → Calls Try.prog 26 #[.pointer (some ⟨hp, 0, none⟩)] W fun e w' => e = .returned (.int .u32 2) ∧ W = w' := fun W hJ => by
      have h1 := vepoch_any (HSV.out.below hJ).at_
      rw [HST.out.ep] at h1
      exact h1
    have HEP := Lib.hid hepo
    clear hrm hepo
    go_upto_region 10 with fail
    refine wp_region_rgk (VRa hp g5 G) (fun _ W => Below w6.heap.size w6 W) (fun _ w w' => Below w.heap.size w w') (by kernel_rfl) (by kernel_rfl) (fun i j v w w' _ _ h hs => by unfold VRa at *; exact h) ((Below.refl _ _).drew) ?_
    simp only [RAll]
    refine ⟨?_, ?_, ?_, ?_, ?_, ?_, ?_, ?_, ?_, ?_, ?_, ?_, ?_, ?_, ?_, ?_, ?_, ?_⟩
    · refine RStepK.of rfl fun T W L hag hL hJ hLs hd => ?_   -- 0: 44 := Op.move (Operand.tmp 9)
      have e9 : T.getD 9 undef = _ := (agree_at hag 9 (by kernel_rfl)).trans rfl
      clear hag hd
      go_simp
      first | exact ⟨_, rfl, rfl⟩ | exact ⟨_, rfl, rfl, brefl _⟩ | exact ⟨_, rfl, rfl, hJ, brefl _⟩
    · refine RStepK.of rfl fun T W L hag hL hJ hLs hd => ?_   -- 1: 45 := Op.binOp BinOp.neq 39 (Operand.tmp 44) (Operand.const (Value
      have d44 : T.getD 44 undef = _ := hd ⟨0, .data⟩ (by simp) rfl _ rfl
      clear hag hd
      go_simp
      first | exact ⟨_, rfl, rfl⟩ | exact ⟨_, rfl, rfl, brefl _⟩ | exact ⟨_, rfl, rfl, hJ, brefl _⟩
    · refine RStepK.of rfl fun T W L hag hL hJ hLs hd => ?_   -- 2: 46 := Op.move (Operand.tmp 45)
      have d45 : T.getD 45 undef = _ := hd ⟨1, .data⟩ (by simp) rfl _ rfl
      clear hag hd
      go_simp
      first | exact ⟨_, rfl, rfl⟩ | exact ⟨_, rfl, rfl, brefl _⟩ | exact ⟨_, rfl, rfl, hJ, brefl _⟩
    · refine RStepK.want rfl rfl rfl (by kernel_rfl) (fun v w h => h) fun T W L hag hL hJ hLs hd => ?_   -- 3: 47 := Op.move (Operand.tmp 8)
      have e8 : T.getD 8 undef = _ := (agree_at hag 8 (by kernel_rfl)).trans rfl
      clear hag hd
      go_simp
      first | exact ⟨_, rfl, rfl⟩ | exact ⟨_, rfl, rfl, brefl _⟩ | exact ⟨_, rfl, rfl, hJ, brefl _⟩
    · refine RStepK.want rfl rfl rfl (by kernel_rfl) (fun v w h => h) fun T W L hag hL hJ hLs hd => ?_   -- 4: 48 := Op.binOp BinOp.eql 38 (Operand.tmp 47) (Operand.const (Value
      have d47 : T.getD 47 undef = _ := hd ⟨3, .data⟩ (by simp) rfl _ rfl
      clear hag hd
      go_simp
      first | exact ⟨_, rfl, rfl⟩ | exact ⟨_, rfl, rfl, brefl _⟩ | exact ⟨_, rfl, rfl, hJ, brefl _⟩
    · refine RStepK.of rfl fun T W L hag hL hJ hLs hd => ?_   -- 5: 49 := Op.pick (Operand.tmp 46) (Operand.const (Value.bool true)) (
      have d46 : T.getD 46 undef = _ := hd ⟨2, .data⟩ (by simp) rfl _ rfl
      have d48 : T.getD 48 undef = _ := hd ⟨4, .data⟩ (by simp) rfl _ rfl
      clear hag hd
      go_simp
      first | exact ⟨_, rfl, rfl⟩ | exact ⟨_, rfl, rfl, brefl _⟩ | exact ⟨_, rfl, rfl, hJ, brefl _⟩
    · refine RStepK.of rfl fun T W L hag hL hJ hLs hd => ?_   -- 6: 50 := Op.move (Operand.tmp 49)
      have d49 : T.getD 49 undef = _ := hd ⟨5, .data⟩ (by simp) rfl _ rfl
      clear hag hd
      go_simp
      first | exact ⟨_, rfl, rfl⟩ | exact ⟨_, rfl, rfl, brefl _⟩ | exact ⟨_, rfl, rfl, hJ, brefl _⟩
    · refine RStepK.want rfl rfl rfl (by kernel_rfl) (fun v w h => h) fun T W L hag hL hJ hLs hd => ?_   -- 7: 51 := Op.move (Operand.tmp 8)
      have e8 : T.getD 8 undef = _ := (agree_at hag 8 (by kernel_rfl)).trans rfl
      clear hag hd
      go_simp
      first | exact ⟨_, rfl, rfl⟩ | exact ⟨_, rfl, rfl, brefl _⟩ | exact ⟨_, rfl, rfl, hJ, brefl _⟩
    · refine RStepK.want rfl rfl rfl (by kernel_rfl) (fun v w h => h) fun T W L hag hL hJ hLs hd => ?_   -- 8: 52 := Op.call { callee := Callee.value (Operand.func 27), args := 
      have d51 : T.getD 51 undef = _ := hd ⟨7, .data⟩ (by simp) rfl _ rfl
      clear hag hd
      go_simp
      refine (HRM.out W hJ).mono ?_
      rintro e w' ⟨rfl, hb⟩
      exact ⟨_, rfl, rfl, keepB hJ hb, hb⟩
    · refine RStepK.want rfl rfl rfl (by kernel_rfl) (fun v w h => h) fun T W L hag hL hJ hLs hd => ?_   -- 9: 53 := Op.fieldAddr 30 (Operand.tmp 5) 2
      have e5 : T.getD 5 undef = _ := (agree_at hag 5 (by kernel_rfl)).trans rfl
      clear hag hd
      go_simp
      first | exact ⟨_, rfl, rfl⟩ | exact ⟨_, rfl, rfl, brefl _⟩ | exact ⟨_, rfl, rfl, hJ, brefl _⟩
    · refine RStepK.want rfl rfl rfl (by kernel_rfl) (fun v w h => h) fun T W L hag hL hJ hLs hd => ?_   -- 10: 54 := Op.load 3 (Operand.tmp 53)
      have d53 : T.getD 53 undef = _ := hd ⟨9, .data⟩ (by simp) rfl _ rfl
      obtain ⟨z0, z1, z2, z3, z4⟩ := sh_cells (kb hJ HE6.out)
      clear hag hd
      go_simp
      first | exact ⟨_, rfl, rfl⟩ | exact ⟨_, rfl, rfl, brefl _⟩ | exact ⟨_, rfl, rfl, hJ, brefl _⟩
    · refine RStepK.want rfl rfl rfl (by kernel_rfl) (fun v w h => h) fun T W L hag hL hJ hLs hd => ?_   -- 11: 55 := Op.binOp BinOp.neq 3 (Operand.tmp 52) (Operand.tmp 54) 3
      have d52 : T.getD 52 undef = _ := hd ⟨8, .data⟩ (by simp) rfl _ rfl
      have d54 : T.getD 54 undef = _ := hd ⟨10, .data⟩ (by simp) rfl _ rfl
      clear hag hd
      go_simp
      first | exact ⟨_, rfl, rfl⟩ | exact ⟨_, rfl, rfl, brefl _⟩ | exact ⟨_, rfl, rfl, hJ, brefl _⟩
    · refine RStepK.of rfl fun T W L hag hL hJ hLs hd => ?_   -- 12: 56 := Op.pick (Operand.tmp 50) (Operand.const (Value.bool true)) (
      have d50 : T.getD 50 undef = _ := hd ⟨6, .data⟩ (by simp) rfl _ rfl
      have d55 : T.getD 55 undef = _ := hd ⟨11, .data⟩ (by simp) rfl _ rfl
      clear hag hd
      go_simp
      first | exact ⟨_, rfl, rfl⟩ | exact ⟨_, rfl, rfl, brefl _⟩ | exact ⟨_, rfl, rfl, hJ, brefl _⟩
    · refine RStepK.of rfl fun T W L hag hL hJ hLs hd => ?_   -- 13: 57 := Op.move (Operand.tmp 56)
      have d56 : T.getD 56 undef = _ := hd ⟨12, .data⟩ (by simp) rfl _ rfl
      clear hag hd
      go_simp
      first | exact ⟨_, rfl, rfl⟩ | exact ⟨_, rfl, rfl, brefl _⟩ | exact ⟨_, rfl, rfl, hJ, brefl _⟩
    · refine RStepK.want rfl rfl rfl (by kernel_rfl) (fun v w h => h) fun T W L hag hL hJ hLs hd => ?_   -- 14: 58 := Op.move (Operand.tmp 8)
      have e8 : T.getD 8 undef = _ := (agree_at hag 8 (by kernel_rfl)).trans rfl
      clear hag hd
      go_simp
      first | exact ⟨_, rfl, rfl⟩ | exact ⟨_, rfl, rfl, brefl _⟩ | exact ⟨_, rfl, rfl, hJ, brefl _⟩
    · refine RStepK.want rfl rfl rfl (by kernel_rfl) (fun v w h => h) fun T W L hag hL hJ hLs hd => ?_   -- 15: 59 := Op.call { callee := Callee.value (Operand.func 26), args := 
      have d58 : T.getD 58 undef = _ := hd ⟨14, .data⟩ (by simp) rfl _ rfl
      clear hag hd
      go_simp
      refine (HEP.out W hJ).mono ?_
      rintro e w' ⟨rfl, rfl⟩
      exact ⟨_, rfl, rfl, hJ, brefl _⟩
    · refine RStepK.want rfl rfl rfl (by kernel_rfl) (fun v w h => h) fun T W L hag hL hJ hLs hd => ?_   -- 16: 60 := Op.binOp BinOp.neq 62 (Operand.tmp 59) (Operand.const (Value
      have d59 : T.getD 59 undef = _ := hd ⟨15, .data⟩ (by simp) rfl _ rfl
      clear hag hd
      go_simp
      first | exact ⟨_, rfl, rfl⟩ | exact ⟨_, rfl, rfl, brefl _⟩ | exact ⟨_, rfl, rfl, hJ, brefl _⟩
    · refine RLastK.of rfl fun T W L hag hLs hL hJ hd => ?_   -- 17: 61 := Op.pick (Operand.tmp 57) (Operand.const (Value.bool true)) (
      have d57 : T.getD 57 undef = _ := hd 13 _ (by simp) rfl
      have d60 : T.getD 60 undef = _ := hd 16 _ (by simp) rfl
      obtain ⟨f, hf, hT⟩ := agree_fn hag
      have d44 : T.getD 44 undef = _ := hd 0 _ (by simp) rfl
      have h44 := (hf 44).trans d44
      have d45 : T.getD 45 undef = _ := hd 1 _ (by simp) rfl
      have h45 := (hf 45).trans d45
      have d46 : T.getD 46 undef = _ := hd 2 _ (by simp) rfl
      have h46 := (hf 46).trans d46
      have d47 : T.getD 47 undef = _ := hd 3 _ (by simp) rfl
      have h47 := (hf 47).trans d47
      have d48 : T.getD 48 undef = _ := hd 4 _ (by simp) rfl
      have h48 := (hf 48).trans d48
      have d49 : T.getD 49 undef = _ := hd 5 _ (by simp) rfl
      have h49 := (hf 49).trans d49
      have d50 : T.getD 50 undef = _ := hd 6 _ (by simp) rfl
      have h50 := (hf 50).trans d50
      have d51 : T.getD 51 undef = _ := hd 7 _ (by simp) rfl
      have h51 := (hf 51).trans d51
      have d52 : T.getD 52 undef = _ := hd 8 _ (by simp) rfl
      have h52 := (hf 52).trans d52
      have d53 : T.getD 53 undef = _ := hd 9 _ (by simp) rfl
      have h53 := (hf 53).trans d53
      have d54 : T.getD 54 undef = _ := hd 10 _ (by simp) rfl
      have h54 := (hf 54).trans d54
      have d55 : T.getD 55 undef = _ := hd 11 _ (by simp) rfl
      have h55 := (hf 55).trans d55
      have d56 : T.getD 56 undef = _ := hd 12 _ (by simp) rfl
      have h56 := (hf 56).trans d56
      have h57 := (hf 57).trans d57
      have d58 : T.getD 58 undef = _ := hd 14 _ (by simp) rfl
      have h58 := (hf 58).trans d58
      have d59 : T.getD 59 undef = _ := hd 15 _ (by simp) rfl
      have h59 := (hf 59).trans d59
      have h60 := (hf 60).trans d60
      have HJ := Lib.hid hJ
      clear hag hd d44 d45 d46 d47 d48 d49 d50 d51 d52 d53 d54 d55 d56 d57 d58 d59 d60 hJ hf
      rw [hT]
      clear hT
      simp only [List.pop_toArray, List.dropLast_cons_cons, List.dropLast_singleton, List.filterMap_cons, List.filterMap_nil, List.foldl_cons, List.foldl_nil, List.setIfInBounds_toArray, List.set_cons_succ, List.set_cons_zero, h44, h45, h46, h47, h48, h49, h50, h51, h52, h53, h54, h55, h56, h57, h58, h59, h60]
      have HS7 := Lib.hid (HSV.out.below HJ.out)
      have HE7 := Lib.hid (kb HJ.out HE6.out)
      have hri : RoomI w W s3 q hp rb g5 G 0 m v := ⟨HS7.out, HST.out.live.lv, HST.out.stops, by rw [HST.out.ep]; omega, by have := HST.out.done; omega, HE7.out⟩
      have HRI := Lib.hid hri
      obtain ⟨z0, z1, z2, z3, z4⟩ := sh_cells HE7.out
      clear hri HRM HEP HSV HE6 HJ HS7 HE7
      go_wp2_with fail
      go_loopw [10, 11, 12, 13, 14, 15] (fun rm ep i sl kk mm wr => ∃ (k : Nat) (v : VM) (m : DM), i = .int .i64 k ∧ k ≤ N ∧ rm = .int .i64 ((v.g - v.us : Nat) : Int) ∧ ep = .int .u32 v.ep ∧ Hid (RoomI w wr s3 q hp rb g5 G k m v)) (fun _ _ i _ _ _ _ => N - (intOf i).toNat)
      case atStart => exact ⟨0, v, m, rfl, by omega, by rw [HST.out.us, HST.out.g_]; rfl, by rw [HST.out.ep]; rfl, HRI.out⟩
      case round =>
        clear z0 z1 z2 z3 z4 HRI
        obtain ⟨k, v1, m1, rfl, hk, rfl, rfl, HI⟩ := hrel
        obtain ⟨w8, rfl⟩ : ∃ w8, w8 = wr := ⟨wr, rfl⟩
        obtain ⟨p1, p2, p3, p4, p5, p6⟩ := HI.out.lv.parts
        have hus := HI.out.lv.usg
        have hsq := HI.out.lv.sqg
        rw [p3] at hus hsq
        have HVF := Lib.hid (And.intro p2 (And.intro p3 (And.intro hus hsq)))
        obtain ⟨R, hR⟩ : ∃ R, v1.g - v1.us = R := ⟨_, rfl⟩
        obtain ⟨E0, hE0⟩ : ∃ E0, v1.ep = E0 := ⟨_, rfl⟩
        have hRG : R ≤ 45 := by omega
        have hep0 := HI.out.ep
        rw [hE0] at hep0
        rw [hR, hE0]
        have HR := Lib.hid (And.intro hR hE0)
        clear p1 p2 p3 p4 p5 p6 hus hsq hR hE0
        obtain ⟨z0, z1, z2, z3, z4⟩ := sh_cells HI.out.sh
        by_cases hlt : k < N
        · have hki : (k : Int) < N := by omega
          obtain ⟨x, hx⟩ : ∃ x, l1[k]? = some x := ⟨_, List.getElem?_eq_getElem (by rw [HN.out]; exact hlt)⟩
          have hxb := HB.out x (List.mem_of_getElem? hx)
          obtain ⟨ad, rfl, hc0⟩ := (HY.out.keep HI.out.sv.ds.bel) k x hx
          obtain ⟨xn, rfl⟩ : ∃ xn : Nat, x = (xn : Int) := ⟨x.toNat, by omega⟩
          have e1 : (xn : Int).tmod 12 = ((xn % 12 : Nat) : Int) := by rw [Int.tmod_eq_emod_of_nonneg (by omega)]; omega
          have u1 : IntKind.u8.wrap ((xn % 12 : Nat) : Int) = ((xn % 12 : Nat) : Int) := IntWalk.u8_in _ (by omega)
          have v1' : IntKind.i64.wrap ((xn % 12 : Nat) : Int) = ((xn % 12 : Nat) : Int) := IntWalk.i64_in _ (by omega)
          have w1' : IntKind.i64.wrap (1 + ((xn % 12 : Nat) : Int)) = ((1 + xn % 12 : Nat) : Int) := by rw [IntWalk.i64_in _ (by omega)]; omega
          have hc12 : 1 ≤ 1 + xn % 12 ∧ 1 + xn % 12 ≤ 12 := by omega
          clear hx hxb
          generalize 1 + xn % 12 = c at *
          generalize xn % 12 = y at *
          go_wp2_with fail
          go_loopw [13, 15] (fun sl j wr2 => ∃ jj : Nat, j = .int .i64 jj ∧ jj ≤ c ∧ Hid (OwnW wr2 w8.heap.size sl (mkW jj)) ∧ Hid (Below w8.heap.size w8 wr2)) (fun _ j _ => c - (intOf j).toNat)
          case atStart => exact ⟨0, rfl, by omega, OwnW.nil _ _, brefl _⟩
          case round =>
            obtain ⟨jj, rfl, hj, HOW, HB2⟩ := hrel
            obtain ⟨w9, rfl⟩ : ∃ w9, w9 = wr := ⟨wr, rfl⟩
            clear hc0 z0 z1 z2 z3 z4
            by_cases hjc : jj < c
            · have hji : (jj : Int) < c := by omega
              have hba : Below w9.heap.size w9 (w9.alloc (Obj.cells (wrA ⟨(jj : Int), 4, zBs⟩) 55)) := (Below.refl _ _).alloc (Nat.le_refl _) _
              have HOA : Hid (OwnW (w9.alloc (Obj.cells (wrA ⟨(jj : Int), 4, zBs⟩) 55)) w8.heap.size _ (mkW jj)) := ownB HOW.out hba
              have HWA := Lib.hid (wrAt_blk (heap_alloc_new w9 (Obj.cells (wrA ⟨(jj : Int), 4, zBs⟩) 55)))
              have HBA := Lib.hid (HB2.out.trans (hba.mono HB2.out.size))
              clear hba
              go_upto_region 20 with (first
                | (refine wpList_buildBk rfl (.const (.int .i64 4)) 4 rfl rfl ?_)
                | (refine wpList_buildW1 rfl (.tmp 83) (.tmp 84) (jj : Int) 4 rfl rfl rfl ?_)
                | (refine wpList_oneW rfl (.tmp 85) rfl ⟨(jj : Int), 4, zBs⟩ zBs_len rfl ?_)
                | (refine wpList_app_wr rfl (.tmp 82) (.tmp 86) rfl w8.heap.size _ (mkW jj) rfl HOA.out w9.heap.size ⟨(jj : Int), 4, zBs⟩ zBs_len rfl HWA.out (by rw [mkW_len]; omega) HBA.out.size (fun v' w' h1 h2 => ?_);
                   have HO2 := Lib.hid h1; have HB3 := Lib.hid (HBA.out.trans h2); clear h1 h2 HOA HWA HBA))
              go_wp2
              go_roundw
              case rel => exact ⟨jj + 1, by go_num, by omega, by rw [mkW_succ]; exact HO2.out, HB3.out⟩
              case measure => simp [intOf]; omega
            · obtain rfl : jj = c := by omega
              have hji : ¬ (jj : Int) < jj := by omega
              obtain ⟨A, d, rfl, hd, hdm, hwr⟩ := ownW_rst HOW.out (R := Rst (fun k => (k < s3 ∨ k = hp ∨ k = rb) ∨ (w8.heap.size ≤ k ∧ k < w9.heap.size)) hp rb) (mkW_56 jj) (fun k h1 h2 => ⟨Or.inr ⟨h1, h2⟩, by have := HI.out.sv.ds.low hp HI.out.sv.ph; omega, by have := HI.out.sv.ds.low rb HI.out.sv.pr; omega⟩)
              rw [mkW_len] at hd ⊢
              have hsg := HI.out.sv.grow HB2.out (Q := fun k => w8.heap.size ≤ k ∧ k < w9.heap.size) (fun k hk => hk)
              obtain ⟨vn, vg, vus, vsq⟩ := HVF.out
              obtain ⟨vR, vE⟩ := HR.out
              have hdn0 := HI.out.dn
              have hch := vchange_any hsg A (mkW jj) jj d (mkW_len jj) hd hdm (mkW_ok (by omega)) hwr (by omega) (by omega) (by omega) (by omega) (by omega)
              have hok := mkW_ch vn hc12.1 hc12.2
              rw [if_pos hok] at hch
              have hlv := HI.out.lv.change (l := mkW jj) (mkW_ok (by omega)) (by omega) (by omega) HI.out.ns
              have hrm := chV_room hok (by omega) (by rw [mkW_len]; omega)
              have hepv := chV_ep v1 (mkW jj)
              have hdn := chM_done m1 v1 (mkW jj)
              have hbl : v1.B.length = 24 := by rw [HI.out.lv.parts.2.2.2.1.len, vn]
              have htt : Tight v1 (mkW jj) ↔ R < 1 + jj := by unfold Tight; rw [mkW_len, vR]
              have hph := HI.out.sv.ph
              have hpr := HI.out.sv.pr
              have hsh := kb HB2.out HI.out.sh
              obtain ⟨z0, z1, z2, z3, z4⟩ := sh_cells hsh
              have HSH := Lib.hid hsh
              have hd2 : (chM m1 v1 (mkW jj)).done.length ≤ 60 + 60 * (k + 1) := by omega
              have hns : (chM m1 v1 (mkW jj)).stops = false := hlv.2.2.2
              have hep2 : (chV v1 (mkW jj)).ep ≤ 2 + (k + 1) := by have := hlv.2.2.1; omega
              have HL2 := Lib.hid (And.intro hlv.1 (And.intro hns (And.intro hep2 (And.intro hd2 (And.intro hph hpr)))))
              have hus2 := hrm.2
              have hroom := hrm.1
              rw [mkW_len] at hroom
              have HCH := Lib.hid hch
              have HUS2 := Lib.hid hus2
              clear hsg hch hlv hrm hdn hbl hph hpr hsh hd2 hns hep2 hus2 hwr hdn0
              obtain ⟨c1, hc1⟩ : ∃ c1, jj + 1 = c1 := ⟨_, rfl⟩
              have wc : IntKind.i64.wrap ((jj : Int) + 1) = (c1 : Int) := by rw [IntWalk.i64_in _ (by omega)]; omega
              obtain ⟨E1, hE1⟩ : ∃ E1, E0 + 1 = E1 := ⟨_, rfl⟩
              have ue : IntKind.u32.wrap ((E0 : Int) + 1) = (E1 : Int) := by rw [IntWalk.u32_in _ (by omega)]; omega
              by_cases ht : R < 1 + jj
              · have hgt : (R : Int) < (c1 : Int) := by omega
                have hroom2 : (chV v1 (mkW jj)).g - (chV v1 (mkW jj)).us = G - jj - 1 := by rw [hroom, if_pos (htt.2 ht), vg]
                have hepo2 : (chV v1 (mkW jj)).ep = E1 := by rw [hepv, if_pos ⟨hok, htt.2 ht⟩]; omega
                obtain ⟨G1, hG1⟩ : ∃ G1, G - jj = G1 := ⟨_, rfl⟩
                obtain ⟨R2, hR2⟩ : ∃ R2, G1 - 1 = R2 := ⟨_, rfl⟩
                have s1 : IntKind.i64.wrap ((G : Int) - jj) = (G1 : Int) := by rw [IntWalk.i64_in _ (by omega)]; omega
                have s2 : IntKind.i64.wrap ((G1 : Int) - 1) = (R2 : Int) := by rw [IntWalk.i64_in _ (by omega)]; omega
                have HR2 : Hid ((chV v1 (mkW jj)).g - (chV v1 (mkW jj)).us = R2) := by unfold Hid; rw [hroom2, hG1, hR2]
                have HE2 := Lib.hid hepo2
                clear hroom hroom2 hepv hepo2 htt hok vn vg vus vsq vR vE
                generalize chM m1 v1 (mkW jj) = m2 at *
                generalize chV v1 (mkW jj) = v2 at *
                go_wp2_with fail
                refine HCH.out.mono ?_
                rintro e w10 ⟨rfl, hs10, hm10⟩
                have hi2 : RoomI w w10 s3 q hp rb g5 G (k + 1) m2 v2 := ⟨hs10.mono (fun k hk => Or.inl hk) (Or.inr (Or.inl rfl)) (Or.inr (Or.inr rfl)), HL2.out.1, HL2.out.2.1, HL2.out.2.2.1, HL2.out.2.2.2.1, (hm10.blk g5 ⟨Or.inl (Or.inl HS3.out.1), HNE.out.1, HNE.out.2⟩).trans HSH.out⟩
                have hrm2 := vroom_any hi2.sv.at_ HUS2.out
                rw [HR2.out] at hrm2
                have HRM2 := Lib.hid hrm2
                have HI2 := Lib.hid hi2
                clear hs10 hm10 hi2 hrm2 HCH z0 z1 z2 z3 z4
                go_wp2_with fail
                refine HRM2.out.mono ?_
                rintro e w11 ⟨rfl, hb11⟩
                have hi3 := HI2.out.below hb11
                have hep3 := vepoch_any hi3.sv.at_
                rw [HE2.out] at hep3
                have HEP3 := Lib.hid hep3
                have HI3 := Lib.hid hi3
                clear hb11 hi3 hep3
                go_wp2_with fail
                refine HEP3.out.mono ?_
                rintro e w' ⟨rfl, rfl⟩
                go_wp2
                go_roundw
                case rel => exact ⟨k + 1, v2, m2, by go_num, by omega, by rw [HR2.out], by rw [HE2.out], HI3.out⟩
                case measure => simp [intOf]; omega
              · have hgt : (c1 : Int) ≤ (R : Int) := by omega
                have hroom2 : (chV v1 (mkW jj)).g - (chV v1 (mkW jj)).us = R - jj - 1 := by rw [hroom, if_neg (fun h => ht (htt.1 h)), vR]
                have hepo2 : (chV v1 (mkW jj)).ep = E0 := by rw [hepv, if_neg (fun h => ht (htt.1 h.2))]; omega
                obtain ⟨G1, hG1⟩ : ∃ G1, R - jj = G1 := ⟨_, rfl⟩
                obtain ⟨R2, hR2⟩ : ∃ R2, G1 - 1 = R2 := ⟨_, rfl⟩
                have s1 : IntKind.i64.wrap ((R : Int) - jj) = (G1 : Int) := by rw [IntWalk.i64_in _ (by omega)]; omega
                have s2 : IntKind.i64.wrap ((G1 : Int) - 1) = (R2 : Int) := by rw [IntWalk.i64_in _ (by omega)]; omega
                have HR2 : Hid ((chV v1 (mkW jj)).g - (chV v1 (mkW jj)).us = R2) := by unfold Hid; rw [hroom2, hG1, hR2]
                have HE2 := Lib.hid hepo2
                clear hroom hroom2 hepv hepo2 htt hok vn vg vus vsq vR vE
                generalize chM m1 v1 (mkW jj) = m2 at *
                generalize chV v1 (mkW jj) = v2 at *
                go_wp2_with fail
                refine HCH.out.mono ?_
                rintro e w10 ⟨rfl, hs10, hm10⟩
                have hi2 : RoomI w w10 s3 q hp rb g5 G (k + 1) m2 v2 := ⟨hs10.mono (fun k hk => Or.inl hk) (Or.inr (Or.inl rfl)) (Or.inr (Or.inr rfl)), HL2.out.1, HL2.out.2.1, HL2.out.2.2.1, HL2.out.2.2.2.1, (hm10.blk g5 ⟨Or.inl (Or.inl HS3.out.1), HNE.out.1, HNE.out.2⟩).trans HSH.out⟩
                have hrm2 := vroom_any hi2.sv.at_ HUS2.out
                rw [HR2.out] at hrm2
                have HRM2 := Lib.hid hrm2
                have HI2 := Lib.hid hi2
                clear hs10 hm10 hi2 hrm2 HCH z0 z1 z2 z3 z4
                go_wp2_with fail
                refine HRM2.out.mono ?_
                rintro e w11 ⟨rfl, hb11⟩
                have hi3 := HI2.out.below hb11
                have hep3 := vepoch_any hi3.sv.at_
                rw [HE2.out] at hep3
                have HEP3 := Lib.hid hep3
                have HI3 := Lib.hid hi3
                clear hb11 hi3 hep3
                go_wp2_with fail
                refine HEP3.out.mono ?_
                rintro e w' ⟨rfl, rfl⟩
                go_wp2
                go_roundw
                case rel => exact ⟨k + 1, v2, m2, by go_num, by omega, by rw [HR2.out], by rw [HE2.out], HI3.out⟩
                case measure => simp [intOf]; omega
        · obtain rfl : k = N := by omega
          have hki : ¬ (k : Int) < k := by omega
          obtain ⟨vn, vg, vus, vsq⟩ := HVF.out
          obtain ⟨vR, vE⟩ := HR.out
          have hdn0 := HI.out.dn
          have hty := vtidy_any HI.out.sv (by omega) (by omega)
          have HTY := Lib.hid hty
          obtain ⟨E1, hE1⟩ : ∃ E1, E0 + 1 = E1 := ⟨_, rfl⟩
          have ue : IntKind.u32.wrap ((E0 : Int) + 1) = (E1 : Int) := by rw [IntWalk.u32_in _ (by omega)]; omega
          have HVE : Hid ((homeV v1).ep = E1 ∧ (homeV v1).us = 0 ∧ (homeV v1).g = G) := ⟨by show v1.ep + 1 = E1; omega, rfl, vg⟩
          have HSH := Lib.hid HI.out.sh
          clear hty vn vg vus vsq vR vE hdn0 z0 z1 z2 z3 z4 HI HR HVF
          generalize homeM (m1.doBarrier v1.r) v1 = m2 at *
          generalize homeV v1 = v2 at *
          go_wp2_with fail
          refine HTY.out.mono ?_
          rintro e wX ⟨rfl, hsX, hmX⟩
          have HEX := Lib.hid ((hmX.blk g5 ⟨Or.inl HS3.out.1, HNE.out.1, HNE.out.2⟩).trans HSH.out)
          have HSX := Lib.hid hsX
          have HBF := Lib.hid hsX.ds.bel
          have hrm : ∀ (W : World), Below wX.heap.size wX W → Calls Try.prog 27 #[.pointer (some ⟨hp, 0, none⟩)] W fun e w' => e = .returned (.int .i64 G) ∧ Below W.heap.size W w' := fun W hJ => by
            have h1 := vroom_any (HSX.out.below hJ).at_ (by rw [HVE.out.2.1]; omega)
            rw [HVE.out.2.1, HVE.out.2.2] at h1
            exact h1
          have HRMX := Lib.hid hrm
          have hepo : ∀ (W : World), Below wX.heap.size wX W → Calls Try.prog 26 #[.pointer (some ⟨hp, 0, none⟩)] W fun e w' => e = .returned (.int .u32 E1) ∧ W = w' := fun W hJ => by
            have h1 := vepoch_any (HSX.out.below hJ).at_
            rw [HVE.out.1] at h1
            exact h1
          have HEPX := Lib.hid hepo
          clear hsX hmX hrm hepo HTY HSH
          go_upto_region 28 with fail
          refine wp_region_rgk (VRb hp g5 G E0 E1) (fun _ W => Below wX.heap.size wX W) (fun _ w w' => Below w.heap.size w w') (by kernel_rfl) (by kernel_rfl) (fun i j v w w' _ _ h hs => by unfold VRb at *; exact h) ((Below.refl _ _).drew) ?_
          simp only [RAll]
          refine ⟨?_, ?_, ?_, ?_, ?_, ?_, ?_, ?_, ?_, ?_, ?_, ?_, ?_⟩
          · refine RStepK.of rfl fun T W L hag hL hJ hLs hd => ?_   -- 0: 118 := Op.move (Operand.tmp 8)
            have e8 : T.getD 8 undef = _ := (agree_at hag 8 (by kernel_rfl)).trans rfl
            clear hag hd
            go_simp
            first | exact ⟨_, rfl, rfl⟩ | exact ⟨_, rfl, rfl, brefl _⟩ | exact ⟨_, rfl, rfl, hJ, brefl _⟩
          · refine RStepK.of rfl fun T W L hag hL hJ hLs hd => ?_   -- 1: 119 := Op.call { callee := Callee.value (Operand.func 27), args := 
            have d118 : T.getD 118 undef = _ := hd ⟨0, .data⟩ (by simp) rfl _ rfl
            clear hag hd
            go_simp
            refine (HRMX.out W hJ).mono ?_
            rintro e w' ⟨rfl, hb⟩
            exact ⟨_, rfl, rfl, keepB hJ hb, hb⟩
          · refine RStepK.of rfl fun T W L hag hL hJ hLs hd => ?_   -- 2: 120 := Op.fieldAddr 30 (Operand.tmp 5) 2
            have e5 : T.getD 5 undef = _ := (agree_at hag 5 (by kernel_rfl)).trans rfl
            clear hag hd
            go_simp
            first | exact ⟨_, rfl, rfl⟩ | exact ⟨_, rfl, rfl, brefl _⟩ | exact ⟨_, rfl, rfl, hJ, brefl _⟩
          · refine RStepK.of rfl fun T W L hag hL hJ hLs hd => ?_   -- 3: 121 := Op.load 3 (Operand.tmp 120)
            have d120 : T.getD 120 undef = _ := hd ⟨2, .data⟩ (by simp) rfl _ rfl
            obtain ⟨z0, z1, z2, z3, z4⟩ := sh_cells (kb hJ HEX.out)
            clear hag hd
            go_simp
            first | exact ⟨_, rfl, rfl⟩ | exact ⟨_, rfl, rfl, brefl _⟩ | exact ⟨_, rfl, rfl, hJ, brefl _⟩
          · refine RStepK.of rfl fun T W L hag hL hJ hLs hd => ?_   -- 4: 122 := Op.binOp BinOp.eql 3 (Operand.tmp 119) (Operand.tmp 121) 3
            have d119 : T.getD 119 undef = _ := hd ⟨1, .data⟩ (by simp) rfl _ rfl
            have d121 : T.getD 121 undef = _ := hd ⟨3, .data⟩ (by simp) rfl _ rfl
            clear hag hd
            go_simp
            first | exact ⟨_, rfl, rfl⟩ | exact ⟨_, rfl, rfl, brefl _⟩ | exact ⟨_, rfl, rfl, hJ, brefl _⟩
          · refine RStepK.of rfl fun T W L hag hL hJ hLs hd => ?_   -- 5: 123 := Op.move (Operand.tmp 122)
            have d122 : T.getD 122 undef = _ := hd ⟨4, .data⟩ (by simp) rfl _ rfl
            clear hag hd
            go_simp
            first | exact ⟨_, rfl, rfl⟩ | exact ⟨_, rfl, rfl, brefl _⟩ | exact ⟨_, rfl, rfl, hJ, brefl _⟩
          · refine RStepK.want rfl rfl rfl (by kernel_rfl) (fun v w h => h) fun T W L hag hL hJ hLs hd => ?_   -- 6: 124 := Op.move (Operand.tmp 8)
            have e8 : T.getD 8 undef = _ := (agree_at hag 8 (by kernel_rfl)).trans rfl
            clear hag hd
            go_simp
            first | exact ⟨_, rfl, rfl⟩ | exact ⟨_, rfl, rfl, brefl _⟩ | exact ⟨_, rfl, rfl, hJ, brefl _⟩
          · refine RStepK.want rfl rfl rfl (by kernel_rfl) (fun v w h => h) fun T W L hag hL hJ hLs hd => ?_   -- 7: 125 := Op.call { callee := Callee.value (Operand.func 26), args := 
            have d124 : T.getD 124 undef = _ := hd ⟨6, .data⟩ (by simp) rfl _ rfl
            clear hag hd
            go_simp
            refine (HEPX.out W hJ).mono ?_
            rintro e w' ⟨rfl, rfl⟩
            exact ⟨_, rfl, rfl, hJ, brefl _⟩
          · refine RStepK.want rfl rfl rfl (by kernel_rfl) (fun v w h => h) fun T W L hag hL hJ hLs hd => ?_   -- 8: 126 := Op.move (Operand.tmp 11)
            have e11 : T.getD 11 undef = _ := (agree_at hag 11 (by kernel_rfl)).trans rfl
            clear hag hd
            go_simp
            first | exact ⟨_, rfl, rfl⟩ | exact ⟨_, rfl, rfl, brefl _⟩ | exact ⟨_, rfl, rfl, hJ, brefl _⟩
          · refine RStepK.want rfl rfl rfl (by kernel_rfl) (fun v w h => h) fun T W L hag hL hJ hLs hd => ?_   -- 9: 127 := Op.binOp BinOp.add 62 (Operand.tmp 126) (Operand.const (Valu
            have d126 : T.getD 126 undef = _ := hd ⟨8, .data⟩ (by simp) rfl _ rfl
            clear hag hd
            go_simp
            first | exact ⟨_, rfl, rfl⟩ | exact ⟨_, rfl, rfl, brefl _⟩ | exact ⟨_, rfl, rfl, hJ, brefl _⟩
          · refine RStepK.want rfl rfl rfl (by kernel_rfl) (fun v w h => h) fun T W L hag hL hJ hLs hd => ?_   -- 10: 128 := Op.binOp BinOp.eql 62 (Operand.tmp 125) (Operand.tmp 127) 62
            have d125 : T.getD 125 undef = _ := hd ⟨7, .data⟩ (by simp) rfl _ rfl
            have d127 : T.getD 127 undef = _ := hd ⟨9, .data⟩ (by simp) rfl _ rfl
            clear hag hd
            go_simp
            first | exact ⟨_, rfl, rfl⟩ | exact ⟨_, rfl, rfl, brefl _⟩ | exact ⟨_, rfl, rfl, hJ, brefl _⟩
          · refine RStepK.of rfl fun T W L hag hL hJ hLs hd => ?_   -- 11: 129 := Op.pick (Operand.tmp 123) (Operand.tmp 128) (Operand.const (
            have d123 : T.getD 123 undef = _ := hd ⟨5, .data⟩ (by simp) rfl _ rfl
            have d128 : T.getD 128 undef = _ := hd ⟨10, .data⟩ (by simp) rfl _ rfl
            clear hag hd
            go_simp
            first | exact ⟨_, rfl, rfl⟩ | exact ⟨_, rfl, rfl, brefl _⟩ | exact ⟨_, rfl, rfl, hJ, brefl _⟩
          · refine RLastK.of rfl fun T W L hag hLs hL hJ hd => ?_   -- 12: 4 := Op.assign (Operand.tmp 129)
            have d129 : T.getD 129 undef = _ := hd 11 _ (by simp) rfl
            obtain ⟨f, hf, hT⟩ := agree_fn hag
            have d118 : T.getD 118 undef = _ := hd 0 _ (by simp) rfl
            have h118 := (hf 118).trans d118
            have d119 : T.getD 119 undef = _ := hd 1 _ (by simp) rfl
            have h119 := (hf 119).trans d119
            have d120 : T.getD 120 undef = _ := hd 2 _ (by simp) rfl
            have h120 := (hf 120).trans d120
            have d121 : T.getD 121 undef = _ := hd 3 _ (by simp) rfl
            have h121 := (hf 121).trans d121
            have d122 : T.getD 122 undef = _ := hd 4 _ (by simp) rfl
            have h122 := (hf 122).trans d122
            have d123 : T.getD 123 undef = _ := hd 5 _ (by simp) rfl
            have h123 := (hf 123).trans d123
            have d124 : T.getD 124 undef = _ := hd 6 _ (by simp) rfl
            have h124 := (hf 124).trans d124
            have d125 : T.getD 125 undef = _ := hd 7 _ (by simp) rfl
            have h125 := (hf 125).trans d125
            have d126 : T.getD 126 undef = _ := hd 8 _ (by simp) rfl
            have h126 := (hf 126).trans d126
            have d127 : T.getD 127 undef = _ := hd 9 _ (by simp) rfl
            have h127 := (hf 127).trans d127
            have d128 : T.getD 128 undef = _ := hd 10 _ (by simp) rfl
            have h128 := (hf 128).trans d128
            have h129 := (hf 129).trans d129
            have HJ := Lib.hid hJ
            clear hag hd d118 d119 d120 d121 d122 d123 d124 d125 d126 d127 d128 d129 hJ hf
            rw [hT]
            clear hT
            simp only [List.pop_toArray, List.dropLast_cons_cons, List.dropLast_singleton, List.filterMap_cons, List.filterMap_nil, List.foldl_cons, List.foldl_nil, List.setIfInBounds_toArray, List.set_cons_succ, List.set_cons_zero, h118, h119, h120, h121, h122, h123, h124, h125, h126, h127, h128, h129]
            go_wp2
            go_ret
            exact ⟨rfl, HBF.out.trans (HJ.out.mono HBF.out.size)⟩

  · have h40i : (40 : Int) < N := by omega
    go_wp2
    go_ret
    exact ⟨rfl, HB0.out⟩

set_option maxRecDepth 100000 in
theorem lifted (os : Os) (started : os.Started) (H : Type) (enc : TypeId × Value → H) :
    ReturnsInHanded {} Try.checked os 7 .any (Rows.volRoomSpec.pre6 enc Try.prog Try.f7 Rows.volRoomRow.domain false) (Rows.volRoomSpec.post enc Try.prog Try.f7 false true false false) := by
  refine returnsInHanded_of_change (C := Try.checked) own started (by kernel_rfl) Try.func7
    (ChangeSpec.witness6 (enc := enc) (C := Try.checked) false ⟨#[], #[.int .u8 0, .slice none 0 0], []⟩ 8 (by kernel_rfl) (by kernel_rfl) (by kernel_rfl) (by kernel_rfl)) ?_
  intro W base args ds gs before hval0 hW hcnd _
  have hval : ∀ (j : Nat) t v, Try.f7.params[j]? = some t → args[j]? = some v → Value.okWide Try.prog W .any base t v := hval0
  have hW' := hW
  obtain ⟨p, q, hA0, hV, rfl, hfz, hnd⟩ := hW
  have hA : DataW.TrodAll enc Try.prog W 0 (fun _ => true) true Try.f7.params.toList args.toList ds p := hA0
  rw [Try.params7] at hA hval
  obtain ⟨v0, vs0, d0, ds0, p0, q0, hargs, rfl, rfl, h0, r0⟩ := trodAll_cons hA
  obtain ⟨v1, vs1, d1, ds1, p1, q1, rfl, rfl, rfl, h1, r1⟩ := trodAll_cons r0
  obtain ⟨rfl, rfl, rfl⟩ := trodAll_nil r1
  obtain rfl : args = #[v0, v1] := by cases args; simp_all
  obtain ⟨rfl, rfl⟩ := trodVars_none hV
  obtain ⟨x0, rfl, rfl, rfl, wx0⟩ := open_int Try.underlying5 (hval 0 5 v0 rfl rfl) h0
  obtain ⟨a1, len1, cap1, rfl⟩ := okWide_slice Try.underlying24 (hval 1 24 v1 rfl rfl)
  clear hA0 hval0
  simp only [List.append_nil] at hW'
  have hlt1 : ∀ y ∈ p1, y.block < W.heap.size := fun y hy => by simpa using hW'.lt y (by simp [hy])
  have harg1 : ∀ W' : World, Below W.heap.size W W' → DataW.Trod enc Try.prog W' 0 (fun b => decide (b < W.heap.size)) true 24 (.slice a1 len1 cap1) d1 p1 :=
    fun W' hn => Below.trod laidOut (by kernel_rfl) (of_decide_eq_true (by kernel_rfl)) h1 hn (fun y hy => hlt1 y hy)
  obtain ⟨fu1, hf1⟩ := h1
  obtain ⟨A1, l1, c1, e1, hd1, hm1, hy1, hB1⟩ := open_byt hf1
  simp [Value.cells] at e1
  obtain ⟨rfl, rfl, rfl⟩ := e1
  refine (walk x0 a1 l1 cap1 W (by have := bounds_u8 wx0; omega) hd1 hm1 hB1 hy1).mono fun e W' ⟨he, bel⟩ => ?_
  subst he
  exact ⟨_, rfl, _, _, _, [], _, [], hW', (trodAll_cons_mk (shut_bool Try.underlying4 _) trodAll_mk0), (trodAll_cons_mk (shut_int Try.underlying5 wx0) (trodAll_cons_mk (harg1 _ bel) trodAll_mk0)), rfl, bel.frame _, fun h => by cases h⟩

theorem over : Rows.volRoomRow.holds Try.pinned (OpenSpec.ofChange Rows.volRoomSpec) :=
  OpenClaim.holds_of_wide 7 Try.f7 rfl rfl rfl rfl rfl rfl rfl ⟨rfl, rfl, rfl, rfl, rfl⟩ rfl rfl rfl rfl rfl (by kernel_rfl) Try.func7 (by kernel_rfl)
    (of_decide_eq_true (by kernel_rfl)) (by unfold Func.isWrapper; first | (rw [if_pos (by decide +kernel)]; kernel_rfl) | (rw [if_neg (by decide +kernel)]; exact ⟨rfl, rfl⟩))
    (fun os started H enc _ => lifted os started H enc)

theorem proved : Rows.VolRoomSaid :=
  over
#print axioms proved
end Go.Proofs.Ytamnpblijdgdaaa.volRoom
