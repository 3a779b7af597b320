/- Contract: the reference's TakeRec. -/
import Derived.Test.YtflldlhfeiamnaaEm
import Derived.Test.YtflldlhfeiamnaaEq
import Derived.Deep.DeepCutAuto
namespace Go.Proofs.Ytflldlhfeiamnaa
open Go.ChangeShapes Go.WideShapes Go.ChangeAt Go.RowKit
set_option linter.unusedVariables false
theorem builtW1 (t k : Int) : Try.prog.built 46 [(0, .int .i64 t), (1, .agg (blkA k zBs))] = some (wrA ⟨t, k, zBs⟩) := by kernel_rfl
theorem wpList_buildW1 {ops : Array Oper} {rest : List Oper} {o : Oper} {a : Act} {w : World} {Q : Exit → Act → World → Prop} (hgd : o.guard = none) (x y : Operand) (t k : Int) (ho : o.op = .build 46 #[(0, x), (1, y)]) (hx : a.eval x = .int .i64 t) (hy : a.eval y = .agg (blkA k zBs))
    (h : wpList Try.prog ops Q rest (a.put o.dst (.agg (wrA ⟨t, k, zBs⟩))) w) : wpList Try.prog ops Q (o :: rest) a w :=
  wpList_plain hgd fun _ hK => by
    unfold Oper.wp execOp
    have hb := run_build (P := Try.prog) w 46 #[(0, .int .i64 t), (1, .agg (blkA k zBs))] _ (builtW1 t k)
    simp only [ho, List.map_toArray, List.map_cons, List.map_nil, hx, hy, Sem.run_bind, hb, Result.andThen_ok]
    exact hK _ _ h
theorem wrA_setB (t k : Int) (bs : List Int) (j : Nat) (x : Int) : (wrA ⟨t, k, bs⟩).setIfInBounds (2 + j) (.int .u8 x) = wrA ⟨t, k, bs.set j x⟩ := by
  unfold wrA wrL blkL
  rw [show 2 + j = j + 1 + 1 by omega]
  simp [← set_Bs]
theorem padB_64 {b : List Int} (h : b.length = 64) : padB b = b.take 56 := by unfold padB; rw [h]; simp
/-- All that is taken is blocks. -/
theorem taken_64 {lb : Int} {e s : Nat} {log : List (List Int)} (h : Taken lb e s log) {i : Nat} {b : List Int} (hi : i ≤ cnt log) (hb : log[i]? = some b) : b.length = 64 := by
  obtain ⟨hc, hm, hp⟩ := h
  have hlen : (readW log (cnt log)).length = cnt log := readW_length _ _
  have h1 : (log.take (1 + cnt log))[i]? = some b := by rw [List.getElem?_take, if_pos (by omega)]; exact hb
  rw [← hp] at h1
  unfold putL at h1
  cases i with
  | zero => injection h1 with h1; rw [← h1]; exact sumd_length (by rw [headR_length, hlen]; have := hc.2.1; omega)
  | succ i =>
    rw [List.getElem?_cons_succ, List.getElem?_map] at h1
    obtain ⟨x, hx, rfl⟩ := Option.map_eq_some_iff.1 h1
    refine sumd_length ?_
    unfold bearB
    have : x.bs.length = 56 := by
      have hx' := List.mem_of_getElem? hx
      unfold readW at hx'
      obtain ⟨j, _, rfl⟩ := List.mem_map.1 hx'
      exact padB_length _
    simp [be_length, this]
def VTR (base : Nat) (fa : Addr) (fd k q r vn : Nat) (y2 : Int) (i : Nat) (v : Value) (w : World) : Prop :=
  match i with
  | 0 | 10 => v = .slice (some fa) 64 fd
  | 1 | 4 | 11 => v = .int .i64 k
  | 2 | 5 | 12 => v = .int .i64 (3 * (k : Int))
  | 3 => v = .int .i64 (q : Nat)
  | 6 | 13 => v = .int .i64 (r : Nat)
  | 7 => v = .slice (some (fa.add q)) 2 (fd - q)
  | 8 => v = .int .u64 vn
  | 9 => v = .int .i64 vn
  | 14 => v = .pointer (some (fa.add r))
  | 15 => v = .int .u8 y2
  | 16 => v = .int .i64 y2
  | 17 => v = .agg (blkA y2 zBs)
  | 18 => v = .agg (wrA ⟨vn, y2, zBs⟩)
  | 19 => ∃ g, v = .pointer (some ⟨g, 0, none⟩) ∧ w.heap[g]? = some (.cells (wrA zW) 46 (0, 0)) ∧ base ≤ g
  | _ => True
structure J2 (w w5 W : World) : Prop where
  bel : Below w.heap.size w W
  bel5 : Below w5.heap.size w5 W
theorem VTR.on {base : Nat} {fa : Addr} {fd k q r vn : Nat} {y2 : Int} {j : Nat} {v : Value} {w w' : World} (h : VTR base fa fd k q r vn y2 j v w) (hs : w.grownBy w' none) : VTR base fa fd k q r vn y2 j v w' := by
  unfold VTR at *
  split <;> try exact h
  · obtain ⟨g, h1, h2, h3⟩ := h
    exact ⟨g, h1, by rw [hs.block g (room_lt h2) (by simp)]; exact h2, h3⟩
  · trivial
set_option maxRecDepth 100000 in
set_option maxHeartbeats 6400000 in
theorem rtake_any (lb : Int) (e s : Nat) (A : Option Addr) (log : List (List Int)) (n c : Nat) (w : World) (hlb : 0 ≤ lb ∧ lb ≤ 255) (he : e < 4294967296) (hs : s < 4294967296) (hn : log.length = n) (hl : n ≤ c) (hc : c ≤ 9223372036854775807) (hok : TxOk log) (hy : Tx w A log) :
    Calls Try.prog 13 #[.int .u8 lb, .int .u32 e, .int .u32 s, .slice A n c] w fun en w' => ∃ v, en = .returned (.tuple #[v, .int .i64 (takeN lb e s log), .bool (decide (Taken lb e s log))]) ∧ OwnW w' w.heap.size v (takeV lb e s log) ∧ Below w.heap.size w w' := by
  have HY := Lib.hid hy
  have HN := Lib.hid hn
  have HO := Lib.hid hok
  have HNO : Hid (¬ Taken lb e s log → takeV lb e s log = [] ∧ takeN lb e s log = 0 ∧ decide (Taken lb e s log) = false) := fun h => ⟨(takeV_no h).1, (takeV_no h).2, decide_eq_false h⟩
  have HFIN : Hid (∀ W, Below w.heap.size w W → ¬ Taken lb e s log → ∃ v, Ending.returned (.tuple #[.slice none 0 0, .int .i64 0, .bool false]) = .returned (.tuple #[v, .int .i64 (takeN lb e s log), .bool (decide (Taken lb e s log))]) ∧ OwnW W w.heap.size v (takeV lb e s log) ∧ Below w.heap.size w W) := fun W hW h => by
    obtain ⟨h1, h2, h3⟩ := HNO.out h
    exact ⟨.slice none 0 0, by rw [h2, h3]; rfl, by rw [h1]; exact OwnW.nil _ _, hW⟩
  clear hn hok hy HNO
  by_cases h0 : n = 0
  · subst h0
    have HF : Hid (¬ Taken lb e s log) := fun h => by have := h.1.2.2; rw [HN.out] at this; omega
    go_enter Try.func13, Try.ntmps13
    go_wp2
    go_ret3
    exact HFIN.out _ (Below.refl _ _) HF.out
  obtain ⟨b0, hb0⟩ : ∃ b0, log[0]? = some b0 := ⟨_, List.getElem?_eq_getElem (by rw [HN.out]; omega)⟩
  have hhd : log.headD [] = b0 := by
    cases log with
    | nil => cases hb0
    | cons y l => injection hb0
  obtain ⟨ad, F, fd, rfl, hc0, hfl, hfd, hby⟩ := HY.out 0 b0 hb0
  have ea : ad.add 0 = ad := by unfold Addr.add; simp
  rw [ea] at hc0
  have HB0 := Lib.hid (HO.out b0 (List.mem_of_getElem? hb0))
  have HHD := Lib.hid hhd
  have HBY := Lib.hid hby
  have hq0 : ((n : Int) == 0) = false := by simp; omega
  clear ea hby hhd hb0
  by_cases h64 : b0.length = 64
  · have HL64 := Lib.hid h64
    rw [h64] at hc0 hfl
    obtain ⟨x10, hx10⟩ : ∃ x10, b0[10]? = some x10 := ⟨_, List.getElem?_eq_getElem (by rw [h64]; omega)⟩
    obtain ⟨fa, rfl, hc10⟩ := HBY.out 10 x10 hx10
    have hxb := HB0.out x10 (List.mem_of_getElem? hx10)
    obtain ⟨cn, rfl⟩ : ∃ cn : Nat, x10 = (cn : Int) := ⟨x10.toNat, by omega⟩
    have HCN : Hid (cnt log = cn) := by unfold Hid cnt; rw [HHD.out, List.getD, hx10]; simp
    rw [show (10 : Nat) = 9 + 1 from rfl, add_sum fa 9] at hc10
    obtain ⟨p1, hp1, HP1⟩ : ∃ p : Nat, 1 + (cn : Int) = p ∧ Hid (p = 1 + cn) := ⟨1 + cn, by omega, rfl⟩
    have wp1 : IntKind.i64.wrap (p1 : Int) = p1 := IntWalk.i64_in _ (by omega)
    clear hx10 h64
    by_cases h12 : 12 < cn
    · have HF : Hid (¬ Taken lb e s log) := fun h => by have := h.1.2.1; rw [HCN.out] at this; omega
      have hd1 : decide (12 < (cn : Int)) = true := decide_eq_true (by omega)
      go_enter Try.func13, Try.ntmps13
      go_wp2
      go_ret3
      exact HFIN.out _ (Below.refl _ _) HF.out
    have hd1 : decide (12 < (cn : Int)) = false := decide_eq_false (by omega)
    by_cases hcn : n < p1
    · have HF : Hid (¬ Taken lb e s log) := fun h => by have := h.1.2.2; rw [HCN.out, HN.out] at this; have := HP1.out; omega
      have hd2 : decide ((n : Int) < p1) = true := decide_eq_true (by omega)
      go_enter Try.func13, Try.ntmps13
      go_wp2
      go_ret3
      exact HFIN.out _ (Below.refl _ _) HF.out
    have hd2 : decide ((n : Int) < p1) = false := decide_eq_false (by omega)
    have HT : Hid (CanRead log) := ⟨by rw [HHD.out]; exact HL64.out, by rw [HCN.out]; omega, by rw [HCN.out, HN.out]; have := HP1.out; omega⟩
    go_enter Try.func13, Try.ntmps13
    go_wp2
    go_loopw [12, 13] (fun v i wr => ∃ k : Nat, i = .int .i64 k ∧ k ≤ cn ∧ OwnW wr w.heap.size v (readW log k) ∧ (∀ i b, i < k → log[1 + i]? = some b → b.length = 64) ∧ Below w.heap.size w wr) (fun _ i _ => cn - (intOf i).toNat)
    case atStart => exact ⟨0, rfl, Nat.zero_le _, OwnW.nil _ _, fun i b h => by omega, Below.refl _ _⟩
    case round =>
      obtain ⟨v, rfl⟩ : ∃ v, v = u12 := ⟨u12, rfl⟩
      obtain ⟨k, rfl, hk, own, hall, hbel⟩ := hrel
      obtain ⟨w5, rfl⟩ : ∃ w5, w5 = wr := ⟨wr, rfl⟩
      have HOW := Lib.hid own
      have HALL := Lib.hid hall
      have d10 := keepC hbel hc10
      clear own hall
      by_cases hlt : k < cn
      · obtain ⟨bx, hbx⟩ : ∃ bx, log[1 + k]? = some bx := ⟨_, List.getElem?_eq_getElem (by rw [HN.out]; have := HP1.out; omega)⟩
        obtain ⟨a', B, d, e', hcx, hbl, hd', hbyx⟩ := HY.out (1 + k) bx hbx
        injection e' with e'; subst e'
        obtain ⟨p, hp, HP⟩ : ∃ p : Nat, 1 + (k : Int) = p ∧ Hid (p = 1 + k) := ⟨1 + k, by omega, rfl⟩
        have wp : IntKind.i64.wrap (p : Int) = p := IntWalk.i64_in _ (by omega)
        have hpn : (p : Int) < n := by have := HP1.out; omega
        have hcx' : w5.cell? (ad.add p) = some (.slice B bx.length d) := by rw [HP.out]; exact keepC hbel hcx
        have HBX := Lib.hid hbx
        have HBYX := Lib.hid hbyx
        clear hbyx hbx
        by_cases hb64 : bx.length = 64
        · rw [hb64] at hcx' hbl
          have HB64 := Lib.hid hb64
          obtain ⟨q, hqq, HQ⟩ : ∃ q : Nat, 11 + 3 * (k : Int) = q ∧ Hid (q = 11 + 3 * k) := ⟨11 + 3 * k, by omega, rfl⟩
          obtain ⟨r, hrr, HR⟩ : ∃ r : Nat, 13 + 3 * (k : Int) = r ∧ Hid (r = 13 + 3 * k) := ⟨13 + 3 * k, by omega, rfl⟩
          have hq64 : q ≤ 44 := by omega
          have HRQ : Hid (r = q + 2) := by unfold Hid; rw [HR.out, HQ.out]; omega
          have hr46 : r ≤ 46 := by rw [HRQ.out]; omega
          have hqr : q ≤ r := by rw [HRQ.out]; omega
          have w3 : IntKind.i64.wrap (3 * (k : Int)) = 3 * (k : Int) := IntWalk.i64_in _ (by omega)
          have wq : IntKind.i64.wrap (q : Int) = q := IntWalk.i64_in _ (by omega)
          have wr' : IntKind.i64.wrap (r : Int) = r := IntWalk.i64_in _ (by omega)
          obtain ⟨y2, hy2⟩ : ∃ y2, b0[r]? = some y2 := ⟨_, List.getElem?_eq_getElem (by rw [HL64.out]; omega)⟩
          have hyb := HB0.out y2 (List.mem_of_getElem? hy2)
          have wy : IntKind.i64.wrap y2 = y2 := IntWalk.i64_in _ (by omega)
          have hyg : b0.getD (13 + 3 * k) 0 = y2 := by rw [← HR.out, List.getD, hy2]; rfl
          have hwat : wAt log k = ⟨numV ((b0.drop q).take 2), y2, bx.take 56⟩ := by
            unfold wAt; rw [HHD.out, HQ.out, hyg, List.getD_eq_getElem?_getD (l := log), HBX.out, ← padB_64 hb64]; rfl
          have hty : Byt w (some (fa.add q)) ((b0.drop q).take 2) := by
            intro i z hz
            rw [List.getElem?_take] at hz
            split at hz
            · rw [List.getElem?_drop] at hz
              obtain ⟨a2, e2, h2⟩ := HBY.out _ _ hz
              injection e2 with e2; subst e2
              exact ⟨_, rfl, by rw [add_add']; exact h2⟩
            · cases hz
          have hnv := numV_lt 2 ((b0.drop q).take 2) (by rw [List.length_take, List.length_drop, HL64.out]; omega) (fun z hz => HB0.out z (List.mem_of_mem_drop (List.mem_of_mem_take hz)))
          have HNUM : Hid (∀ W, Below w.heap.size w W → Calls Try.prog 29 #[.slice (some (fa.add q)) 2 (fd - q)] W fun e w' => e = .returned (.int .u64 (numV ((b0.drop q).take 2))) ∧ W = w') := fun W hW =>
            rnum_any _ _ 2 _ W (by rw [List.length_take, List.length_drop, HL64.out]; omega) (by omega) (fun z hz => HB0.out z (List.mem_of_mem_drop (List.mem_of_mem_take hz))) (hty.keep hW)
          have HYC : Hid (∀ W, Below w.heap.size w W → W.cell? (fa.add r) = some (.int .u8 y2)) := fun W hW => by
            obtain ⟨a2, e2, h2⟩ := HBY.out _ _ hy2
            injection e2 with e2; subst e2
            exact keepC hW h2
          have HWAT := Lib.hid hwat
          clear hwat hty hy2 hyg
          generalize numV ((b0.drop q).take 2) = vn at *
          have wv : IntKind.i64.wrap (vn : Int) = vn := IntWalk.i64_in _ (by omega)
          have hq64a : (q : Int) ≤ r := by omega
          have hr0 : (0 : Int) ≤ r := by omega
          have hr64a : (r : Int) ≤ fd := by omega
          have hr64b : (r : Int) < 64 := by omega
          have hfq : ¬ fd = q := by omega
          have hrq2 : r - q = 2 := by rw [HRQ.out]; omega
          go_upto_region 10 with fail
          have grefl : ∀ W : World, W.grownBy W none := fun W => World.grownBy.refl W _
          refine wp_region_rg (VTR w5.heap.size fa fd k q r vn y2) (J2 w w5) (fun w w' => w.grownBy w' none) (by kernel_rfl) (by kernel_rfl) (fun j v w w' h hg => h.on hg) ⟨hbel.drew, (Below.refl _ _).drew⟩ ?_
          simp only [RAll]
          refine ⟨?_, ?_, ?_, ?_, ?_, ?_, ?_, ?_, ?_, ?_, ?_, ?_, ?_, ?_, ?_, ?_, ?_, ?_, ?_, ?_, ?_⟩
          · refine RStep.of rfl fun T W hag hJ hd => ?_   -- 0: 68 := Op.move (Operand.tmp 11)
            have e11 : T.getD 11 undef = _ := (agree_at hag 11 (by kernel_rfl)).trans rfl
            clear hag hd
            go_simp
            exact ⟨_, rfl, rfl⟩
          · refine RStep.of rfl fun T W hag hJ hd => ?_   -- 1: 69 := Op.move (Operand.tmp 13)
            have e13 : T.getD 13 undef = _ := (agree_at hag 13 (by kernel_rfl)).trans rfl
            clear hag hd
            go_simp
            exact ⟨_, rfl, rfl⟩
          · refine RStep.of rfl fun T W hag hJ hd => ?_   -- 2: 70 := Op.binOp BinOp.mul 3 (Operand.const (Value.int IntKind.i64 3)) (Operan
            have d69 : T.getD 69 undef = _ := hd ⟨1, .data⟩ (by simp) rfl _ rfl
            clear hag hd
            go_simp
            exact ⟨_, rfl, rfl⟩
          · refine RStep.of rfl fun T W hag hJ hd => ?_   -- 3: 71 := Op.binOp BinOp.add 3 (Operand.const (Value.int IntKind.i64 11)) (Opera
            have d70 : T.getD 70 undef = _ := hd ⟨2, .data⟩ (by simp) rfl _ rfl
            clear hag hd
            go_simp
            exact ⟨_, rfl, rfl⟩
          · refine RStep.of rfl fun T W hag hJ hd => ?_   -- 4: 72 := Op.move (Operand.tmp 13)
            have e13 : T.getD 13 undef = _ := (agree_at hag 13 (by kernel_rfl)).trans rfl
            clear hag hd
            go_simp
            exact ⟨_, rfl, rfl⟩
          · refine RStep.of rfl fun T W hag hJ hd => ?_   -- 5: 73 := Op.binOp BinOp.mul 3 (Operand.const (Value.int IntKind.i64 3)) (Operan
            have d72 : T.getD 72 undef = _ := hd ⟨4, .data⟩ (by simp) rfl _ rfl
            clear hag hd
            go_simp
            exact ⟨_, rfl, rfl⟩
          · refine RStep.of rfl fun T W hag hJ hd => ?_   -- 6: 74 := Op.binOp BinOp.add 3 (Operand.const (Value.int IntKind.i64 13)) (Opera
            have d73 : T.getD 73 undef = _ := hd ⟨5, .data⟩ (by simp) rfl _ rfl
            clear hag hd
            go_simp
            exact ⟨_, rfl, rfl⟩
          · refine RStep.of rfl fun T W hag hJ hd => ?_   -- 7: 75 := Op.slice 25 (Operand.tmp 68) (some (Operand.tmp 71)) (some (Operand.tm
            have d68 : T.getD 68 undef = _ := hd ⟨0, .data⟩ (by simp) rfl _ rfl
            have d71 : T.getD 71 undef = _ := hd ⟨3, .data⟩ (by simp) rfl _ rfl
            have d74 : T.getD 74 undef = _ := hd ⟨6, .data⟩ (by simp) rfl _ rfl
            clear hag hd
            go_simp
            exact ⟨_, rfl, rfl⟩
          · refine RStep.of rfl fun T W hag hJ hd => ?_   -- 8: 76 := Op.call { callee := Callee.value (Operand.func 29), args := #[Operand.
            have d75 : T.getD 75 undef = _ := hd ⟨7, .data⟩ (by simp) rfl _ rfl
            clear hag hd
            go_simp
            refine (HNUM.out W hJ.bel).mono ?_; rintro e w' ⟨rfl, rfl⟩
            exact ⟨_, rfl, rfl, hJ, grefl _⟩
          · refine RStep.of rfl fun T W hag hJ hd => ?_   -- 9: 77 := Op.convert 52 3 (Operand.tmp 76)
            have d76 : T.getD 76 undef = _ := hd ⟨8, .data⟩ (by simp) rfl _ rfl
            clear hag hd
            go_simp
            exact ⟨_, rfl, rfl⟩
          · refine RStep.of rfl fun T W hag hJ hd => ?_   -- 10: 78 := Op.move (Operand.tmp 11)
            have e11 : T.getD 11 undef = _ := (agree_at hag 11 (by kernel_rfl)).trans rfl
            clear hag hd
            go_simp
            exact ⟨_, rfl, rfl⟩
          · refine RStep.of rfl fun T W hag hJ hd => ?_   -- 11: 79 := Op.move (Operand.tmp 13)
            have e13 : T.getD 13 undef = _ := (agree_at hag 13 (by kernel_rfl)).trans rfl
            clear hag hd
            go_simp
            exact ⟨_, rfl, rfl⟩
          · refine RStep.of rfl fun T W hag hJ hd => ?_   -- 12: 80 := Op.binOp BinOp.mul 3 (Operand.const (Value.int IntKind.i64 3)) (Operan
            have d79 : T.getD 79 undef = _ := hd ⟨11, .data⟩ (by simp) rfl _ rfl
            clear hag hd
            go_simp
            exact ⟨_, rfl, rfl⟩
          · refine RStep.of rfl fun T W hag hJ hd => ?_   -- 13: 81 := Op.binOp BinOp.add 3 (Operand.const (Value.int IntKind.i64 13)) (Opera
            have d80 : T.getD 80 undef = _ := hd ⟨12, .data⟩ (by simp) rfl _ rfl
            clear hag hd
            go_simp
            exact ⟨_, rfl, rfl⟩
          · refine RStep.of rfl fun T W hag hJ hd => ?_   -- 14: 82 := Op.indexAddr 25 (Operand.tmp 78) (Operand.tmp 81)
            have d78 : T.getD 78 undef = _ := hd ⟨10, .data⟩ (by simp) rfl _ rfl
            have d81 : T.getD 81 undef = _ := hd ⟨13, .data⟩ (by simp) rfl _ rfl
            clear hag hd
            go_simp
            exact ⟨_, rfl, rfl⟩
          · refine RStep.of rfl fun T W hag hJ hd => ?_   -- 15: 83 := Op.load 5 (Operand.tmp 82)
            have d82 : T.getD 82 undef = _ := hd ⟨14, .data⟩ (by simp) rfl _ rfl
            have fct0 := HYC.out W hJ.bel
            clear hag hd
            go_simp
            exact ⟨_, rfl, rfl⟩
          · refine RStep.of rfl fun T W hag hJ hd => ?_   -- 16: 84 := Op.convert 5 3 (Operand.tmp 83)
            have d83 : T.getD 83 undef = _ := hd ⟨15, .data⟩ (by simp) rfl _ rfl
            clear hag hd
            go_simp
            exact ⟨_, rfl, rfl⟩
          · refine RStep.of rfl fun T W hag hJ hd => ?_   -- 17: 85 := Op.build 44 #[(0, Operand.tmp 84)]
            have d84 : T.getD 84 undef = _ := hd ⟨16, .data⟩ (by simp) rfl _ rfl
            have ev84 : (⟨T, []⟩ : Act).eval (.tmp 84) = .int .i64 y2 := d84
            clear hag hd
            have hb := run_build (P := Try.prog) W 44 #[(0, .int .i64 y2)] _ (built24k y2)
            refine wp_run (v := .agg (blkA y2 zBs)) (w' := W) ?_ ⟨_, rfl, rfl, hJ, World.grownBy.refl _ _⟩
            unfold execOp
            simp only [List.map_toArray, List.map_cons, List.map_nil, ev84, Sem.run_bind, hb, Result.andThen_ok, Sem.run_pure]
          · refine RStep.of rfl fun T W hag hJ hd => ?_   -- 18: 86 := Op.build 46 #[(0, Operand.tmp 77), (1, Operand.tmp 85)]
            have d77 : T.getD 77 undef = _ := hd ⟨9, .data⟩ (by simp) rfl _ rfl
            have d85 : T.getD 85 undef = _ := hd ⟨17, .data⟩ (by simp) rfl _ rfl
            have ev77 : (⟨T, []⟩ : Act).eval (.tmp 77) = .int .i64 vn := d77
            have ev85 : (⟨T, []⟩ : Act).eval (.tmp 85) = .agg (blkA y2 zBs) := d85
            clear hag hd
            have hb := run_build (P := Try.prog) W 46 #[(0, .int .i64 vn), (1, .agg (blkA y2 zBs))] _ (builtW1 vn y2)
            refine wp_run (v := .agg (wrA ⟨vn, y2, zBs⟩)) (w' := W) ?_ ⟨_, rfl, rfl, hJ, World.grownBy.refl _ _⟩
            unfold execOp
            simp only [List.map_toArray, List.map_cons, List.map_nil, ev77, ev85, Sem.run_bind, hb, Result.andThen_ok, Sem.run_pure]
          · refine RStep.of rfl fun T W hag hJ hd => ?_   -- 19: 14 := Op.alloc 46
            clear hag hd
            obtain ⟨i0, hi, hz0, hz1, hz2⟩ := info_parts infoW
            refine wp_alloc_of 46 rfl i0 _ hi hz0 ?_
            exact ⟨_, rfl, ⟨W.heap.size, rfl, heap_alloc_new W _, hJ.bel5.size⟩, ⟨hJ.bel.alloc hJ.bel.size _, hJ.bel5.alloc hJ.bel5.size _⟩, World.grownBy_alloc W _ _⟩
          · refine RLast.of rfl fun T W hag hJ hd => ?_   -- 20: None := Op.store 46 (Operand.tmp 14) (Operand.tmp 86)
            obtain ⟨g, (d14 : T.getD 14 undef = _), hg, hgw⟩ := hd 19 _ (by simp) rfl
            have d86 : T.getD 86 undef = _ := hd 18 _ (by simp) rfl
            obtain ⟨f, hf, hT⟩ := agree_fn hag
            have h14 := (hf 14).trans d14
            have h86 := (hf 86).trans d86
            have HJ := Lib.hid hJ
            clear hag hd d14 d86 hJ hf
            rw [hT]
            clear hT
            simp only [List.filterMap_cons, List.filterMap_nil, List.foldl_cons, List.foldl_nil, List.setIfInBounds_toArray, List.set_cons_succ, List.set_cons_zero, h14, h86]
            refine wp_store_row 46 (.tmp 14) (.tmp 86) rfl g _ rfl rfl _ _ hg (by rw [wrA_size zBs_len]; exact sizeW) (by rw [wrA_size zW_len, wrA_size (x := ⟨vn, y2, zBs⟩) zBs_len]) (wrA_one _) ?_
            have hnew := setRow_heap W g _ (wrA ⟨(vn : Int), y2, zBs⟩) 46 (0, 0) hg
            have B6 := below_setRow HJ.out.bel5 hgw (wrA ⟨(vn : Int), y2, zBs⟩)
            go_wp2_with fail
            generalize W.setRow g (wrA ⟨(vn : Int), y2, zBs⟩) = W6 at *
            have HBT : Hid ((bx.take 56).length = 56) := by unfold Hid; rw [List.length_take, HB64.out]; rfl
            have HG := Lib.hid hgw
            clear hg hgw HJ h14 h86 hyb d10
            go_loopw [15] (fun i wq => ∃ j : Nat, i = .int .i64 j ∧ j ≤ 56 ∧ wq.heap[g]? = some (.cells (wrA ⟨(vn : Int), y2, fillBs (bx.take 56) j⟩) 46 (0, 0)) ∧ Below w5.heap.size w5 wq) (fun i _ => 56 - (intOf i).toNat)
            case atStart => exact ⟨0, rfl, Nat.zero_le _, hnew, B6⟩
            case round =>
              obtain ⟨j, rfl, hj, hblk, hb6⟩ := hrel
              have HBK := Lib.hid hblk
              clear hblk hnew B6
              obtain ⟨w6, rfl⟩ : ∃ w6, w6 = wr := ⟨wr, rfl⟩
              by_cases hj56 : j < 56
              · obtain ⟨z, hz⟩ : ∃ z, (bx.take 56)[j]? = some z := ⟨_, List.getElem?_eq_getElem (by rw [HBT.out]; exact hj56)⟩
                have hz' : bx[j]? = some z := by rw [List.getElem?_take, if_pos hj56] at hz; exact hz
                obtain ⟨ba, rfl, hcz⟩ := (HBYX.out.keep (hbel.trans (hb6.mono hbel.size))) j z hz'
                have hcx6 := keepC hb6 hcx'
                obtain ⟨u, hu⟩ : ∃ u, (wrA ⟨(vn : Int), y2, fillBs (bx.take 56) j⟩)[2 + j]? = some u := ⟨_, Array.getElem?_eq_getElem (by rw [wrA_size (x := ⟨(vn : Int), y2, fillBs (bx.take 56) j⟩) (fillBs_len HBT.out hj)]; omega)⟩
                have cg : w6.cell? ⟨g, 2 + j, none⟩ = some u := (blk_cell HBK.out _).trans hu
                have fg : w6.frozen? ⟨g, 2 + j, none⟩ = false := blk_free HBK.out _
                have HZ := Lib.hid hz
                have hj64 : (j : Int) < 64 := by omega
                clear hz hz' hu
                go_wp2
                go_roundw
                case rel =>
                  refine ⟨j + 1, by go_num, by omega, ?_, hb6.setCell HG.out _⟩
                  rw [heap_setCell_same' HBK.out, wrA_setB, fillBs_set HBT.out hj56 HZ.out]
                case measure => simp [intOf]; omega
              · obtain rfl : j = 56 := by omega
                rw [fillBs_all HBT.out] at HBK
                have OW6 := ownB HOW.out hb6
                have bel6 := keepB hbel hb6
                have HW56 := (wAt_ok HO.out k).len
                have HBK2 : Hid (w6.heap[g]? = some (.cells (wrA (wAt log k)) 46 (0, 0))) := by unfold Hid; rw [HWAT.out]; exact HBK.out
                have hge56 : ¬ ((56 : Int) < 56) := by omega
                clear HBK hcx'
                go_wp2_with (first
                  | (refine wpList_loadW rfl (.tmp 14) rfl g rfl (wAt log k) HW56 HBK2.out ?_)
                  | (refine wpList_oneW rfl (.tmp 104) rfl (wAt log k) HW56 rfl ?_)
                  | (at_builtin
                     refine wpList_app_wr rfl (.tmp 103) (.tmp 105) rfl w.heap.size v (readW log k) rfl (OW6.alloc _) w6.heap.size (wAt log k) HW56 rfl (wrAt_blk (heap_alloc_new _ _)) (by rw [readW_length]; omega) (by rw [size_alloc']; have := bel6.size; omega) ?_
                     intro v7 w7 h7 hb7
                     have bel7 : Below w.heap.size w w7 := (bel6.alloc bel6.size _).trans hb7
                     have OW7 : OwnW w7 w.heap.size v7 (readW log (k + 1)) := by rw [readW_snoc]; exact h7
                     clear h7 hb7 OW6 bel6))
                go_roundw
                case rel =>
                  refine ⟨k + 1, by go_num, by omega, OW7, fun i b hi hb => ?_, bel7⟩
                  by_cases e : i = k
                  · subst e; rw [HBX.out] at hb; injection hb with hb; rw [← hb]; exact HB64.out
                  · exact HALL.out i b (by omega) hb
                case measure => simp [intOf]; omega
        · have HNT : Hid (¬ Taken lb e s log) := fun h => hb64 (taken_64 h (i := 1 + k) (by rw [HCN.out]; omega) HBX.out)
          generalize bx.length = bl at *
          have hq6 : ((bl : Int) != 64) = true := by simp; omega
          go_wp2
          go_ret3
          exact HFIN.out _ hbel HNT.out
      · obtain rfl : k = cn := by omega
        have hge : ¬ ((k : Int) < k) := by omega
        have hok1 := readW_ok HO.out k
        obtain ⟨Av, dv, rfl, hdv, hdv2, hwv⟩ := HOW.out.wrs hok1.len
        rw [readW_length] at hdv HOW ⊢
        have HOK1 := Lib.hid hok1
        have HP := Lib.hid (rput_any lb e s Av (readW log k) k dv w5 hlb he hs (readW_length _ _) hdv hdv2 hok1 hwv)
        have HY1 := Lib.hid (HY.out.keep hbel)
        have HRL := Lib.hid (readW_length log k)
        clear hok1 hwv
        generalize hlv : readW log k = lv at *
        have HLV := Lib.hid hlv
        clear hlv
        by_cases hmay : MayL lv
        · have HPX : Hid (putX lb e s lv = putL lb e s lv) := by unfold Hid putX; rw [if_pos hmay]
          have HMAY := Lib.hid hmay
          rw [decide_eq_true hmay] at HP
          have HTX := Lib.hid (putL_txOk e s hlb hmay HOK1.out)
          clear hmay
          go_wp2_with fail
          refine HP.out.mono ?_
          rintro en w2 ⟨v2, rfl, ot2, hb2⟩
          rw [HPX.out] at ot2
          obtain ⟨A2, d2, rfl, hd2, hd22, htx2⟩ := ot2.tx
          have HPL : Hid ((putL lb e s lv).length = p1) := by unfold Hid; rw [putL_length, HRL.out, HP1.out]
          rw [HPL.out] at hd2 ⊢
          have HY2 := Lib.hid (HY1.out.keep hb2)
          have HX2 := Lib.hid htx2
          have HOW2 := Lib.hid (show OwnW w2 w.heap.size (.slice Av k dv) lv from ownB HOW.out hb2)
          have HBL2 := Lib.hid (keepB hbel hb2)
          have HTK : Hid (putL lb e s lv = log.take p1 → Taken lb e s log) := fun hq => ⟨HT.out, by rw [HCN.out, HLV.out]; exact HMAY.out, by rw [HCN.out, HLV.out, ← HP1.out]; exact hq⟩
          have HTN : Hid (Taken lb e s log → putL lb e s lv = log.take p1) := fun h => by have := h.2.2; rwa [HCN.out, HLV.out, ← HP1.out] at this
          have hp1c : p1 ≤ n := by omega
          clear ot2 htx2 hb2 HP hbel d10
          go_wp2_with fail
          go_loopw [18] (fun i wq => ∃ j : Nat, i = .int .i64 j ∧ j ≤ p1 ∧ (putL lb e s lv).take j = log.take j ∧ Below w2.heap.size w2 wq) (fun i _ => p1 - (intOf i).toNat)
          case atStart => exact ⟨0, rfl, Nat.zero_le _, rfl, Below.refl _ _⟩
          case round =>
            obtain ⟨j, rfl, hj, hpre, hbq⟩ := hrel
            have HPRE := Lib.hid hpre
            clear hpre
            obtain ⟨w6, rfl⟩ : ∃ w6, w6 = wr := ⟨wr, rfl⟩
            by_cases hjp : j < p1
            · obtain ⟨x, hx⟩ : ∃ x, (putL lb e s lv)[j]? = some x := ⟨_, List.getElem?_eq_getElem (by rw [HPL.out]; exact hjp)⟩
              obtain ⟨y, hy⟩ : ∃ y, log[j]? = some y := ⟨_, List.getElem?_eq_getElem (by rw [HN.out]; omega)⟩
              obtain ⟨a2, X1, dx1, rfl, cx, _, _, byx⟩ := (HX2.out.keep hbq) j x hx
              obtain ⟨a3, Y1, dy1, e3, cy, _, _, byy⟩ := (HY2.out.keep hbq) j y hy
              injection e3 with e3; subst e3
              have k1 := fun q => (show (w6.drewN q).cell? _ = _ from cx)
              have k2 := fun q => (show (w6.drewN q).cell? _ = _ from cy)
              have s1 := fun q => (conv_any (c := dx1) (byx.drew q) rfl : _ = _)
              have s2 := fun q => (conv_any (c := dy1) (byy.drew q) rfl : _ = _)
              have HSB := Lib.hid (str_beq (HTX.out x (List.mem_of_getElem? hx)) (HO.out y (List.mem_of_getElem? hy)))
              have H1 := Lib.hid hx
              have H2 := Lib.hid hy
              have hj1 : (j : Int) < p1 := by omega
              have hj2 : (j : Int) < n := by omega
              have hj0 : (0 : Int) ≤ j := by omega
              have hj3 : j < p1 := hjp
              have hj4 : j < n := by omega
              clear cx cy byx byy hx hy
              by_cases hq : x = y
              · have HQ := Lib.hid hq
                have hsq := HSB.out
                rw [decide_eq_true hq] at hsq
                clear HSB hq
                generalize strOfNums x = z1 at *
                generalize strOfNums y = z2 at *
                generalize x.length = xl at *
                generalize y.length = yl at *
                go_upto_region 22 with fail
                go_quiet (fail)
                have hbq2 := keepB hbq (bdn (Below.refl w6.heap.size w6) nq)
                clear k1 k2 s1 s2
                generalize w6.drewN nq = w7 at *
                go_wp2
                go_roundw
                case rel => exact ⟨j + 1, by go_num, by omega, by rw [take_snoc' H1.out, take_snoc' H2.out, HPRE.out, HQ.out], hbq2⟩
                case measure => simp [intOf]; omega
              · have HNT : Hid (¬ Taken lb e s log) := fun h => hq (by
                  have h1 := HTN.out h
                  have h2 := H1.out
                  rw [h1, List.getElem?_take, if_pos hjp, H2.out] at h2
                  injection h2 with h2; exact h2.symm)
                have hsq := HSB.out
                rw [decide_eq_false hq] at hsq
                clear HSB hq
                generalize strOfNums x = z1 at *
                generalize strOfNums y = z2 at *
                generalize x.length = xl at *
                generalize y.length = yl at *
                go_upto_region 22 with fail
                go_quiet (fail)
                have hbq2 := keepB hbq (bdn (Below.refl w6.heap.size w6) nq)
                clear k1 k2 s1 s2
                generalize w6.drewN nq = w7 at *
                go_wp2
                go_ret3
                exact HFIN.out _ (keepB HBL2.out hbq2) HNT.out
            · obtain rfl : j = p1 := by omega
              have hge2 : ¬ ((j : Int) < j) := by omega
              have hTk : Taken lb e s log := HTK.out (by
                have h := HPRE.out
                rwa [List.take_of_length_le (by rw [HPL.out]; omega)] at h)
              have HTV := Lib.hid (takeV_yes hTk)
              have HTT := Lib.hid hTk
              clear hTk
              go_wp2
              go_ret3
              exact ⟨_, by rw [HTV.out.2, decide_eq_true HTT.out, HCN.out, ← HP1.out]; rfl, by rw [HTV.out.1, HCN.out, HLV.out]; exact ownB HOW2.out hbq, keepB HBL2.out hbq⟩
        · have HNT : Hid (¬ Taken lb e s log) := fun h => hmay (by have := h.2.1; rwa [HCN.out, HLV.out] at this)
          rw [decide_eq_false hmay] at HP
          clear hmay
          go_wp2_with fail
          refine HP.out.mono ?_
          rintro en w2 ⟨v2, rfl, ot2, hb2⟩
          have HBL2 := Lib.hid (keepB hbel hb2)
          go_wp2_with fail
          go_ret3
          exact HFIN.out _ HBL2.out HNT.out
  · have HNT : Hid (¬ Taken lb e s log) := fun h => h64 (by have := h.1.1; rwa [HHD.out] at this)
    generalize b0.length = bl at *
    have hq1 : ((bl : Int) != 64) = true := by simp; omega
    go_enter Try.func13, Try.ntmps13
    go_wp2
    go_ret3
    exact HFIN.out _ (Below.refl _ _) HNT.out
end Go.Proofs.Ytflldlhfeiamnaa
