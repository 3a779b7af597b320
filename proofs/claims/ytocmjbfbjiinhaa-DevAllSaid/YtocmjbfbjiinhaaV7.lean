/- Contracts: Read. -/
import Derived.Test.YtocmjbfbjiinhaaV6
import Derived.Test.YtocmjbfbjiinhaaW
import Derived.Test.YtocmjbfbjiinhaaRg
import Derived.Deep.DeepCutAuto
namespace Go.Proofs.Ytocmjbfbjiinhaa
open Go.ChangeShapes Go.WideShapes Go.ChangeAt Go.RowKit
set_option linter.unusedVariables false
theorem encB_length (l : List (List Int)) (h : ∀ x ∈ l, x.length = 64) : (encB l).length = l.length * 64 := by
  induction l with
  | nil => rfl
  | cons x l ih =>
    have := ih (fun y hy => h y (by simp [hy]))
    have hx := h x (by simp)
    unfold encB at this ⊢
    rw [List.flatMap_cons, List.length_append, this, Bs_length, hx, List.length_cons]; omega
theorem encB_drop (l : List (List Int)) (h : ∀ x ∈ l, x.length = 64) (i : Nat) : (encB l).drop (i * 64) = encB (l.drop i) := by
  induction i generalizing l with
  | zero => simp
  | succ i ih =>
    cases l with
    | nil => simp [encB]
    | cons x l =>
      have hx : (Bs x).length = 64 := by simp [Bs_length, h x (by simp)]
      have e : encB (x :: l) = Bs x ++ encB l := by unfold encB; rw [List.flatMap_cons]
      rw [e, show (i + 1) * 64 = (Bs x).length + i * 64 by omega, ← List.drop_drop, List.drop_left, ih l (fun y hy => h y (by simp [hy]))]
      rfl
theorem encB_at {l : List (List Int)} (h : ∀ x ∈ l, x.length = 64) {i : Nat} {x : List Int} (hx : l[i]? = some x) (j : Nat) (hj : j < 64) : (encB l)[i * 64 + j]? = (Bs x)[j]? := by
  rw [← List.getElem?_drop, encB_drop l h]
  have hlt := (List.getElem?_eq_some_iff.1 hx).1
  rw [List.drop_eq_getElem_cons hlt, (List.getElem?_eq_some_iff.1 hx).2]
  have hl : (Bs x).length = 64 := by simp [Bs_length, h x (List.mem_of_getElem? hx)]
  have e : encB (x :: l.drop (i + 1)) = Bs x ++ encB (l.drop (i + 1)) := by unfold encB; rw [List.flatMap_cons]
  rw [e, List.getElem?_append_left (by omega)]
/-- Where a block of a region lies. -/
theorem RowsAt.blk {w : World} {OT : Nat → Prop} {OR : Nat → Nat → Prop} {ET ER : TypeId} {v : Value} {rows : List (List (List Int))} (h : RowsAt w OT OR ET ER 64 encB v rows) {r i : Nat} {row : List (List Int)} {b : List Int}
    (hr : rows[r]? = some row) (hb : row[i]? = some b) (h64 : ∀ x ∈ row, x.length = 64) :
    ∃ g cap g' cap', v = .slice (some ⟨g, 0, none⟩) rows.length cap ∧ OT g ∧ OR r g' ∧ g < w.heap.size ∧ g' < w.heap.size ∧ w.cell? ⟨g, r, none⟩ = some (.slice (some ⟨g', 0, none⟩) row.length cap') ∧ w.rangeAt g' (i * 64) (Bs b) ∧
      RowAt w (OR r) ER 64 (.slice (some ⟨g', 0, none⟩) row.length cap') row.length (encB row) := by
  obtain ⟨g, cap, u, hv, ho, hg, hc, hf, hra⟩ := h.row hr
  have hlt := (List.getElem?_eq_some_iff.1 hb).1
  obtain ⟨g', cap', rfl, ho', hg', hn, hm, hc', hf'⟩ := hra.pos (by omega)
  refine ⟨g, cap, g', cap', hv, ho, ho', hg, hg', hc, fun j x hj => ?_, hra⟩
  have hl := (List.getElem?_eq_some_iff.1 hj).1
  have := h64 b (List.mem_of_getElem? hb)
  rw [Bs_length] at hl
  rw [hc' _ (by omega), encB_at h64 hb j (by omega)]
  exact hj
theorem info73 : (Try.prog.info? 73).map (fun i => (i.zero, i.size, i.bytes)) = some (some (.agg (Array.replicate 64 (.int .u8 0))), 64, 64) := by kernel_rfl
theorem size73 : (Try.prog.info? 73).map (·.size) = some 64 := by kernel_rfl
def VRead (hp r i g B : Nat) (sNow : Value) (b : List Int) (k : Nat) (v : Value) (w : World) : Prop :=
  match k with
  | 0 | 1 | 2 => v = .pointer (some ⟨hp, 0, none⟩)
  | 3 => v = sNow
  | 4 => v = .int .i64 r
  | 5 => v = .int .i64 i
  | 6 => v = .complex .f64 (Fx.fb r) (Fx.fb i)
  | 7 | 8 => v = .pointer (some ⟨g, i * 64, none⟩)
  | 9 => v = .agg (Bs b).toArray
  | 10 => ∃ q C, v = .pointer (some ⟨q, 0, none⟩) ∧ B ≤ q ∧ C.size = 64 ∧ w.heap[q]? = some (.cells C 73 (0, 0))
  | _ => True
theorem VRead.on {hp r i g B : Nat} {sNow : Value} {b : List Int} {k : Nat} {v : Value} {w w' : World} (h : VRead hp r i g B sNow b k v w) (hg : w.grownBy w' none) : VRead hp r i g B sNow b k v w' := by
  unfold VRead at *
  split <;> try exact h
  · obtain ⟨q, C, e, h1, h2, h3⟩ := h
    exact ⟨q, C, e, h1, h2, by rw [hg.block q (room_lt h3) (by simp)]; exact h3⟩
  · trivial
set_option maxRecDepth 100000 in
theorem read_yes {w : World} {O : Nat → DRole} {hp : Nat} {L : DLay} {m : DM} (h : DevAt w O hp L m) (r i : Nat) {row : List (List Int)} {b : List Int} (hr : m.now[r]? = some row) (hb : row[i]? = some b) :
    Calls Try.prog 26 #[.pointer (some ⟨hp, 0, none⟩), .int .i64 r, .int .i64 i] w fun e w' => (∃ q, e = .returned (.tuple #[.slice (some ⟨q, 0, none⟩) 64 64, .bool true]) ∧ w.heap.size ≤ q ∧ w'.heap[q]? = some (.cells (Bs b).toArray 73 (0, 0))) ∧ Below w.heap.size w w' := by
  have HH := Lib.hid h
  have hok := h.ok.rows _ _ hr
  have h64 : ∀ x ∈ row, x.length = 64 := fun x hx => (hok.2 x hx).1
  have hn1 := hok.1
  have hrl := (List.getElem?_eq_some_iff.1 hr).1
  have hil := (List.getElem?_eq_some_iff.1 hb).1
  have few := h.ok.few
  have hbl : (Bs b).length = 64 := by rw [Bs_length]; exact h64 b (List.mem_of_getElem? hb)
  have hB := Lib.hid (hasBlock_any h r i (by constructor <;> omega) (by constructor <;> omega))
  have hbt : hasB m r i = true := by
    unfold hasB hasR
    rw [Int.toNat_natCast, rowLen_of hr]
    simp; omega
  rw [hbt] at hB
  clear hbt
  have BLK : Hid (∀ W, Below w.heap.size w W → ∃ g cap g' cap', L.sNow = .slice (some ⟨g, 0, none⟩) m.now.length cap ∧ W.cell? ⟨g, r, none⟩ = some (.slice (some ⟨g', 0, none⟩) row.length cap') ∧ W.rangeAt g' (i * 64) (Bs b)) := fun W hW => by
    obtain ⟨g, cap, g', cap', hv, _, _, _, _, hc, hra, _⟩ := (h.below hW).now.blk hr hb h64
    exact ⟨g, cap, g', cap', hv, hc, hra⟩
  obtain ⟨g, cap, g', cap', hv, _, _, hgl, hgl', hc, hra, _⟩ := h.now.blk hr hb h64
  have HV := Lib.hid hv
  have HC := Lib.hid hc
  have HRA := Lib.hid hra
  have HBL := Lib.hid hbl
  clear h hr hb h64 hok hv hc hra hbl
  generalize hR : m.now.length = R at *
  generalize hn : row.length = n at *
  have HR := Lib.hid hR
  have HNN := Lib.hid hn
  clear hR hn
  go_enter Try.func26, Try.ntmps26
  go_wp2_with fail
  refine hB.out.mono ?_
  rintro e w' ⟨rfl, rfl⟩
  go_wp2_with fail
  go_upto_region 3 with fail
  go_cut [8] (fun s wx => ∃ q : Nat, s = .pointer (some ⟨q, 0, none⟩) ∧ w.heap.size ≤ q ∧ Below w.heap.size w wx ∧ wx.heap[q]? = some (.cells (Bs b).toArray 73 (0, 0)))
  case first =>
    have grefl : ∀ W : World, W.grownBy W none := fun W => World.grownBy.refl W _
    refine wp_region_rg (VRead hp r i g' w.heap.size L.sNow b) (Below w.heap.size w) (fun w w' => w.grownBy w' none) (by kernel_rfl) (by kernel_rfl) (fun j v w w' h hg => h.on hg) ((Below.refl _ _).drew) ?_
    simp only [RAll]
    refine ⟨?_, ?_, ?_, ?_, ?_, ?_, ?_, ?_, ?_, ?_, ?_, ?_⟩
    · refine RStep.of rfl fun T W hag hJ hd => ?_   -- 0: 14 := Op.move (Operand.tmp 0)
      have e0 : T.getD 0 undef = _ := (agree_at hag 0 (by kernel_rfl)).trans rfl
      clear hag hd
      go_simp
      exact ⟨_, rfl, rfl⟩
    · refine RStep.of rfl fun T W hag hJ hd => ?_   -- 1: 15 := Op.nilCheck (Operand.tmp 14)
      have d14 : T.getD 14 undef = _ := hd ⟨0, .data⟩ (by simp) rfl _ rfl
      clear hag hd
      go_simp
      exact ⟨_, rfl, rfl⟩
    · refine RStep.of rfl fun T W hag hJ hd => ?_   -- 2: 16 := Op.fieldAddr 63 (Operand.tmp 15) 0
      have d15 : T.getD 15 undef = _ := hd ⟨1, .data⟩ (by simp) rfl _ rfl
      clear hag hd
      go_simp
      exact ⟨_, rfl, rfl⟩
    · refine RStep.of rfl fun T W hag hJ hd => ?_   -- 3: 17 := Op.load 60 (Operand.tmp 16)
      have d16 : T.getD 16 undef = _ := hd ⟨2, .data⟩ (by simp) rfl _ rfl
      have fct0 := (HH.out.below hJ).c0
      clear hag hd
      go_simp
      exact ⟨_, rfl, rfl⟩
    · refine RStep.of rfl fun T W hag hJ hd => ?_   -- 4: 18 := Op.move (Operand.tmp 1)
      have e1 : T.getD 1 undef = _ := (agree_at hag 1 (by kernel_rfl)).trans rfl
      clear hag hd
      go_simp
      exact ⟨_, rfl, rfl⟩
    · refine RStep.of rfl fun T W hag hJ hd => ?_   -- 5: 19 := Op.move (Operand.tmp 2)
      have e2 : T.getD 2 undef = _ := (agree_at hag 2 (by kernel_rfl)).trans rfl
      clear hag hd
      go_simp
      exact ⟨_, rfl, rfl⟩
    · refine RStep.of rfl fun T W hag hJ hd => ?_   -- 6: 20 := Op.call { callee := Callee.value (Operand.func 33), args := #[Operand.
      have d18 : T.getD 18 undef = _ := hd ⟨4, .data⟩ (by simp) rfl _ rfl
      have d19 : T.getD 19 undef = _ := hd ⟨5, .data⟩ (by simp) rfl _ rfl
      clear hag hd
      go_simp
      refine (place_any W r i).mono ?_; rintro e w' ⟨rfl, rfl⟩
      exact ⟨_, rfl, rfl, hJ, grefl _⟩
    · refine RStep.of rfl fun T W hag hJ hd => ?_   -- 7: 21 := Op.call { callee := Callee.value (Operand.func 42), args := #[Operand.
      have d17 : T.getD 17 undef = _ := hd ⟨3, .data⟩ (by simp) rfl _ rfl
      have d20 : T.getD 20 undef = _ := hd ⟨6, .data⟩ (by simp) rfl _ rfl
      rw [HV.out] at d17
      clear hag hd
      go_simp
      refine (blockAt_any W g cap R r i g' n cap' hrl hil (by omega) hn1 (keepC hJ HC.out)).mono ?_; rintro e w' ⟨rfl, rfl⟩
      exact ⟨_, rfl, rfl, hJ, grefl _⟩
    · refine RStep.of rfl fun T W hag hJ hd => ?_   -- 8: 22 := Op.nilCheck (Operand.tmp 21)
      have d21 : T.getD 21 undef = _ := hd ⟨7, .data⟩ (by simp) rfl _ rfl
      clear hag hd
      go_simp
      exact ⟨_, rfl, rfl⟩
    · refine RStep.of rfl fun T W hag hJ hd => ?_   -- 9: 23 := Op.load 73 (Operand.tmp 22)
      have d22 : T.getD 22 undef = _ := hd ⟨8, .data⟩ (by simp) rfl _ rfl
      refine wp_load_mid 73 (.tmp 22) rfl g' (i * 64) d22 (Bs b) _ (fun j v hj => keepC hJ (HRA.out j v hj)) Try.underlying73 rfl (by rw [HBL.out]; exact size73) ?_
      exact ⟨_, rfl, rfl, hJ, grefl _⟩
    · refine RStep.of rfl fun T W hag hJ hd => ?_   -- 10: 8 := Op.alloc 73
      obtain ⟨i0, hi, hz0, hz1, hz2⟩ := info_parts info73
      refine wp_alloc_of 73 rfl i0 _ hi hz0 ?_
      refine ⟨_, rfl, ⟨W.heap.size, _, rfl, hJ.size, ?_, heap_alloc_new W _⟩, hJ.alloc hJ.size _, World.grownBy_alloc W _ _⟩
      simp [Value.cells]
    · refine RLast.of rfl fun T W hag hJ hd => ?_   -- 11: None := Op.store 73 (Operand.tmp 8) (Operand.tmp 23)
      obtain ⟨q, C, (e8 : T.getD 8 undef = _), hq, hCs, hqc⟩ := hd 10 _ (by simp) rfl
      have d23 : T.getD 23 undef = _ := hd 9 _ (by simp) rfl
      refine wp_store_mid 73 (.tmp 8) (.tmp 23) rfl q 0 _ e8 d23 (fun j hj => ?_) (by simp only [List.size_toArray, HBL.out]; exact size73) (all_oneCell_toArray (Bs_one b)) ?_
      · simp only [List.size_toArray, HBL.out] at hj
        rw [Nat.zero_add, blk_cell hqc j, blk_free hqc j]
        exact ⟨by rw [Array.getElem?_eq_getElem (by omega)]; rfl, rfl⟩
      · have hblk := setCells_same q 73 (Bs b) 0 W C.toList (by simpa using hqc) (by rw [HBL.out]; simp [hCs])
        rw [splice_all _ _ (by rw [HBL.out]; simp [hCs])] at hblk
        have hbel : Below w.heap.size w (W.setCells q 0 (Bs b)) :=
          ((Touch.of_below hJ (fun _ => False)).trans' ((Touch.refl (fun k => k = q) W).setCells rfl 0 (Bs b)) (fun x hx => Or.inr (by omega))).below (Nat.le_refl _) (fun k hk => hk.elim)
        have HM := Lib.hid (And.intro hq (And.intro hbel hblk))
        obtain ⟨f, hf, hT⟩ := agree_fn hag
        have h8 : f 8 = _ := (hf 8).trans e8
        generalize (W.setCells q 0 (Bs b)) = W2 at *
        clear hag hd d23 e8 hf hqc hblk hbel
        rw [hT]
        clear hT
        simp only [List.filterMap_cons, List.filterMap_nil, List.foldl_cons, List.foldl_nil, List.setIfInBounds_toArray, List.set_cons_succ, List.set_cons_zero, h8]
        rename_i hJc hKc
        go_wp2_with fail
        refine hJc _ _ ?_
        repeat apply Exists.intro
        exact ⟨⟨q, rfl, HM.out⟩, rfl⟩
  case rest =>
    obtain ⟨q, rfl, hq, hb, hc⟩ := hcut
    have HM := Lib.hid (And.intro hq (And.intro hb hc))
    clear hq hb hc
    go_wp2
    go_ret2
    exact ⟨⟨q, rfl, HM.out.1, HM.out.2.2⟩, HM.out.2.1⟩
theorem read_no {w : World} {O : Nat → DRole} {hp : Nat} {L : DLay} {m : DM} (h : DevAt w O hp L m) (r i : Int) (hr : i64 r) (hi : i64 i) (hb : hasB m r i = false) :
    Calls Try.prog 26 #[.pointer (some ⟨hp, 0, none⟩), .int .i64 r, .int .i64 i] w fun e w' => e = .returned (.tuple #[.slice none 0 0, .bool false]) ∧ w = w' := by
  have hB := Lib.hid (hasBlock_any h r i hr hi)
  rw [hb] at hB
  clear h hb
  go_enter Try.func26, Try.ntmps26
  go_wp2_with fail
  refine hB.out.mono ?_
  rintro e w' ⟨rfl, rfl⟩
  go_wp2
  go_ret2
  exact ⟨rfl, rfl⟩
theorem read_nil (w : World) (r i : Int) :
    Calls Try.prog 26 #[.pointer none, .int .i64 r, .int .i64 i] w fun e w' => e = .returned (.tuple #[.slice none 0 0, .bool false]) ∧ w = w' := by
  go_enter Try.func26, Try.ntmps26
  go_wp2_with fail
  refine (hasBlock_nil _ _ _).mono ?_
  rintro e w' ⟨rfl, rfl⟩
  go_wp2
  go_ret2
  exact ⟨rfl, rfl⟩
end Go.Proofs.Ytocmjbfbjiinhaa
