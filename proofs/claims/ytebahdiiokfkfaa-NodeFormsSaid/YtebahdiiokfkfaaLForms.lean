/- The law NodeForms answers true and leaves its arguments alone. No condition. -/
import Derived.Test.YtebahdiiokfkfaaRows
import Derived.Test.YtebahdiiokfkfaaGr
import Derived.Test.YtebahdiiokfkfaaRk
import Derived.WalkKit
import Derived.ProofKit
import Derived.OpenShut
namespace Go.Proofs.Ytebahdiiokfkfaa.nodeForms
open Go.ChangeShapes Go.WideShapes Go.ChangeAt Go.RowKit Go.Joins
set_option linter.unusedVariables false
theorem own : ownKnob Try.prog.godebug = none := by kernel_rfl
theorem laidOut : laidOutB Try.prog = true := by kernel_rfl
theorem size4 : (Try.prog.info? 23).map (·.size) = some 4 := by kernel_rfl
def none4A : Array Value := #[.int .i64 (-1), .int .i64 (-1), .int .i64 (-1), .int .i64 (-1)]
theorem builtG : Try.prog.built 25 [(0, .int .u32 1), (1, .int .i64 1), (3, .agg none4A), (4, .int .i64 (-1))] = some (ndA gd) := by kernel_rfl
theorem wpList_buildG {ops : Array Oper} {rest : List Oper} {o : Oper} {ac : Act} {w : World} {Q : Exit → Act → World → Prop} (hgd : o.guard = none) (x : Operand) (ho : o.op = .build 25 #[(0, .const (.int .u32 1)), (1, .const (.int .i64 1)), (3, x), (4, .const (.int .i64 (-1)))]) (hx : ac.eval x = .agg none4A)
    (h : wpList Try.prog ops Q rest (ac.put o.dst (.agg (ndA gd))) w) : wpList Try.prog ops Q (o :: rest) ac w :=
  wpList_plain hgd fun _ hK => by
    unfold Oper.wp execOp
    have hb := run_build (P := Try.prog) w 25 #[(0, .int .u32 1), (1, .int .i64 1), (3, .agg none4A), (4, .int .i64 (-1))] _ builtG
    simp only [ho, List.map_toArray, List.map_cons, List.map_nil, hx, Sem.run_bind]
    simp only [Act.eval] at hb ⊢
    rw [hb]
    exact hK _ _ h
def nds0 : List Nd := List.replicate 12 nd0
theorem made12 : madeCells (Value.agg (ndA nd0)).cells (12 * 9) = (rowN nds0).toArray := by kernel_rfl
theorem infoN3 : (Try.prog.info? 25).map (fun i => (i.zero, i.size, i.bytes)) = some (some (.agg (ndA nd0)), 9, 80) := by kernel_rfl
def kindsA : Array Value := (Is kinds).toArray
def repL (j : Nat) : List Nd := List.replicate j gd ++ List.replicate (12 - j) nd0
theorem rep_set (j : Nat) (h : j < 12) : (repL j).set j gd = repL (j + 1) := by
  unfold repL
  rw [show 12 - j = (12 - (j + 1)) + 1 by omega, List.replicate_succ, List.set_append_right _ _ (by simp)]
  simp only [List.length_replicate, Nat.sub_self, List.set_cons_zero]
  rw [List.replicate_succ', List.append_assoc]; rfl
theorem rep_at (j : Nat) (h : j < 12) : (repL j)[j]? = some nd0 := by
  unfold repL
  rw [List.getElem?_append_right (by simp), List.length_replicate, Nat.sub_self, List.getElem?_replicate, if_pos (by omega)]
/-- The row's world while it is being spoilt. -/
def JB (W0 : World) (g : Nat) (b0 b1 b2 b3 b4 b5 b6 b7 b8 : Bool) (W : World) : Prop := W = W0.setRow g (rowN (badL b0 b1 b2 b3 b4 b5 b6 b7 b8)).toArray
section
variable {W0 W : World} {g : Nat} {b0 b1 b2 b3 b4 b5 b6 b7 b8 c0 c1 c2 c3 c4 c5 c6 c7 c8 : Bool} {l : List Nd}
theorem JB.row (h : JB W0 g b0 b1 b2 b3 b4 b5 b6 b7 b8 W) (h0 : RowN W0 g l) : RowN W g (badL b0 b1 b2 b3 b4 b5 b6 b7 b8) := by
  unfold JB at h; subst h; exact setRow_blk h0
theorem JB.step {k : Nat} {v : Value} (h : JB W0 g b0 b1 b2 b3 b4 b5 b6 b7 b8 W) (h0 : RowN W0 g l) (he : (rowN (badL b0 b1 b2 b3 b4 b5 b6 b7 b8)).set k v = rowN (badL c0 c1 c2 c3 c4 c5 c6 c7 c8)) : JB W0 g c0 c1 c2 c3 c4 c5 c6 c7 c8 (W.setCell ⟨g, k, none⟩ v) := by
  have hr := h.row h0
  unfold JB at *
  rw [setCell_eq_setRow W g k _ _ _ v hr, h, setRow_setRow, List.setIfInBounds_toArray, he]
end
def V16 (g : Nat) (i : Nat) (v : Value) (W : World) : Prop :=
  match i with
  | 0 | 1 | 2 | 3 | 4 | 5 | 6 | 7 | 8 => v = .slice (some ⟨g, 0, none⟩) 12 12
  | 9 | 10 => v = .pointer (some ⟨g, 0, none⟩)
  | 12 => v = .pointer (some ⟨g, 9, none⟩)
  | 13 => v = .pointer (some ⟨g, 10, none⟩)
  | 15 => v = .pointer (some ⟨g, 18, none⟩)
  | 16 => v = .pointer (some ⟨g, 19, none⟩)
  | 18 => v = .pointer (some ⟨g, 27, none⟩)
  | 19 => v = .pointer (some ⟨g, 29, none⟩)
  | 21 => v = .pointer (some ⟨g, 36, none⟩)
  | 22 | 23 => v = .pointer (some ⟨g, 39, none⟩)
  | 25 => v = .pointer (some ⟨g, 45, none⟩)
  | 26 => v = .pointer (some ⟨g, 52, none⟩)
  | 28 => v = .pointer (some ⟨g, 54, none⟩)
  | 29 => v = .pointer (some ⟨g, 62, none⟩)
  | 31 => v = .pointer (some ⟨g, 63, none⟩)
  | 32 => v = .pointer (some ⟨g, 65, none⟩)
  | 34 => v = .pointer (some ⟨g, 72, none⟩)
  | 35 => v = .pointer (some ⟨g, 73, none⟩)
  | _ => True
def badM : List Nd := badL true true true true true true true true true
theorem RowN.setC {w : World} {g i c : Nat} {l : List Nd} {n m : Nd} {v : Value} (h : RowN w g l) (hi : l[i]? = some n) (hc : c < 9) (he : (ndA m).toList = (ndA n).toList.set c v) : RowN (w.setCell ⟨g, i * 9 + c, none⟩ v) g (l.set i m) := by
  unfold RowN
  rw [heap_setCell_same' h, List.setIfInBounds_toArray]
  congr 2
  exact congrArg List.toArray (rowL_set (rowN_fits l) hi hc he)
theorem wp_allocB {o : Oper} {ac : Act} {w : World} {K : Act → World → Prop} {Q : Exit → Act → World → Prop} (ho : o.op = .alloc 28)
    (h : K (ac.put o.dst (.pointer (some ⟨w.heap.size, 0, none⟩))) (w.alloc (.cells (blkA 0 zBs) 28))) : o.wp Try.prog ac w K Q := by
  obtain ⟨i0, hi, hz0, hz1, hz2⟩ := info_parts info24
  exact wp_alloc_of 28 ho i0 _ hi hz0 h
def V21 (g h ix : Nat) (kk : Int) (nd : Nd) (i : Nat) (v : Value) (W : World) : Prop :=
  match i with
  | 0 => v = .slice (some ⟨h, 0, none⟩) 12 12
  | 1 | 5 => v = .int .i64 ix
  | 2 => v = .pointer (some ⟨h, ix, none⟩)
  | 3 => v = .int .i64 kk
  | 4 => v = .slice (some ⟨g, 0, none⟩) 12 12
  | 6 => v = .pointer (some ⟨g, ix * 9, none⟩)
  | 7 => v = .agg (ndA nd)
  | 8 | 9 => v = .tuple #[.agg (blkA 0 zBs), .bool false]
  | 10 => v = .agg (blkA 0 zBs)
  | 11 => v = .bool false
  | 12 => (∃ q, v = .pointer (some ⟨q, 0, none⟩) ∧ W.heap[q]? = some (.cells (blkA 0 zBs) 28 (0, 0)))
  | _ => True
def V22 (g h ix : Nat) (kk : Int) (nd : Nd) (i : Nat) (v : Value) (W : World) : Prop :=
  match i with
  | 0 | 1 | 10 => v = .bool false
  | 2 => v = .slice (some ⟨h, 0, none⟩) 12 12
  | 3 | 7 => v = .int .i64 ix
  | 4 => v = .pointer (some ⟨h, ix, none⟩)
  | 5 => v = .int .i64 kk
  | 6 => v = .slice (some ⟨g, 0, none⟩) 12 12
  | 8 => v = .pointer (some ⟨g, ix * 9, none⟩)
  | 9 => v = .agg (ndA nd)
  | _ => True
/-- What the law keeps. -/
structure FK (w : World) (q2 h : Nat) (W : World) : Prop where
  bel : Below w.heap.size w W
  gd_ : NdAt W q2 gd
  kd : W.heap[h]? = some (.cells kindsA 3 (0, 0))
/-- .. and the row. -/
structure FL (w : World) (q2 h g : Nat) (W : World) : Prop where
  fk : FK w q2 h W
  row : RowN W g badF
theorem kinds_at {W : World} {h i : Nat} {kk : Int} (hk : W.heap[h]? = some (.cells kindsA 3 (0, 0))) (hi : kinds[i]? = some kk) : W.cell? ⟨h, i, none⟩ = some (.int .i64 kk) := by
  rw [blk_cell hk]; unfold kindsA; rw [List.getElem?_toArray]; exact Is_at hi
theorem FL.kd_at {w W : World} {q2 h g i : Nat} {kk : Int} (H : FL w q2 h g W) (hi : kinds[i]? = some kk) : W.cell? ⟨h, i, none⟩ = some (.int .i64 kk) := kinds_at H.fk.kd hi
theorem FK.below {w W W' : World} {q2 h : Nat} (H : FK w q2 h W) (hb : Below W.heap.size W W') : FK w q2 h W' := ⟨H.bel.trans (hb.mono H.bel.size), H.gd_.below hb, kb hb H.kd⟩
theorem V21.on {g h ix : Nat} {kk : Int} {nd : Nd} {j : Nat} {v : Value} {w w' : World} (hv : V21 g h ix kk nd j v w) (hg : w.grownBy w' none) : V21 g h ix kk nd j v w' := by
  unfold V21 at *
  split <;> try exact hv
  · obtain ⟨q, e, hq⟩ := hv; exact ⟨q, e, by rw [hg.block q (room_lt hq) (by simp)]; exact hq⟩
  · trivial
theorem NdAt.setC {w : World} {p c : Nat} {n m : Nd} {v : Value} (h : NdAt w p n) (he : (ndA n).setIfInBounds c v = ndA m) : NdAt (w.setCell ⟨p, c, none⟩ v) p m := by
  unfold NdAt; rw [heap_setCell_same' h, he]
theorem NdAt.set4 {w : World} {p : Nat} {n : Nd} (h : NdAt w p n) (a b c d : Int) : NdAt (w.setCells p 3 [.int .i64 a, .int .i64 b, .int .i64 c, .int .i64 d]) p { n with a := a, b := b, c := c, d := d } := by
  unfold NdAt; rw [heap_setCells _ _ _ _ h (by show 3 + 4 ≤ 9; omega)]; rfl
theorem NdAt.there4 {w : World} {p : Nat} {n : Nd} (h : NdAt w p n) : w.there p 3 4 := fun j hj => by
  obtain ⟨u, hu⟩ : ∃ u, (ndA n)[3 + j]? = some u := ⟨_, Array.getElem?_eq_getElem (by show 3 + j < 9; omega)⟩
  rw [h.cell, hu]
  exact ⟨rfl, blk_free h _⟩
theorem NdAt.offC {w : World} {p q c : Nat} {n : Nd} (h : NdAt w p n) (v : Value) (hq : p ≠ q) : NdAt (w.setCell ⟨q, c, none⟩ v) p n := by
  unfold NdAt; rw [heap_setCell_other _ _ _ _ hq]; exact h
theorem NdAt.offCs {w : World} {p q c : Nat} {n : Nd} (h : NdAt w p n) (cs : List Value) (hq : p ≠ q) : NdAt (w.setCells q c cs) p n := by
  unfold NdAt; rw [heap_setCells_other hq]; exact h
theorem one4 {a b c d : Int} : (#[.int .i64 a, .int .i64 b, .int .i64 c, .int .i64 d] : Array Value).all (·.oneCell') = true := by simp [Value.oneCell']
def tw : Nd := ⟨1, 1, 9, 5, -1, -1, -1, 5, []⟩
def sg : Nd := ⟨1, 1, 32, -1, -1, -1, -1, -1, xs 32⟩
def ff : Nd := ⟨258, 3, 1120, 1, -1, 199, -1, 4, []⟩
theorem tw_ok : NdOk tw := ok_of _ _ _ _ _ _ _ _ _ (by decide)
theorem sg_ok : NdOk sg := ok_of _ _ _ _ _ _ _ _ _ (by decide)
theorem ff_ok : NdOk ff := ok_of _ _ _ _ _ _ _ _ _ (by decide)
theorem tw_not : ¬ MayN 1 tw := by decide
theorem sg_may : MayN 3 sg := by decide
theorem ff_may : MayN 1 ff := by decide
theorem pbs_at : (putBs 3 sg)[20]? = some 32 ∧ (putBs 3 sg)[52]? = some 120 ∧ (putBs 3 sg)[53]? = some 0 := by
  have e : putBs 3 sg = pad (bytesN sg) := by unfold putBs; rw [if_pos sg_may]
  rw [e]; decide
theorem pbf_str : ((strOfNums (seg (putBs 1 ff) 0 21)).toList == ([0, 0, 1, 2, 0, 3, 0, 0, 4, 96, 0, 2, 0, 0, 0, 200, 0, 0, 0, 5, 0] : List UInt8)) = true := by
  have e : putBs 1 ff = pad (bytesN ff) := by unfold putBs; rw [if_pos ff_may]
  have e2 : seg (pad (bytesN ff)) 0 21 = [0, 0, 1, 2, 0, 3, 0, 0, 4, 96, 0, 2, 0, 0, 0, 200, 0, 0, 0, 5, 0] := by decide
  rw [e, e2, strOfNums_toList]
  decide
theorem str_33 : (strOfNums (xs 33)).extract 0 32 = strOfNums (xs 32) := by
  apply ByteArray.ext
  apply Array.toList_inj.1
  rfl
theorem FL.below {w W W' : World} {q2 h g : Nat} (H : FL w q2 h g W) (hb : Below W.heap.size W W') : FL w q2 h g W' := ⟨H.fk.below hb, H.row.below hb⟩
theorem FK.rowed {w W0 W : World} {q2 h g : Nat} {b0 b1 b2 b3 b4 b5 b6 b7 b8 : Bool} (H : FK w q2 h W0) (hj : JB W0 g b0 b1 b2 b3 b4 b5 b6 b7 b8 W) (hg : w.heap.size ≤ g) (h2 : q2 ≠ g) (h3 : h ≠ g) : FK w q2 h W := by
  unfold JB at hj; subst hj
  exact ⟨below_setRow H.bel hg _, H.gd_.other _ h2, by rw [setRow_other _ _ _ _ h3]; exact H.kd⟩
theorem FK.setC {w W : World} {q2 h g o : Nat} (H : FK w q2 h W) (v : Value) (hg : w.heap.size ≤ g) (h2 : q2 ≠ g) (h3 : h ≠ g) : FK w q2 h (W.setCell ⟨g, o, none⟩ v) :=
  ⟨H.bel.setCell hg v, by unfold NdAt; rw [heap_setCell_other _ _ _ _ h2]; exact H.gd_, by rw [heap_setCell_other _ _ _ _ h3]; exact H.kd⟩
theorem FK.set {w W : World} {q2 h g o : Nat} (H : FK w q2 h W) (cs : List Value) (hg : w.heap.size ≤ g) (h2 : q2 ≠ g) (h3 : h ≠ g) : FK w q2 h (W.setCells g o cs) :=
  ⟨below_setCells cs o H.bel hg, by unfold NdAt; rw [heap_setCells_other h2]; exact H.gd_, by rw [heap_setCells_other h3]; exact H.kd⟩
set_option maxRecDepth 100000 in
set_option maxHeartbeats 40000000 in
theorem walk (w : World) : Calls Try.prog 5 #[] w fun e w' => e = .returned (.bool true) ∧ Below w.heap.size w w' := by
  obtain ⟨i0, hi, hz0, hz1, hz2⟩ := info_parts info5
  have HM37 := Lib.hid (fun w : World => run_make (P := Try.prog) w 37 5 i0 _ Try.underlying37 hi hz0 .i64 .i64 0 0 (by omega) (by omega) (by rw [hz2]; omega) (by omega))
  generalize hC : madeCells (Value.int .u8 0).cells ((0 : Int).toNat * i0.size) = C0 at HM37
  clear hC hi hz0 hz1 hz2
  obtain ⟨i1, hi, hz0, hz1, hz2⟩ := info_parts infoN3
  have HM38 := Lib.hid (fun w : World => run_make (P := Try.prog) w 38 25 i1 _ Try.underlying38 hi hz0 .i64 .i64 12 12 (by omega) (by omega) (by rw [hz2]; omega) (by omega))
  have hmd : madeCells (Value.agg (ndA nd0)).cells ((12 : Int).toNat * i1.size) = (rowN nds0).toArray := by rw [hz1]; exact made12
  rw [hmd] at HM38
  clear hmd hi hz0 hz1 hz2
  go_enter Try.func5, Try.ntmps5
  go_wp2_with fail
  refine (begun_any _).mono ?_; rintro e W1 ⟨rfl, hb1⟩
  have HB1 := Lib.hid hb1
  clear hb1
  go_upto_region 3 with fail
  have HM2 := Lib.hid (heap_alloc_new W1 (Obj.cells #[.int .i64 (-1), .int .i64 (-1), .int .i64 (-1), .int .i64 (-1)] 23))
  have HB2 := Lib.hid (HB1.out.alloc HB1.out.size (Obj.cells #[.int .i64 (-1), .int .i64 (-1), .int .i64 (-1), .int .i64 (-1)] 23))
  go_upto_region 4 with fail
  generalize W1.alloc (Obj.cells #[.int .i64 (-1), .int .i64 (-1), .int .i64 (-1), .int .i64 (-1)] 23) = W2 at *
  generalize W1.heap.size = q1 at *
  have hz2 := NdAt.new W2 nd0
  have HG3 := Lib.hid (hz2.set gd)
  have HB3 := Lib.hid (below_setRow (HB2.out.alloc HB2.out.size (Obj.cells (ndA nd0) 25)) HB2.out.size (ndA gd))
  have HQ2 := Lib.hid HB2.out.size
  go_upto_region 5 with (first
    | (refine wpList_load_row rfl 23 (.tmp 1) rfl q1 rfl _ _ _ _ HM2.out Try.underlying23 rfl size4 ?_)
    | (refine wpList_buildG rfl (.tmp 21) rfl rfl ?_)
    | (refine wpList_allocN rfl rfl ?_)
    | (refine wpList_storeN rfl (.tmp 2) (.tmp 22) rfl W2.heap.size rfl gd nd0 rfl hz2 ?_))
  clear hz2 HM2 HB2 HB1
  generalize (W2.alloc (Obj.cells (ndA nd0) 25)).setRow W2.heap.size (ndA gd) = W3 at *
  generalize W2.heap.size = q2 at *
  have hmk := HM37.out W3
  have hcv := fun (W : World) (a : Addr) => conv_any (A := some a) (n := 0) (c := 0) (w := W) (xs := []) (fun i x hi => by cases hi) rfl
  have HG4 := Lib.hid (HG3.out.alloc (Obj.cells C0 5))
  have HB4 := Lib.hid (HB3.out.alloc HB3.out.size (Obj.cells C0 5))
  go_upto_region 6 with fail
  clear hmk hcv HG3 HB3
  generalize W3.alloc (Obj.cells C0 5) = W4 at *
  go_wp2_with fail
  go_loop [3, 4] (fun s i => ∃ j : Nat, j ≤ 33 ∧ i = .int .i64 j ∧ s = .string (strOfNums (xs j))) (fun _ i => 33 - (intOf i).toNat)
  case atStart => exact ⟨0, by omega, rfl, rfl⟩
  case round =>
    obtain ⟨j, hj, rfl, rfl⟩ := hrel
    by_cases hlt : j < 33
    · have hadd : ∀ W : World, (Op.stringOp .add (strOfNums (xs j)) ⟨#[120]⟩).run Try.prog W = .ok (.string (strOfNums (xs (j + 1)))) W := fun W => by
        rw [run_string_add_sum W _ _ (by rw [strOfNums_size]; unfold xs; rw [List.length_replicate]; show j + 1 ≤ _; omega)]
        have e : (⟨#[120]⟩ : ByteArray) = strOfNums [120] := rfl
        rw [e, str_append]
        congr 3
        unfold xs
        rw [List.replicate_succ']
      go_wp2
      go_round
      case rel => exact ⟨j + 1, by omega, by go_num, rfl⟩
      case measure => simp [intOf]; omega
    · obtain rfl : j = 33 := by omega
      have hmk := HM38.out W4
      have HR5 : Hid (RowN (W4.alloc (Obj.cells (rowN nds0).toArray 25)) W4.heap.size nds0) := heap_alloc_new _ _
      have HG5 := Lib.hid (HG4.out.alloc (Obj.cells (rowN nds0).toArray 25))
      have HB5 := Lib.hid (HB4.out.alloc HB4.out.size (Obj.cells (rowN nds0).toArray 25))
      have HS5 := Lib.hid (room_lt HG4.out)
      have HT5 := Lib.hid HB4.out.size
      clear HG4 HB4
      go_upto_region 11 with fail
      clear hmk HM37 HM38
      generalize W4.alloc (Obj.cells (rowN nds0).toArray 25) = W5 at *
      generalize W4.heap.size = g at *
      have HK6 : Hid (FK w q2 W5.heap.size (W5.alloc (Obj.cells #[.int .i64 1, .int .i64 1, .int .i64 1, .int .i64 1, .int .i64 1, .int .i64 1, .int .i64 1, .int .i64 2, .int .i64 2, .int .i64 3, .int .i64 3, .int .i64 4] 3))) := ⟨HB5.out.alloc HB5.out.size _, HG5.out.alloc _, heap_alloc_new _ _⟩
      have HR6 := Lib.hid (RowN.below HR5.out (bel1 (Obj.cells #[.int .i64 1, .int .i64 1, .int .i64 1, .int .i64 1, .int .i64 1, .int .i64 1, .int .i64 1, .int .i64 2, .int .i64 2, .int .i64 3, .int .i64 3, .int .i64 4] 3)))
      have HS6 := Lib.hid (room_lt HR5.out)
      clear HG5 HB5 HR5
      go_upto_region 12 with fail
      generalize W5.alloc (Obj.cells #[.int .i64 1, .int .i64 1, .int .i64 1, .int .i64 1, .int .i64 1, .int .i64 1, .int .i64 1, .int .i64 2, .int .i64 2, .int .i64 3, .int .i64 3, .int .i64 4] 3) = W6 at *
      generalize W5.heap.size = h at *
      have HR6' : Hid (RowN W6 g (repL 0)) := HR6
      clear HR6
      go_wp2_with fail
      go_loopw [7] (fun i wr => ∃ j : Nat, j ≤ 12 ∧ i = .int .i64 j ∧ Hid (RowN wr g (repL j)) ∧ Hid (FK w q2 h wr)) (fun i _ => (12 - intOf i).toNat)
      case atStart => exact ⟨0, by omega, rfl, HR6', HK6⟩
      case round =>
        obtain ⟨j, hj, rfl, HR, HK⟩ := hrel
        clear HR6' HK6
        by_cases hlt : j < 12
        · have hat := rep_at j hlt
          have hst := rep_set j hlt
          have HAT := Lib.hid hat
          have HST := Lib.hid hst
          clear hat hst
          have HKn := Lib.hid (HK.out.set (g := g) (o := j * 9) (ndA gd).toList HT5.out (by have := HS5.out; omega) (by have := HS6.out; omega))
          generalize repL j = lj at *
          go_wp2_with (first
            | (refine wpList_loadN rfl (.tmp 2) rfl q2 rfl gd HK.out.gd_ ?_)
            | (refine wpList_storeR rfl (.tmp 42) (.tmp 41) rfl g j rfl lj gd nd0 rfl HR.out HAT.out ?_
               intro hR
               rw [HST.out] at hR
               have HRn := Lib.hid hR
               clear hR HR HK))
          go_roundw
          case rel => exact ⟨j + 1, by omega, by go_num, HRn, HKn⟩
          case measure => simp [intOf]; omega
        · obtain rfl : j = 12 := by omega
          have HRB : Hid (RowN wr g (badL false false false false false false false false false)) := HR
          clear HR
          go_upto_region 16 with fail
          go_cut [] (fun wx => RowN wx g badM ∧ FK w q2 h wx)
          case first =>
            have HKD : Hid (FK w q2 h wr.drew) := ⟨HK.out.bel.drew, HK.out.gd_, HK.out.kd⟩
            have HR0 : Hid (RowN wr.drew g (badL false false false false false false false false false)) := HRB
            have hJ0 : JB wr.drew g false false false false false false false false false wr.drew := (setRow_self HR0.out).symm
            refine wp_region_rgk (V16 g) (fun L W => JB wr.drew g (L 11) (L 14) (L 17) (L 20) (L 24) (L 27) (L 30) (L 33) (L 36) W) (fun _ _ _ => True) (by kernel_rfl) (by kernel_rfl) (fun i j v' w' w'' _ _ hv _ => hv) hJ0 ?_
            clear hJ0 HK HRB
            generalize wr.drew = V0 at *
            simp only [RAll]
            refine ⟨?_, ?_, ?_, ?_, ?_, ?_, ?_, ?_, ?_, ?_, ?_, ?_, ?_, ?_, ?_, ?_, ?_, ?_, ?_, ?_, ?_, ?_, ?_, ?_, ?_, ?_, ?_, ?_, ?_, ?_, ?_, ?_, ?_, ?_, ?_, ?_, ?_⟩
            · refine RStepK.of rfl fun T W L hag hL hJ hLs hd => ?_   -- 0: 43 := Op.move (Operand.tmp 5)
              have e5 : T.getD 5 undef = _ := (agree_at hag 5 (by kernel_rfl)).trans rfl
              clear hag hd
              go_simp
              exact ⟨_, rfl, rfl⟩
            · refine RStepK.of rfl fun T W L hag hL hJ hLs hd => ?_   -- 1: 44 := Op.move (Operand.tmp 5)
              have e5 : T.getD 5 undef = _ := (agree_at hag 5 (by kernel_rfl)).trans rfl
              clear hag hd
              go_simp
              exact ⟨_, rfl, rfl⟩
            · refine RStepK.of rfl fun T W L hag hL hJ hLs hd => ?_   -- 2: 45 := Op.move (Operand.tmp 5)
              have e5 : T.getD 5 undef = _ := (agree_at hag 5 (by kernel_rfl)).trans rfl
              clear hag hd
              go_simp
              exact ⟨_, rfl, rfl⟩
            · refine RStepK.of rfl fun T W L hag hL hJ hLs hd => ?_   -- 3: 46 := Op.move (Operand.tmp 5)
              have e5 : T.getD 5 undef = _ := (agree_at hag 5 (by kernel_rfl)).trans rfl
              clear hag hd
              go_simp
              exact ⟨_, rfl, rfl⟩
            · refine RStepK.of rfl fun T W L hag hL hJ hLs hd => ?_   -- 4: 47 := Op.move (Operand.tmp 5)
              have e5 : T.getD 5 undef = _ := (agree_at hag 5 (by kernel_rfl)).trans rfl
              clear hag hd
              go_simp
              exact ⟨_, rfl, rfl⟩
            · refine RStepK.of rfl fun T W L hag hL hJ hLs hd => ?_   -- 5: 48 := Op.move (Operand.tmp 5)
              have e5 : T.getD 5 undef = _ := (agree_at hag 5 (by kernel_rfl)).trans rfl
              clear hag hd
              go_simp
              exact ⟨_, rfl, rfl⟩
            · refine RStepK.of rfl fun T W L hag hL hJ hLs hd => ?_   -- 6: 49 := Op.move (Operand.tmp 5)
              have e5 : T.getD 5 undef = _ := (agree_at hag 5 (by kernel_rfl)).trans rfl
              clear hag hd
              go_simp
              exact ⟨_, rfl, rfl⟩
            · refine RStepK.of rfl fun T W L hag hL hJ hLs hd => ?_   -- 7: 50 := Op.move (Operand.tmp 5)
              have e5 : T.getD 5 undef = _ := (agree_at hag 5 (by kernel_rfl)).trans rfl
              clear hag hd
              go_simp
              exact ⟨_, rfl, rfl⟩
            · refine RStepK.of rfl fun T W L hag hL hJ hLs hd => ?_   -- 8: 51 := Op.move (Operand.tmp 5)
              have e5 : T.getD 5 undef = _ := (agree_at hag 5 (by kernel_rfl)).trans rfl
              clear hag hd
              go_simp
              exact ⟨_, rfl, rfl⟩
            · refine RStepK.of rfl fun T W L hag hL hJ hLs hd => ?_   -- 9: 52 := Op.indexAddr 38 (Operand.tmp 43) (Operand.const (Value.int I
              have d43 : T.getD 43 undef = _ := hd ⟨0, .data⟩ (by simp) rfl _ rfl
              clear hag hd
              go_simp
              exact ⟨_, rfl, rfl⟩
            · refine RStepK.of rfl fun T W L hag hL hJ hLs hd => ?_   -- 10: 53 := Op.fieldAddr 25 (Operand.tmp 52) 0
              have d52 : T.getD 52 undef = _ := hd ⟨9, .data⟩ (by simp) rfl _ rfl
              clear hag hd
              go_simp
              exact ⟨_, rfl, rfl⟩
            · refine RStepK.of rfl fun T W L hag hL hJ hLs hd => ?_   -- 11: None := Op.store 22 (Operand.tmp 53) (Operand.const (Value.int IntKi
              have d53 : T.getD 53 undef = _ := hd ⟨10, .data⟩ (by simp) rfl _ rfl
              have hx : (badL (L 11) (L 14) (L 17) (L 20) (L 24) (L 27) (L 30) (L 33) (L 36))[0]? = some gd := by show some (if L 11 = true then _ else gd) = some gd; rw [show L 11 = false from hL]; rfl
              have cx : W.cell? ⟨g, 0, none⟩ = some _ := (RowN.cell (hJ.row HR0.out) hx (j := 0) rfl)
              have fx : W.frozen? ⟨g, 0, none⟩ = false := blk_free (hJ.row HR0.out) 0
              have hst : (rowN (badL (L 11) (L 14) (L 17) (L 20) (L 24) (L 27) (L 30) (L 33) (L 36))).set 0 (.int .u32 0) = rowN (badL true (L 14) (L 17) (L 20) (L 24) (L 27) (L 30) (L 33) (L 36)) := rowL_set (rowN_fits _) (k := 0) (x := gd) (y := { gd with g := 0 }) (j := 0) hx (by omega) rfl
              have hJn := hJ.step HR0.out hst
              clear hag hd hx hst
              go_simp
              exact trivial
            · refine RStepK.of rfl fun T W L hag hL hJ hLs hd => ?_   -- 12: 54 := Op.indexAddr 38 (Operand.tmp 44) (Operand.const (Value.int I
              have d44 : T.getD 44 undef = _ := hd ⟨1, .data⟩ (by simp) rfl _ rfl
              clear hag hd
              go_simp
              exact ⟨_, rfl, rfl⟩
            · refine RStepK.of rfl fun T W L hag hL hJ hLs hd => ?_   -- 13: 55 := Op.fieldAddr 25 (Operand.tmp 54) 1
              have d54 : T.getD 54 undef = _ := hd ⟨12, .data⟩ (by simp) rfl _ rfl
              clear hag hd
              go_simp
              exact ⟨_, rfl, rfl⟩
            · refine RStepK.of rfl fun T W L hag hL hJ hLs hd => ?_   -- 14: None := Op.store 3 (Operand.tmp 55) (Operand.const (Value.int IntKin
              have d55 : T.getD 55 undef = _ := hd ⟨13, .data⟩ (by simp) rfl _ rfl
              have hx : (badL (L 11) (L 14) (L 17) (L 20) (L 24) (L 27) (L 30) (L 33) (L 36))[1]? = some gd := by show some (if L 14 = true then _ else gd) = some gd; rw [show L 14 = false from hL]; rfl
              have cx : W.cell? ⟨g, 10, none⟩ = some _ := (RowN.cell (hJ.row HR0.out) hx (j := 1) rfl)
              have fx : W.frozen? ⟨g, 10, none⟩ = false := blk_free (hJ.row HR0.out) 10
              have hst : (rowN (badL (L 11) (L 14) (L 17) (L 20) (L 24) (L 27) (L 30) (L 33) (L 36))).set 10 (.int .i64 (-1)) = rowN (badL (L 11) true (L 17) (L 20) (L 24) (L 27) (L 30) (L 33) (L 36)) := rowL_set (rowN_fits _) (k := 1) (x := gd) (y := { gd with l := -1 }) (j := 1) hx (by omega) rfl
              have hJn := hJ.step HR0.out hst
              clear hag hd hx hst
              go_simp
              exact trivial
            · refine RStepK.of rfl fun T W L hag hL hJ hLs hd => ?_   -- 15: 56 := Op.indexAddr 38 (Operand.tmp 45) (Operand.const (Value.int I
              have d45 : T.getD 45 undef = _ := hd ⟨2, .data⟩ (by simp) rfl _ rfl
              clear hag hd
              go_simp
              exact ⟨_, rfl, rfl⟩
            · refine RStepK.of rfl fun T W L hag hL hJ hLs hd => ?_   -- 16: 57 := Op.fieldAddr 25 (Operand.tmp 56) 1
              have d56 : T.getD 56 undef = _ := hd ⟨15, .data⟩ (by simp) rfl _ rfl
              clear hag hd
              go_simp
              exact ⟨_, rfl, rfl⟩
            · refine RStepK.of rfl fun T W L hag hL hJ hLs hd => ?_   -- 17: None := Op.store 3 (Operand.tmp 57) (Operand.const (Value.int IntKin
              have d57 : T.getD 57 undef = _ := hd ⟨16, .data⟩ (by simp) rfl _ rfl
              have hx : (badL (L 11) (L 14) (L 17) (L 20) (L 24) (L 27) (L 30) (L 33) (L 36))[2]? = some gd := by show some (if L 17 = true then _ else gd) = some gd; rw [show L 17 = false from hL]; rfl
              have cx : W.cell? ⟨g, 19, none⟩ = some _ := (RowN.cell (hJ.row HR0.out) hx (j := 1) rfl)
              have fx : W.frozen? ⟨g, 19, none⟩ = false := blk_free (hJ.row HR0.out) 19
              have hst : (rowN (badL (L 11) (L 14) (L 17) (L 20) (L 24) (L 27) (L 30) (L 33) (L 36))).set 19 (.int .i64 1001) = rowN (badL (L 11) (L 14) true (L 20) (L 24) (L 27) (L 30) (L 33) (L 36)) := rowL_set (rowN_fits _) (k := 2) (x := gd) (y := { gd with l := 1001 }) (j := 1) hx (by omega) rfl
              have hJn := hJ.step HR0.out hst
              clear hag hd hx hst
              go_simp
              exact trivial
            · refine RStepK.of rfl fun T W L hag hL hJ hLs hd => ?_   -- 18: 58 := Op.indexAddr 38 (Operand.tmp 46) (Operand.const (Value.int I
              have d46 : T.getD 46 undef = _ := hd ⟨3, .data⟩ (by simp) rfl _ rfl
              clear hag hd
              go_simp
              exact ⟨_, rfl, rfl⟩
            · refine RStepK.of rfl fun T W L hag hL hJ hLs hd => ?_   -- 19: 59 := Op.fieldAddr 25 (Operand.tmp 58) 2
              have d58 : T.getD 58 undef = _ := hd ⟨18, .data⟩ (by simp) rfl _ rfl
              clear hag hd
              go_simp
              exact ⟨_, rfl, rfl⟩
            · refine RStepK.of rfl fun T W L hag hL hJ hLs hd => ?_   -- 20: None := Op.store 3 (Operand.tmp 59) (Operand.const (Value.int IntKin
              have d59 : T.getD 59 undef = _ := hd ⟨19, .data⟩ (by simp) rfl _ rfl
              have hx : (badL (L 11) (L 14) (L 17) (L 20) (L 24) (L 27) (L 30) (L 33) (L 36))[3]? = some gd := by show some (if L 20 = true then _ else gd) = some gd; rw [show L 20 = false from hL]; rfl
              have cx : W.cell? ⟨g, 29, none⟩ = some _ := (RowN.cell (hJ.row HR0.out) hx (j := 2) rfl)
              have fx : W.frozen? ⟨g, 29, none⟩ = false := blk_free (hJ.row HR0.out) 29
              have hst : (rowN (badL (L 11) (L 14) (L 17) (L 20) (L 24) (L 27) (L 30) (L 33) (L 36))).set 29 (.int .i64 1121) = rowN (badL (L 11) (L 14) (L 17) true (L 24) (L 27) (L 30) (L 33) (L 36)) := rowL_set (rowN_fits _) (k := 3) (x := gd) (y := { gd with s := 1121 }) (j := 2) hx (by omega) rfl
              have hJn := hJ.step HR0.out hst
              clear hag hd hx hst
              go_simp
              exact trivial
            · refine RStepK.of rfl fun T W L hag hL hJ hLs hd => ?_   -- 21: 60 := Op.indexAddr 38 (Operand.tmp 47) (Operand.const (Value.int I
              have d47 : T.getD 47 undef = _ := hd ⟨4, .data⟩ (by simp) rfl _ rfl
              clear hag hd
              go_simp
              exact ⟨_, rfl, rfl⟩
            · refine RStepK.of rfl fun T W L hag hL hJ hLs hd => ?_   -- 22: 61 := Op.fieldAddr 25 (Operand.tmp 60) 3
              have d60 : T.getD 60 undef = _ := hd ⟨21, .data⟩ (by simp) rfl _ rfl
              clear hag hd
              go_simp
              exact ⟨_, rfl, rfl⟩
            · refine RStepK.of rfl fun T W L hag hL hJ hLs hd => ?_   -- 23: 62 := Op.indexAddr 23 (Operand.tmp 61) (Operand.const (Value.int I
              have d61 : T.getD 61 undef = _ := hd ⟨22, .data⟩ (by simp) rfl _ rfl
              clear hag hd
              go_simp
              exact ⟨_, rfl, rfl⟩
            · refine RStepK.of rfl fun T W L hag hL hJ hLs hd => ?_   -- 24: None := Op.store 3 (Operand.tmp 62) (Operand.const (Value.int IntKin
              have d62 : T.getD 62 undef = _ := hd ⟨23, .data⟩ (by simp) rfl _ rfl
              have hx : (badL (L 11) (L 14) (L 17) (L 20) (L 24) (L 27) (L 30) (L 33) (L 36))[4]? = some gd := by show some (if L 24 = true then _ else gd) = some gd; rw [show L 24 = false from hL]; rfl
              have cx : W.cell? ⟨g, 39, none⟩ = some _ := (RowN.cell (hJ.row HR0.out) hx (j := 3) rfl)
              have fx : W.frozen? ⟨g, 39, none⟩ = false := blk_free (hJ.row HR0.out) 39
              have hst : (rowN (badL (L 11) (L 14) (L 17) (L 20) (L 24) (L 27) (L 30) (L 33) (L 36))).set 39 (.int .i64 0) = rowN (badL (L 11) (L 14) (L 17) (L 20) true (L 27) (L 30) (L 33) (L 36)) := rowL_set (rowN_fits _) (k := 4) (x := gd) (y := { gd with a := 0 }) (j := 3) hx (by omega) rfl
              have hJn := hJ.step HR0.out hst
              clear hag hd hx hst
              go_simp
              exact trivial
            · refine RStepK.of rfl fun T W L hag hL hJ hLs hd => ?_   -- 25: 63 := Op.indexAddr 38 (Operand.tmp 48) (Operand.const (Value.int I
              have d48 : T.getD 48 undef = _ := hd ⟨5, .data⟩ (by simp) rfl _ rfl
              clear hag hd
              go_simp
              exact ⟨_, rfl, rfl⟩
            · refine RStepK.of rfl fun T W L hag hL hJ hLs hd => ?_   -- 26: 64 := Op.fieldAddr 25 (Operand.tmp 63) 4
              have d63 : T.getD 63 undef = _ := hd ⟨25, .data⟩ (by simp) rfl _ rfl
              clear hag hd
              go_simp
              exact ⟨_, rfl, rfl⟩
            · refine RStepK.of rfl fun T W L hag hL hJ hLs hd => ?_   -- 27: None := Op.store 3 (Operand.tmp 64) (Operand.const (Value.int IntKin
              have d64 : T.getD 64 undef = _ := hd ⟨26, .data⟩ (by simp) rfl _ rfl
              have hx : (badL (L 11) (L 14) (L 17) (L 20) (L 24) (L 27) (L 30) (L 33) (L 36))[5]? = some gd := by show some (if L 27 = true then _ else gd) = some gd; rw [show L 27 = false from hL]; rfl
              have cx : W.cell? ⟨g, 52, none⟩ = some _ := (RowN.cell (hJ.row HR0.out) hx (j := 7) rfl)
              have fx : W.frozen? ⟨g, 52, none⟩ = false := blk_free (hJ.row HR0.out) 52
              have hst : (rowN (badL (L 11) (L 14) (L 17) (L 20) (L 24) (L 27) (L 30) (L 33) (L 36))).set 52 (.int .i64 200) = rowN (badL (L 11) (L 14) (L 17) (L 20) (L 24) true (L 30) (L 33) (L 36)) := rowL_set (rowN_fits _) (k := 5) (x := gd) (y := { gd with x := 200 }) (j := 7) hx (by omega) rfl
              have hJn := hJ.step HR0.out hst
              clear hag hd hx hst
              go_simp
              exact trivial
            · refine RStepK.of rfl fun T W L hag hL hJ hLs hd => ?_   -- 28: 65 := Op.indexAddr 38 (Operand.tmp 49) (Operand.const (Value.int I
              have d49 : T.getD 49 undef = _ := hd ⟨6, .data⟩ (by simp) rfl _ rfl
              clear hag hd
              go_simp
              exact ⟨_, rfl, rfl⟩
            · refine RStepK.of rfl fun T W L hag hL hJ hLs hd => ?_   -- 29: 66 := Op.fieldAddr 25 (Operand.tmp 65) 5
              have d65 : T.getD 65 undef = _ := hd ⟨28, .data⟩ (by simp) rfl _ rfl
              clear hag hd
              go_simp
              exact ⟨_, rfl, rfl⟩
            · refine RStepK.of rfl fun T W L hag hL hJ hLs hd => ?_   -- 30: None := Op.store 9 (Operand.tmp 66) (Operand.const (Value.string { d
              have d66 : T.getD 66 undef = _ := hd ⟨29, .data⟩ (by simp) rfl _ rfl
              have hx : (badL (L 11) (L 14) (L 17) (L 20) (L 24) (L 27) (L 30) (L 33) (L 36))[6]? = some gd := by show some (if L 30 = true then _ else gd) = some gd; rw [show L 30 = false from hL]; rfl
              have cx : W.cell? ⟨g, 62, none⟩ = some _ := (RowN.cell (hJ.row HR0.out) hx (j := 8) rfl)
              have fx : W.frozen? ⟨g, 62, none⟩ = false := blk_free (hJ.row HR0.out) 62
              have hst : (rowN (badL (L 11) (L 14) (L 17) (L 20) (L 24) (L 27) (L 30) (L 33) (L 36))).set 62 (.string ⟨#[120]⟩) = rowN (badL (L 11) (L 14) (L 17) (L 20) (L 24) (L 27) true (L 33) (L 36)) := rowL_set (rowN_fits _) (k := 6) (x := gd) (y := { gd with t := [120] }) (j := 8) hx (by omega) rfl
              have hJn := hJ.step HR0.out hst
              clear hag hd hx hst
              go_simp
              exact trivial
            · refine RStepK.of rfl fun T W L hag hL hJ hLs hd => ?_   -- 31: 67 := Op.indexAddr 38 (Operand.tmp 50) (Operand.const (Value.int I
              have d50 : T.getD 50 undef = _ := hd ⟨7, .data⟩ (by simp) rfl _ rfl
              clear hag hd
              go_simp
              exact ⟨_, rfl, rfl⟩
            · refine RStepK.of rfl fun T W L hag hL hJ hLs hd => ?_   -- 32: 68 := Op.fieldAddr 25 (Operand.tmp 67) 2
              have d67 : T.getD 67 undef = _ := hd ⟨31, .data⟩ (by simp) rfl _ rfl
              clear hag hd
              go_simp
              exact ⟨_, rfl, rfl⟩
            · refine RStepK.of rfl fun T W L hag hL hJ hLs hd => ?_   -- 33: None := Op.store 3 (Operand.tmp 68) (Operand.const (Value.int IntKin
              have d68 : T.getD 68 undef = _ := hd ⟨32, .data⟩ (by simp) rfl _ rfl
              have hx : (badL (L 11) (L 14) (L 17) (L 20) (L 24) (L 27) (L 30) (L 33) (L 36))[7]? = some gd := by show some (if L 33 = true then _ else gd) = some gd; rw [show L 33 = false from hL]; rfl
              have cx : W.cell? ⟨g, 65, none⟩ = some _ := (RowN.cell (hJ.row HR0.out) hx (j := 2) rfl)
              have fx : W.frozen? ⟨g, 65, none⟩ = false := blk_free (hJ.row HR0.out) 65
              have hst : (rowN (badL (L 11) (L 14) (L 17) (L 20) (L 24) (L 27) (L 30) (L 33) (L 36))).set 65 (.int .i64 1) = rowN (badL (L 11) (L 14) (L 17) (L 20) (L 24) (L 27) (L 30) true (L 36)) := rowL_set (rowN_fits _) (k := 7) (x := gd) (y := { gd with s := 1 }) (j := 2) hx (by omega) rfl
              have hJn := hJ.step HR0.out hst
              clear hag hd hx hst
              go_simp
              exact trivial
            · refine RStepK.of rfl fun T W L hag hL hJ hLs hd => ?_   -- 34: 69 := Op.indexAddr 38 (Operand.tmp 51) (Operand.const (Value.int I
              have d51 : T.getD 51 undef = _ := hd ⟨8, .data⟩ (by simp) rfl _ rfl
              clear hag hd
              go_simp
              exact ⟨_, rfl, rfl⟩
            · refine RStepK.of rfl fun T W L hag hL hJ hLs hd => ?_   -- 35: 70 := Op.fieldAddr 25 (Operand.tmp 69) 1
              have d69 : T.getD 69 undef = _ := hd ⟨34, .data⟩ (by simp) rfl _ rfl
              clear hag hd
              go_simp
              exact ⟨_, rfl, rfl⟩
            · refine RLastK.of rfl fun T W L hag hLs hL hJ hd => ?_   -- 36: None := Op.store 3 (Operand.tmp 70) (Operand.const (Value.int IntKin
              have d70 : T.getD 70 undef = _ := hd 35 _ (by simp) rfl
              obtain ⟨f, hf, hT⟩ := agree_fn hag
              have h70 := (hf 70).trans d70
              have HJ := Lib.hid hJ
              clear hag hd d70 hJ hf
              rw [hT]
              clear hT
              simp only [List.pop_toArray, List.dropLast_cons_cons, List.dropLast_singleton, List.filterMap_cons, List.filterMap_nil, List.foldl_cons, List.foldl_nil, List.setIfInBounds_toArray, List.set_cons_succ, List.set_cons_zero, h70]
              have hx : (badL (L 11) (L 14) (L 17) (L 20) (L 24) (L 27) (L 30) (L 33) (L 36))[8]? = some gd := by show some (if L 36 = true then _ else gd) = some gd; rw [show L 36 = false from hL]; rfl
              have cx : W.cell? ⟨g, 73, none⟩ = some _ := (RowN.cell (HJ.out.row HR0.out) hx (j := 1) rfl)
              have fx : W.frozen? ⟨g, 73, none⟩ = false := blk_free (HJ.out.row HR0.out) 73
              have hst : (rowN (badL (L 11) (L 14) (L 17) (L 20) (L 24) (L 27) (L 30) (L 33) (L 36))).set 73 (.int .i64 2) = rowN (badL (L 11) (L 14) (L 17) (L 20) (L 24) (L 27) (L 30) (L 33) true) := rowL_set (rowN_fits _) (k := 8) (x := gd) (y := { gd with l := 2 }) (j := 1) hx (by omega) rfl
              have HJn := Lib.hid (HJ.out.step HR0.out hst)
              rw [hLs 11 (by decide), hLs 14 (by decide), hLs 17 (by decide), hLs 20 (by decide), hLs 24 (by decide), hLs 27 (by decide), hLs 30 (by decide), hLs 33 (by decide)] at HJn
              clear hx hst
              rename_i hJc hKc
              go_wp2_with fail
              refine hJc _ _ ?_
              repeat apply Exists.intro
              exact ⟨⟨HJn.out.row HR0.out, HKD.out.rowed HJn.out HT5.out (by have := HS5.out; omega) (by have := HS6.out; omega)⟩, rfl⟩
          case rest =>
            obtain ⟨hrow, hfk⟩ := hcut
            have HR0 := Lib.hid hrow
            have HK0 := Lib.hid hfk
            clear hrow hfk HK HRB
            go_upto_region 17 with fail
            have c89 : wc.cell? ⟨g, 89, none⟩ = some _ := RowN.cell HR0.out (i := 9) (n := gd) rfl (j := 8) rfl
            have f89 : wc.frozen? ⟨g, 89, none⟩ = false := blk_free HR0.out 89
            have HR1 : RowN (wc.setCell ⟨g, 89, none⟩ (.string (strOfNums (xs 33)))) g (badM.set 9 { gd with t := xs 33 }) := RowN.setC HR0.out (i := 9) (n := gd) (c := 8) rfl (by omega) rfl
            have c83 : (wc.setCell ⟨g, 89, none⟩ (.string (strOfNums (xs 33)))).cell? ⟨g, 83, none⟩ = some _ := RowN.cell HR1 (i := 9) (n := { gd with t := xs 33 }) rfl (j := 2) rfl
            have f83 : (wc.setCell ⟨g, 89, none⟩ (.string (strOfNums (xs 33)))).frozen? ⟨g, 83, none⟩ = false := blk_free HR1 83
            have HR2 : RowN ((wc.setCell ⟨g, 89, none⟩ (.string (strOfNums (xs 33)))).setCell ⟨g, 83, none⟩ (.int .i64 33)) g ((badM.set 9 { gd with t := xs 33 }).set 9 { gd with s := 33, t := xs 33 }) := RowN.setC HR1 (i := 9) (n := { gd with t := xs 33 }) (c := 2) rfl (by omega) rfl
            have c98 : ((wc.setCell ⟨g, 89, none⟩ (.string (strOfNums (xs 33)))).setCell ⟨g, 83, none⟩ (.int .i64 33)).cell? ⟨g, 98, none⟩ = some _ := RowN.cell HR2 (i := 10) (n := gd) rfl (j := 8) rfl
            have f98 : ((wc.setCell ⟨g, 89, none⟩ (.string (strOfNums (xs 33)))).setCell ⟨g, 83, none⟩ (.int .i64 33)).frozen? ⟨g, 98, none⟩ = false := blk_free HR2 98
            have HR3 : RowN (((wc.setCell ⟨g, 89, none⟩ (.string (strOfNums (xs 33)))).setCell ⟨g, 83, none⟩ (.int .i64 33)).setCell ⟨g, 98, none⟩ (.string ⟨#[97, 32, 98]⟩)) g (((badM.set 9 { gd with t := xs 33 }).set 9 { gd with s := 33, t := xs 33 }).set 10 { gd with t := [97, 32, 98] }) := RowN.setC HR2 (i := 10) (n := gd) (c := 8) rfl (by omega) rfl
            have c92 : (((wc.setCell ⟨g, 89, none⟩ (.string (strOfNums (xs 33)))).setCell ⟨g, 83, none⟩ (.int .i64 33)).setCell ⟨g, 98, none⟩ (.string ⟨#[97, 32, 98]⟩)).cell? ⟨g, 92, none⟩ = some _ := RowN.cell HR3 (i := 10) (n := { gd with t := [97, 32, 98] }) rfl (j := 2) rfl
            have f92 : (((wc.setCell ⟨g, 89, none⟩ (.string (strOfNums (xs 33)))).setCell ⟨g, 83, none⟩ (.int .i64 33)).setCell ⟨g, 98, none⟩ (.string ⟨#[97, 32, 98]⟩)).frozen? ⟨g, 92, none⟩ = false := blk_free HR3 92
            have HR4 : RowN ((((wc.setCell ⟨g, 89, none⟩ (.string (strOfNums (xs 33)))).setCell ⟨g, 83, none⟩ (.int .i64 33)).setCell ⟨g, 98, none⟩ (.string ⟨#[97, 32, 98]⟩)).setCell ⟨g, 92, none⟩ (.int .i64 3)) g badF := RowN.setC HR3 (i := 10) (n := { gd with t := [97, 32, 98] }) (c := 2) rfl (by omega) rfl
            have hng2 : q2 ≠ g := by have := HS5.out; omega
            have hng3 : h ≠ g := by have := HS6.out; omega
            have HK4 := ((((HK0.out.setC (o := 89) (.string (strOfNums (xs 33))) HT5.out hng2 hng3).setC (o := 83) (.int .i64 33) HT5.out hng2 hng3).setC (o := 98) (.string ⟨#[97, 32, 98]⟩) HT5.out hng2 hng3).setC (o := 92) (.int .i64 3) HT5.out hng2 hng3)
            have HL4 : Hid (FL w q2 h g _) := ⟨HK4, HR4⟩
            clear HR1 HR2 HR3 HR4 HK4 HK0 HR0
            go_upto_region 18 with fail
            clear c89 f89 c83 f83 c98 f98 c92 f92 hng2 hng3
            generalize (((wc.setCell ⟨g, 89, none⟩ (.string (strOfNums (xs 33)))).setCell ⟨g, 83, none⟩ (.int .i64 33)).setCell ⟨g, 98, none⟩ (.string ⟨#[97, 32, 98]⟩)).setCell ⟨g, 92, none⟩ (.int .i64 3) = W8 at *
            clear HS5 HS6 HQ2 HT5
            go_wp2_with fail
            go_loopw [8] (fun i wr => ∃ j : Nat, j ≤ 12 ∧ i = .int .i64 j ∧ Hid (FL w q2 h g wr)) (fun i _ => (12 - intOf i).toNat)
            case atStart => exact ⟨0, by omega, rfl, HL4⟩
            case round =>
              obtain ⟨j, hj, rfl, HL⟩ := hrel
              clear HL4
              by_cases hlt : j < 12
              · have hnot := bad_not j hlt
                have hok := bad_ok j hlt
                have hkk : kinds[j]? = some (kinds.getD j 0) := by rw [List.getD, List.getElem?_eq_getElem (show j < kinds.length from hlt)]; rfl
                have hat : badF[j]? = some (badF.getD j gd) := by rw [List.getD, List.getElem?_eq_getElem (show j < badF.length from hlt)]; rfl
                have HAT := Lib.hid hat
                have HP : Hid (∀ W : World, Calls Try.prog 7 #[.int .i64 (kinds.getD j 0), .agg (ndA (badF.getD j gd))] W fun e w' => e = .returned (.tuple #[.agg (blkA 0 zBs), .bool false]) ∧ Below W.heap.size W w') := fun W => by
                  have h1 := put_any (kinds.getD j 0) (badF.getD j gd) W hok
                  rwa [decide_eq_false hnot, show putK (kinds.getD j 0) (badF.getD j gd) = 0 from by unfold putK; rw [if_neg hnot], show putBs (kinds.getD j 0) (badF.getD j gd) = zBs from by unfold putBs; rw [if_neg hnot]] at h1
                have HM : Hid (∀ W : World, Calls Try.prog 11 #[.int .i64 (kinds.getD j 0), .agg (ndA (badF.getD j gd))] W fun e w' => e = .returned (.bool false) ∧ Below W.heap.size W w') := fun W => by
                  have h1 := may_any (kinds.getD j 0) (badF.getD j gd) W hok
                  rwa [decide_eq_false hnot] at h1
                have HKK := Lib.hid hkk
                clear hnot hok hkk hat
                generalize kinds.getD j 0 = kk at *
                generalize badF.getD j gd = nd at *
                go_upto_region 21 with fail
                go_cut [10] (fun b wx => b = .bool false ∧ FL w q2 h g wx)
                case first =>
                  have hkk := HKK.out
                  have hJ0 : FL w q2 h g wr.drew := ⟨⟨HL.out.fk.bel.drew, HL.out.fk.gd_, HL.out.fk.kd⟩, HL.out.row⟩
                  refine wp_region_rgk (V21 g h j kk nd) (fun _ W => FL w q2 h g W) (fun _ w w' => w.grownBy w' none) (by kernel_rfl) (by kernel_rfl) (fun i j v' w' w'' hij hind hv hg => hv.on hg) hJ0 ?_
                  have srefl : ∀ (W : World), W.grownBy W none := fun W => World.grownBy.refl _ _
                  clear hJ0 HL HM
                  simp only [RAll]
                  refine ⟨?_, ?_, ?_, ?_, ?_, ?_, ?_, ?_, ?_, ?_, ?_, ?_, ?_, ?_, ?_⟩
                  · refine RStepK.of rfl fun T W L hag hL hJ hLs hd => ?_   -- 0: 91 := Op.move (Operand.tmp 6)
                    have e6 : T.getD 6 undef = _ := (agree_at hag 6 (by kernel_rfl)).trans rfl
                    clear hag hd
                    go_simp
                    exact ⟨_, rfl, rfl⟩
                  · refine RStepK.of rfl fun T W L hag hL hJ hLs hd => ?_   -- 1: 92 := Op.move (Operand.tmp 8)
                    have e8 : T.getD 8 undef = _ := (agree_at hag 8 (by kernel_rfl)).trans rfl
                    clear hag hd
                    go_simp
                    exact ⟨_, rfl, rfl⟩
                  · refine RStepK.of rfl fun T W L hag hL hJ hLs hd => ?_   -- 2: 93 := Op.indexAddr 39 (Operand.tmp 91) (Operand.tmp 92)
                    have d91 : T.getD 91 undef = _ := hd ⟨0, .data⟩ (by simp) rfl _ rfl
                    have d92 : T.getD 92 undef = _ := hd ⟨1, .data⟩ (by simp) rfl _ rfl
                    clear hag hd
                    go_simp
                    exact ⟨_, rfl, rfl⟩
                  · refine RStepK.of rfl fun T W L hag hL hJ hLs hd => ?_   -- 3: 94 := Op.load 3 (Operand.tmp 93)
                    have d93 : T.getD 93 undef = _ := hd ⟨2, .data⟩ (by simp) rfl _ rfl
                    have fct0 := (show W.cell? ⟨h, j, none⟩ = some (.int .i64 kk) from hJ.kd_at hkk)
                    clear hag hd
                    go_simp
                    exact ⟨_, rfl, rfl⟩
                  · refine RStepK.of rfl fun T W L hag hL hJ hLs hd => ?_   -- 4: 95 := Op.move (Operand.tmp 5)
                    have e5 : T.getD 5 undef = _ := (agree_at hag 5 (by kernel_rfl)).trans rfl
                    clear hag hd
                    go_simp
                    exact ⟨_, rfl, rfl⟩
                  · refine RStepK.of rfl fun T W L hag hL hJ hLs hd => ?_   -- 5: 96 := Op.move (Operand.tmp 8)
                    have e8 : T.getD 8 undef = _ := (agree_at hag 8 (by kernel_rfl)).trans rfl
                    clear hag hd
                    go_simp
                    exact ⟨_, rfl, rfl⟩
                  · refine RStepK.of rfl fun T W L hag hL hJ hLs hd => ?_   -- 6: 97 := Op.indexAddr 38 (Operand.tmp 95) (Operand.tmp 96)
                    have d95 : T.getD 95 undef = _ := hd ⟨4, .data⟩ (by simp) rfl _ rfl
                    have d96 : T.getD 96 undef = _ := hd ⟨5, .data⟩ (by simp) rfl _ rfl
                    clear hag hd
                    go_simp
                    exact ⟨_, rfl, rfl⟩
                  · refine RStepK.of rfl fun T W L hag hL hJ hLs hd => ?_   -- 7: 98 := Op.load 25 (Operand.tmp 97)
                    have d97 : T.getD 97 undef = _ := hd ⟨6, .data⟩ (by simp) rfl _ rfl
                    refine wp_loadR (.tmp 97) rfl g j d97 badF nd hJ.row HAT.out ?_
                    exact ⟨_, rfl, rfl, hJ, srefl _⟩
                  · refine RStepK.of rfl fun T W L hag hL hJ hLs hd => ?_   -- 8: 99 := Op.call { callee := Callee.value (Operand.func 7), args := #
                    have d94 : T.getD 94 undef = _ := hd ⟨3, .data⟩ (by simp) rfl _ rfl
                    have d98 : T.getD 98 undef = _ := hd ⟨7, .data⟩ (by simp) rfl _ rfl
                    clear hag hd
                    go_simp
                    refine (HP.out W).mono ?_
                    rintro en w' ⟨rfl, hb⟩
                    exact ⟨_, rfl, rfl, hJ.below hb, growN hb⟩
                  · refine RStepK.of rfl fun T W L hag hL hJ hLs hd => ?_   -- 9: 90 := Op.move (Operand.tmp 99)
                    have d99 : T.getD 99 undef = _ := hd ⟨8, .data⟩ (by simp) rfl _ rfl
                    clear hag hd
                    go_simp
                    exact ⟨_, rfl, rfl⟩
                  · refine RStepK.of rfl fun T W L hag hL hJ hLs hd => ?_   -- 10: 100 := Op.extract (Operand.tmp 90) 0
                    have d90 : T.getD 90 undef = _ := hd ⟨9, .data⟩ (by simp) rfl _ rfl
                    clear hag hd
                    go_simp
                    exact ⟨_, rfl, rfl⟩
                  · refine RStepK.of rfl fun T W L hag hL hJ hLs hd => ?_   -- 11: 101 := Op.extract (Operand.tmp 90) 1
                    have d90 : T.getD 90 undef = _ := hd ⟨9, .data⟩ (by simp) rfl _ rfl
                    clear hag hd
                    go_simp
                    exact ⟨_, rfl, rfl⟩
                  · refine RStepK.of rfl fun T W L hag hL hJ hLs hd => ?_   -- 12: 9 := Op.alloc 28
                    clear hag hd
                    refine wp_allocB rfl ?_
                    exact ⟨_, rfl, ⟨_, rfl, heap_alloc_new _ _⟩, hJ.below (bel1 _), World.grownBy_alloc W _ _⟩
                  · refine RStepK.of rfl fun T W L hag hL hJ hLs hd => ?_   -- 13: None := Op.store 28 (Operand.tmp 9) (Operand.tmp 100)
                    have x9 : (∃ q, (T.getD 9 undef) = .pointer (some ⟨q, 0, none⟩) ∧ W.heap[q]? = some (.cells (blkA 0 zBs) 28 (0, 0))) := hd ⟨12, .data⟩ (by simp) rfl _ rfl
                    have d100 : T.getD 100 undef = _ := hd ⟨10, .data⟩ (by simp) rfl _ rfl
                    obtain ⟨q, (e9 : T.getD 9 undef = _), hq⟩ := x9
                    clear hag hd
                    refine wp_storeB (.tmp 9) (.tmp 100) rfl q e9 0 0 zBs zBs d100 zBs_len zBs_len hq ?_
                    rw [setRow_self hq]
                    exact ⟨undef, rfl, trivial, hJ, srefl _⟩
                  · refine RLastK.of rfl fun T W L hag hLs hL hJ hd => ?_   -- 14: 10 := Op.assign (Operand.tmp 101)
                    have d101 : T.getD 101 undef = _ := hd 11 _ (by simp) rfl
                    obtain ⟨f, hf, hT⟩ := agree_fn hag
                    have h101 := (hf 101).trans d101
                    have HJ := Lib.hid hJ
                    clear hag hd d101 hJ hf
                    rw [hT]
                    clear hT
                    simp only [List.pop_toArray, List.dropLast_cons_cons, List.dropLast_singleton, List.filterMap_cons, List.filterMap_nil, List.foldl_cons, List.foldl_nil, List.setIfInBounds_toArray, List.set_cons_succ, List.set_cons_zero, h101]
                    rename_i hJc hKc
                    go_wp2_with fail
                    refine hJc _ _ ?_
                    repeat apply Exists.intro
                    exact ⟨⟨rfl, HJ.out⟩, rfl⟩
                case rest =>
                  obtain ⟨rfl, hfl⟩ := hcut
                  have HL2 := Lib.hid hfl
                  clear hfl HL HP
                  go_upto_region 22 with fail
                  go_cut [113] (fun b wx => b = .bool false ∧ FL w q2 h g wx)
                  case first =>
                    have hkk := HKK.out
                    have hJ0 : FL w q2 h g wc.drew := ⟨⟨HL2.out.fk.bel.drew, HL2.out.fk.gd_, HL2.out.fk.kd⟩, HL2.out.row⟩
                    refine wp_region_rgk (V22 g h j kk nd) (fun _ W => FL w q2 h g W) (fun _ w w' => w.grownBy w' none) (by kernel_rfl) (by kernel_rfl) (fun i j v' w' w'' hij hind hv hg => hv) hJ0 ?_
                    have srefl : ∀ (W : World), W.grownBy W none := fun W => World.grownBy.refl _ _
                    clear hJ0 HL2
                    simp only [RAll]
                    refine ⟨?_, ?_, ?_, ?_, ?_, ?_, ?_, ?_, ?_, ?_, ?_, ?_⟩
                    · refine RStepK.of rfl fun T W L hag hL hJ hLs hd => ?_   -- 0: 102 := Op.move (Operand.tmp 10)
                      have e10 : T.getD 10 undef = _ := (agree_at hag 10 (by kernel_rfl)).trans rfl
                      clear hag hd
                      go_simp
                      exact ⟨_, rfl, rfl⟩
                    · refine RStepK.of rfl fun T W L hag hL hJ hLs hd => ?_   -- 1: 103 := Op.move (Operand.tmp 102)
                      have d102 : T.getD 102 undef = _ := hd ⟨0, .data⟩ (by simp) rfl _ rfl
                      clear hag hd
                      go_simp
                      exact ⟨_, rfl, rfl⟩
                    · refine RStepK.want rfl rfl rfl (by kernel_rfl) (fun v w h => h) fun T W L hag hL hJ hLs hd => ?_   -- 2: 104 := Op.move (Operand.tmp 6)
                      have e6 : T.getD 6 undef = _ := (agree_at hag 6 (by kernel_rfl)).trans rfl
                      clear hag hd
                      go_simp
                      exact ⟨_, rfl, rfl⟩
                    · refine RStepK.want rfl rfl rfl (by kernel_rfl) (fun v w h => h) fun T W L hag hL hJ hLs hd => ?_   -- 3: 105 := Op.move (Operand.tmp 8)
                      have e8 : T.getD 8 undef = _ := (agree_at hag 8 (by kernel_rfl)).trans rfl
                      clear hag hd
                      go_simp
                      exact ⟨_, rfl, rfl⟩
                    · refine RStepK.want rfl rfl rfl (by kernel_rfl) (fun v w h => h) fun T W L hag hL hJ hLs hd => ?_   -- 4: 106 := Op.indexAddr 39 (Operand.tmp 104) (Operand.tmp 105)
                      have d104 : T.getD 104 undef = _ := hd ⟨2, .data⟩ (by simp) rfl _ rfl
                      have d105 : T.getD 105 undef = _ := hd ⟨3, .data⟩ (by simp) rfl _ rfl
                      clear hag hd
                      go_simp
                      exact ⟨_, rfl, rfl⟩
                    · refine RStepK.want rfl rfl rfl (by kernel_rfl) (fun v w h => h) fun T W L hag hL hJ hLs hd => ?_   -- 5: 107 := Op.load 3 (Operand.tmp 106)
                      have d106 : T.getD 106 undef = _ := hd ⟨4, .data⟩ (by simp) rfl _ rfl
                      have fct0 := (show W.cell? ⟨h, j, none⟩ = some (.int .i64 kk) from hJ.kd_at hkk)
                      clear hag hd
                      go_simp
                      exact ⟨_, rfl, rfl⟩
                    · refine RStepK.want rfl rfl rfl (by kernel_rfl) (fun v w h => h) fun T W L hag hL hJ hLs hd => ?_   -- 6: 108 := Op.move (Operand.tmp 5)
                      have e5 : T.getD 5 undef = _ := (agree_at hag 5 (by kernel_rfl)).trans rfl
                      clear hag hd
                      go_simp
                      exact ⟨_, rfl, rfl⟩
                    · refine RStepK.want rfl rfl rfl (by kernel_rfl) (fun v w h => h) fun T W L hag hL hJ hLs hd => ?_   -- 7: 109 := Op.move (Operand.tmp 8)
                      have e8 : T.getD 8 undef = _ := (agree_at hag 8 (by kernel_rfl)).trans rfl
                      clear hag hd
                      go_simp
                      exact ⟨_, rfl, rfl⟩
                    · refine RStepK.want rfl rfl rfl (by kernel_rfl) (fun v w h => h) fun T W L hag hL hJ hLs hd => ?_   -- 8: 110 := Op.indexAddr 38 (Operand.tmp 108) (Operand.tmp 109)
                      have d108 : T.getD 108 undef = _ := hd ⟨6, .data⟩ (by simp) rfl _ rfl
                      have d109 : T.getD 109 undef = _ := hd ⟨7, .data⟩ (by simp) rfl _ rfl
                      clear hag hd
                      go_simp
                      exact ⟨_, rfl, rfl⟩
                    · refine RStepK.want rfl rfl rfl (by kernel_rfl) (fun v w h => h) fun T W L hag hL hJ hLs hd => ?_   -- 9: 111 := Op.load 25 (Operand.tmp 110)
                      have d110 : T.getD 110 undef = _ := hd ⟨8, .data⟩ (by simp) rfl _ rfl
                      refine wp_loadR (.tmp 110) rfl g j d110 badF nd hJ.row HAT.out ?_
                      exact ⟨_, rfl, rfl, hJ, srefl _⟩
                    · refine RStepK.want rfl rfl rfl (by kernel_rfl) (fun v w h => h) fun T W L hag hL hJ hLs hd => ?_   -- 10: 112 := Op.call { callee := Callee.value (Operand.func 11), args := 
                      have d107 : T.getD 107 undef = _ := hd ⟨5, .data⟩ (by simp) rfl _ rfl
                      have d111 : T.getD 111 undef = _ := hd ⟨9, .data⟩ (by simp) rfl _ rfl
                      clear hag hd
                      go_simp
                      refine (HM.out W).mono ?_
                      rintro en w' ⟨rfl, hb⟩
                      exact ⟨_, rfl, rfl, hJ.below hb, growN hb⟩
                    · refine RLastK.of rfl fun T W L hag hLs hL hJ hd => ?_   -- 11: 113 := Op.pick (Operand.tmp 103) (Operand.const (Value.bool true)) 
                      have d103 : T.getD 103 undef = _ := hd 1 _ (by simp) rfl
                      have d112 : T.getD 112 undef = _ := hd 10 _ (by simp) rfl
                      obtain ⟨f, hf, hT⟩ := agree_fn hag
                      have h103 := (hf 103).trans d103
                      have h112 := (hf 112).trans d112
                      have HJ := Lib.hid hJ
                      clear hag hd d103 d112 hJ hf
                      rw [hT]
                      clear hT
                      simp only [List.pop_toArray, List.dropLast_cons_cons, List.dropLast_singleton, List.filterMap_cons, List.filterMap_nil, List.foldl_cons, List.foldl_nil, List.setIfInBounds_toArray, List.set_cons_succ, List.set_cons_zero, h103, h112]
                      rename_i hJc hKc
                      go_wp2_with fail
                      refine hJc _ _ ?_
                      repeat apply Exists.intro
                      exact ⟨⟨rfl, HJ.out⟩, rfl⟩
                  case rest =>
                    obtain ⟨rfl, hfl⟩ := hcut
                    have HL3 := Lib.hid hfl
                    clear hfl HL2 HM HAT HKK
                    go_wp2_with fail
                    go_roundw
                    case rel => exact ⟨j + 1, by omega, by go_num, HL3⟩
                    case measure => simp [intOf]; omega
              · obtain rfl : j = 12 := by omega
                go_upto_region 24 with fail
                have HB := Lib.hid HL.out.fk.bel
                have HG := Lib.hid HL.out.fk.gd_
                clear HL
                have HPS : Hid (∀ W : World, Calls Try.prog 7 #[.int .i64 3, .agg (ndA sg)] W fun e w' => e = .returned (.tuple #[.agg (blkA 3 (putBs 3 sg)), .bool true]) ∧ Below W.heap.size W w') := fun W => by
                  have h1 := put_any 3 sg W sg_ok
                  rwa [decide_eq_true sg_may, show putK 3 sg = 3 from by unfold putK; rw [if_pos sg_may]] at h1
                have HPF : Hid (∀ W : World, Calls Try.prog 7 #[.int .i64 1, .agg (ndA ff)] W fun e w' => e = .returned (.tuple #[.agg (blkA 1 (putBs 1 ff)), .bool true]) ∧ Below W.heap.size W w') := fun W => by
                  have h1 := put_any 1 ff W ff_ok
                  rwa [decide_eq_true ff_may, show putK 1 ff = 1 from by unfold putK; rw [if_pos ff_may]] at h1
                have HMT : Hid (∀ W : World, Calls Try.prog 11 #[.int .i64 1, .agg (ndA tw)] W fun e w' => e = .returned (.bool false) ∧ Below W.heap.size W w') := fun W => by
                  have h1 := may_any 1 tw W tw_ok
                  rwa [decide_eq_false tw_not] at h1
                have HPA := Lib.hid pbs_at
                have HPZ := Lib.hid pbf_str
                have HL3 : Hid ((putBs 3 sg).length = 56) := putBs_len
                have HL1 : Hid ((putBs 1 ff).length = 56) := putBs_len
                generalize putBs 3 sg = pbs at *
                generalize putBs 1 ff = pbf at *
                have hz := NdAt.new wr nd0
                have b2 : Below wr.heap.size wr ((wr.alloc (Obj.cells (ndA nd0) 25)).setRow wr.heap.size (ndA gd)) := below_setRow (bel1 _) (Nat.le_refl _) _
                have HN11 := Lib.hid (hz.set gd)
                have HB' := Lib.hid (HB.out.trans (b2.mono HB.out.size))
                have HG' := Lib.hid (NdAt.below HG.out b2)
                have HLT11 := Lib.hid HB.out.size
                have HNEG11 := Lib.hid (room_lt HG.out)
                go_upto_region 25 with (first
                  | (refine wpList_loadN rfl (.tmp 2) rfl q2 rfl gd HG.out ?_)
                  | (refine wpList_allocN rfl rfl ?_)
                  | (refine wpList_storeN rfl (.tmp 11) (.tmp 114) rfl wr.heap.size rfl gd nd0 rfl hz ?_))
                clear hz b2 HB
                have HB := HB'
                clear HB'
                clear HG
                have HG := HG'
                clear HG'
                generalize (wr.alloc (Obj.cells (ndA nd0) 25)).setRow wr.heap.size (ndA gd) = X1 at *
                generalize wr.heap.size = q11 at *
                have HX0 := HN11.out
                have hoG0 := HG.out
                have hneG : q2 ≠ q11 := by have := HNEG11.out; omega
                have hb0 := HB.out
                have HX1 : NdAt ((X1).setCells q11 3 [.int .i64 (5), .int .i64 (-1), .int .i64 (-1), .int .i64 (-1)]) q11 { gd with a := 5, b := -1, c := -1, d := -1 } := NdAt.set4 HX0 _ _ _ _
                have ht0 := NdAt.there4 HX0
                have hoG1 := NdAt.offCs (c := 3) hoG0 [.int .i64 (5), .int .i64 (-1), .int .i64 (-1), .int .i64 (-1)] hneG
                have hb1 := below_setCells [.int .i64 (5), .int .i64 (-1), .int .i64 (-1), .int .i64 (-1)] 3 hb0 HLT11.out
                have c1 := HX1.cell 7
                have c1' : ((X1).setCells q11 3 [.int .i64 (5), .int .i64 (-1), .int .i64 (-1), .int .i64 (-1)]).cell? ⟨q11, 7, none⟩ = some _ := c1.trans rfl
                have f1 : ((X1).setCells q11 3 [.int .i64 (5), .int .i64 (-1), .int .i64 (-1), .int .i64 (-1)]).frozen? ⟨q11, 7, none⟩ = false := blk_free HX1 7
                clear c1
                have HX2 : NdAt (((X1).setCells q11 3 [.int .i64 (5), .int .i64 (-1), .int .i64 (-1), .int .i64 (-1)]).setCell ⟨q11, 7, none⟩ (.int .i64 5)) q11 { gd with a := 5, b := -1, c := -1, d := -1, x := 5 } := NdAt.setC HX1 rfl
                have hoG2 := NdAt.offC (c := 7) hoG1 (.int .i64 5) hneG
                have hb2 := hb1.setCell (show w.heap.size ≤ (⟨q11, 7, none⟩ : Addr).block from HLT11.out) (.int .i64 5)
                have c2 := HX2.cell 2
                have c2' : (((X1).setCells q11 3 [.int .i64 (5), .int .i64 (-1), .int .i64 (-1), .int .i64 (-1)]).setCell ⟨q11, 7, none⟩ (.int .i64 5)).cell? ⟨q11, 2, none⟩ = some _ := c2.trans rfl
                have f2 : (((X1).setCells q11 3 [.int .i64 (5), .int .i64 (-1), .int .i64 (-1), .int .i64 (-1)]).setCell ⟨q11, 7, none⟩ (.int .i64 5)).frozen? ⟨q11, 2, none⟩ = false := blk_free HX2 2
                clear c2
                have HX3 : NdAt ((((X1).setCells q11 3 [.int .i64 (5), .int .i64 (-1), .int .i64 (-1), .int .i64 (-1)]).setCell ⟨q11, 7, none⟩ (.int .i64 5)).setCell ⟨q11, 2, none⟩ (.int .i64 9)) q11 tw := NdAt.setC HX2 rfl
                have hoG3 := NdAt.offC (c := 2) hoG2 (.int .i64 9) hneG
                have hb3 := hb2.setCell (show w.heap.size ≤ (⟨q11, 2, none⟩ : Addr).block from HLT11.out) (.int .i64 9)
                have HNn : Hid (NdAt ((((X1).setCells q11 3 [.int .i64 (5), .int .i64 (-1), .int .i64 (-1), .int .i64 (-1)]).setCell ⟨q11, 7, none⟩ (.int .i64 5)).setCell ⟨q11, 2, none⟩ (.int .i64 9)) q11 tw) := HX3
                have HG' := Lib.hid hoG3
                have HB' := Lib.hid hb3
                clear HX0 hb0 HX1 hb1 HX2 hb2 HX3 hb3 hoG0 hoG1 hoG2 hoG3
                clear HN11 HB
                go_upto_region 26 with (first | (refine wpList_store_mid rfl 23 (.tmp 116) (.tmp 115) rfl q11 3 #[.int .i64 (5), .int .i64 (-1), .int .i64 (-1), .int .i64 (-1)] rfl rfl ht0 size4 one4 ?_; change wpList _ _ _ _ _ ((X1).setCells q11 3 [.int .i64 (5), .int .i64 (-1), .int .i64 (-1), .int .i64 (-1)]); generalize (X1).setCells q11 3 [.int .i64 (5), .int .i64 (-1), .int .i64 (-1), .int .i64 (-1)] = Z11 at *))
                clear ht0 c1' f1 c2' f2 hneG
                generalize ((Z11).setCell ⟨q11, 7, none⟩ (.int .i64 5)).setCell ⟨q11, 2, none⟩ (.int .i64 9) = X2 at *
                have HN11 := HNn
                clear HNn
                have HB := HB'
                clear HB'
                clear HG
                have HG := HG'
                clear HG'
                have hz := NdAt.new X2 nd0
                have b2 : Below X2.heap.size X2 ((X2.alloc (Obj.cells (ndA nd0) 25)).setRow X2.heap.size (ndA gd)) := below_setRow (bel1 _) (Nat.le_refl _) _
                have HN12 := Lib.hid (hz.set gd)
                have HB' := Lib.hid (HB.out.trans (b2.mono HB.out.size))
                have HG' := Lib.hid (NdAt.below HG.out b2)
                have HN11' := Lib.hid (NdAt.below HN11.out b2)
                have HLT12 := Lib.hid HB.out.size
                have HNEG12 := Lib.hid (room_lt HG.out)
                have HNEN1112 := Lib.hid (room_lt HN11.out)
                go_upto_region 27 with (first
                  | (refine wpList_loadN rfl (.tmp 2) rfl q2 rfl gd HG.out ?_)
                  | (refine wpList_allocN rfl rfl ?_)
                  | (refine wpList_storeN rfl (.tmp 12) (.tmp 119) rfl X2.heap.size rfl gd nd0 rfl hz ?_))
                clear hz b2 HB
                have HB := HB'
                clear HB'
                clear HG HN11
                have HG := HG'
                clear HG'
                have HN11 := HN11'
                clear HN11'
                generalize (X2.alloc (Obj.cells (ndA nd0) 25)).setRow X2.heap.size (ndA gd) = X3 at *
                generalize X2.heap.size = q12 at *
                have hsl : ∀ W : World, (Instr.slice 9 (.string (strOfNums (xs 33))) none (some (.int .i64 32)) none).run Try.prog W = .ok (.string (strOfNums (xs 32))) W := fun W => by
                  rw [run_slice_string_h W 9 _ Try.underlying9 .i64 32 (by omega) (by rw [strOfNums_size]; decide)]
                  exact congrArg (fun z => Result.ok (Value.string z) W) str_33
                have HX0 := HN12.out
                have hoG0 := HG.out
                have hneG : q2 ≠ q12 := by have := HNEG12.out; omega
                have hoN110 := HN11.out
                have hneN11 : q11 ≠ q12 := by have := HNEN1112.out; omega
                have hb0 := HB.out
                have c0 := HX0.cell 8
                have c0' : (X3).cell? ⟨q12, 8, none⟩ = some _ := c0.trans rfl
                have f0 : (X3).frozen? ⟨q12, 8, none⟩ = false := blk_free HX0 8
                clear c0
                have HX1 : NdAt ((X3).setCell ⟨q12, 8, none⟩ (.string (strOfNums (xs 32)))) q12 { gd with t := xs 32 } := NdAt.setC HX0 rfl
                have hoG1 := NdAt.offC (c := 8) hoG0 (.string (strOfNums (xs 32))) hneG
                have hoN111 := NdAt.offC (c := 8) hoN110 (.string (strOfNums (xs 32))) hneN11
                have hb1 := hb0.setCell (show w.heap.size ≤ (⟨q12, 8, none⟩ : Addr).block from HLT12.out) (.string (strOfNums (xs 32)))
                have c1 := HX1.cell 2
                have c1' : ((X3).setCell ⟨q12, 8, none⟩ (.string (strOfNums (xs 32)))).cell? ⟨q12, 2, none⟩ = some _ := c1.trans rfl
                have f1 : ((X3).setCell ⟨q12, 8, none⟩ (.string (strOfNums (xs 32)))).frozen? ⟨q12, 2, none⟩ = false := blk_free HX1 2
                clear c1
                have HX2 : NdAt (((X3).setCell ⟨q12, 8, none⟩ (.string (strOfNums (xs 32)))).setCell ⟨q12, 2, none⟩ (.int .i64 32)) q12 sg := NdAt.setC HX1 rfl
                have hoG2 := NdAt.offC (c := 2) hoG1 (.int .i64 32) hneG
                have hoN112 := NdAt.offC (c := 2) hoN111 (.int .i64 32) hneN11
                have hb2 := hb1.setCell (show w.heap.size ≤ (⟨q12, 2, none⟩ : Addr).block from HLT12.out) (.int .i64 32)
                have HNn : Hid (NdAt (((X3).setCell ⟨q12, 8, none⟩ (.string (strOfNums (xs 32)))).setCell ⟨q12, 2, none⟩ (.int .i64 32)) q12 sg) := HX2
                have HG' := Lib.hid hoG2
                have HN11' := Lib.hid hoN112
                have HB' := Lib.hid hb2
                clear HX0 hb0 HX1 hb1 HX2 hb2 hoG0 hoG1 hoG2 hoN110 hoN111 hoN112
                clear HN12 HB
                go_upto_region 28 with fail
                clear c0' f0 c1' f1 hneG hneN11
                generalize ((X3).setCell ⟨q12, 8, none⟩ (.string (strOfNums (xs 32)))).setCell ⟨q12, 2, none⟩ (.int .i64 32) = X4 at *
                have HN12 := HNn
                clear HNn
                have HB := HB'
                clear HB'
                clear HG HN11
                have HG := HG'
                clear HG'
                have HN11 := HN11'
                clear HN11'
                clear hsl
                go_wp2_with (refine wpList_loadN rfl (.tmp 12) rfl q12 rfl sg HN12.out ?_)
                refine (HPS.out _).mono ?_; rintro e X5 ⟨rfl, hb⟩
                have hz := heap_alloc_new X5 (Obj.cells (blkA 0 zBs) 28)
                have b2 : Below X5.heap.size X5 ((X5.alloc (Obj.cells (blkA 0 zBs) 28)).setRow X5.heap.size (blkA 3 pbs)) := below_setRow (bel1 _) (Nat.le_refl _) _
                have HB13 := Lib.hid (setRow_blk (D := blkA 3 pbs) hz)
                have HB' := Lib.hid ((HB.out.trans (hb.mono HB.out.size)).trans (b2.mono (Nat.le_trans HB.out.size hb.size)))
                have HG' := Lib.hid ((NdAt.below HG.out hb).below b2)
                have HN11' := Lib.hid ((NdAt.below HN11.out hb).below b2)
                have HN12' := Lib.hid ((NdAt.below HN12.out hb).below b2)
                go_upto_region 29 with (first
                  | (refine wpList_allocB rfl rfl ?_)
                  | (refine wpList_storeB rfl (.tmp 13) (.tmp 127) rfl X5.heap.size rfl 3 0 pbs zBs rfl HL3.out zBs_len hz ?_))
                clear hz b2 hb HB
                have HB := HB'
                clear HB'
                clear HG HN11 HN12
                have HG := HG'
                clear HG'
                have HN11 := HN11'
                clear HN11'
                have HN12 := HN12'
                clear HN12'
                generalize (X5.alloc (Obj.cells (blkA 0 zBs) 28)).setRow X5.heap.size (blkA 3 pbs) = X6 at *
                generalize X5.heap.size = q13 at *
                have hz := NdAt.new X6 nd0
                have b2 : Below X6.heap.size X6 ((X6.alloc (Obj.cells (ndA nd0) 25)).setRow X6.heap.size (ndA gd)) := below_setRow (bel1 _) (Nat.le_refl _) _
                have HN15 := Lib.hid (hz.set gd)
                have HB' := Lib.hid (HB.out.trans (b2.mono HB.out.size))
                have HG' := Lib.hid (NdAt.below HG.out b2)
                have HN11' := Lib.hid (NdAt.below HN11.out b2)
                have HN12' := Lib.hid (NdAt.below HN12.out b2)
                have HB13' := Lib.hid (kb b2 HB13.out)
                have HLT15 := Lib.hid HB.out.size
                have HNEG15 := Lib.hid (room_lt HG.out)
                have HNEN1115 := Lib.hid (room_lt HN11.out)
                have HNEN1215 := Lib.hid (room_lt HN12.out)
                have HNEB1315 := Lib.hid (room_lt HB13.out)
                go_upto_region 30 with (first
                  | (refine wpList_loadN rfl (.tmp 2) rfl q2 rfl gd HG.out ?_)
                  | (refine wpList_allocN rfl rfl ?_)
                  | (refine wpList_storeN rfl (.tmp 15) (.tmp 129) rfl X6.heap.size rfl gd nd0 rfl hz ?_))
                clear hz b2 HB
                have HB := HB'
                clear HB'
                clear HG HN11 HN12 HB13
                have HG := HG'
                clear HG'
                have HN11 := HN11'
                clear HN11'
                have HN12 := HN12'
                clear HN12'
                have HB13 := HB13'
                clear HB13'
                generalize (X6.alloc (Obj.cells (ndA nd0) 25)).setRow X6.heap.size (ndA gd) = X7 at *
                generalize X6.heap.size = q15 at *
                have HX0 := HN15.out
                have hoG0 := HG.out
                have hneG : q2 ≠ q15 := by have := HNEG15.out; omega
                have hoN110 := HN11.out
                have hneN11 : q11 ≠ q15 := by have := HNEN1115.out; omega
                have hoN120 := HN12.out
                have hneN12 : q12 ≠ q15 := by have := HNEN1215.out; omega
                have hoB130 := HB13.out
                have hneB13 : q13 ≠ q15 := by have := HNEB1315.out; omega
                have hb0 := HB.out
                have c0 := HX0.cell 0
                have c0' : (X7).cell? ⟨q15, 0, none⟩ = some _ := c0.trans rfl
                have f0 : (X7).frozen? ⟨q15, 0, none⟩ = false := blk_free HX0 0
                clear c0
                have HX1 : NdAt ((X7).setCell ⟨q15, 0, none⟩ (.int .u32 258)) q15 { gd with g := 258 } := NdAt.setC HX0 rfl
                have hoG1 := NdAt.offC (c := 0) hoG0 (.int .u32 258) hneG
                have hoN111 := NdAt.offC (c := 0) hoN110 (.int .u32 258) hneN11
                have hoN121 := NdAt.offC (c := 0) hoN120 (.int .u32 258) hneN12
                have hoB131 : ((X7).setCell ⟨q15, 0, none⟩ (.int .u32 258)).heap[q13]? = _ := (heap_setCell_other _ _ _ _ hneB13).trans hoB130
                have hb1 := hb0.setCell (show w.heap.size ≤ (⟨q15, 0, none⟩ : Addr).block from HLT15.out) (.int .u32 258)
                have c1 := HX1.cell 1
                have c1' : ((X7).setCell ⟨q15, 0, none⟩ (.int .u32 258)).cell? ⟨q15, 1, none⟩ = some _ := c1.trans rfl
                have f1 : ((X7).setCell ⟨q15, 0, none⟩ (.int .u32 258)).frozen? ⟨q15, 1, none⟩ = false := blk_free HX1 1
                clear c1
                have HX2 : NdAt (((X7).setCell ⟨q15, 0, none⟩ (.int .u32 258)).setCell ⟨q15, 1, none⟩ (.int .i64 3)) q15 { gd with g := 258, l := 3 } := NdAt.setC HX1 rfl
                have hoG2 := NdAt.offC (c := 1) hoG1 (.int .i64 3) hneG
                have hoN112 := NdAt.offC (c := 1) hoN111 (.int .i64 3) hneN11
                have hoN122 := NdAt.offC (c := 1) hoN121 (.int .i64 3) hneN12
                have hoB132 : (((X7).setCell ⟨q15, 0, none⟩ (.int .u32 258)).setCell ⟨q15, 1, none⟩ (.int .i64 3)).heap[q13]? = _ := (heap_setCell_other _ _ _ _ hneB13).trans hoB131
                have hb2 := hb1.setCell (show w.heap.size ≤ (⟨q15, 1, none⟩ : Addr).block from HLT15.out) (.int .i64 3)
                have c2 := HX2.cell 2
                have c2' : (((X7).setCell ⟨q15, 0, none⟩ (.int .u32 258)).setCell ⟨q15, 1, none⟩ (.int .i64 3)).cell? ⟨q15, 2, none⟩ = some _ := c2.trans rfl
                have f2 : (((X7).setCell ⟨q15, 0, none⟩ (.int .u32 258)).setCell ⟨q15, 1, none⟩ (.int .i64 3)).frozen? ⟨q15, 2, none⟩ = false := blk_free HX2 2
                clear c2
                have HX3 : NdAt ((((X7).setCell ⟨q15, 0, none⟩ (.int .u32 258)).setCell ⟨q15, 1, none⟩ (.int .i64 3)).setCell ⟨q15, 2, none⟩ (.int .i64 1120)) q15 { gd with g := 258, l := 3, s := 1120 } := NdAt.setC HX2 rfl
                have hoG3 := NdAt.offC (c := 2) hoG2 (.int .i64 1120) hneG
                have hoN113 := NdAt.offC (c := 2) hoN112 (.int .i64 1120) hneN11
                have hoN123 := NdAt.offC (c := 2) hoN122 (.int .i64 1120) hneN12
                have hoB133 : ((((X7).setCell ⟨q15, 0, none⟩ (.int .u32 258)).setCell ⟨q15, 1, none⟩ (.int .i64 3)).setCell ⟨q15, 2, none⟩ (.int .i64 1120)).heap[q13]? = _ := (heap_setCell_other _ _ _ _ hneB13).trans hoB132
                have hb3 := hb2.setCell (show w.heap.size ≤ (⟨q15, 2, none⟩ : Addr).block from HLT15.out) (.int .i64 1120)
                have HX4 : NdAt (((((X7).setCell ⟨q15, 0, none⟩ (.int .u32 258)).setCell ⟨q15, 1, none⟩ (.int .i64 3)).setCell ⟨q15, 2, none⟩ (.int .i64 1120)).setCells q15 3 [.int .i64 (1), .int .i64 (-1), .int .i64 (199), .int .i64 (-1)]) q15 { gd with g := 258, l := 3, s := 1120, a := 1, b := -1, c := 199, d := -1 } := NdAt.set4 HX3 _ _ _ _
                have ht3 := NdAt.there4 HX3
                have hoG4 := NdAt.offCs (c := 3) hoG3 [.int .i64 (1), .int .i64 (-1), .int .i64 (199), .int .i64 (-1)] hneG
                have hoN114 := NdAt.offCs (c := 3) hoN113 [.int .i64 (1), .int .i64 (-1), .int .i64 (199), .int .i64 (-1)] hneN11
                have hoN124 := NdAt.offCs (c := 3) hoN123 [.int .i64 (1), .int .i64 (-1), .int .i64 (199), .int .i64 (-1)] hneN12
                have hoB134 : (((((X7).setCell ⟨q15, 0, none⟩ (.int .u32 258)).setCell ⟨q15, 1, none⟩ (.int .i64 3)).setCell ⟨q15, 2, none⟩ (.int .i64 1120)).setCells q15 3 [.int .i64 (1), .int .i64 (-1), .int .i64 (199), .int .i64 (-1)]).heap[q13]? = _ := (heap_setCells_other hneB13 _ _ _).trans hoB133
                have hb4 := below_setCells [.int .i64 (1), .int .i64 (-1), .int .i64 (199), .int .i64 (-1)] 3 hb3 HLT15.out
                have c4 := HX4.cell 7
                have c4' : (((((X7).setCell ⟨q15, 0, none⟩ (.int .u32 258)).setCell ⟨q15, 1, none⟩ (.int .i64 3)).setCell ⟨q15, 2, none⟩ (.int .i64 1120)).setCells q15 3 [.int .i64 (1), .int .i64 (-1), .int .i64 (199), .int .i64 (-1)]).cell? ⟨q15, 7, none⟩ = some _ := c4.trans rfl
                have f4 : (((((X7).setCell ⟨q15, 0, none⟩ (.int .u32 258)).setCell ⟨q15, 1, none⟩ (.int .i64 3)).setCell ⟨q15, 2, none⟩ (.int .i64 1120)).setCells q15 3 [.int .i64 (1), .int .i64 (-1), .int .i64 (199), .int .i64 (-1)]).frozen? ⟨q15, 7, none⟩ = false := blk_free HX4 7
                clear c4
                have HX5 : NdAt ((((((X7).setCell ⟨q15, 0, none⟩ (.int .u32 258)).setCell ⟨q15, 1, none⟩ (.int .i64 3)).setCell ⟨q15, 2, none⟩ (.int .i64 1120)).setCells q15 3 [.int .i64 (1), .int .i64 (-1), .int .i64 (199), .int .i64 (-1)]).setCell ⟨q15, 7, none⟩ (.int .i64 4)) q15 ff := NdAt.setC HX4 rfl
                have hoG5 := NdAt.offC (c := 7) hoG4 (.int .i64 4) hneG
                have hoN115 := NdAt.offC (c := 7) hoN114 (.int .i64 4) hneN11
                have hoN125 := NdAt.offC (c := 7) hoN124 (.int .i64 4) hneN12
                have hoB135 : ((((((X7).setCell ⟨q15, 0, none⟩ (.int .u32 258)).setCell ⟨q15, 1, none⟩ (.int .i64 3)).setCell ⟨q15, 2, none⟩ (.int .i64 1120)).setCells q15 3 [.int .i64 (1), .int .i64 (-1), .int .i64 (199), .int .i64 (-1)]).setCell ⟨q15, 7, none⟩ (.int .i64 4)).heap[q13]? = _ := (heap_setCell_other _ _ _ _ hneB13).trans hoB134
                have hb5 := hb4.setCell (show w.heap.size ≤ (⟨q15, 7, none⟩ : Addr).block from HLT15.out) (.int .i64 4)
                have HNn : Hid (NdAt ((((((X7).setCell ⟨q15, 0, none⟩ (.int .u32 258)).setCell ⟨q15, 1, none⟩ (.int .i64 3)).setCell ⟨q15, 2, none⟩ (.int .i64 1120)).setCells q15 3 [.int .i64 (1), .int .i64 (-1), .int .i64 (199), .int .i64 (-1)]).setCell ⟨q15, 7, none⟩ (.int .i64 4)) q15 ff) := HX5
                have HG' := Lib.hid hoG5
                have HN11' := Lib.hid hoN115
                have HN12' := Lib.hid hoN125
                have HB13' := Lib.hid hoB135
                have HB' := Lib.hid hb5
                clear HX0 hb0 HX1 hb1 HX2 hb2 HX3 hb3 HX4 hb4 HX5 hb5 hoG0 hoG1 hoG2 hoG3 hoG4 hoG5 hoN110 hoN111 hoN112 hoN113 hoN114 hoN115 hoN120 hoN121 hoN122 hoN123 hoN124 hoN125 hoB130 hoB131 hoB132 hoB133 hoB134 hoB135
                clear HN15 HB
                go_upto_region 31 with (first | (refine wpList_store_mid rfl 23 (.tmp 134) (.tmp 130) rfl q15 3 #[.int .i64 (1), .int .i64 (-1), .int .i64 (199), .int .i64 (-1)] rfl rfl ht3 size4 one4 ?_; change wpList _ _ _ _ _ (((((X7).setCell ⟨q15, 0, none⟩ (.int .u32 258)).setCell ⟨q15, 1, none⟩ (.int .i64 3)).setCell ⟨q15, 2, none⟩ (.int .i64 1120)).setCells q15 3 [.int .i64 (1), .int .i64 (-1), .int .i64 (199), .int .i64 (-1)]); generalize ((((X7).setCell ⟨q15, 0, none⟩ (.int .u32 258)).setCell ⟨q15, 1, none⟩ (.int .i64 3)).setCell ⟨q15, 2, none⟩ (.int .i64 1120)).setCells q15 3 [.int .i64 (1), .int .i64 (-1), .int .i64 (199), .int .i64 (-1)] = Z15 at *))
                clear c0' f0 c1' f1 c2' f2 ht3 c4' f4 hneG hneN11 hneN12 hneB13
                generalize (Z15).setCell ⟨q15, 7, none⟩ (.int .i64 4) = X8 at *
                have HN15 := HNn
                clear HNn
                have HB := HB'
                clear HB'
                clear HG HN11 HN12 HB13
                have HG := HG'
                clear HG'
                have HN11 := HN11'
                clear HN11'
                have HN12 := HN12'
                clear HN12'
                have HB13 := HB13'
                clear HB13'
                go_wp2_with (refine wpList_loadN rfl (.tmp 15) rfl q15 rfl ff HN15.out ?_)
                refine (HPF.out _).mono ?_; rintro e X9 ⟨rfl, hb⟩
                have hz := heap_alloc_new X9 (Obj.cells (blkA 0 zBs) 28)
                have b2 : Below X9.heap.size X9 ((X9.alloc (Obj.cells (blkA 0 zBs) 28)).setRow X9.heap.size (blkA 1 pbf)) := below_setRow (bel1 _) (Nat.le_refl _) _
                have HB16 := Lib.hid (setRow_blk (D := blkA 1 pbf) hz)
                have HB' := Lib.hid ((HB.out.trans (hb.mono HB.out.size)).trans (b2.mono (Nat.le_trans HB.out.size hb.size)))
                have HG' := Lib.hid ((NdAt.below HG.out hb).below b2)
                have HN11' := Lib.hid ((NdAt.below HN11.out hb).below b2)
                have HN12' := Lib.hid ((NdAt.below HN12.out hb).below b2)
                have HB13' := Lib.hid (kb b2 (kb hb HB13.out))
                have HN15' := Lib.hid ((NdAt.below HN15.out hb).below b2)
                go_upto_region 32 with (first
                  | (refine wpList_allocB rfl rfl ?_)
                  | (refine wpList_storeB rfl (.tmp 16) (.tmp 139) rfl X9.heap.size rfl 1 0 pbf zBs rfl HL1.out zBs_len hz ?_))
                clear hz b2 hb HB
                have HB := HB'
                clear HB'
                clear HG HN11 HN12 HB13 HN15
                have HG := HG'
                clear HG'
                have HN11 := HN11'
                clear HN11'
                have HN12 := HN12'
                clear HN12'
                have HB13 := HB13'
                clear HB13'
                have HN15 := HN15'
                clear HN15'
                generalize (X9.alloc (Obj.cells (blkA 0 zBs) 28)).setRow X9.heap.size (blkA 1 pbf) = Y1 at *
                generalize X9.heap.size = q16 at *
                go_wp2_with (refine wpList_loadN rfl (.tmp 11) rfl q11 rfl tw HN11.out ?_)
                refine (HMT.out _).mono ?_; rintro e Y2 ⟨rfl, hb⟩
                have HB2 := Lib.hid (HB.out.trans (hb.mono HB.out.size))
                have h13 := kb hb HB13.out
                have h16 := kb hb HB16.out
                clear hb HB
                have d20 : Y2.cell? ⟨q13, 21, none⟩ = some (.int .u8 32) := by rw [blk_cell h13, ← Array.getElem?_toList, blkA_list]; exact Bs_at (i := 20) HPA.out.1
                have d52 : Y2.cell? ⟨q13, 53, none⟩ = some (.int .u8 120) := by rw [blk_cell h13, ← Array.getElem?_toList, blkA_list]; exact Bs_at (i := 52) HPA.out.2.1
                have d53 : Y2.cell? ⟨q13, 54, none⟩ = some (.int .u8 0) := by rw [blk_cell h13, ← Array.getElem?_toList, blkA_list]; exact Bs_at (i := 53) HPA.out.2.2
                have hcv := conv_any (c := 56) (byt_seg h16 0 21) (show (seg pbf 0 21).length = 21 from seg_len HL1.out (by omega))
                change (convert 37 9 (.slice (some ⟨q16, 1, none⟩) 21 56)).run Try.prog Y2 = .ok (.string (strOfNums (seg pbf 0 21))) Y2 at hcv
                have hstr := HPZ.out
                go_wp2_with fail
                go_ret
                first
                  | exact ⟨rfl, HB2.out⟩
                  | exact ⟨ret_bool hstr, HB2.out⟩

set_option maxRecDepth 100000 in
theorem lifted (os : Os) (started : os.Started) (H : Type) (enc : TypeId × Value → H) :
    ReturnsInHanded {} Try.checked os 5 .any (Rows.nodeFormsSpec.pre6 enc Try.prog Try.f5 Rows.nodeFormsRow.domain false) (Rows.nodeFormsSpec.post enc Try.prog Try.f5 false true false false) := by
  refine returnsInHanded_of_change (C := Try.checked) own started (by kernel_rfl) Try.func5
    (ChangeSpec.witness6 (enc := enc) (C := Try.checked) false ⟨#[], #[], []⟩ 8 (by kernel_rfl) (by kernel_rfl) (by kernel_rfl) (by kernel_rfl)) ?_
  intro W base args ds gs before hval0 hW hcnd _
  have hW' := hW
  obtain ⟨p, q, hA0, hV, rfl, hfz, hnd⟩ := hW
  have hA : DataW.TrodAll enc Try.prog W 0 (fun _ => true) true Try.f5.params.toList args.toList ds p := hA0
  rw [Try.params5] at hA
  obtain ⟨rfl, rfl, rfl⟩ := trodAll_none hA
  obtain ⟨rfl, rfl⟩ := trodVars_none hV
  clear hA0 hval0
  simp only [List.append_nil] at hW'
  refine (walk W).mono fun e W' ⟨he, bel⟩ => ?_
  subst he
  exact ⟨_, rfl, _, _, _, [], _, [], hW', (trodAll_cons_mk (shut_bool Try.underlying4 _) trodAll_mk0), rfl, rfl, bel.frame _, fun h => by cases h⟩

theorem over : Rows.nodeFormsRow.holds Try.pinned (OpenSpec.ofChange Rows.nodeFormsSpec) :=
  OpenClaim.holds_of_wide 5 Try.f5 rfl rfl rfl rfl rfl rfl rfl ⟨rfl, rfl, rfl, rfl, rfl⟩ rfl rfl rfl rfl rfl (by kernel_rfl) Try.func5 (by kernel_rfl)
    (of_decide_eq_true (by kernel_rfl)) (by unfold Func.isWrapper; first | (rw [if_pos (by decide +kernel)]; kernel_rfl) | (rw [if_neg (by decide +kernel)]; exact ⟨rfl, rfl⟩))
    (fun os started H enc _ => lifted os started H enc)

theorem proved : Rows.NodeFormsSaid :=
  over
#print axioms proved
end Go.Proofs.Ytebahdiiokfkfaa.nodeForms
