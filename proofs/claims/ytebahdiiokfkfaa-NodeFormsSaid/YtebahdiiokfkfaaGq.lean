/- Contract: the laws' opening test. -/
import Derived.Test.YtebahdiiokfkfaaGp
namespace Go.Proofs.Ytebahdiiokfkfaa
open Go.ChangeShapes Go.WideShapes Go.ChangeAt Go.RowKit
set_option linter.unusedVariables false
def n9 : Nd := ⟨1, 1, 9, 5, -1, -1, -1, -1, []⟩
theorem n9_ok : NdOk n9 := ⟨⟨by decide, by decide⟩, ⟨by decide, by decide⟩, ⟨by decide, by decide⟩, ⟨by decide, by decide⟩, ⟨by decide, by decide⟩, ⟨by decide, by decide⟩, ⟨by decide, by decide⟩, ⟨by decide, by decide⟩, (fun x hx => by cases hx), by decide⟩
theorem n9_may : MayN 1 n9 := by decide
theorem n9_not : ¬ MayN 2 n9 := by decide
theorem zBs_not (k : Int) : ¬ Taken k zBs := fun h => by
  have h1 := h.2.1.1.1
  exact absurd h1 (by decide)
theorem builtN9 : Try.prog.built 25 [(0, .int .u32 1), (1, .int .i64 1), (2, .int .i64 9), (3, .agg #[.int .i64 5, .int .i64 (-1), .int .i64 (-1), .int .i64 (-1)]), (4, .int .i64 (-1))] = some (ndA n9) := by kernel_rfl
theorem wpList_buildN9 {ops : Array Oper} {rest : List Oper} {o : Oper} {ac : Act} {w : World} {Q : Exit → Act → World → Prop} (hgd : o.guard = none) (x : Operand) (ho : o.op = .build 25 #[(0, .const (.int .u32 1)), (1, .const (.int .i64 1)), (2, .const (.int .i64 9)), (3, x), (4, .const (.int .i64 (-1)))]) (hx : ac.eval x = .agg #[.int .i64 5, .int .i64 (-1), .int .i64 (-1), .int .i64 (-1)])
    (h : wpList Try.prog ops Q rest (ac.put o.dst (.agg (ndA n9))) w) : wpList Try.prog ops Q (o :: rest) ac w :=
  wpList_plain hgd fun _ hK => by
    unfold Oper.wp execOp
    have hb := run_build (P := Try.prog) w 25 #[(0, .int .u32 1), (1, .int .i64 1), (2, .int .i64 9), (3, .agg #[.int .i64 5, .int .i64 (-1), .int .i64 (-1), .int .i64 (-1)]), (4, .int .i64 (-1))] _ builtN9
    have hx2 := hx
    simp only [ho, List.map_toArray, List.map_cons, List.map_nil, hx, Sem.run_bind]
    simp only [Act.eval] at hb ⊢
    rw [hb]
    exact hK _ _ h
set_option maxRecDepth 100000 in
set_option maxHeartbeats 6400000 in
theorem begun_any (w : World) : Calls Try.prog 6 #[] w fun e w' => e = .returned (.bool true) ∧ Below w.heap.size w w' := by
  have HPUT : Hid (∀ W : World, Calls Try.prog 7 #[.int .i64 1, .agg (ndA n9)] W fun e w' => e = .returned (.tuple #[.agg (blkA 1 (putBs 1 n9)), .bool true]) ∧ Below W.heap.size W w') := fun W => by
    have h := put_any 1 n9 W n9_ok
    rwa [decide_eq_true n9_may, show putK 1 n9 = 1 from by unfold putK; rw [if_pos n9_may]] at h
  have hB : AllB (putBs 1 n9) := putBs_allB n9_ok.t
  have hL : (putBs 1 n9).length = 56 := putBs_len
  have hpb : putBs 1 n9 = pad (bytesN n9) := by unfold putBs; rw [if_pos n9_may]
  have HTK : Hid (∀ W : World, Calls Try.prog 9 #[.agg (blkA 1 (putBs 1 n9))] W fun e w' => e = .returned (.tuple #[.agg (ndA n9), .bool true]) ∧ Below W.heap.size W w') := fun W => by
    have h := take_any 1 (putBs 1 n9) W ⟨by decide, by decide⟩ hL hB
    rw [hpb] at h
    rwa [decide_eq_true (taken_pad n9_may n9_ok).1, (taken_pad n9_may n9_ok).2, ← hpb] at h
  have HTZ : Hid (∀ W : World, Calls Try.prog 9 #[.agg (blkA 1 zBs)] W fun e w' => e = .returned (.tuple #[.agg (ndA nd0), .bool false]) ∧ Below W.heap.size W w') := fun W => by
    have h := take_any 1 zBs W ⟨by decide, by decide⟩ zBs_len zBs_allB
    rwa [decide_eq_false (zBs_not 1), show takeN 1 zBs = nd0 from by unfold takeN; rw [if_neg (zBs_not 1)]] at h
  have HM1 : Hid (∀ W : World, Calls Try.prog 11 #[.int .i64 1, .agg (ndA n9)] W fun e w' => e = .returned (.bool true) ∧ Below W.heap.size W w') := fun W => by
    have h := may_any 1 n9 W n9_ok
    rwa [decide_eq_true n9_may] at h
  have HM2 : Hid (∀ W : World, Calls Try.prog 11 #[.int .i64 2, .agg (ndA n9)] W fun e w' => e = .returned (.bool false) ∧ Below W.heap.size W w') := fun W => by
    have h := may_any 2 n9 W n9_ok
    rwa [decide_eq_false n9_not] at h
  have HL := Lib.hid hL
  clear hB hL hpb
  generalize putBs 1 n9 = pb at *
  have HN0 := NdAt.new w nd0
  have HN1 := Lib.hid (HN0.set n9)
  have HB1 := Lib.hid (below_setRow (bel1 (w := w) (Obj.cells (ndA nd0) 25)) (Nat.le_refl w.heap.size) (ndA n9))
  go_enter Try.func6, Try.ntmps6
  go_upto_region 2 with (first
    | (refine wpList_buildN9 rfl (.tmp 8) rfl rfl ?_)
    | (refine wpList_allocN rfl rfl ?_)
    | (refine wpList_storeN rfl (.tmp 1) (.tmp 9) rfl w.heap.size rfl n9 nd0 rfl HN0 ?_))
  clear HN0
  generalize (w.alloc (Obj.cells (ndA nd0) 25)).setRow w.heap.size (ndA n9) = w1 at *
  generalize hp : w.heap.size = p at *
  go_wp2_with (refine wpList_loadN rfl (.tmp 1) rfl p rfl n9 HN1.out ?_)
  refine (HPUT.out _).mono ?_; rintro e w2 ⟨rfl, hb2⟩
  have HN2 := HN1.out.below hb2
  have HB2 := HB1.out.trans (hb2.mono (Nat.le_of_lt (room_lt HN1.out)))
  have hlt2 : p < w2.heap.size := room_lt HN2
  have HQ0 := heap_alloc_new w2 (Obj.cells (blkA 0 zBs) 28)
  have b3 := below_setRow (bel1 (w := w2) (Obj.cells (blkA 0 zBs) 28)) (Nat.le_refl w2.heap.size) (blkA 1 pb)
  have HN3 := Lib.hid (HN2.below b3)
  have HB3 := Lib.hid (HB2.trans (b3.mono (Nat.le_of_lt hlt2)))
  have HQ3 := Lib.hid (setRow_blk (D := blkA 1 pb) HQ0)
  clear hb2 HN1 HB1 HN2 HB2 b3
  go_upto_region 3 with (first
    | (refine wpList_allocB rfl rfl ?_)
    | (refine wpList_storeB rfl (.tmp 2) (.tmp 13) rfl w2.heap.size rfl 1 0 pb zBs rfl HL.out zBs_len HQ0 ?_))
  clear HQ0
  generalize (w2.alloc (Obj.cells (blkA 0 zBs) 28)).setRow w2.heap.size (blkA 1 pb) = w3 at *
  generalize w2.heap.size = q at *
  go_wp2_with (refine wpList_loadB rfl (.tmp 2) rfl q rfl 1 pb HL.out HQ3.out ?_)
  refine (HTK.out _).mono ?_; rintro e w4 ⟨rfl, hb4⟩
  have HN4 := HN3.out.below hb4
  have HB4 := HB3.out.trans (hb4.mono (Nat.le_of_lt (room_lt HN3.out)))
  have HQ4 := kb hb4 HQ3.out
  have hlt4 : p < w4.heap.size := room_lt HN4
  have HR0 := NdAt.new w4 nd0
  have b5 := below_setRow (bel1 (w := w4) (Obj.cells (ndA nd0) 25)) (Nat.le_refl w4.heap.size) (ndA n9)
  have HN5 := Lib.hid (HN4.below b5)
  have HB5 := Lib.hid (HB4.trans (b5.mono (Nat.le_of_lt hlt4)))
  have HQ5 := Lib.hid (kb b5 HQ4)
  have HR5 := Lib.hid (HR0.set n9)
  clear hb4 HN3 HB3 HQ3 HN4 HB4 HQ4 b5
  go_upto_region 4 with (first
    | (refine wpList_allocN rfl rfl ?_)
    | (refine wpList_storeN rfl (.tmp 4) (.tmp 18) rfl w4.heap.size rfl n9 nd0 rfl HR0 ?_))
  clear HR0
  generalize (w4.alloc (Obj.cells (ndA nd0) 25)).setRow w4.heap.size (ndA n9) = w5 at *
  generalize w4.heap.size = r at *
  go_wp2_with (refine wpList_buildBk rfl (.const (.int .i64 1)) 1 rfl rfl ?_)
  refine (HTZ.out _).mono ?_; rintro e w6 ⟨rfl, hb6⟩
  have HN6 := HN5.out.below hb6
  have HB6 := HB5.out.trans (hb6.mono (Nat.le_of_lt (room_lt HN5.out)))
  have HQ6 := kb hb6 HQ5.out
  have HR6 := HR5.out.below hb6
  have hlt6 : p < w6.heap.size := room_lt HN6
  have HS0 := NdAt.new w6 nd0
  have b7 := below_setRow (bel1 (w := w6) (Obj.cells (ndA nd0) 25)) (Nat.le_refl w6.heap.size) (ndA nd0)
  have HN7 := Lib.hid (HN6.below b7)
  have HB7 := Lib.hid (HB6.trans (b7.mono (Nat.le_of_lt hlt6)))
  have HQ7 := Lib.hid (kb b7 HQ6)
  have HR7 := Lib.hid (HR6.below b7)
  clear hb6 HN5 HB5 HQ5 HR5 HN6 HB6 HQ6 HR6 b7
  go_upto_region 5 with (first
    | (refine wpList_allocN rfl rfl ?_)
    | (refine wpList_storeN rfl (.tmp 6) (.tmp 23) rfl w6.heap.size rfl nd0 nd0 rfl HS0 ?_))
  clear HS0
  generalize (w6.alloc (Obj.cells (ndA nd0) 25)).setRow w6.heap.size (ndA nd0) = w7 at *
  have ck : w7.cell? ⟨q, 0, none⟩ = some (.int .i64 1) := blk_kind HQ7.out (blkA_list _ _)
  have HEQ : Hid (decide (n9 = n9) = true) := decide_eq_true rfl
  go_wp2_with (first
    | (refine wpList_loadNw (by rfl) (.tmp 4) rfl r rfl n9 HR7.out ?_)
    | (refine wpList_loadNw (by rfl) (.tmp 1) rfl p rfl n9 HN7.out ?_)
    | (refine wpList_eqlNw (by rfl) (.tmp 35) (.tmp 36) _ rfl n9 n9 rfl rfl n9_ok n9_ok ?_; rw [HEQ.out]))
  refine (HM1.out _).mono ?_; rintro e w8 ⟨rfl, hb8⟩
  have HN8 := Lib.hid (HN7.out.below hb8)
  have HB8 := Lib.hid (HB7.out.trans (hb8.mono (Nat.le_of_lt (room_lt HN7.out))))
  clear hb8 HN7 HB7 HQ7 HR7 ck
  go_wp2_with (refine wpList_loadNw (by rfl) (.tmp 1) rfl p rfl n9 HN8.out ?_)
  refine (HM2.out _).mono ?_; rintro e w9 ⟨rfl, hb9⟩
  have HB9 := Lib.hid (HB8.out.trans (hb9.mono (Nat.le_of_lt (room_lt HN8.out))))
  clear hb9 HN8 HB8
  go_wp2_with fail
  go_ret
  exact ⟨rfl, by first | exact HB9.out | (rw [hp]; exact HB9.out)⟩
end Go.Proofs.Ytebahdiiokfkfaa
