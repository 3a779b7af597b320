/- Contract: the laws' opening test. -/
import Derived.Test.YtcmmopngjeonfaaYi
namespace Go.Proofs.Ytcmmopngjeonfaa
open Go.ChangeShapes Go.WideShapes Go.ChangeAt Go.RowKit
set_option linter.unusedVariables false
def e9 : En := ⟨-1, 0, 0, [97], 3, 4⟩
theorem one97 : AllB [97] := fun x hx => by rw [List.mem_singleton] at hx; subst hx; decide
theorem dots46 : AllB [46, 46] := fun x hx => by simp at hx; subst hx; decide
theorem e9_ok : EnOk e9 := ⟨⟨by decide, by decide⟩, ⟨by decide, by decide⟩, ⟨by decide, by decide⟩, one97, by decide, ⟨by decide, by decide⟩, ⟨by decide, by decide⟩⟩
theorem e9_may : MayE e9 := by decide
theorem builtE9 : Try.prog.built 26 [(0, idV (-1) 0 0), (1, .string { data := #[97] }), (2, .int .i64 3), (3, .int .u32 4)] = some (enA e9) := by kernel_rfl
theorem wpList_buildE9 {ops : Array Oper} {rest : List Oper} {o : Oper} {ac : Act} {w : World} {Q : Exit → Act → World → Prop} (hgd : o.guard = none) (x : Operand) (ho : o.op = .build 26 #[(0, x), (1, .const (.string { data := #[97] })), (2, .const (.int .i64 3)), (3, .const (.int .u32 4))]) (hx : ac.eval x = idV (-1) 0 0)
    (h : wpList Try.prog ops Q rest (ac.put o.dst (.agg (enA e9))) w) : wpList Try.prog ops Q (o :: rest) ac w :=
  wpList_plain hgd fun _ hK => by
    unfold Oper.wp execOp
    have hb := run_build (P := Try.prog) w 26 #[(0, idV (-1) 0 0), (1, .string { data := #[97] }), (2, .int .i64 3), (3, .int .u32 4)] _ builtE9
    have hx2 := hx
    simp only [ho, List.map_toArray, List.map_cons, List.map_nil, hx, Sem.run_bind]
    simp only [Act.eval] at hb ⊢
    rw [hb]
    exact hK _ _ h
set_option maxRecDepth 100000 in
set_option maxHeartbeats 6400000 in
theorem ebegun_any (w : World) : Calls Try.prog 6 #[] w fun e w' => e = .returned (.bool true) ∧ Below w.heap.size w w' := by
  have HPUT : Hid (∀ W : World, Calls Try.prog 7 #[.agg (enA e9)] W fun e w' => e = .returned (.tuple #[.agg (blkA 6 (putEB e9)), .bool true]) ∧ Below W.heap.size W w') := fun W => by
    have h := enput_any e9 W e9_ok
    rwa [decide_eq_true e9_may, putEK_may e9_may] at h
  have hB : AllB (putEB e9) := putEB_allB e9_ok.t
  have hL : (putEB e9).length = 56 := putEB_len
  have hpb : putEB e9 = pad (bytesE e9) := putEB_may e9_may
  have HTK : Hid (∀ W : World, Calls Try.prog 9 #[.agg (blkA 6 (putEB e9))] W fun e w' => e = .returned (.tuple #[.agg (enA e9), .bool true]) ∧ Below W.heap.size W w') := fun W => by
    have h := entake_any 6 (putEB e9) W ⟨by decide, by decide⟩ hL hB
    rw [hpb] at h
    rwa [decide_eq_true (etaken_pad e9_may e9_ok).1, (etaken_pad e9_may e9_ok).2, ← hpb] at h
  have HTZ : Hid (∀ W : World, Calls Try.prog 9 #[.agg (blkA 6 zBs)] W fun e w' => e = .returned (.tuple #[.agg (enA en0), .bool false]) ∧ Below W.heap.size W w') := fun W => by
    have h := entake_any 6 zBs W ⟨by decide, by decide⟩ zBs_len zBs_allB
    rwa [decide_eq_false (etaken_zero 6), show takeE 6 zBs = en0 from by unfold takeE; rw [if_neg (etaken_zero 6)]] at h
  have HM1 : Hid (∀ W : World, Calls Try.prog 13 #[.agg (enA e9)] W fun e w' => e = .returned (.bool true) ∧ Below W.heap.size W w') := fun W => by
    have h := enmay_any e9 W e9_ok
    rwa [decide_eq_true e9_may] at h
  have HA1 : Hid (∀ W : World, Calls Try.prog 11 #[.string { data := #[97] }] W fun e w' => e = .returned (.bool true) ∧ W = w') := fun W => by
    have h := mayname_any [97] W one97
    rwa [decide_eq_true (show NmM [97] by decide)] at h
  have HA2 : Hid (∀ W : World, Calls Try.prog 11 #[.string { data := #[46, 46] }] W fun e w' => e = .returned (.bool false) ∧ W = w') := fun W => by
    have h := mayname_any [46, 46] W dots46
    rwa [decide_eq_false (show ¬ NmM [46, 46] by decide)] at h
  have HRT := Lib.hid rroot_any
  have HL := Lib.hid hL
  clear hB hL hpb
  generalize putEB e9 = pb at *
  go_enter Try.func6, Try.ntmps6
  go_wp2_with fail
  refine (HRT.out _).mono ?_; rintro e w0 ⟨rfl, hb0⟩
  have HN0 := EnAt.new w0 en0
  have HN1 := Lib.hid (HN0.set e9)
  have HB1 := Lib.hid (hb0.trans ((below_setRow (bel1 (w := w0) (Obj.cells (enA en0) 26)) (Nat.le_refl w0.heap.size) (enA e9)).mono hb0.size))
  have HPL := Lib.hid hb0.size
  clear hb0
  go_upto_region 2 with (first
    | (refine wpList_buildE9 rfl (.tmp 8) rfl rfl ?_)
    | (refine wpList_allocE rfl rfl ?_)
    | (refine wpList_storeE rfl (.tmp 1) (.tmp 9) rfl w0.heap.size rfl e9 en0 rfl HN0 ?_))
  clear HN0
  generalize (w0.alloc (Obj.cells (enA en0) 26)).setRow w0.heap.size (enA e9) = w1 at *
  generalize w0.heap.size = p at *
  go_wp2_with (refine wpList_loadE rfl (.tmp 1) rfl p rfl e9 HN1.out ?_)
  refine (HPUT.out _).mono ?_; rintro e w2 ⟨rfl, hb2⟩
  have HN2 := HN1.out.below hb2
  have HB2 := HB1.out.trans (hb2.mono (Nat.le_of_lt (Nat.lt_of_le_of_lt HPL.out (room_lt HN1.out))))
  have hlt2 : w.heap.size < w2.heap.size := Nat.lt_of_le_of_lt HPL.out (room_lt HN2)
  have HQ0 := heap_alloc_new w2 (Obj.cells (blkA 0 zBs) 29)
  have b3 := below_setRow (bel1 (w := w2) (Obj.cells (blkA 0 zBs) 29)) (Nat.le_refl w2.heap.size) (blkA 6 pb)
  have HN3 := Lib.hid (HN2.below b3)
  have HB3 := Lib.hid (HB2.trans (b3.mono (Nat.le_of_lt hlt2)))
  have HQ3 := Lib.hid (setRow_blk (D := blkA 6 pb) HQ0)
  clear hb2 HN1 HB1 HN2 HB2 b3
  go_upto_region 3 with (first
    | (refine wpList_allocB rfl rfl ?_)
    | (refine wpList_storeB rfl (.tmp 2) (.tmp 13) rfl w2.heap.size rfl 6 0 pb zBs rfl HL.out zBs_len HQ0 ?_))
  clear HQ0
  generalize (w2.alloc (Obj.cells (blkA 0 zBs) 29)).setRow w2.heap.size (blkA 6 pb) = w3 at *
  generalize w2.heap.size = q at *
  go_wp2_with (refine wpList_loadB rfl (.tmp 2) rfl q rfl 6 pb HL.out HQ3.out ?_)
  refine (HTK.out _).mono ?_; rintro e w4 ⟨rfl, hb4⟩
  have HN4 := HN3.out.below hb4
  have HB4 := HB3.out.trans (hb4.mono (Nat.le_of_lt (Nat.lt_of_le_of_lt HPL.out (room_lt HN3.out))))
  have HQ4 := kb hb4 HQ3.out
  have hlt4 : w.heap.size < w4.heap.size := Nat.lt_of_le_of_lt HPL.out (room_lt HN4)
  have HR0 := EnAt.new w4 en0
  have b5 := below_setRow (bel1 (w := w4) (Obj.cells (enA en0) 26)) (Nat.le_refl w4.heap.size) (enA e9)
  have HN5 := Lib.hid (HN4.below b5)
  have HB5 := Lib.hid (HB4.trans (b5.mono (Nat.le_of_lt hlt4)))
  have HQ5 := Lib.hid (kb b5 HQ4)
  have HR5 := Lib.hid (HR0.set e9)
  clear hb4 HN3 HB3 HQ3 HN4 HB4 HQ4 b5
  go_upto_region 4 with (first
    | (refine wpList_allocE rfl rfl ?_)
    | (refine wpList_storeE rfl (.tmp 4) (.tmp 18) rfl w4.heap.size rfl e9 en0 rfl HR0 ?_))
  clear HR0
  generalize (w4.alloc (Obj.cells (enA en0) 26)).setRow w4.heap.size (enA e9) = w5 at *
  generalize w4.heap.size = r at *
  go_wp2_with (refine wpList_buildBk rfl (.const (.int .i64 6)) 6 rfl rfl ?_)
  refine (HTZ.out _).mono ?_; rintro e w6 ⟨rfl, hb6⟩
  have HN6 := HN5.out.below hb6
  have HB6 := HB5.out.trans (hb6.mono (Nat.le_of_lt (Nat.lt_of_le_of_lt HPL.out (room_lt HN5.out))))
  have HQ6 := kb hb6 HQ5.out
  have HR6 := HR5.out.below hb6
  have hlt6 : w.heap.size < w6.heap.size := Nat.lt_of_le_of_lt HPL.out (room_lt HN6)
  have HS0 := EnAt.new w6 en0
  have b7 := below_setRow (bel1 (w := w6) (Obj.cells (enA en0) 26)) (Nat.le_refl w6.heap.size) (enA en0)
  have HN7 := Lib.hid (HN6.below b7)
  have HB7 := Lib.hid (HB6.trans (b7.mono (Nat.le_of_lt hlt6)))
  have HQ7 := Lib.hid (kb b7 HQ6)
  have HR7 := Lib.hid (HR6.below b7)
  clear hb6 HN5 HB5 HQ5 HR5 HN6 HB6 HQ6 HR6 b7
  go_upto_region 5 with (first
    | (refine wpList_allocE rfl rfl ?_)
    | (refine wpList_storeE rfl (.tmp 6) (.tmp 23) rfl w6.heap.size rfl en0 en0 rfl HS0 ?_))
  clear HS0
  generalize (w6.alloc (Obj.cells (enA en0) 26)).setRow w6.heap.size (enA en0) = w7 at *
  have ck : w7.cell? ⟨q, 0, none⟩ = some (.int .i64 6) := blk_kind HQ7.out (blkA_list _ _)
  have HEQ : Hid (decide (e9 = e9) = true) := decide_eq_true rfl
  go_wp2_with (first
    | (refine wpList_loadEw (by rfl) (.tmp 4) rfl r rfl e9 HR7.out ?_)
    | (refine wpList_loadEw (by rfl) (.tmp 1) rfl p rfl e9 HN7.out ?_)
    | (refine wpList_eqlEw (by rfl) (.tmp 35) (.tmp 36) _ rfl e9 e9 rfl rfl e9_ok e9_ok ?_; rw [HEQ.out]))
  refine (HM1.out _).mono ?_; rintro e w8 ⟨rfl, hb8⟩
  have HN8 := Lib.hid (HN7.out.below hb8)
  have HB8 := Lib.hid (HB7.out.trans (hb8.mono (Nat.le_of_lt (Nat.lt_of_le_of_lt HPL.out (room_lt HN7.out)))))
  clear hb8 HN7 HB7 HQ7 HR7 ck
  go_wp2_with fail
  refine (HA1.out _).mono ?_; rintro e w9 ⟨rfl, rfl⟩
  go_wp2_with fail
  refine (HA2.out _).mono ?_; rintro e w9 ⟨rfl, rfl⟩
  go_wp2_with fail
  go_ret
  exact ⟨rfl, HB8.out⟩
end Go.Proofs.Ytcmmopngjeonfaa
