/- Contract: clathriref4's Put of what is not there. -/
import Derived.Test.YtbcnjilhibkcnaaMf
import Derived.StillTailTactics
namespace Go.Proofs.Ytbcnjilhibkcnaa
open Go.ChangeShapes Go.WideShapes Go.ChangeAt Go.RowKit
set_option linter.unusedVariables false
theorem builtEp (parts : List (Nat × Value)) : Try.prog.built 64 parts = Instr.fill (#[(0, 1), (1, 57), (58, 1)][·]?) (enA zE) parts := by kernel_rfl
theorem builtE (t c : Int) (bs : List Int) (d : Bool) (h56 : bs.length = 56) : Try.prog.built 64 [(0, .int .i64 t), (1, .agg (blkA c bs)), (2, .bool d)] = some (enA ((⟨t, c, bs⟩ : Wr), d)) := by
  have hz : (enE zE).length = 59 := enE_length zW_len
  have hzs : (enA zE).size = 59 := enA_size zW_len
  rw [builtEp, fill_cons (off := 0) (size := 1) rfl rfl (by rw [hzs]; decide), fill_cons (off := 1) (size := 57) rfl (by simp [Value.cells, blkA_size h56]) (by simp [splice, Value.cells, hzs]), fill_cons (off := 58) (size := 1) rfl rfl (by simp [splice, Value.cells, hzs, blkA_size h56])]
  unfold Instr.fill
  congr 1
  have e1 : (enA zE).toList = [.int .i64 0] ++ (blkL 0 zBs ++ [.bool false]) := rfl
  have e2 : (Value.agg (blkA c bs)).cells.toList = blkL c bs := by show (blkA c bs).toList = _; exact blkA_list _ _
  have e3 : (blkL 0 zBs).length = 57 := blkL_length' zBs_len
  have e4 : (blkL c bs).length = 57 := blkL_length' h56
  have e5 : splice (enA zE).toList 0 (Value.int .i64 t).cells.toList = [.int .i64 t] ++ (blkL 0 zBs ++ [.bool false]) := by rw [e1]; rfl
  rw [e5, List.toList_toArray, e2]
  have e6 : splice ([.int .i64 t] ++ (blkL 0 zBs ++ [.bool false])) 1 (blkL c bs) = [.int .i64 t] ++ (blkL c bs ++ [.bool false]) := by
    unfold splice
    rw [e4]
    show [Value.int .i64 t] ++ (blkL c bs ++ (blkL 0 zBs ++ [Value.bool false]).drop 57) = _
    rw [List.drop_left' e3]
  rw [e6, List.toList_toArray]
  have e7 : splice ([.int .i64 t] ++ (blkL c bs ++ [.bool false])) 58 (Value.bool d).cells.toList = [.int .i64 t] ++ (blkL c bs ++ [.bool d]) := by
    have e8 : (Value.bool d).cells.toList = [.bool d] := rfl
    rw [e8]
    unfold splice
    show (Value.int .i64 t :: (blkL c bs ++ [.bool false])).take 58 ++ ([Value.bool d] ++ (Value.int .i64 t :: (blkL c bs ++ [.bool false])).drop (58 + 1)) = _
    rw [List.take_succ_cons, List.take_left' e4, List.drop_of_length_le (by simp [e4]), List.append_nil]
    rfl
  rw [e7]
  rfl
theorem wp_buildE {o : Oper} {a : Act} {w : World} {K : Act → World → Prop} {Q : Exit → Act → World → Prop} (x y z : Operand) (t c : Int) (bs : List Int) (d : Bool) (h56 : bs.length = 56) (ho : o.op = .build 64 #[(0, x), (1, y), (2, z)]) (hx : a.eval x = .int .i64 t) (hy : a.eval y = .agg (blkA c bs)) (hz : a.eval z = .bool d)
    (h : K (a.put o.dst (.agg (enA ((⟨t, c, bs⟩ : Wr), d)))) w) : o.wp Try.prog a w K Q := by
  unfold Oper.wp execOp
  have hb := run_build (P := Try.prog) w 64 #[(0, .int .i64 t), (1, .agg (blkA c bs)), (2, .bool d)] _ (builtE t c bs d h56)
  simp only [ho, List.map_toArray, List.map_cons, List.map_nil, hx, hy, hz, Sem.run_bind, hb, Result.andThen_ok]
  exact h
theorem builtWp (parts : List (Nat × Value)) : Try.prog.built 36 parts = Instr.fill (#[(0, 1), (1, 57)][·]?) (wrA zW) parts := by kernel_rfl
theorem builtWb (t c : Int) (bs : List Int) (h56 : bs.length = 56) : Try.prog.built 36 [(0, .int .i64 t), (1, .agg (blkA c bs))] = some (wrA ⟨t, c, bs⟩) := by
  have hzs : (wrA zW).size = 58 := wrA_size zW_len
  rw [builtWp, fill_cons (off := 0) (size := 1) rfl rfl (by rw [hzs]; decide), fill_cons (off := 1) (size := 57) rfl (by simp [Value.cells, blkA_size h56]) (by simp [splice, Value.cells, hzs])]
  unfold Instr.fill
  congr 1
  have e1 : (wrA zW).toList = [.int .i64 0] ++ blkL 0 zBs := rfl
  have e2 : (Value.agg (blkA c bs)).cells.toList = blkL c bs := by show (blkA c bs).toList = _; exact blkA_list _ _
  have e3 : (blkL 0 zBs).length = 57 := blkL_length' zBs_len
  have e4 : (blkL c bs).length = 57 := blkL_length' h56
  have e5 : splice (wrA zW).toList 0 (Value.int .i64 t).cells.toList = [.int .i64 t] ++ blkL 0 zBs := by rw [e1]; rfl
  rw [e5, List.toList_toArray, e2]
  have e6 : splice ([.int .i64 t] ++ blkL 0 zBs) 1 (blkL c bs) = [.int .i64 t] ++ blkL c bs := by
    unfold splice
    rw [e4]
    show [Value.int .i64 t] ++ (blkL c bs ++ (blkL 0 zBs).drop 57) = _
    rw [List.drop_of_length_le (by omega), List.append_nil]
  rw [e6]
  rfl
theorem wpList_buildWb {ops : Array Oper} {rest : List Oper} {o : Oper} {a : Act} {w : World} {Q : Exit → Act → World → Prop} (hgd : o.guard = none) (x y : Operand) (t c : Int) (bs : List Int) (h56 : bs.length = 56) (ho : o.op = .build 36 #[(0, x), (1, y)]) (hx : a.eval x = .int .i64 t) (hy : a.eval y = .agg (blkA c bs))
    (h : wpList Try.prog ops Q rest (a.put o.dst (.agg (wrA ⟨t, c, bs⟩))) w) : wpList Try.prog ops Q (o :: rest) a w :=
  wpList_plain hgd fun _ hK => by
    unfold Oper.wp execOp
    have hb := run_build (P := Try.prog) w 36 #[(0, .int .i64 t), (1, .agg (blkA c bs))] _ (builtWb t c bs h56)
    simp only [ho, List.map_toArray, List.map_cons, List.map_nil, hx, hy, Sem.run_bind, hb, Result.andThen_ok]
    exact hK _ _ h
def VP6 (w0 : World) (h n cap : Nat) (A : Option Addr) (t c : Int) (bs : List Int) (d : Bool) (X : List Ent) (i : Nat) (v : Value) (w : World) : Prop :=
  match i with
  | 0 | 6 | 7 | 11 => v = .pointer (some ⟨h, 0, none⟩)
  | 1 => v = .int .i64 t
  | 2 => v = .agg (blkA c bs)
  | 3 => v = .bool d
  | 4 => v = .agg (enA ((⟨t, c, bs⟩ : Wr), d))
  | 8 | 12 => v = .pointer (some ⟨h, 1, none⟩)
  | 9 => v = .slice A n cap
  | 5 => ∃ g, v = .slice (some ⟨g, 0, none⟩) 1 1 ∧ w.ownsRow 0 64 59 v 1 (rowL enE [((⟨t, c, bs⟩ : Wr), d)]) ∧ w0.heap.size ≤ g
  | 10 => w.ownsRow 0 64 59 v (n + 1) (rowL enE (((⟨t, c, bs⟩ : Wr), d) :: X)) ∧ ∀ g, v.ownBlock = some g → w0.heap.size ≤ g
  | _ => True
def SP6 (i : Nat) (w w' : World) : Prop := Keeps 64 59 (if i = 10 then 1 else 1000000) w w'
theorem VP6.on {w0 : World} {h n cap : Nat} {A : Option Addr} {t c : Int} {bs : List Int} {d : Bool} {X : List Ent} {i j : Nat} {v : Value} {w w' : World} (hn : n ≤ 1000) (hij : i ≠ j) (H : VP6 w0 h n cap A t c bs d X j v w) (hs : SP6 i w w') : VP6 w0 h n cap A t c bs d X j v w' := by
  unfold VP6 at H ⊢
  split at H
  all_goals try exact H
  · obtain ⟨g, e, ho, hg⟩ := H
    exact ⟨g, e, hs _ _ _ (by split <;> omega) ho, hg⟩
  · exact ⟨hs _ _ _ (by rw [if_neg hij]; omega) H.1, H.2⟩
/-- A row that is one shorter. -/
theorem own_shrink {W : World} {base e sz n b cap : Nat} {xs ys : List Value} (h : W.ownsRow base e sz (.slice (some ⟨b, 0, none⟩) (n + 1) cap) (n + 1) xs) (hy : ys = xs.take (n * sz)) : W.ownsRow base e sz (.slice (some ⟨b, 0, none⟩) n cap) n ys := by
  rcases h.2 with ⟨e1, _⟩ | ⟨g, cap2, cur, e1, hb, hg, hn, hm, hs, ht⟩
  · cases e1
  · injection e1 with e1 e2 e3
    have hle : n * sz ≤ (n + 1) * sz := Nat.mul_le_mul_right _ (by omega)
    refine ⟨by rw [hy, List.length_take, h.1, Nat.min_eq_left hle], .inr ⟨g, cap2, cur, by rw [e1, e3], hb, hg, by omega, hm, hs, ?_⟩⟩
    rw [hy, ← ht, List.take_take, Nat.min_eq_left hle]
def VP9 (w0 : World) (h b n cap k : Nat) (y : Ent) (i : Nat) (v : Value) (w : World) : Prop :=
  match i with
  | 0 | 1 | 4 | 5 => v = .pointer (some ⟨h, 0, none⟩)
  | 2 | 6 => v = .pointer (some ⟨h, 1, none⟩)
  | 3 | 7 => v = .slice (some ⟨b, 0, none⟩) n cap
  | 8 => v = .int .i64 (n : Int)
  | 9 => v = .int .i64 (k : Int)
  | 10 => v = .pointer (some ⟨b, k * 59, none⟩)
  | 11 => v = .agg (enA y)
  | 12 => ∃ g, v = .pointer (some ⟨g, 0, none⟩) ∧ w.heap[g]? = some (.cells (enA zE) 64 (0, 0)) ∧ w0.heap.size ≤ g
  | _ => True
theorem VP9.on {w0 : World} {h b n cap k : Nat} {y : Ent} {j : Nat} {v : Value} {w w' : World} (H : VP9 w0 h b n cap k y j v w) (hs : w.grownBy w' none) : VP9 w0 h b n cap k y j v w' := by
  unfold VP9 at H ⊢
  split at H
  all_goals try exact H
  obtain ⟨g, e, hg, hl⟩ := H
  exact ⟨g, e, (hs.block g (room_lt hg) (by simp)).trans hg, hl⟩
theorem RV.drop {W : World} {h F b k cap : Nat} {L : List Ent} {R : Nat → Prop} (H : RV W h F L R (.slice (some ⟨b, 0, none⟩) (k + 1) cap)) (hl : L.length = k + 1) : RV (W.setCell ⟨h, 1, none⟩ (.slice (some ⟨b, 0, none⟩) k cap)) h F L.dropLast R (.slice (some ⟨b, 0, none⟩) k cap) := by
  have hb := (H.Rv b rfl).2
  have ho := H.own
  rw [hl] at ho
  refine ⟨by rw [heap_setCell_same' H.blk]; rfl, ?_, H.Rg, fun y hy => H.Rv y hy, fun y hy => H.ok y ((List.dropLast_sublist _).subset hy), H.few, by rw [List.length_dropLast]; have := H.len; omega⟩
  rw [List.length_dropLast, hl, Nat.add_sub_cancel]
  refine ownSet (own_shrink ho ?_) _ (fun e => hb (by injection e with e))
  rw [rowL_take H.ok.fits, List.dropLast_eq_take, hl, Nat.add_sub_cancel]
set_option maxRecDepth 100000 in
set_option maxHeartbeats 3200000 in
theorem rput_new {w : World} {h m : Nat} {X : List Ent} {R : Nat → Prop} (H0 : RA w h (m + 1) X R) (hR : ∀ k, R k → k < w.heap.size) (t c : Int) (bs : List Int) (d : Bool) (ht : i64 t) (hc : i64 c) (h56 : bs.length = 56) (hB : AllB bs) (hp : posL X t = none) (hl : X.length ≤ m + 1) (hm49 : m ≤ 49) :
    Calls Try.prog 17 #[.pointer (some ⟨h, 0, none⟩), .int .i64 t, .agg (blkA c bs), .bool d] w fun e w' => e = .returned (toldE (outM m X t)) ∧ RA w' h (m + 1) (putM m X ⟨t, c, bs⟩ d) (New R w w') ∧ Stp R w w' := by
  have hsa := size_alloc' w (.cells (blkA c bs) 32)
  have hb1 : Below w.heap.size w (w.alloc (.cells (blkA c bs) 32)) := (Below.refl _ _).alloc (Nat.le_refl _) _
  have hb2 : Below w.heap.size w ((w.alloc (.cells (blkA c bs) 32)).alloc (.cells (wrA zW) 36)) := hb1.alloc (by rw [hsa]; omega) _
  obtain ⟨v, H1⟩ := H0
  obtain ⟨A, cap, rfl, hc1, hc2, hA⟩ := H1.val
  have HSZ : Hid (((w.alloc (.cells (blkA c bs) 32)).alloc (.cells (wrA zW) 36)).heap.size = w.heap.size + 2) := by
    unfold Hid; rw [size_alloc', hsa]
  have H2 := Lib.hid (H1.below hb2)
  have HB2 := Lib.hid hb2
  have HM6 : Hid (((w.alloc (.cells (blkA c bs) 32)).alloc (.cells (wrA zW) 36)).heap[w.heap.size]? = some (.cells (blkA c bs) 32 (0, 0))) := heap_alloc_old' _ _ (heap_alloc_new w _)
  have HM8 : Hid (((w.alloc (.cells (blkA c bs) 32)).alloc (.cells (wrA zW) 36)).heap[w.heap.size + 1]? = some (.cells (wrA zW) 36 (0, 0))) := by
    unfold Hid; rw [← hsa]; exact heap_alloc_new _ _
  have HPL : Hid (placeI X t = -1) := by unfold Hid placeI; rw [hp]
  have HP := Lib.hid hp
  have HRL := Lib.hid hR
  have hbz := zW_len
  have HOKN : Hid (EntsOk (((⟨t, c, bs⟩ : Wr), d) :: X)) := fun y hy => by
    rcases List.mem_cons.1 hy with rfl | hy
    · exact ⟨ht, hc, h56, hB⟩
    · exact H1.ok y hy
  clear H1 hA hb1 hb2 hp hR hB
  obtain ⟨n, hn⟩ : ∃ n, X.length = n := ⟨_, rfl⟩
  rw [hn] at H2 hc1 hl
  have HN := Lib.hid hn
  clear hn
  generalize hBv : blkA c bs = B at *
  go_enter Try.func17, Try.ntmps17
  go_upto_region 1 with (first
    | (refine wpList_allocW rfl rfl ?_))
  try rw [hsa]
  clear hsa
  generalize ((w.alloc (.cells B 32)).alloc (.cells (wrA zW) 36)) = W1 at *
  subst hBv
  have HPC := Lib.hid (rplace_any H2.out t ht)
  rw [HPL.out] at HPC
  go_wp2_with fail
  refine HPC.out.mono ?_
  rintro e w' ⟨rfl, rfl⟩
  clear HPC HPL
  have hneg : ¬ (0 : Int) ≤ -1 := by omega
  go_upto_region 6 with fail
  have hJ0 : Below W1.heap.size W1 W1.drew := (Below.refl _ _).drew
  have HC : Hid (∀ W, Below W1.heap.size W1 W → W.cell? ⟨h, 1, none⟩ = some (.slice A n cap)) := fun W hb => (H2.out.below hb).c1
  have HBX : Hid (∀ W, Below W1.heap.size W1 W → W.heap[w.heap.size]? = some (.cells (blkA c bs) 32 (0, 0))) := fun W hb => kb hb HM6.out
  have HX : Hid (∀ W, Below W1.heap.size W1 W → W.ownsRow 0 64 59 (.slice A n cap) n (rowL enE X)) := fun W hb => by
    have := (H2.out.below hb).own
    rwa [HN.out] at this
  have HLX : Hid ((rowL enE X).length = n * 59) := by unfold Hid; rw [rowL_length H2.out.ok.fits, HN.out]
  have srefl : ∀ (i : Nat) (W : World), SP6 i W W := fun i W => Keeps.refl _ _ _ _
  refine wp_region_rgk (VP6 W1 h n cap A t c bs d X) (fun L W => Below W1.heap.size W1 W) SP6 (by kernel_rfl) (by kernel_rfl) (fun i j v' w' w'' hij _ hv hg => VP6.on (by omega) hij hv hg) hJ0 ?_
  clear hJ0
  simp only [RAll]
  refine ⟨?_, ?_, ?_, ?_, ?_, ?_, ?_, ?_, ?_, ?_, ?_, ?_, ?_, ?_⟩
  · refine RStepK.of rfl fun T W L hag hL hJ hLs hd => ?_   -- 0: 47 := Op.move (Operand.tmp 0)
    have e0 : T.getD 0 undef = _ := (agree_at hag 0 (by kernel_rfl)).trans rfl
    clear hag hd
    go_simp
    exact ⟨_, rfl, rfl⟩
  · refine RStepK.of rfl fun T W L hag hL hJ hLs hd => ?_   -- 1: 48 := Op.move (Operand.tmp 1)
    have e1 : T.getD 1 undef = _ := (agree_at hag 1 (by kernel_rfl)).trans rfl
    clear hag hd
    go_simp
    exact ⟨_, rfl, rfl⟩
  · refine RStepK.of rfl fun T W L hag hL hJ hLs hd => ?_   -- 2: 49 := Op.load 32 (Operand.tmp 6)
    have e6 : T.getD 6 undef = _ := (agree_at hag 6 (by kernel_rfl)).trans rfl
    have e6 : T.getD 6 undef = _ := (agree_at hag 6 (by kernel_rfl)).trans rfl
    clear hag hd
    exact wp_load_row 32 (.tmp 6) rfl w.heap.size e6 _ _ _ _ (HBX.out W hJ) Try.underlying32 rfl (by rw [blkA_size h56]; exact size24b) ⟨_, rfl, rfl, hJ, srefl _ _⟩
  · refine RStepK.of rfl fun T W L hag hL hJ hLs hd => ?_   -- 3: 50 := Op.move (Operand.tmp 3)
    have e3 : T.getD 3 undef = _ := (agree_at hag 3 (by kernel_rfl)).trans rfl
    clear hag hd
    go_simp
    exact ⟨_, rfl, rfl⟩
  · refine RStepK.of rfl fun T W L hag hL hJ hLs hd => ?_   -- 4: 51 := Op.build 64 #[(0, Operand.tmp 48), (1, Operand.tmp 49), (2, 
    have d48 : T.getD 48 undef = _ := hd ⟨1, .data⟩ (by simp) rfl _ rfl
    have d49 : T.getD 49 undef = _ := hd ⟨2, .data⟩ (by simp) rfl _ rfl
    have d50 : T.getD 50 undef = _ := hd ⟨3, .data⟩ (by simp) rfl _ rfl
    clear hag hd
    exact wp_buildE (.tmp 48) (.tmp 49) (.tmp 50) t c bs d h56 rfl d48 d49 d50 ⟨_, rfl, rfl, hJ, srefl _ _⟩
  · refine RStepK.of rfl fun T W L hag hL hJ hLs hd => ?_   -- 5: 52 := Op.buildSlice 42 1 #[(0, Operand.tmp 51)]
    have d51 : T.getD 51 undef = _ := hd ⟨4, .data⟩ (by simp) rfl _ rfl
    clear hag hd
    exact wp_oneE (.tmp 51) rfl _ h56 d51 ⟨_, rfl, ⟨_, rfl, own_oneE h56, hJ.size⟩, hJ.alloc hJ.size _, Keeps.none (World.grownBy_alloc W _ none)⟩
  · refine RStepK.of rfl fun T W L hag hL hJ hLs hd => ?_   -- 6: 53 := Op.move (Operand.tmp 0)
    have e0 : T.getD 0 undef = _ := (agree_at hag 0 (by kernel_rfl)).trans rfl
    clear hag hd
    go_simp
    exact ⟨_, rfl, rfl⟩
  · refine RStepK.of rfl fun T W L hag hL hJ hLs hd => ?_   -- 7: 54 := Op.nilCheck (Operand.tmp 53)
    have d53 : T.getD 53 undef = _ := hd ⟨6, .data⟩ (by simp) rfl _ rfl
    clear hag hd
    go_simp
    exact ⟨_, rfl, rfl⟩
  · refine RStepK.of rfl fun T W L hag hL hJ hLs hd => ?_   -- 8: 55 := Op.fieldAddr 44 (Operand.tmp 54) 1
    have d54 : T.getD 54 undef = _ := hd ⟨7, .data⟩ (by simp) rfl _ rfl
    clear hag hd
    go_simp
    exact ⟨_, rfl, rfl⟩
  · refine RStepK.of rfl fun T W L hag hL hJ hLs hd => ?_   -- 9: 56 := Op.load 42 (Operand.tmp 55)
    have d55 : T.getD 55 undef = _ := hd ⟨8, .data⟩ (by simp) rfl _ rfl
    have fct0 := HC.out W hJ
    clear hag hd
    go_simp
    exact ⟨_, rfl, rfl⟩
  · refine RStepK.of rfl fun T W L hag hL hJ hLs hd => ?_   -- 10: 57 := Op.call { callee := Callee.builtin Builtin.append, args := #
    have x52 := hd ⟨5, .data⟩ (by simp) rfl _ rfl
    have d56 : T.getD 56 undef = _ := hd ⟨9, .data⟩ (by simp) rfl _ rfl
    obtain ⟨g, e52, ho, hg⟩ := x52
    have e52 : T.getD 52 undef = .slice (some ⟨g, 0, none⟩) 1 1 := e52
    have ho : W.ownsRow 0 64 59 (T.getD 52 undef) 1 (rowL enE [((⟨t, c, bs⟩ : Wr), d)]) := ho
    clear hag hd
    rw [e52] at ho
    refine wp_app_E (.tmp 52) (.tmp 56) rfl (.slice (some ⟨g, 0, none⟩) 1 1) 1 (rowL enE [((⟨t, c, bs⟩ : Wr), d)]) e52 ho (.slice A n cap) n (rowL enE X) d56 (Src.own (HX.out W hJ)) HLX.out (rowL_one enE_one _) (by omega) ?_
    intro v' w' h1 h2 h3 h4
    rw [← rowL_append, List.singleton_append, show 1 + n = n + 1 by omega] at h1
    refine ⟨_, rfl, ⟨h1, fun y hy => ?_⟩, hJ.grown h2 hJ.size (fun y hy => by injection hy with hy; subst hy; exact hg), h4⟩
    rcases h3 with h3 | h3
    · rw [h3] at hy; injection hy with hy; subst hy; exact hg
    · rw [h3] at hy; injection hy with hy; subst hy; exact hJ.size
  · refine RStepK.of rfl fun T W L hag hL hJ hLs hd => ?_   -- 11: 58 := Op.nilCheck (Operand.tmp 47)
    have d47 : T.getD 47 undef = _ := hd ⟨0, .data⟩ (by simp) rfl _ rfl
    clear hag hd
    go_simp
    exact ⟨_, rfl, rfl⟩
  · refine RStepK.of rfl fun T W L hag hL hJ hLs hd => ?_   -- 12: 59 := Op.fieldAddr 44 (Operand.tmp 58) 1
    have d58 : T.getD 58 undef = _ := hd ⟨11, .data⟩ (by simp) rfl _ rfl
    clear hag hd
    go_simp
    exact ⟨_, rfl, rfl⟩
  · refine RLastK.of rfl fun T W L hag hLs hL hJ hd => ?_
    have d59 : T.getD 59 undef = _ := hd 12 _ (by simp) rfl
    have x57 : W.ownsRow 0 64 59 (T.getD 57 undef) (n + 1) (rowL enE (((⟨t, c, bs⟩ : Wr), d) :: X)) ∧ ∀ g, (T.getD 57 undef).ownBlock = some g → W1.heap.size ≤ g := hd 10 _ (by simp) rfl
    obtain ⟨f, hf, hT⟩ := agree_fn hag
    have h59 := (hf 59).trans d59
    have h57 := hf 57
    rw [← h57] at x57
    have HX57 := Lib.hid x57
    have HJ := Lib.hid hJ
    clear hag hd d59 x57 h57 hJ hf hLs hL
    rw [hT]
    clear hT
    simp only [List.pop_toArray, List.dropLast_cons_cons, List.dropLast_singleton, List.filterMap_cons, List.filterMap_nil, List.foldl_cons, List.foldl_nil, List.setIfInBounds_toArray, List.set_cons_succ, List.set_cons_zero, h59]
    obtain ⟨vn, hvn⟩ : ∃ vn, vn = f 57 := ⟨_, rfl⟩
    rw [← hvn] at HX57 ⊢
    clear hvn
    obtain ⟨bn, cn, rfl⟩ := own_is HX57.out.1 (by omega)
    have hbk := (H2.out.below HJ.out).blk
    have hlen : (((⟨t, c, bs⟩ : Wr), d) :: X).length = n + 1 := by rw [List.length_cons, HN.out]
    have hr := RV.next (w := W1) (R := R) hbk (by rw [hlen]; exact HX57.out.1) HX57.out.2 H2.out.Rg H2.out.glt HOKN.out H2.out.few (by rw [hlen]; omega)
    have HR6 : Hid (∀ q, RV ((W.setCell ⟨h, 1, none⟩ (.slice (some ⟨bn, 0, none⟩) (n + 1) cn)).drewN q) h (m + 1) (((⟨t, c, bs⟩ : Wr), d) :: X) (New R W1 (W.setCell ⟨h, 1, none⟩ (.slice (some ⟨bn, 0, none⟩) (n + 1) cn))) (.slice (some ⟨bn, 0, none⟩) (n + 1) cn)) := fun q => hr.drew q
    have HS6 : Hid (∀ q, Stp R W1 ((W.setCell ⟨h, 1, none⟩ (.slice (some ⟨bn, 0, none⟩) (n + 1) cn)).drewN q)) := fun q => (((Stp.refl R W1).ofBelow HJ.out).setCell (fun _ => H2.out.Rg) _).drew q
    have cw : W.cell? ⟨h, 1, none⟩ = some (.slice A n cap) := HC.out W HJ.out
    have cf : W.frozen? ⟨h, 1, none⟩ = false := blk_free hbk 1
    have hcn : n + 1 ≤ cn ∧ cn ≤ 9223372036854775807 := by
      obtain ⟨_, _, h1, h2, _⟩ := own_blk HX57.out.1
      exact ⟨h1, by simp only [maxLen] at h2; omega⟩
    clear hbk hlen hr HX57 HJ
    go_upto_region 7 with fail
    clear cw cf
    generalize W.setCell ⟨h, 1, none⟩ (.slice (some ⟨bn, 0, none⟩) (n + 1) cn) = W6 at *
    have q0 := fun q => (HR6.out q).c0
    have q1 := fun q => (HR6.out q).c1
    by_cases hle : n + 1 ≤ m + 1
    · have hle2 : decide (((n + 1 : Nat) : Int) ≤ ((m + 1 : Nat) : Int)) = true := decide_eq_true (by omega)
      go_quiet (fail)
      have HR7 := Lib.hid (HR6.out nq)
      have HS7 := Lib.hid (HS6.out nq)
      have HSZ6 : Hid (W6.heap.size = (W6.drewN nq).heap.size) := rfl
      clear q0 q1 HR6 HS6
      generalize W6.drewN nq = W7 at *
      have HM7 : Hid (W7.heap[w.heap.size + 1]? = some (.cells (wrA zW) 36 (0, 0))) := HS7.out.heap HM8.out (fun e => by have := HRL.out _ e; omega)
      have HNN : Hid (¬ New R W1 W6 (w.heap.size + 1)) := fun e => e.elim (fun e => by have := HRL.out _ e; omega) (fun e => by have := HSZ.out; omega)
      have HS8 : Hid (Stp R w W7) := ((Stp.refl R w).ofBelow HB2.out).trans HS7.out (fun _ _ h => h)
      have HPM : Hid (putM m X ⟨t, c, bs⟩ d = ((⟨t, c, bs⟩ : Wr), d) :: X) := by unfold Hid putM; rw [HP.out]; simp only; rw [List.take_of_length_le (by rw [List.length_cons, HN.out]; exact hle)]
      have HOM : Hid (outM m X t = zE) := by unfold Hid outM; rw [if_neg (by rw [HN.out]; omega)]
      go_wp2_with (first
        | (refine wpList_buildWZ rfl rfl ?_)
        | (refine wpList_storeW rfl (.tmp 8) (.tmp 70) rfl (w.heap.size + 1) rfl zW zW rfl hbz hbz HM7.out ?_))
      (try simp only [Exit.jump])
      refine bodyPost_ret (results_wr rfl _ _ (w.heap.size + 1) zW rfl hbz (setRow_heap _ _ _ _ _ _ HM7.out)) rfl ?_
      exact ⟨by rw [HOM.out]; rfl, by rw [HPM.out]; exact (RA.row ⟨_, HR7.out⟩ _ HNN.out).mono (fun _ hk => New.wider HB2.out.size (by rw [size_setRow, HSZ6.out]; exact Nat.le_refl _) hk), HS8.out.row (by omega) _⟩
    · have hle2 : decide (((n + 1 : Nat) : Int) ≤ ((m + 1 : Nat) : Int)) = false := decide_eq_false (by omega)
      go_quiet (fail)
      have HR7 := Lib.hid (HR6.out nq)
      have HS7 := Lib.hid (HS6.out nq)
      have HSZ6 : Hid (W6.heap.size = (W6.drewN nq).heap.size) := rfl
      clear q0 q1 HR6 HS6
      generalize W6.drewN nq = W7 at *
      go_upto_region 9 with fail
      obtain rfl : n = m + 1 := by omega
      obtain ⟨y, hy⟩ : ∃ y, (((⟨t, c, bs⟩ : Wr), d) :: X)[m + 1]? = some y := ⟨_, List.getElem?_eq_getElem (by rw [List.length_cons, HN.out]; omega)⟩
      have hy56 := (HOKN.out.at hy).len
      have HY := Lib.hid hy
      have HM7 : Hid (W7.heap[w.heap.size + 1]? = some (.cells (wrA zW) 36 (0, 0))) := HS7.out.heap HM8.out (fun e => by have := HRL.out _ e; omega)
      have HC7 : Hid (∀ W, Below W7.heap.size W7 W → W.cell? ⟨h, 1, none⟩ = some (.slice (some ⟨bn, 0, none⟩) (m + 1 + 1) cn)) := fun W hb => (HR7.out.below hb).c1
      have HRG : Hid (∀ W, Below W7.heap.size W7 W → W.rangeAt bn ((m + 1) * 59) (enE y)) := fun W hb => (HR7.out.below hb).rangeE hy
      have hJ0 : Below W7.heap.size W7 W7.drew := (Below.refl _ _).drew
      clear hy
      have HC := HC7
      have srefl9 : ∀ (W : World), W.grownBy W none := fun W => World.grownBy.refl W _
      have srefl : ∀ (i : Nat) (W : World), W.grownBy W none := fun _ W => World.grownBy.refl W _
      have wn : IntKind.i64.wrap (((m + 1 + 1 : Nat) : Int) - 1) = ((m + 1 : Nat) : Int) := by rw [IntWalk.i64_in _ (by omega)]; omega
      have b1 : (0 : Int) ≤ ((m + 1 : Nat) : Int) := by omega
      have b2 : ((m + 1 : Nat) : Int) < ((m + 1 + 1 : Nat) : Int) := by omega
      obtain ⟨n2, hn2⟩ : ∃ n2, n2 = m + 1 + 1 := ⟨_, rfl⟩
      obtain ⟨k, hk⟩ : ∃ k, k = m + 1 := ⟨_, rfl⟩
      rw [← hk] at hn2
      rw [← hk, ← hn2] at wn b2
      rw [← hk] at b1
      rw [← hk, ← hn2] at HC
      rw [← hk] at HRG
      have HK := Lib.hid hk
      have HN2 := Lib.hid hn2
      clear hk hn2
      refine wp_region_rgk (VP9 W7 h bn n2 cn k y) (fun L W => Below W7.heap.size W7 W) (fun _ w w' => w.grownBy w' none) (by kernel_rfl) (by kernel_rfl) (fun i j v' w' w'' _ _ hv hg => VP9.on hv hg) hJ0 ?_
      clear hJ0
      simp only [RAll]
      refine ⟨?_, ?_, ?_, ?_, ?_, ?_, ?_, ?_, ?_, ?_, ?_, ?_, ?_, ?_⟩
      · refine RStepK.of rfl fun T W L hag hL hJ hLs hd => ?_   -- 0: 71 := Op.move (Operand.tmp 0)
        have e0 : T.getD 0 undef = _ := (agree_at hag 0 (by kernel_rfl)).trans rfl
        clear hag hd
        go_simp
        exact ⟨_, rfl, rfl⟩
      · refine RStepK.of rfl fun T W L hag hL hJ hLs hd => ?_   -- 1: 72 := Op.nilCheck (Operand.tmp 71)
        have d71 : T.getD 71 undef = _ := hd ⟨0, .data⟩ (by simp) rfl _ rfl
        clear hag hd
        go_simp
        exact ⟨_, rfl, rfl⟩
      · refine RStepK.of rfl fun T W L hag hL hJ hLs hd => ?_   -- 2: 73 := Op.fieldAddr 44 (Operand.tmp 72) 1
        have d72 : T.getD 72 undef = _ := hd ⟨1, .data⟩ (by simp) rfl _ rfl
        clear hag hd
        go_simp
        exact ⟨_, rfl, rfl⟩
      · refine RStepK.of rfl fun T W L hag hL hJ hLs hd => ?_   -- 3: 74 := Op.load 42 (Operand.tmp 73)
        have d73 : T.getD 73 undef = _ := hd ⟨2, .data⟩ (by simp) rfl _ rfl
        have fct0 := HC.out W hJ
        clear hag hd
        go_simp
        exact ⟨_, rfl, rfl⟩
      · refine RStepK.of rfl fun T W L hag hL hJ hLs hd => ?_   -- 4: 75 := Op.move (Operand.tmp 0)
        have e0 : T.getD 0 undef = _ := (agree_at hag 0 (by kernel_rfl)).trans rfl
        clear hag hd
        go_simp
        exact ⟨_, rfl, rfl⟩
      · refine RStepK.of rfl fun T W L hag hL hJ hLs hd => ?_   -- 5: 76 := Op.nilCheck (Operand.tmp 75)
        have d75 : T.getD 75 undef = _ := hd ⟨4, .data⟩ (by simp) rfl _ rfl
        clear hag hd
        go_simp
        exact ⟨_, rfl, rfl⟩
      · refine RStepK.of rfl fun T W L hag hL hJ hLs hd => ?_   -- 6: 77 := Op.fieldAddr 44 (Operand.tmp 76) 1
        have d76 : T.getD 76 undef = _ := hd ⟨5, .data⟩ (by simp) rfl _ rfl
        clear hag hd
        go_simp
        exact ⟨_, rfl, rfl⟩
      · refine RStepK.of rfl fun T W L hag hL hJ hLs hd => ?_   -- 7: 78 := Op.load 42 (Operand.tmp 77)
        have d77 : T.getD 77 undef = _ := hd ⟨6, .data⟩ (by simp) rfl _ rfl
        have fct0 := HC.out W hJ
        clear hag hd
        go_simp
        exact ⟨_, rfl, rfl⟩
      · refine RStepK.of rfl fun T W L hag hL hJ hLs hd => ?_   -- 8: 79 := Op.call { callee := Callee.builtin Builtin.len, args := #[Op
        have d78 : T.getD 78 undef = _ := hd ⟨7, .data⟩ (by simp) rfl _ rfl
        clear hag hd
        go_simp
        exact ⟨_, rfl, rfl⟩
      · refine RStepK.of rfl fun T W L hag hL hJ hLs hd => ?_   -- 9: 80 := Op.binOp BinOp.sub 3 (Operand.tmp 79) (Operand.const (Value.
        have d79 : T.getD 79 undef = _ := hd ⟨8, .data⟩ (by simp) rfl _ rfl
        clear hag hd
        go_simp
        exact ⟨_, rfl, rfl⟩
      · refine RStepK.of rfl fun T W L hag hL hJ hLs hd => ?_   -- 10: 81 := Op.indexAddr 42 (Operand.tmp 74) (Operand.tmp 80)
        have d74 : T.getD 74 undef = _ := hd ⟨3, .data⟩ (by simp) rfl _ rfl
        have d80 : T.getD 80 undef = _ := hd ⟨9, .data⟩ (by simp) rfl _ rfl
        clear hag hd
        go_simp
        exact ⟨_, rfl, rfl⟩
      · refine RStepK.of rfl fun T W L hag hL hJ hLs hd => ?_   -- 11: 82 := Op.load 64 (Operand.tmp 81)
        have d81 : T.getD 81 undef = _ := hd ⟨10, .data⟩ (by simp) rfl _ rfl
        clear hag hd
        exact wp_load_mid 64 (.tmp 81) rfl bn (k * 59) d81 (enE y) _ (HRG.out W hJ) Try.underlying64 rfl (by rw [enE_length hy56]; exact sizeE) ⟨_, rfl, rfl, hJ, World.grownBy.refl W _⟩
      · refine RStepK.of rfl fun T W L hag hL hJ hLs hd => ?_   -- 12: 11 := Op.alloc 64
        clear hag hd
        obtain ⟨i0, hi, hz0, hz1, hz2⟩ := info_parts infoE
        exact wp_alloc_of 64 rfl i0 _ hi hz0 ⟨_, rfl, ⟨_, rfl, heap_alloc_new W _, hJ.size⟩, hJ.alloc hJ.size _, World.grownBy_alloc W _ none⟩
      · refine RLastK.of rfl fun T W L hag hLs hL hJ hd => ?_
        have x11 : ∃ g, T.getD 11 undef = .pointer (some ⟨g, 0, none⟩) ∧ W.heap[g]? = some (.cells (enA zE) 64 (0, 0)) ∧ W7.heap.size ≤ g := hd 12 _ (by simp) rfl
        obtain ⟨g11, d11, hg11, hge⟩ := x11
        have d82 : T.getD 82 undef = _ := hd 11 _ (by simp) rfl
        obtain ⟨f, hf, hT⟩ := agree_fn hag
        have h82 := (hf 82).trans d82
        have h11 := (hf 11).trans d11
        have HJ := Lib.hid hJ
        have HG11 := Lib.hid hg11
        have HGE := Lib.hid hge
        clear hag hd d82 d11 hJ hf hLs hL hg11 hge
        rw [hT]
        clear hT
        simp only [List.pop_toArray, List.dropLast_cons_cons, List.dropLast_singleton, List.filterMap_cons, List.filterMap_nil, List.foldl_cons, List.foldl_nil, List.setIfInBounds_toArray, List.set_cons_succ, List.set_cons_zero, h82, h11]
        clear h82 h11
        have hz : zE.1.bs.length = 56 := zW_len
        have HB8 : Hid (Below W7.heap.size W7 (W.setRow g11 (enA y))) := below_setRow HJ.out HGE.out _
        have HY8 : Hid ((W.setRow g11 (enA y)).heap[g11]? = some (.cells (enA y) 64 (0, 0))) := setRow_heap _ _ _ _ _ _ HG11.out
        refine wp_store_row 64 (.tmp 11) (.tmp 82) rfl g11 _ rfl rfl _ _ HG11.out (by rw [enA_size hy56]; exact sizeE) (by rw [enA_size hy56, enA_size hz]) (enA_one _) ?_
        clear HG11
        generalize W.setRow g11 (enA y) = W8 at *
        (try simp only [Exit.then])
        go_upto_region 10 with fail
        have hr8 : RV W8 h (m + 1) (((⟨t, c, bs⟩ : Wr), d) :: X) (New R W1 W6) (.slice (some ⟨bn, 0, none⟩) n2 cn) := by
          rw [HN2.out, HK.out]; exact HR7.out.below HB8.out
        have hr9 : RV W8.drew h (m + 1) (((⟨t, c, bs⟩ : Wr), d) :: X) (New R W1 W6) (.slice (some ⟨bn, 0, none⟩) n2 cn) := hr8.drew 1
        have hlk : (((⟨t, c, bs⟩ : Wr), d) :: X).length = k + 1 := by rw [List.length_cons, HN.out, HK.out]
        have hnk : n2 = k + 1 := HN2.out
        have hs9 : Stp R W1 W8.drew := (HS7.out.ofBelow HB8.out).drew 1
        have hy9 : W8.drew.heap[g11]? = some (.cells (enA y) 64 (0, 0)) := HY8.out
        have hgh : h ≠ g11 := fun e => by have := HR7.out.glt; have := HGE.out; omega
        have hg11 : W7.heap.size ≤ g11 := HGE.out
        have hm9 : W8.drew.heap[w.heap.size + 1]? = some (.cells (wrA zW) 36 (0, 0)) := (show W8.heap[w.heap.size + 1]? = _ from kb HB8.out HM7.out)
        have HR9 : Hid (RV (W8.drew.setCell ⟨h, 1, none⟩ (.slice (some ⟨bn, 0, none⟩) k cn)) h (m + 1) (((⟨t, c, bs⟩ : Wr), d) :: X).dropLast (New R W1 W6) (.slice (some ⟨bn, 0, none⟩) k cn)) := by
          rw [hnk] at hr9
          exact hr9.drop hlk
        have HS9 : Hid (Stp R W1 (W8.drew.setCell ⟨h, 1, none⟩ (.slice (some ⟨bn, 0, none⟩) k cn))) := hs9.setCell (fun _ => H2.out.Rg) _
        have HY9 : Hid ((W8.drew.setCell ⟨h, 1, none⟩ (.slice (some ⟨bn, 0, none⟩) k cn)).heap[g11]? = some (.cells (enA y) 64 (0, 0))) := by
          unfold Hid; rw [heap_setCell_other _ _ _ _ (fun e => hgh e.symm)]; exact hy9
        have HM9 : Hid ((W8.drew.setCell ⟨h, 1, none⟩ (.slice (some ⟨bn, 0, none⟩) k cn)).heap[w.heap.size + 1]? = some (.cells (wrA zW) 36 (0, 0))) := by
          unfold Hid; rw [heap_setCell_other _ _ _ _ (fun e => by have e' : w.heap.size + 1 = h := e; have := HRL.out h H2.out.Rg; omega)]; exact hm9
        have HSZ9 : Hid (W6.heap.size ≤ (W8.drew.setCell ⟨h, 1, none⟩ (.slice (some ⟨bn, 0, none⟩) k cn)).heap.size) := by
          unfold Hid; rw [HSZ6.out]
          have h1 := HB8.out.size
          have h2 : (W8.drew.setCell ⟨h, 1, none⟩ (.slice (some ⟨bn, 0, none⟩) k cn)).heap.size = W8.heap.size := by show (W8.heap.modify _ _).size = _; simp
          omega
        have c8 := hr8.c1
        have c9 := hr9.c1
        have f9 : W8.drew.frozen? ⟨h, 1, none⟩ = false := hr9.free 1
        have k1 : (k : Int) ≤ cn := by have := HK.out; omega
        have k2 : k ≤ cn := by have := HK.out; omega
        have k0 : (0 : Int) ≤ k := by omega
        have kw : IntKind.i64.wrap (k : Int) = (k : Int) := by have := HK.out; exact IntWalk.i64_in _ (by omega)
        clear hr8 hr9 hs9 hy9 hm9 hlk hgh HB8 HY8 hg11 HJ
        go_still_tail 12, (by kernel_rfl)
        change wpList _ _ _ _ _ W8.drew
        go_upto_region 11 with fail
        rw [show (W8.setCell ⟨h, 1, none⟩ (.slice (some ⟨bn, 0, none⟩) k cn)).drew = W8.drew.setCell ⟨h, 1, none⟩ (.slice (some ⟨bn, 0, none⟩) k cn) from rfl]
        clear c8 c9 f9
        generalize W8.drew.setCell ⟨h, 1, none⟩ (.slice (some ⟨bn, 0, none⟩) k cn) = W9 at *
        have HPM : Hid (putM m X ⟨t, c, bs⟩ d = (((⟨t, c, bs⟩ : Wr), d) :: X).dropLast) := by
          unfold Hid putM; rw [HP.out]; simp only
          rw [List.dropLast_eq_take, List.length_cons, HN.out]; rfl
        have HOM : Hid (outM m X t = y) := by
          unfold Hid outM
          rw [if_pos ⟨HP.out, by rw [HN.out]; exact Nat.le_refl _⟩]
          have hy := HY.out
          rw [List.getElem?_cons_succ] at hy
          rw [List.getLastD_eq_getLast?, List.getLast?_eq_getElem?, HN.out, Nat.add_sub_cancel, hy]; rfl
        have HS10 : Hid (Stp R w W9) := ((Stp.refl R w).ofBelow HB2.out).trans HS9.out (fun _ _ h => h)
        have HNN : Hid (¬ New R W1 W6 (w.heap.size + 1)) := fun e => e.elim (fun e => by have := HRL.out _ e; omega) (fun e => by have := HSZ.out; omega)
        have e0 : W9.cell? ⟨g11, 0, none⟩ = some (.int .i64 y.1.t) := by rw [blk_cell HY9.out]; rfl
        have e58 : W9.cell? ⟨g11, 58, none⟩ = some (.bool y.2) := by rw [blk_cell HY9.out]; unfold enA; simp [enE_d hy56]
        have HRB : Hid (W9.rangeAt g11 1 (blkL y.1.k y.1.bs)) := fun j u hj => by
          have hlt := (List.getElem?_eq_some_iff.1 hj).1
          rw [blkL_length' hy56] at hlt
          have := range_en HY9.out (1 + j) u (by
            rw [← enE_b hy56, List.getElem?_take, if_pos hlt, List.getElem?_drop] at hj; exact hj)
          rwa [Nat.zero_add] at this
        cases hyd : y.2
        · rw [hyd] at e58
          go_wp2_with (first
            | (refine wpList_buildWZ rfl rfl ?_)
            | (refine wpList_storeW rfl (.tmp 8) (.tmp 100) rfl (w.heap.size + 1) rfl zW zW rfl hbz hbz HM9.out ?_))
          (try simp only [Exit.jump])
          refine bodyPost_ret (results_wr rfl _ _ (w.heap.size + 1) zW rfl hbz (setRow_heap _ _ _ _ _ _ HM9.out)) rfl ?_
          exact ⟨by rw [HOM.out]; unfold toldE; rw [hyd]; rfl, by rw [HPM.out]; exact (RA.row ⟨_, HR9.out⟩ _ HNN.out).mono (fun _ hk => New.wider HB2.out.size (by rw [size_setRow]; exact HSZ9.out) hk), HS10.out.row (by omega) _⟩
        · rw [hyd] at e58
          go_wp2_with (first
            | (refine wpList_loadBm rfl (.tmp 103) rfl g11 1 rfl y.1.k y.1.bs hy56 HRB.out ?_)
            | (refine wpList_buildWb rfl (.tmp 102) (.tmp 104) y.1.t y.1.k y.1.bs hy56 rfl rfl rfl ?_)
            | (refine wpList_storeW rfl (.tmp 8) (.tmp 105) rfl (w.heap.size + 1) rfl ⟨y.1.t, y.1.k, y.1.bs⟩ zW rfl hy56 hbz HM9.out ?_))
          (try simp only [Exit.jump])
          refine bodyPost_ret (results_wr rfl _ _ (w.heap.size + 1) ⟨y.1.t, y.1.k, y.1.bs⟩ rfl hy56 (setRow_heap _ _ _ _ _ _ HM9.out)) rfl ?_
          exact ⟨by rw [HOM.out]; unfold toldE; rw [hyd]; rfl, by rw [HPM.out]; exact (RA.row ⟨_, HR9.out⟩ _ HNN.out).mono (fun _ hk => New.wider HB2.out.size (by rw [size_setRow]; exact HSZ9.out) hk), HS10.out.row (by omega) _⟩
end Go.Proofs.Ytbcnjilhibkcnaa
