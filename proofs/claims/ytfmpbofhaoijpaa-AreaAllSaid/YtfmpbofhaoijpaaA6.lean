/- The law AreaAll's walk. -/
import Derived.Test.YtfmpbofhaoijpaaA5
import Derived.Deep.LoopGhost
namespace Go.Proofs.Ytfmpbofhaoijpaa
open Go.ChangeShapes Go.WideShapes Go.ChangeAt Go.RowKit
set_option linter.unusedVariables false
theorem infoB : (Try.prog.info? 4).map (fun i => (i.zero, i.size, i.bytes)) = some (some (.bool false), 1, 1) := by kernel_rfl
theorem Later.keepA {W : World} (g : Later W) {a : Addr} {v : Value} (h : W.cell? a = some v) : g.w.cell? a = some v := by
  rw [g.below.cell (World.block_lt_of_cell? W _ h)]; exact h
theorem sizeOf_sh {cs : List Sh} (h : mayConfV cs = true) {s : Sh} (hs : s ∈ cs) (w : World) :
    Calls Try.prog 9 #[s.agg] w fun e w' => e = .returned (.int .i64 (szV s)) ∧ Below w.heap.size w w' := by
  obtain ⟨b, g, hb, hg, h1, h2, h3, h4⟩ := may_bg h hs
  have H := sizeOf_any s.l s.c b g s.f (by omega) (by omega) w
  have e : s.agg = shQ s.l s.c b g s.f := by unfold Sh.agg shQ; rw [hb, hg]
  rw [e]
  refine H.mono ?_
  rintro e w' ⟨rfl, hB⟩
  exact ⟨ret_int (by unfold szV; rw [hb, hg]; omega), hB⟩
/-- An append behind a guard that says yes. -/
theorem wpList_append_want {P : Program} {w : World} {ops : Array Oper} {rest : List Oper} {o : Oper} {a : Act} {Q : Exit → Act → World → Prop} (hw : Region.wanted o (yielded ops a.tmps) = true) (s x : Operand) (t : TypeId)
    (ho : o.op = .call { callee := .builtin .append, args := #[s, x], argTypes := #[t, t] })
    (base : Nat) (e : TypeId) (i : TypeInfo) (z : Value) (size bytes : Nat) (ht : P.underlying t = some (.slice e)) (hi : P.info? e = some i) (hz : i.zero = some z)
    (hsize : i.size = size) (hby : i.bytes = bytes) (hzs : z.cells.size = size) (hsz : 0 < size)
    (v : Value) (n : Nat) (xs : List Value) (hs : a.eval s = v) (hown : w.ownsRow base e size v n xs)
    (ad : Addr) (m c : Nat) (news : List Value) (hx : a.eval x = .slice (some ad) m c) (hl : news.length = m * size) (hnews : ∀ j u, news[j]? = some u → w.cell? (ad.add j) = some u) (h1 : ∀ u ∈ news, u.oneCell' = true)
    (h63 : n + m ≤ maxLen) (hbytes : (n + m) * bytes ≤ 140737488355328) (hbase : base ≤ w.heap.size)
    (h : ∀ v' w', w'.ownsRow base e size v' (n + m) (xs ++ news) → w.grownBy w' v.ownBlock → wpList P ops Q rest (a.put o.dst v') w') :
    wpList P ops Q (o :: rest) a w := by
  refine BigFrame.wpList_want hw fun K hK => ?_
  obtain ⟨v', w', hr, h2, h3, h4, h5⟩ := run_append_own_at (P := P) w base t o.type e i z size bytes ht hi hz hsize hby hzs hsz v n xs hown ad m c news hl hnews h1 h63 hbytes hbase
  unfold Oper.wp execOp
  simp only [ho, resolve, invoke, builtin, Sem.run_bind, Sem.run_pure, Result.andThen_ok, List.map_toArray, List.map_cons, List.map_nil, hs, hx, hr]
  exact hK _ _ (h v' w' h2 h3)
set_option maxRecDepth 100000 in
set_option maxHeartbeats 6400000 in
theorem area_walk (A : Option Addr) (bs : List Int) (c : Nat) (x1 : Int) (w : World) (hl : bs.length ≤ 60) (hc : bs.length ≤ c) (hc2 : c ≤ 9223372036854775807) (hB : AllB bs) (hy : Byt w A bs) (hx : 0 ≤ x1 ∧ x1 ≤ 4294967295) :
    Calls Try.prog 3 #[.slice A bs.length c, .int .u32 x1] w fun e w' => e = .returned (.bool true) ∧ Below w.heap.size w w' := by
  have HC : Hid (∀ pb W, PickAt W pb A bs c 0 → _) := fun pb W h => config_any pb A bs c 0 W h hl hB
  have HY := Lib.hid hy
  have HX := Lib.hid hx
  have FM := Lib.hid (fun W (h : Byt W A bs) => made_any A bs c W hl hc h)
  clear hy hB hx
  have q0 : decide (60 < (bs.length : Int)) = false := decide_eq_false (by omega)
  go_enter Try.func3, Try.ntmps3
  go_wp2_with fail
  refine (begun5_any _).mono ?_; rintro e W0 ⟨rfl, hb0⟩
  have HB0 := Lib.hid hb0
  clear hb0
  go_wp2_with fail
  refine (FM.out W0 (HY.out.keep HB0.out)).mono ?_
  rintro e W1 ⟨pb, rfl, hp, hpl, hb1⟩
  have HPK := Lib.hid hp
  have HB1 := Lib.hid (keepB HB0.out hb1)
  have HPL := Lib.hid (Nat.le_trans HB0.out.size hpl)
  clear hp hb1 hpl
  go_wp2_with fail
  refine (HC.out pb W1 HPK.out).mono ?_
  rintro e W2 ⟨v, cs, rfl, hm, hown, hg⟩
  have HB2 := Lib.hid (belowG HB1.out hg HPL.out HB1.out.size)
  have HOWN := Lib.hid hown
  have HW12 := Lib.hid hg.size
  obtain ⟨Ac, dc, rfl, hd, hd2, hconf⟩ := conf_own hown
  have HCF := Lib.hid hconf
  have HM := Lib.hid hm
  have hlen := may_len hm
  have FS := Lib.hid (sizes_yes Ac cs dc W2 hd hd2 hconf hm)
  clear hown hconf hg hm HC FM HPK HPL HB0 HY
  generalize hcn : cs.length = cn at *
  have HCN := Lib.hid hcn
  clear hcn
  go_wp2_with fail
  refine FS.out.mono ?_
  rintro e W3 ⟨g, C, rfl, hgl, hblk, hC, hb3⟩
  have HC3 := Lib.hid hC
  have HS3 := Lib.hid hblk
  have HW3 := Lib.hid hb3
  have HGL := Lib.hid hgl
  clear hgl hblk hC hb3 FS
  have hne0 : ((cn : Int) != cn) = false := by simp
  go_wp2_with fail
  go_loopw [7] (fun i7 wr => ∃ i : Nat, i7 = .int .i64 i ∧ i ≤ cn ∧ Hid (Below W3.heap.size W3 wr)) (fun i _ => cn - (intOf i).toNat)
  case atStart => exact ⟨0, rfl, Nat.zero_le _, Below.refl _ _⟩
  case round =>
    obtain ⟨w3, rfl⟩ : ∃ w3, w3 = wr := ⟨wr, rfl⟩
    obtain ⟨i, rfl, hi, HW⟩ := hrel
    by_cases hin : i < cn
    · obtain ⟨aa, x, e1, hsx, hsa⟩ := (((HCF.out.keep HW3.out).keep HW.out)).at_ (k := i) (by rw [HCN.out]; exact hin)
      subst e1
      have hs := List.mem_of_getElem? hsx.out
      obtain ⟨b, gg, hb, hgg, hb1, hb2, hg1, hg2⟩ := may_bg HM.out hs
      have HSZ := Lib.hid (size_sh HM.out hs)
      have HSO := Lib.hid (sizeOf_sh HM.out hs)
      obtain ⟨xl, xc, xb, xg, xf⟩ := x
      dsimp only at hb hgg
      subst hb hgg
      have ez : szV ⟨xl, xc, b, gg, xf⟩ = ((2 + gg + b : Nat) : Int) := by unfold szV; dsimp only; omega
      rw [ez] at HSZ HSO
      have g0 := hsa.c0
      have g1 := hsa.c1
      have g2 := hsa.c2
      have g3 := hsa.c3
      have g4 := hsa.c4
      have hci : C[i]? = some (.int .i64 ((2 + gg + b : Nat) : Int)) := by rw [← Array.getElem?_toList, HC3.out]; unfold szL; rw [List.getElem?_map, hsx.out, Option.map_some, ez]
      have hblk : w3.heap[g]? = some (.cells C 3 (0, 0)) := (HW.out.block _ (room_lt HS3.out)).trans HS3.out
      have q1 : w3.cell? ⟨g, i, none⟩ = some (.int .i64 ((2 + gg + b : Nat) : Int)) := (blk_cell hblk i).trans hci
      have FL := Lib.hid (fun (k : Int) (w : World) (h : -9223372036854775808 ≤ k ∧ k ≤ 100000) => Log_any xl xc b gg xf k (by omega) h w)
      have FH := Lib.hid (fun (k : Int) (w : World) (h : -9223372036854775808 ≤ k ∧ k ≤ 100000) => Home_any xl xc b gg xf k (by omega) (by omega) h w)
      unfold Sh.agg at HSZ HSO
      unfold shQ at FL FH
      dsimp only at g0 g1 g2 g3 g4 HSZ HSO
      generalize hmm : 2 + gg + b = m at *
      have HMM := Lib.hid hmm
      clear hblk hci hsa hs ez hmm
      go_upto_region 13 with fail
      obtain ⟨W, hW⟩ : ∃ W, W = w3.alloc (Obj.cells #[.int .i64 xl, .int .i64 xc, .int .i64 b, .int .i64 gg, .int .i64 xf] 35) := ⟨_, rfl⟩
      rw [← hW]
      have z0 : W.cell? ⟨w3.heap.size, 0, none⟩ = some (.int .i64 xl) := by rw [hW]; simp [go_sem]
      have z1 : W.cell? ⟨w3.heap.size, 1, none⟩ = some (.int .i64 xc) := by rw [hW]; simp [go_sem]
      have z2 : W.cell? ⟨w3.heap.size, 2, none⟩ = some (.int .i64 b) := by rw [hW]; simp [go_sem]
      have z3 : W.cell? ⟨w3.heap.size, 3, none⟩ = some (.int .i64 gg) := by rw [hW]; simp [go_sem]
      have z4 : W.cell? ⟨w3.heap.size, 4, none⟩ = some (.int .i64 xf) := by rw [hW]; simp [go_sem]
      have q2 : W.cell? ⟨g, i, none⟩ = some (.int .i64 (m : Int)) := by rw [hW]; exact keepA q1 _
      have HWW : Hid (Below W3.heap.size W3 W) := by rw [hW]; exact HW.out.alloc HW.out.size _
      clear hW g0 g1 g2 g3 g4 q1
      generalize w3.heap.size = r8 at z0 z1 z2 z3 z4 ⊢
      have k0 : ∀ g : Later W, g.w.cell? _ = _ := fun g => g.keep z0
      have k1 : ∀ g : Later W, g.w.cell? _ = _ := fun g => g.keep z1
      have k2 : ∀ g : Later W, g.w.cell? _ = _ := fun g => g.keep z2
      have k3 : ∀ g : Later W, g.w.cell? _ = _ := fun g => g.keep z3
      have k4 : ∀ g : Later W, g.w.cell? _ = _ := fun g => g.keep z4
      have k5 : ∀ g : Later W, g.w.cell? _ = _ := fun g => g.keep q2
      have hie : (i : Int) < cn := by omega
      have hnn : ((m : Int) != m) = false := by simp
      clear z0 z1 z2 z3 z4 q2
      obtain ⟨i0, hi0, hz0, hz1, hz2⟩ := info_parts infoB
      have hmb : m ≤ 302 := by have := HMM.out; omega
      have hmk := fun w : World => run_make (P := Try.prog) w 37 4 i0 _ Try.underlying37 hi0 hz0 .i64 .i64 (m : Int) (m : Int) (by omega) (by omega) (by rw [hz2]; omega) (by omega)
      generalize hC : madeCells (Value.bool false).cells ((m : Int).toNat * i0.size) = C0 at hmk
      have HC0 : Hid (TabR C0 m (fun _ => false)) := by
        rw [← hC, show (m : Int).toNat = m by omega, hz1]
        refine ⟨by rw [size_madeCells]; simp, fun j hj => ?_⟩
        rw [← Array.getElem?_toList, show (Value.bool false).cells = #[.bool false] from rfl, toList_madeCells_one, Nat.mul_one, List.getElem?_replicate, if_pos hj]
      rw [show (m : Int).toNat = m by omega] at hmk
      clear hC hi0 hz0 hz1 hz2
      refine wp_region_later (by kernel_rfl) (by kernel_rfl) ?_
      repeat (first | go_big_quiet_step ((first | (go_at_call 9; exact quiet_later (HSO.out _)) | (go_at_call 10; exact quiet_later (HSZ.out _)))) | (refine BigFrame.wpQuiet_skip (by rfl) ?_; simp only [Act.put, List.setIfInBounds_toArray, List.set_cons_zero, List.set_cons_succ]))
      refine wpQuiet_nil ?_
      intro _ hw'
      obtain ⟨nq, hw''⟩ := hw'
      subst hw''
      have HV : Hid (Below W3.heap.size W3 (Later.w nq)) := HWW.out.trans (nq.below.mono HWW.out.size)
      have z1 : nq.w.cell? ⟨r8, 1, none⟩ = some (.int .i64 xc) := k1 nq
      have z0 : nq.w.cell? ⟨r8, 0, none⟩ = some (.int .i64 xl) := k0 nq
      have z2 : nq.w.cell? ⟨r8, 2, none⟩ = some (.int .i64 b) := k2 nq
      have z3 : nq.w.cell? ⟨r8, 3, none⟩ = some (.int .i64 gg) := k3 nq
      have z4 : nq.w.cell? ⟨r8, 4, none⟩ = some (.int .i64 xf) := k4 nq
      have z5 : nq.w.cell? ⟨g, i, none⟩ = some (.int .i64 (m : Int)) := k5 nq
      clear k0 k1 k2 k3 k4 k5 HWW
      generalize Later.w nq = V at *
      clear nq
      have hm2 : 2 ≤ m := by have := HMM.out; omega
      have hm2i : (1 : Int) < (m : Int) := by omega
      have hm2j : (0 : Int) < (m : Int) := by omega
      go_upto_region 16 with fail
      have hblk0 : (V.alloc (Obj.cells C0 4)).heap[V.heap.size]? = some (.cells C0 4 (0, 0)) := heap_alloc_new V _
      have hbel0 : Below V.heap.size V (V.alloc (Obj.cells C0 4)) := (Below.refl _ _).alloc (Nat.le_refl _) _
      have hr8 : r8 < V.heap.size := World.block_lt_of_cell? V _ z0
      have zz0 := z0
      have zz1 := z1
      have zz2 := z2
      have zz3 := z3
      have zz4 := z4
      replace z0 := keepC hbel0 z0
      replace z1 := keepC hbel0 z1
      replace z2 := keepC hbel0 z2
      replace z3 := keepC hbel0 z3
      replace z4 := keepC hbel0 z4
      generalize V.alloc (Obj.cells C0 4) = W5 at *
      clear hmk
      have t0 := (blk_cell hblk0 0).trans (HC0.out.at_ 0 (by omega))
      have t1 := (blk_cell hblk0 1).trans (HC0.out.at_ 1 (by omega))
      have f0 := blk_free hblk0 0
      have f1 := blk_free hblk0 1
      go_upto_region 17 with fail
      have hblk1 : ((W5.setCell ⟨V.heap.size, 0, none⟩ (.bool true)).setCell ⟨V.heap.size, 1, none⟩ (.bool true)).heap[V.heap.size]? = some (.cells ((C0.setIfInBounds 0 (.bool true)).setIfInBounds 1 (.bool true)) 4 (0, 0)) := heap_setCell_same' (heap_setCell_same' hblk0 _) _
      have htab1 : TabR ((C0.setIfInBounds 0 (.bool true)).setIfInBounds 1 (.bool true)) m (usedV gg b 0) := (HC0.out.set (f' := fun j => decide (j = 0)) (by omega) (fun i _ => by simp)).set (by omega) (fun i _ => by rw [used_zero, Bool.eq_iff_iff]; simp; omega)
      have hbel1 : Below V.heap.size V ((W5.setCell ⟨V.heap.size, 0, none⟩ (.bool true)).setCell ⟨V.heap.size, 1, none⟩ (.bool true)) := (hbel0.setCell (Nat.le_refl _) _).setCell (Nat.le_refl _) _
      have y0 : ((W5.setCell ⟨V.heap.size, 0, none⟩ (.bool true)).setCell ⟨V.heap.size, 1, none⟩ (.bool true)).cell? ⟨r8, 0, none⟩ = _ := keepC hbel1 zz0
      clear t0 t1 f0 f1 hblk0 hbel0 z0 z1 z2 z3 z4
      generalize (W5.setCell ⟨V.heap.size, 0, none⟩ (.bool true)).setCell ⟨V.heap.size, 1, none⟩ (.bool true) = W6 at *
      have HZ : Hid (∀ wx, Below V.heap.size V wx → wx.cell? ⟨r8, 0, none⟩ = some (.int .i64 xl) ∧ wx.cell? ⟨r8, 1, none⟩ = some (.int .i64 xc) ∧ wx.cell? ⟨r8, 2, none⟩ = some (.int .i64 b) ∧ wx.cell? ⟨r8, 3, none⟩ = some (.int .i64 gg) ∧ wx.cell? ⟨r8, 4, none⟩ = some (.int .i64 xf)) := fun wx h => ⟨keepC h zz0, keepC h zz1, keepC h zz2, keepC h zz3, keepC h zz4⟩
      clear zz0 zz1 zz2 zz3 zz4 W5 y0
      have HT1 := Lib.hid htab1
      have HK1 := Lib.hid hblk1
      have HL1 := Lib.hid hbel1
      clear htab1 hblk1 hbel1 HC0
      go_wp2_with fail
      go_loopw [10] (fun i10 wr => ∃ (z : Int) (C : Array Value), i10 = .int .i64 z ∧ -1 ≤ z ∧ z ≤ gg + b + 1 ∧ Hid (wr.heap[V.heap.size]? = some (.cells C 4 (0, 0))) ∧ Hid (TabR C m (usedV gg b z.toNat)) ∧ Hid (Below V.heap.size V wr)) (fun z _ => (gg + b + 1 - intOf z).toNat)
      case atStart => exact ⟨-1, _, rfl, by omega, by omega, HK1.out, HT1.out, HL1.out⟩
      case round =>
        obtain ⟨w6, rfl⟩ : ∃ w6, w6 = wr := ⟨wr, rfl⟩
        obtain ⟨z, C6, rfl, hz1, hz2, HK6, HT6, HL6⟩ := hrel
        clear HT1 HK1 HL1
        obtain ⟨y0, y1, y2, y3, y4⟩ := HZ.out w6 HL6.out
        by_cases hlt : z ≤ gg + b
        · have p0 : ∀ g : Later w6, g.w.cell? _ = _ := fun g => g.keep y0
          have p1 : ∀ g : Later w6, g.w.cell? _ = _ := fun g => g.keep y1
          have p2 : ∀ g : Later w6, g.w.cell? _ = _ := fun g => g.keep y2
          have p3 : ∀ g : Later w6, g.w.cell? _ = _ := fun g => g.keep y3
          have p4 : ∀ g : Later w6, g.w.cell? _ = _ := fun g => g.keep y4
          have FLZ := Lib.hid (fun w => FL.out z w (by omega))
          have FHZ := Lib.hid (fun w => FH.out z w (by omega))
          have hgb : IntKind.i64.wrap ((gg : Int) + b) = (gg : Int) + b := IntWalk.i64_in _ (by omega)
          go_upto_region 20 with fail
          clear y0 y1 y2 y3 y4
          refine wp_region_later (by kernel_rfl) (by kernel_rfl) ?_
          repeat (first | go_big_quiet_step ((first | (go_at_call 11; exact quiet_later (FLZ.out _)) | (go_at_call 12; exact quiet_later (FHZ.out _)))) | (refine BigFrame.wpQuiet_skip (by rfl) ?_; simp only [Act.put, List.setIfInBounds_toArray, List.set_cons_zero, List.set_cons_succ]))
          refine wpQuiet_nil ?_
          intro _ hw'
          obtain ⟨nq, hw''⟩ := hw'
          subst hw''
          have hLV : Below V.heap.size V (Later.w nq) := HL6.out.trans (nq.below.mono HL6.out.size)
          have HLV := Lib.hid hLV
          have hKV : (Later.w nq).heap[V.heap.size]? = some (.cells C6 4 (0, 0)) := (nq.below.block _ (room_lt HK6.out)).trans HK6.out
          have HKV := Lib.hid hKV
          clear p0 p1 p2 p3 p4 hLV hKV
          generalize Later.w nq = V6 at *
          clear nq
          obtain ⟨y0, y1, y2, y3, y4⟩ := HZ.out V6 HLV.out
          rcases Int.lt_or_le z 0 with hz | hz
          · obtain rfl : z = -1 := by omega
            rw [show blockV 2 gg (-1) = -1 from rfl, show blockV (2 + gg) b (-1) = -1 from rfl] at *
            go_wp2_with fail
            go_roundw
            case rel => exact ⟨0, C6, by go_num, by omega, by omega, HKV.out, HT6.out, HLV.out⟩
            case measure => simp [intOf]; omega
          · obtain ⟨k, rfl⟩ : ∃ k : Nat, z = (k : Int) := ⟨z.toNat, by omega⟩
            have hkm : k < m := by have := HMM.out; omega
            obtain ⟨L, hL⟩ : ∃ L, L = 2 + k := ⟨_, rfl⟩
            obtain ⟨H, hH⟩ : ∃ H, H = 2 + gg + k := ⟨_, rfl⟩
            have e1 : ((L : Int) == -1) = false := by rw [beq_eq_false_iff_ne]; omega
            have e2 : ((L : Int) != -1) = true := by first | (simp; done) | (simp; omega)
            have e3 : ((L : Int) != 2 + (k : Int)) = false := by simp; omega
            have e4 : ((H : Int) == -1) = false := by rw [beq_eq_false_iff_ne]; omega
            have e5 : ((H : Int) != -1) = true := by first | (simp; done) | (simp; omega)
            have e6 : ((H : Int) != 2 + (gg : Int) + k) = false := by simp; omega
            have e7 : decide ((k : Int) < 0) = false := decide_eq_false (by omega)
            have u1 : IntKind.i64.wrap (2 + (k : Int)) = 2 + (k : Int) := IntWalk.i64_in _ (by omega)
            have u2 : IntKind.i64.wrap (2 + (gg : Int)) = 2 + (gg : Int) := IntWalk.i64_in _ (by omega)
            have u3 : IntKind.i64.wrap (2 + (gg : Int) + k) = 2 + (gg : Int) + k := IntWalk.i64_in _ (by omega)
            have hm3 := HMM.out
            have s1 : k < gg → L < m := fun h => by omega
            have s2 : k < b → H < m := fun h => by omega
            have s3 : k < gg → (L : Int) < m := fun h => by omega
            have s4 : k < b → (H : Int) < m := fun h => by omega
            have HM3 := Lib.hid hm3
            have HLT := Lib.hid hlt
            clear hm3 hz2 hlt
            by_cases hkg : k < gg <;> by_cases hkb : k < b
            · have s1 := s1 hkg
              have s3 := s3 hkg
              have s2 := s2 hkb
              have s4 := s4 hkb
              have hlv : blockV 2 gg k = (L : Int) := by unfold blockV; rw [if_pos (by omega)]; omega
              have d2 : decide (gg ≤ k) = false := decide_eq_false (by omega)
              have hhv : blockV (2 + gg) b k = (H : Int) := by unfold blockV; rw [if_pos (by omega)]; omega
              have d3 : decide (b ≤ k) = false := decide_eq_false (by omega)
              rw [hlv, hhv]
              have HK1 := Lib.hid hL
              have HK2 := Lib.hid hH
              clear hlv hhv hL hH
              have c0 : V6.cell? ⟨V.heap.size, L, none⟩ = some (.bool false) := (blk_cell HKV.out L).trans ((HT6.out.at_ L (by omega)).trans (by rw [HK1.out, Int.toNat_natCast, used_log (by omega)]))
              have f0 : V6.frozen? ⟨V.heap.size, L, none⟩ = false := blk_free HKV.out L
              have HT7 : Hid (TabR (C6.setIfInBounds L (.bool true)) m (usedL gg b k)) := HT6.out.set (by omega) (fun i _ => by rw [HK1.out, Int.toNat_natCast]; rfl)
              have HK7 : Hid ((V6.setCell ⟨V.heap.size, L, none⟩ (.bool true)).heap[V.heap.size]? = _) := heap_setCell_same' HKV.out (.bool true)
              have HT7' := Lib.hid (HT7.out.at_ H (by omega))
              go_upto_region 27 with fail
              have HLW : Hid (Below V.heap.size V (V6.setCell ⟨V.heap.size, L, none⟩ (.bool true))) := HLV.out.setCell (Nat.le_refl _) _
              obtain ⟨x0, x1, x2, x3, x4⟩ := HZ.out _ HLW.out
              clear y0 y1 y2 y3 y4 c0 f0
              generalize V6.setCell ⟨V.heap.size, L, none⟩ (.bool true) = V7 at *
              generalize C6.setIfInBounds L (.bool true) = C7 at *
              have c1 : V7.cell? ⟨V.heap.size, H, none⟩ = some (.bool false) := (blk_cell HK7.out H).trans (HT7'.out.trans (by rw [HK2.out, used_homeL (by omega) (by omega)]))
              have f1 : V7.frozen? ⟨V.heap.size, H, none⟩ = false := blk_free HK7.out H
              have HT8 : Hid (TabR (C7.setIfInBounds H (.bool true)) m (usedV gg b (k + 1))) := HT7.out.set (by omega) (fun i _ => by rw [HK2.out, used_nextB (by omega) (by omega)])
              have HK8 : Hid ((V7.setCell ⟨V.heap.size, H, none⟩ (.bool true)).heap[V.heap.size]? = _) := heap_setCell_same' HK7.out (.bool true)
              have HL8 : Hid (Below V.heap.size V (V7.setCell ⟨V.heap.size, H, none⟩ (.bool true))) := HLW.out.setCell (Nat.le_refl _) _
              go_wp2_with fail
              go_roundw
              case rel => exact ⟨k + 1, _, by go_num, by omega, by have := HM3.out; omega, HK8.out, by rw [show ((k : Int) + 1).toNat = k + 1 by omega]; exact HT8.out, HL8.out⟩
              case measure => simp [intOf]; omega
            · have s1 := s1 hkg
              have s3 := s3 hkg
              clear s2 s4
              have hlv : blockV 2 gg k = (L : Int) := by unfold blockV; rw [if_pos (by omega)]; omega
              have d2 : decide (gg ≤ k) = false := decide_eq_false (by omega)
              have hhv : blockV (2 + gg) b k = -1 := by unfold blockV; rw [if_neg (by omega)]
              have d3 : decide (b ≤ k) = true := decide_eq_true (by omega)
              rw [hlv, hhv]
              have HK1 := Lib.hid hL
              have HK2 := Lib.hid hH
              clear hlv hhv hL hH
              have c0 : V6.cell? ⟨V.heap.size, L, none⟩ = some (.bool false) := (blk_cell HKV.out L).trans ((HT6.out.at_ L (by omega)).trans (by rw [HK1.out, Int.toNat_natCast, used_log (by omega)]))
              have f0 : V6.frozen? ⟨V.heap.size, L, none⟩ = false := blk_free HKV.out L
              have HT7 : Hid (TabR (C6.setIfInBounds L (.bool true)) m (usedL gg b k)) := HT6.out.set (by omega) (fun i _ => by rw [HK1.out, Int.toNat_natCast]; rfl)
              have HK7 : Hid ((V6.setCell ⟨V.heap.size, L, none⟩ (.bool true)).heap[V.heap.size]? = _) := heap_setCell_same' HKV.out (.bool true)
              have HL8 : Hid (Below V.heap.size V (V6.setCell ⟨V.heap.size, L, none⟩ (.bool true))) := HLV.out.setCell (Nat.le_refl _) _
              have HT8 : Hid (TabR (C6.setIfInBounds L (.bool true)) m (usedV gg b (k + 1))) := HT6.out.set (by omega) (fun i _ => by rw [HK1.out, Int.toNat_natCast, used_nextL (by omega) (by omega)])
              go_wp2_with fail
              go_roundw
              case rel => exact ⟨k + 1, _, by go_num, by omega, by have := HM3.out; omega, HK7.out, by rw [show ((k : Int) + 1).toNat = k + 1 by omega]; exact HT8.out, HL8.out⟩
              case measure => simp [intOf]; omega
            · clear s1 s3
              have s2 := s2 hkb
              have s4 := s4 hkb
              have hlv : blockV 2 gg k = -1 := by unfold blockV; rw [if_neg (by omega)]
              have d2 : decide (gg ≤ k) = true := decide_eq_true (by omega)
              have hhv : blockV (2 + gg) b k = (H : Int) := by unfold blockV; rw [if_pos (by omega)]; omega
              have d3 : decide (b ≤ k) = false := decide_eq_false (by omega)
              rw [hlv, hhv]
              have HK1 := Lib.hid hL
              have HK2 := Lib.hid hH
              clear hlv hhv hL hH
              have c1 : V6.cell? ⟨V.heap.size, H, none⟩ = some (.bool false) := (blk_cell HKV.out H).trans ((HT6.out.at_ H (by omega)).trans (by rw [HK2.out, Int.toNat_natCast, used_home (by omega) (by omega)]))
              have f1 : V6.frozen? ⟨V.heap.size, H, none⟩ = false := blk_free HKV.out H
              have HT8 : Hid (TabR (C6.setIfInBounds H (.bool true)) m (usedV gg b (k + 1))) := HT6.out.set (by omega) (fun i _ => by rw [HK2.out, Int.toNat_natCast, used_nextH (by omega) (by omega)])
              have HK8 : Hid ((V6.setCell ⟨V.heap.size, H, none⟩ (.bool true)).heap[V.heap.size]? = _) := heap_setCell_same' HKV.out (.bool true)
              have HL8 : Hid (Below V.heap.size V (V6.setCell ⟨V.heap.size, H, none⟩ (.bool true))) := HLV.out.setCell (Nat.le_refl _) _
              go_wp2_with fail
              go_roundw
              case rel => exact ⟨k + 1, _, by go_num, by omega, by have := HM3.out; omega, HK8.out, by rw [show ((k : Int) + 1).toNat = k + 1 by omega]; exact HT8.out, HL8.out⟩
              case measure => simp [intOf]; omega
            · clear s1 s3
              clear s2 s4
              have hlv : blockV 2 gg k = -1 := by unfold blockV; rw [if_neg (by omega)]
              have d2 : decide (gg ≤ k) = true := decide_eq_true (by omega)
              have hhv : blockV (2 + gg) b k = -1 := by unfold blockV; rw [if_neg (by omega)]
              have d3 : decide (b ≤ k) = true := decide_eq_true (by omega)
              rw [hlv, hhv]
              have HK1 := Lib.hid hL
              have HK2 := Lib.hid hH
              clear hlv hhv hL hH
              have HT8 : Hid (TabR C6 m (usedV gg b (k + 1))) := ⟨HT6.out.size, fun i hi => by rw [used_next0 (by omega) (by omega), HT6.out.at_ i hi, Int.toNat_natCast]⟩
              go_wp2_with fail
              go_roundw
              case rel => exact ⟨k + 1, _, by go_num, by omega, by have := HLT.out; omega, HKV.out, by rw [show ((k : Int) + 1).toNat = k + 1 by omega]; exact HT8.out, HLV.out⟩
              case measure => have := HLT.out; simp [intOf]; omega
        · obtain rfl : z = gg + b + 1 := by omega
          have hgb : IntKind.i64.wrap ((gg : Int) + b) = (gg : Int) + b := IntWalk.i64_in _ (by omega)
          have hgt : decide ((gg : Int) + b + 1 ≤ (gg : Int) + b) = false := decide_eq_false (by omega)
          have hall : ∀ j, j < m → w6.cell? ⟨V.heap.size, j, none⟩ = some (.bool true) := fun j hj => (blk_cell HK6.out j).trans ((HT6.out.at_ j hj).trans (by rw [used_all (by omega) (by omega) j (by have := HMM.out; omega)]))
          have HALL := Lib.hid hall
          have HEND : Hid (Below W3.heap.size W3 w6) := HV.out.trans (HL6.out.mono HV.out.size)
          clear hall
          go_wp2_with fail
          go_loop [13] (fun i => ∃ k : Nat, k ≤ m ∧ i = .int .i64 k) (fun i => m - (intOf i).toNat)
          case atStart => exact ⟨0, Nat.zero_le _, rfl⟩
          case round =>
            obtain ⟨k, hk, rfl⟩ := hrel
            by_cases hkm : k < m
            · have c0 := HALL.out k hkm
              go_wp2_with fail
              go_round
              case rel => exact ⟨k + 1, by omega, by go_num⟩
              case measure => simp [intOf]; omega
            · obtain rfl : k = m := by omega
              go_wp2_with fail
              go_roundw
              case rel => exact ⟨i + 1, by go_num, by omega, HEND.out⟩
              case measure => simp [intOf]; omega
    · obtain rfl : i = cn := by omega
      have hem : x1.tmod 2 = x1 % 2 := Int.tmod_eq_emod_of_nonneg HX.out.1
      have hu := IntWalk.u32_in (x1 % 2) (by omega)
      have own3 := ownB (ownB HOWN.out HW3.out) HW.out
      have hsz : W1.heap.size ≤ w3.heap.size := Nat.le_trans HW12.out (Nat.le_trans HW3.out.size HW.out.size)
      obtain ⟨i0, hi0, hz0, hz1, hz2⟩ := info_parts info47
      have HIN := Lib.hid (And.intro hi0 (And.intro hz0 (And.intro hz1 hz2)))
      clear hi0 hz0 hz1 hz2
      have HAN := Lib.hid (anchor_any x1 HX.out.1)
      go_wp2_with fail
      refine (HAN.out _).mono ?_; rintro e w4 ⟨rfl, rfl⟩
      have HBW : Hid (Below w.heap.size w (w3.alloc (Obj.cells #[.int .i64 0, .int .i64 0, .int .i64 0, .int .i64 0, .int .i64 0] 35))) := ((keepB HB2.out HW3.out).trans (HW.out.mono (keepB HB2.out HW3.out).size)).alloc ((keepB HB2.out HW3.out).trans (HW.out.mono (keepB HB2.out HW3.out).size)).size _
      go_wp2_with (at_builtin; refine wpList_append_want (by rfl) (.tmp 154) (.tmp 156) 26 rfl W1.heap.size 35 i0 (.agg #[.int .i64 0, .int .i64 0, .int .i64 0, .int .i64 0, .int .i64 0]) 5 40 Try.underlying26 HIN.out.1 HIN.out.2.1 HIN.out.2.2.1 HIN.out.2.2.2 rfl (by decide) _ _ _ rfl (own3.alloc _) ⟨w3.heap.size, 0, none⟩ 1 1 (Sh.cs shNo) rfl rfl (World.news_of_block (heap_alloc_new w3 _)) (fun u hu => cellsL_one [shNo] u (by simpa [cellsL] using hu)) (by simp only [maxLen]; omega) (by omega) (by simp; omega) ?_; intro v4 w4 hown4 hg4; have HO := Lib.hid hown4; have HG := Lib.hid hg4; clear hown4 hg4)
      have hO : w4.ownsRow W1.heap.size 35 5 v4 (cs ++ [shNo]).length (cellsL (cs ++ [shNo])) := by
        rw [cellsL_snoc, List.length_append, HCN.out]; exact HO.out
      obtain ⟨A4, d4, rfl, hd4, hd42, hconf4⟩ := conf_own hO
      have hB4 : Below w.heap.size w w4 := HBW.out.grown HG.out HBW.out.size (fun k hk => Nat.le_trans HB1.out.size (own3.lt k hk).1)
      have HB4 := Lib.hid hB4
      have HS4 := Lib.hid (sizes_no A4 (cs ++ [shNo]) d4 w4 (by rw [List.length_append, HCN.out]; simp; omega) hd4 hd42 (oks_more (may_ok HM.out)) hconf4 may_more)
      clear hO hconf4 hd4 hd42 hB4
      refine HS4.out.mono ?_
      rintro e w5 ⟨rfl, hb5⟩
      have HB5 := Lib.hid (keepB HB4.out hb5)
      clear hb5
      go_wp2_with fail
      go_ret
      exact ⟨rfl, HB5.out⟩
end Go.Proofs.Ytfmpbofhaoijpaa
