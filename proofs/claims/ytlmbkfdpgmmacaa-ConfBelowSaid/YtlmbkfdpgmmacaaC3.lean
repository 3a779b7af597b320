/- Contracts: conf.Put and the reference's. -/
import Derived.Test.YtlmbkfdpgmmacaaC2
import Derived.Laws.MakeOwn
import Derived.Lib.AppendStr
import Derived.Maps.AppendAt
import Derived.OwnWalk
import Derived.Deep.AppendLies
import Derived.Deep.RegionLaw
import Derived.IntWalk
namespace Go.Proofs.Ytlmbkfdpgmmacaa
open Go.ChangeShapes Go.WideShapes Go.ChangeAt Go.RowKit
set_option linter.unusedVariables false
def Bs (l : List Int) : List Value := l.map (Value.int .u8)
theorem Bs_one (l : List Int) : ∀ u ∈ Bs l, u.oneCell' = true := by
  intro u hu; unfold Bs at hu; obtain ⟨x, _, rfl⟩ := List.mem_map.1 hu; rfl
theorem Bs_append (l m : List Int) : Bs (l ++ m) = Bs l ++ Bs m := List.map_append
theorem info5 : (Try.prog.info? 5).map (fun i => (i.zero, i.size, i.bytes)) = some (some (.int .u8 0), 1, 1) := by kernel_rfl
def shB (s : Sh) : List Int := [putV s.l s.c, s.b, s.g, s.f]
def putTo (cs : List Sh) (k : Nat) : List Int := [76, 70, (cs.length : Int)] ++ (cs.take k).flatMap shB
def putL (cs : List Sh) : List Int := if mayConfV cs then putTo cs cs.length else []
theorem putTo_succ {cs : List Sh} {k : Nat} {s : Sh} (h : cs[k]? = some s) : putTo cs (k + 1) = putTo cs k ++ shB s := by
  unfold putTo; rw [take_snoc' h, List.flatMap_append, List.append_assoc]; simp
theorem putTo_length (cs : List Sh) (k : Nat) (hk : k ≤ cs.length) : (putTo cs k).length = 3 + 4 * k := by
  induction k with
  | zero => rfl
  | succ k ih =>
    rw [putTo_succ (List.getElem?_eq_getElem (show k < cs.length by omega)), List.length_append, ih (by omega)]
    unfold shB; simp; omega
theorem may_len {cs : List Sh} (h : mayConfV cs = true) : 1 ≤ cs.length ∧ cs.length ≤ 8 := by
  unfold mayConfV at h; simp only [Bool.and_eq_true, decide_eq_true_eq] at h; exact h.1
theorem may_at {cs : List Sh} (h : mayConfV cs = true) {k : Nat} {s : Sh} (hs : cs[k]? = some s) : mayShV s = true := by
  unfold mayConfV okV at h
  simp only [Bool.and_eq_true, List.all_eq_true] at h
  have hk : k < cs.length := (List.getElem?_eq_some_iff.1 hs).1
  have := h.2 k (List.mem_range.2 hk)
  rw [okAt_some hs, Bool.and_eq_true] at this
  exact this.1
theorem may_nums {s : Sh} (h : mayShV s = true) : mayV s.l s.c = true ∧ 4 ≤ s.b ∧ s.b ≤ 200 ∧ 16 ≤ s.g ∧ s.g ≤ 100 ∧ 1 ≤ s.f ∧ s.f ≤ 50 := by
  unfold mayShV at h
  simp only [Bool.and_eq_true, decide_eq_true_eq] at h
  obtain ⟨⟨⟨⟨⟨⟨m0, m1⟩, m2⟩, m3⟩, m4⟩, m5⟩, m6⟩ := h
  exact ⟨m0, m1, m2, m3, m4, m5, m6⟩
theorem growN {W W' : World} (hb : Below W.heap.size W W') : W.grownBy W' none := ⟨hb.os, hb.tape, hb.output, hb.size, fun k hk _ => hb.block k hk⟩
theorem ownB {W W' : World} {base e sz n : Nat} {v : Value} {xs : List Value} (h : W.ownsRow base e sz v n xs) (hb : Below W.heap.size W W') : W'.ownsRow base e sz v n xs :=
  h.kept (growN hb) (by cases v.ownBlock <;> simp)
theorem grownB {w W W' : World} {v : Value} {e sz n : Nat} {xs : List Value} (hB : Below w.heap.size w W) (hown : W.ownsRow w.heap.size e sz v n xs) (hg : W.grownBy W' v.ownBlock) : Below w.heap.size w W' :=
  hB.grown hg hB.size (fun k hk => (hown.lt k hk).1)
set_option maxRecDepth 100000 in
set_option maxHeartbeats 1600000 in
theorem put_yes (A : Option Addr) (cs : List Sh) (d : Nat) (w : World) (hd : cs.length ≤ d) (hd2 : d ≤ 9223372036854775807) (ho : ShsOk cs) (ha : Conf w A cs) (hm : mayConfV cs = true) :
    Calls Try.prog 15 #[.slice A cs.length d] w fun e w' => ∃ v, e = .returned v ∧ w'.ownsRow w.heap.size 5 1 v (3 + 4 * cs.length) (Bs (putTo cs cs.length)) ∧ Below w.heap.size w w' := by
  obtain ⟨l1, l2⟩ := may_len hm
  have HM := Lib.hid (may_conf A cs d w (by omega) hd hd2 ho ha)
  have HMV := Lib.hid hm
  clear hm
  generalize hn : cs.length = n at *
  have HN := Lib.hid hn
  clear hn
  obtain ⟨i0, hi, hz0, hz1, hz2⟩ := info_parts info5
  have hmk := fun w : World => run_make (P := Try.prog) w 24 5 i0 _ Try.underlying24 hi hz0 .i64 .i64 0 (3 + 4 * (n : Int)) (Int.le_refl _) (by omega) (by rw [hz2]; omega) (by omega)
  generalize hC : madeCells (Value.int .u8 0).cells ((3 + 4 * (n : Int)).toNat * i0.size) = C at hmk
  have HC : Hid (C.size = (3 + 4 * n) * 1) := by rw [← hC, size_madeCells, hz1]; unfold Hid; omega
  rw [show (3 + 4 * (n : Int)).toNat = 3 + 4 * n by omega] at hmk
  clear hC
  have HI := Lib.hid (And.intro hi (And.intro hz0 (And.intro hz1 hz2)))
  clear hi hz0 hz1 hz2
  go_enter Try.func15, Try.ntmps15
  go_wp2_with fail
  refine HM.out.mono ?_
  rintro e W ⟨rfl, hb⟩
  rw [HMV.out]
  have HA := Lib.hid ha
  have hB1 := hb.alloc hb.size (Obj.cells C 5)
  have own0 := World.ownsRow_made (e := 5) (size := 1) W C (3 + 4 * n) hb.size (by simp only [maxLen]; omega) HC
  clear ha hb
  go_wp2_with (first
    | (at_builtin
       (refine Lib.wpList_append_own_string _ rfl (.tmp 16) (.const (.string ⟨#[76, 70]⟩)) 24 9 rfl w.heap.size 5 i0 Try.underlying24 Try.underlying9 HI.out.1 HI.out.2.1 HI.out.2.2.1 HI.out.2.2.2 _ 0 [] rfl own0 ⟨#[76, 70]⟩ rfl (by decide) (by decide) hB1.size ?_)
       intro v1 w1 hown1 hg1 _
       have own1 : w1.ownsRow w.heap.size 5 1 v1 2 (Bs [76, 70]) := hown1
       have hB2 := grownB hB1 own0 hg1
       clear hown1 hg1 own0 hB1)
    | (at_builtin
       refine wpList_append_own _ rfl (.tmp 18) (.tmp 22) 24 rfl w.heap.size 5 i0 (.int .u8 0) 1 1 Try.underlying24 HI.out.1 HI.out.2.1 HI.out.2.2.1 HI.out.2.2.2 rfl (by decide) v1 2 _ rfl (own1.alloc _) ⟨w1.heap.size, 0, none⟩ 1 1 (Bs [(n : Int)]) rfl rfl (cell_one_new _ _ _) (Bs_one _) (by simp only [maxLen]; omega) (by omega) ((hB2.alloc hB2.size _).size) ?_
       intro v2 w2 hown2 hg2 _
       have own2 : w2.ownsRow w.heap.size 5 1 v2 3 (Bs (putTo cs 0)) := by
         have h := hown2
         rw [← Bs_append] at h
         have e : putTo cs 0 = [76, 70] ++ [(n : Int)] := by unfold putTo; rw [HN.out]; rfl
         rw [e]; exact h
       have hB3 := grownB (hB2.alloc hB2.size _) (own1.alloc _) hg2
       clear hown2 hg2 own1 hB2))
  go_loopw [3, 26] (fun v i wr => ∃ k : Nat, k ≤ n ∧ i = .int .i64 k ∧ wr.ownsRow w.heap.size 5 1 v (3 + 4 * k) (Bs (putTo cs k)) ∧ Below w.heap.size w wr) (fun _ i _ => n - (intOf i).toNat)
  case atStart => exact ⟨0, Nat.zero_le _, rfl, own2, hB3⟩
  case round =>
    obtain ⟨k, hk, rfl, own, hB⟩ := hrel
    by_cases hlt : k < n
    · obtain ⟨a, x, rfl, hsx, hsa⟩ := (HA.out.keep hB).at_ (k := k) (by rw [HN.out]; exact hlt)
      have g0 := hsa.c0
      have g1 := hsa.c1
      have g2 := hsa.c2
      have g3 := hsa.c3
      have g4 := hsa.c4
      have hox := ho x (List.mem_of_getElem? hsx.out)
      obtain ⟨m0, m1, m2, m3, m4, m5, m6⟩ := may_nums (may_at HMV.out hsx.out)
      have HM0 := Lib.hid m0
      clear hsa m0 hmk
      have HP := Lib.hid (fun w => put_all x.l x.c w hox.1 hox.2)
      clear hox
      go_wp2_with fail
      refine (HP.out _).mono ?_
      rintro e w3 ⟨rfl, hb⟩
      rw [HM0.out]
      have z0 := keep hb (b := wr.heap.size) (o := 0) (v := .int .i64 x.l) (by simp [go_sem])
      have z1 := keep hb (b := wr.heap.size) (o := 1) (v := .int .i64 x.c) (by simp [go_sem])
      have z2 := keep hb (b := wr.heap.size) (o := 2) (v := .int .i64 x.b) (by simp [go_sem])
      have z3 := keep hb (b := wr.heap.size) (o := 3) (v := .int .i64 x.g) (by simp [go_sem])
      have z4 := keep hb (b := wr.heap.size) (o := 4) (v := .int .i64 x.f) (by simp [go_sem])
      have own3 := ownB (own.alloc (Obj.cells #[.int .i64 x.l, .int .i64 x.c, .int .i64 x.b, .int .i64 x.g, .int .i64 x.f] 47)) hb
      have hB4 : Below w.heap.size w w3 := keepB (hB.alloc hB.size _) hb
      clear hb own hB g0 g1 g2 g3 g4 HP
      generalize wr.heap.size = r at *
      have HX : Hid (shB x = [putV x.l x.c, x.b, x.g, x.f]) := rfl
      generalize putV x.l x.c = pv at *
      go_wp2_with (at_builtin; refine wpList_append_own _ rfl (.tmp 36) (.tmp 47) 24 rfl w.heap.size 5 i0 (.int .u8 0) 1 1 Try.underlying24 HI.out.1 HI.out.2.1 HI.out.2.2.1 HI.out.2.2.2 rfl (by decide) _ _ _ rfl (own3.alloc _) ⟨w3.heap.size, 0, none⟩ 4 4 (Bs [pv, x.b, x.g, x.f]) rfl rfl (World.news_of_block (heap_alloc_new w3 _)) (Bs_one _) (by simp only [maxLen]; omega) (by omega) ((hB4.alloc hB4.size _).size) ?_; intro v4 w4 hown4 hg4 _; have hB5 := grownB (hB4.alloc hB4.size _) (own3.alloc _) hg4; have HO := Lib.hid hown4; clear hown4 hg4 own3 hB4)
      go_roundw
      case rel => exact ⟨k + 1, by omega, by go_num, by rw [putTo_succ hsx.out, HX.out, Bs_append]; exact HO.out, hB5⟩
      case measure => simp [intOf]; omega
    · obtain rfl : k = n := by omega
      go_wp2
      go_ret
      exact ⟨_, rfl, own, hB⟩
theorem put_no (A : Option Addr) (cs : List Sh) (d : Nat) (w : World) (hx : cs.length ≤ 1000000) (hd : cs.length ≤ d) (hd2 : d ≤ 9223372036854775807) (ho : ShsOk cs) (ha : Conf w A cs) (hm : mayConfV cs = false) :
    Calls Try.prog 15 #[.slice A cs.length d] w fun e w' => e = .returned (.slice none 0 0) ∧ Below w.heap.size w w' := by
  have HM := Lib.hid (may_conf A cs d w hx hd hd2 ho ha)
  have HMV := Lib.hid hm
  clear hm ha
  go_enter Try.func15, Try.ntmps15
  go_wp2_with fail
  refine HM.out.mono ?_
  rintro e W ⟨rfl, hb⟩
  rw [HMV.out]
  go_wp2_with fail
  go_ret
  exact ⟨rfl, hb⟩
theorem refPut_all (l c : Int) (w : World) :
    Calls Try.prog 33 #[.agg #[.int .i64 l, .int .i64 c]] w fun e w' => e = .returned (.tuple #[.int .u8 (putV l c), .bool (mayV l c)]) ∧ Below w.heap.size w w' := by
  unfold putV
  cases h : mayV l c
  · exact refPut_no l c w (may_f h)
  · obtain ⟨l', c', rfl, rfl, h1, h2⟩ := may_t h
    have e : (16 * (l' : Int) + c') = (((l' : Int).toNat * 16 + (c' : Int).toNat : Nat) : Int) := by omega
    rw [if_pos rfl, ← e]
    exact refPut_yes l' c' w h1 h2
theorem refPut_confno (A : Option Addr) (cs : List Sh) (d : Nat) (w : World) (hx : cs.length ≤ 1000000) (ha : Conf w A cs) (hm : mayConfV cs = false) :
    Calls Try.prog 16 #[.slice A cs.length d] w fun e w' => e = .returned (.slice none 0 0) ∧ Below w.heap.size w w' := by
  have HM := Lib.hid (refMayConf A cs d w hx ha)
  have HMV := Lib.hid hm
  clear hm ha
  go_enter Try.func16, Try.ntmps16
  go_wp2_with fail
  refine HM.out.mono ?_
  rintro e W ⟨rfl, hb⟩
  rw [HMV.out]
  go_wp2_with fail
  go_ret
  exact ⟨rfl, hb⟩
theorem step_append_own {P : Program} (w : World) {ops : Array Oper} {o : Oper} {a : Act} {K : Act → World → Prop} {Q : Exit → Act → World → Prop} {E : Prop} (hgd : o.guard = none) (s x : Operand) (t : TypeId)
    (ho : o.op = .call { callee := .builtin .append, args := #[s, x], argTypes := #[t, t] })
    (base : Nat) (e : TypeId) (i : TypeInfo) (z : Value) (size bytes : Nat) (ht : P.underlying t = some (.slice e)) (hi : P.info? e = some i) (hz : i.zero = some z)
    (hsize : i.size = size) (hby : i.bytes = bytes) (hzs : z.cells.size = size) (hsz : 0 < size)
    (v : Value) (n : Nat) (xs : List Value) (hs : a.eval s = v) (hown : w.ownsRow base e size v n xs)
    (ad : Addr) (m c : Nat) (news : List Value) (hx : a.eval x = .slice (some ad) m c) (hl : news.length = m * size) (hnews : ∀ j u, news[j]? = some u → w.cell? (ad.add j) = some u) (h1 : ∀ u ∈ news, u.oneCell' = true)
    (h63 : n + m ≤ maxLen) (hbytes : (n + m) * bytes ≤ 140737488355328) (hbase : base ≤ w.heap.size)
    (h : ∀ v' w', w'.ownsRow base e size v' (n + m) (xs ++ news) → w.grownBy w' v.ownBlock → (v' = .slice none 0 0 ↔ v = .slice none 0 0 ∧ m = 0) → K (a.put o.dst v') w') :
    if Region.wanted o (yielded ops a.tmps) = true then Oper.wp P o a w K Q else E := by
  have hw : Region.wanted o (yielded ops a.tmps) = true := by simp [Region.wanted, hgd]
  rw [if_pos hw]
  exact wp_append_own w s x t ho base e i z size bytes ht hi hz hsize hby hzs hsz v n xs hs hown ad m c news hx hl hnews h1 h63 hbytes hbase h
theorem own_lit {w W : World} {b t : Nat} {l : List Int} {n : Nat} (hb : b ≤ W.heap.size) (hn : l.length = n) (hn2 : n ≤ 1000) (cs : Array Value) (hc : cs.toList = Bs l) : (W.alloc (.cells cs t)).ownsRow b t 1 (.slice (some ⟨W.heap.size, 0, none⟩) n n) n (Bs l) := by
  have hs : cs.size = n := by rw [← Array.length_toList, hc]; unfold Bs; simpa using hn
  refine ⟨by unfold Bs; simp; omega, .inr ⟨W.heap.size, n, cs, rfl, hb, heap_alloc_new W _, Nat.le_refl _, by simp only [maxLen]; omega, by omega, ?_⟩⟩
  rw [← hc]; exact List.take_of_length_le (by simp; omega)
set_option maxRecDepth 100000 in
set_option maxHeartbeats 1600000 in
theorem refPut_confyes (A : Option Addr) (cs : List Sh) (d : Nat) (w : World) (ha : Conf w A cs) (hm : mayConfV cs = true) :
    Calls Try.prog 16 #[.slice A cs.length d] w fun e w' => ∃ v, e = .returned v ∧ w'.ownsRow w.heap.size 5 1 v (3 + 4 * cs.length) (Bs (putTo cs cs.length)) ∧ Below w.heap.size w w' := by
  obtain ⟨l1, l2⟩ := may_len hm
  have HM := Lib.hid (refMayConf A cs d w (by omega) ha)
  have HMV := Lib.hid hm
  clear hm
  generalize hn : cs.length = n at *
  have HN := Lib.hid hn
  clear hn
  obtain ⟨i0, hi, hz0, hz1, hz2⟩ := info_parts info5
  have HI := Lib.hid (And.intro hi (And.intro hz0 (And.intro hz1 hz2)))
  clear hi hz0 hz1 hz2
  have HA := Lib.hid ha
  clear ha
  go_enter Try.func16, Try.ntmps16
  go_wp2_with fail
  refine HM.out.mono ?_
  rintro e W ⟨rfl, hb⟩
  rw [HMV.out]
  go_wp2_with fail
  have own0 := own_lit (w := w) (W := W) (b := w.heap.size) (t := 5) (l := [76, 70, (n : Int)]) (n := 3) hb.size rfl (by omega) #[.int .u8 76, .int .u8 70, .int .u8 n] rfl
  have hB0 := hb.alloc hb.size (.cells #[.int .u8 76, .int .u8 70, .int .u8 n] 5)
  have e0 : putTo cs 0 = [76, 70, (n : Int)] := by unfold putTo; rw [HN.out]; rfl
  rw [← e0] at own0
  clear hb e0
  go_loopw [3, 4] (fun v i wr => ∃ k : Nat, k ≤ n ∧ i = .int .i64 k ∧ wr.ownsRow w.heap.size 5 1 v (3 + 4 * k) (Bs (putTo cs k)) ∧ Below w.heap.size w wr) (fun _ i _ => n - (intOf i).toNat)
  case atStart => exact ⟨0, Nat.zero_le _, rfl, own0, hB0⟩
  case round =>
    obtain ⟨k, hk, rfl, own, hB⟩ := hrel
    by_cases hlt : k < n
    · obtain ⟨a, x, rfl, hsx, hsa⟩ := (HA.out.keep hB).at_ (k := k) (by rw [HN.out]; exact hlt)
      have g0 := hsa.c0
      have g1 := hsa.c1
      have g2 := hsa.c2
      have g3 := hsa.c3
      have g4 := hsa.c4
      obtain ⟨m0, m1, m2, m3, m4, m5, m6⟩ := may_nums (may_at HMV.out hsx.out)
      have HM0 := Lib.hid m0
      clear hsa m0
      have HP := Lib.hid (fun w => refPut_all x.l x.c w)
      go_wp2_with fail
      refine (HP.out _).mono ?_
      rintro e w3 ⟨rfl, hb⟩
      rw [HM0.out]
      have z2 := keepC hb g2
      have z3 := keepC hb g3
      have z4 := keepC hb g4
      have own3p := ownB own hb
      have own3 : w3.drew.ownsRow w.heap.size 5 1 _ (3 + 4 * k) (Bs (putTo cs k)) := own3p
      clear own3p
      have hB4 : Below w.heap.size w w3.drew := (keepB hB hb).drew
      clear hb own hB g0 g1 g2 g3 g4 HP
      have HX : Hid (shB x = [putV x.l x.c, x.b, x.g, x.f]) := rfl
      generalize putV x.l x.c = pv at *
      go_wp2_with fail
      have wb : IntKind.u8.wrap x.b = x.b := IntWalk.u8_in _ (by omega)
      have wg : IntKind.u8.wrap x.g = x.g := IntWalk.u8_in _ (by omega)
      have wf : IntKind.u8.wrap x.f = x.f := IntWalk.u8_in _ (by omega)
      go_region_law (refine step_append_own _ rfl (.tmp 29) (.tmp 49) 24 rfl w.heap.size 5 i0 (.int .u8 0) 1 1 Try.underlying24 HI.out.1 HI.out.2.1 HI.out.2.2.1 HI.out.2.2.2 rfl (by decide) _ _ _ rfl (own3.alloc _) ⟨w3.heap.size, 0, none⟩ 4 4 (Bs [pv, x.b, x.g, x.f]) rfl rfl (World.news_of_block (heap_alloc_new w3.drew _)) (Bs_one _) (by simp only [maxLen]; omega) (by omega) ((hB4.alloc hB4.size _).size) ?_; intro v4 w4 hown4 hg4 _; have hB5 := grownB (hB4.alloc hB4.size _) (own3.alloc _) hg4; have HO := Lib.hid hown4; clear hown4 hg4)
      all_goals
        clear wb wg wf
        go_wp2
        go_roundw
        case rel => exact ⟨k + 1, by omega, by go_num, by rw [putTo_succ hsx.out, HX.out, Bs_append]; exact HO.out, hB5⟩
        case measure => simp [intOf]; omega
    · obtain rfl : k = n := by omega
      go_wp2
      go_ret
      exact ⟨_, rfl, own, hB⟩
end Go.Proofs.Ytlmbkfdpgmmacaa
