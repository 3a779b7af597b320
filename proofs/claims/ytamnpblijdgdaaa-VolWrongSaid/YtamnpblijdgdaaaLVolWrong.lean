/- The law VolWrong answers true for every input, and leaves its arguments alone. No condition. -/
import Derived.Test.YtamnpblijdgdaaaRows
import Derived.Test.YtamnpblijdgdaaaNz
import Derived.WalkKit
import Derived.ProofKit
import Derived.OpenShut
namespace Go.Proofs.Ytamnpblijdgdaaa.volWrong
open Go.ChangeShapes Go.WideShapes Go.ChangeAt Go.RowKit Go.Joins
set_option linter.unusedVariables false
theorem own : ownKnob Try.prog.godebug = none := by kernel_rfl
theorem laidOut : laidOutB Try.prog = true := by kernel_rfl
set_option maxRecDepth 100000
def VWw (q hp g3 tn : Nat) (i : Nat) (v : Value) (w : World) : Prop :=
  match i with
  | 0 => v = .int .i64 1
  | 1 | 2 | 7 | 8 | 9 | 14 | 15 => v = .bool true
  | 3 => v = .pointer (some ⟨q, 0, none⟩)
  | 5 | 6 => v = .int .i64 tn
  | 10 => v = .pointer (some ⟨hp, 0, none⟩)
  | 11 | 13 => v = .int .i64 21
  | 12 => v = .pointer (some ⟨g3, 3, none⟩)
  | 4 => ∃ A c, v = .slice A tn c
  | _ => True
def mayK (l : List Wr) (k : Nat) : Bool := decide (MayL l) && (l.take k).all (fun x => decide (x.t < 7))
theorem mayK_zero (l : List Wr) : mayK l 0 = decide (MayL l) := by unfold mayK; simp
theorem mayK_succ {l : List Wr} {k : Nat} {x : Wr} (h : l[k]? = some x) : mayK l (k + 1) = (mayK l k && decide (x.t < 7)) := by
  unfold mayK; rw [take_snoc' h, List.all_append, Bool.and_assoc]; simp
theorem mayK_all {l : List Wr} {v : VM} (hv : v.n = 7) : mayK l l.length = decide (ChOk v l) := by
  unfold mayK
  rw [List.take_length]
  by_cases hm : MayL l
  · have e : (l.all fun x => decide (x.t < 7)) = hasAllV v l := by
      unfold hasAllV
      rw [Bool.eq_iff_iff, List.all_eq_true, List.all_eq_true]
      refine forall_congr' fun x => forall_congr' fun hx => ?_
      have h0 := (hm.2.1 x hx).2.1
      unfold hasV
      rw [hv]
      simp only [Bool.and_eq_true, decide_eq_true_eq]
      omega
    rw [decide_eq_true hm, Bool.true_and, e, Bool.eq_iff_iff, decide_eq_true_eq]
    exact ⟨fun h => ⟨hm, h⟩, fun h => h.2⟩
  · rw [decide_eq_false hm, decide_eq_false (fun h : ChOk v l => hm h.1)]; rfl
section
variable {ops : Array Oper} {rest : List Oper} {o : Oper} {a : Act} {w : World} {Q : Exit → Act → World → Prop}
theorem wpList_neqS (hw : Region.wanted o (yielded ops a.tmps) = true) (x y : Operand) (t : TypeId) (ho : o.op = .binOp .neq 46 x y t) (k : Int) (bs : List Int) (hx : a.eval x = .agg (blkA k bs)) (hy : a.eval y = .agg (blkA k bs)) (hb : bs.length = 56) (hB : AllB bs)
    (h : wpList Try.prog ops Q rest (a.put o.dst (.bool false)) w) : wpList Try.prog ops Q (o :: rest) a w :=
  wpList_neqB9 hw x y t ho k k bs bs hx hy hb hB hb hB (by rw [decide_eq_true ⟨rfl, rfl⟩]; exact h)
end
set_option maxHeartbeats 6400000 in
theorem walk (A0 : Option Addr) (l0 : List Wr) (d0 : Nat) (w : World) (hd0 : l0.length ≤ d0) (hm0 : d0 ≤ 9223372036854775807) (hB0 : WrsOk l0) (hy0 : Wrs w A0 l0) :
    Calls Try.prog 8 #[.slice A0 l0.length d0] w fun e w' => e = .returned (.bool true) ∧ Below w.heap.size w w' := by
  have HY := Lib.hid hy0
  have HB := Lib.hid hB0
  have hst := started (n := 7) (g := 21) (by omega) (by omega)
  have HST := Lib.hid hst
  obtain ⟨n, hn⟩ : ∃ n, l0.length = n := ⟨_, rfl⟩
  rw [hn] at hd0 ⊢
  have HN := Lib.hid hn
  clear hy0 hB0 hn hst
  go_enter Try.func8, Try.ntmps8
  go_wp2_with fail
  refine (begun9_any w).mono ?_
  rintro e w0 ⟨rfl, hb0⟩
  have HB0 := Lib.hid hb0
  clear hb0
  by_cases h16 : n ≤ 16
  · have h16i : (n : Int) ≤ 16 := by omega
    go_wp2_with fail
    refine (share_any 3 5 (by omega) (by omega) w0).mono ?_
    rintro e w1 ⟨rfl, hb1⟩
    have HB1 := Lib.hid (HB0.out.trans (hb1.mono HB0.out.size))
    clear hb1 HB0
    simp only [show 4 + 3 % 30 = 7 from rfl, show 16 + 5 % 30 = 21 from rfl]
    go_upto_region 6 with (refine wpList_storeS rfl (.tmp 3) (.tmp 20) rfl w1.heap.size rfl 7 21 3 rfl _ rfl (heap_alloc_new w1 _) ?_)
    have e2 := setRow_blk (D := shC 7 21 3) (heap_alloc_new w1 (Obj.cells #[.int .i64 0, .int .i64 0, .int .i64 0, .int .i64 0, .int .i64 0] 30))
    have hb2 : Below w1.heap.size w1 ((w1.alloc (Obj.cells #[.int .i64 0, .int .i64 0, .int .i64 0, .int .i64 0, .int .i64 0] 30)).setRow w1.heap.size (shC 7 21 3)) := below_setRow ((Below.refl _ _).alloc (Nat.le_refl _) _) (Nat.le_refl _) _
    have HB2 := Lib.hid (HB1.out.trans (hb2.mono HB1.out.size))
    obtain ⟨g3, hg3⟩ : ∃ g3, g3 = w1.heap.size := ⟨_, rfl⟩
    rw [← hg3] at e2 hb2 HB2 ⊢
    clear hb2 HB1 hg3
    generalize (w1.alloc (Obj.cells #[.int .i64 0, .int .i64 0, .int .i64 0, .int .i64 0, .int .i64 0] 30)).setRow g3 (shC 7 21 3) = w2 at *
    simp only [Act.put]
    have HE2 := Lib.hid e2
    clear e2
    go_wp2_with (refine wpList_loadS rfl (.tmp 3) rfl g3 rfl 7 21 3 HE2.out ?_)
    refine (size_any 0 0 7 21 3 (by omega) (by omega) w2).mono ?_
    rintro e w3 ⟨rfl, hb3⟩
    have HE3 := Lib.hid (kb hb3 HE2.out)
    have HB3 := Lib.hid (HB2.out.trans (hb3.mono HB2.out.size))
    clear hb3 HE2 HB2
    go_wp2_with fail
    refine (new_at _ w3.heap.size [((2 + 21 + 7 : Nat) : Int)] 1 rfl (may1 7 21 (by omega) (by omega)) (fun x hx => by simp at hx; subst hx; constructor <;> omega) _ (heap_alloc_new w3 _)).mono ?_
    rintro e w4 ⟨⟨q, F, rfl, hd, hF⟩, hb4⟩
    have hba := HB3.out.alloc HB3.out.size (Obj.cells #[.int .i64 ((2 + 21 + 7 : Nat) : Int)] 3)
    have hds := DS.made hba hd hF hb4
    have hg3 : g3 < (w3.alloc (Obj.cells #[.int .i64 ((2 + 21 + 7 : Nat) : Int)] 3)).heap.size := by
      have h1 := room_lt HE3.out
      have h2 := ((Below.refl w3.heap.size w3).alloc (Nat.le_refl _) (Obj.cells #[.int .i64 ((2 + 21 + 7 : Nat) : Int)] 3)).size
      omega
    have HE4 := Lib.hid (kb hb4 (kb ((Below.refl w3.heap.size w3).alloc (Nat.le_refl _) (Obj.cells #[.int .i64 ((2 + 21 + 7 : Nat) : Int)] 3)) HE3.out))
    have HS3 := Lib.hid (And.intro hg3 hba.size)
    have HD4 := Lib.hid hds
    clear hd hF hb4 hba hds hg3 HE3 HB3
    generalize (w3.alloc (Obj.cells #[.int .i64 ((2 + 21 + 7 : Nat) : Int)] 3)).heap.size = s3 at *
    go_wp2_with (refine wpList_loadSw rfl (.tmp 3) rfl g3 rfl 7 21 3 HE4.out ?_)
    refine (make1 (n := 7) (g := 21) (by omega) (by omega) HD4.out).mono ?_
    rintro e w5 ⟨rfl, hd5, hs5⟩
    have HE5 := Lib.hid ((hs5.blk g3 HS3.out.1).trans HE4.out)
    have HD5 := Lib.hid hd5
    clear hd5 hs5 HE4 HD4
    go_wp2_with (refine wpList_loadS rfl (.tmp 3) rfl g3 rfl 7 21 3 HE5.out ?_)
    refine (mount1 (n := 7) (g := 21) (by omega) (by omega) HD5.out).mono ?_
    rintro e w6 ⟨hp, rb, rfl, hsv, hs6, hlo1, hlo2⟩
    have HE6 := Lib.hid ((hs6.blk g3 HS3.out.1).trans HE5.out)
    have hg3l := room_lt HE5.out
    have hwl := HD5.out.bel.size
    have HNE : Hid (g3 ≠ hp ∧ g3 ≠ rb ∧ ∀ k, k < w.heap.size → Rst (fun k => k < s3 ∨ k = hp ∨ k = rb) hp rb k) := ⟨by omega, by omega, fun k hk => ⟨Or.inl (Nat.lt_of_lt_of_le hk HS3.out.2), by omega, by omega⟩⟩
    have HSV := Lib.hid hsv
    clear hsv hs6 hlo1 hlo2 hg3l hwl HE5 HD5
    generalize stM 7 21 = m at *
    generalize stW 7 21 = v at *
    go_wp2_with fail
    refine (rmay_any A0 l0 n d0 w6 HN.out hd0 hm0 HB.out (HY.out.keep HSV.out.ds.bel)).mono ?_
    rintro e w7 ⟨rfl, hb7⟩
    have HSV7 := Lib.hid (HSV.out.below hb7)
    have HE7 := Lib.hid (fun (W' : World) (hb' : Below w7.heap.size w7 W') => kb hb' (kb hb7 HE6.out))
    clear hb7 HSV HE6
    rw [← mayK_zero]
    go_wp2_with fail
    go_loopw [8, 9] (fun b i wr => ∃ k : Nat, i = .int .i64 k ∧ k ≤ n ∧ b = .bool (mayK l0 k) ∧ Hid (Below w7.heap.size w7 wr)) (fun _ i _ => n - (intOf i).toNat)
    case atStart => exact ⟨0, rfl, by omega, rfl, brefl _⟩
    case round =>
      obtain ⟨k, rfl, hk, rfl, HBR⟩ := hrel
      by_cases hlt : k < n
      · obtain ⟨x, hx⟩ : ∃ x, l0[k]? = some x := ⟨_, List.getElem?_eq_getElem (by rw [HN.out]; exact hlt)⟩
        have HK := Lib.hid (mayK_succ hx)
        have hki : (k : Int) < n := by omega
        cases hm : mayK l0 k
        · have HK2 : Hid (mayK l0 (k + 1) = false) := by unfold Hid; rw [HK.out, hm]; rfl
          clear hm hx
          go_upto_region 16 with fail
          go_quiet (fail)
          go_wp2
          go_roundw
          case rel => exact ⟨k + 1, by go_num, by omega, by rw [HK2.out], bdn HBR.out _⟩
          case measure => simp [intOf]; omega
        · obtain ⟨ad, rfl, hw⟩ := (HY.out.keep (HSV7.out.ds.bel.trans (HBR.out.mono HSV7.out.ds.bel.size))) k x hx
          have c0 := hw.c0
          obtain ⟨z0, z1, z2, z3, z4⟩ := sh_cells (HE7.out wr HBR.out)
          have HK2 : Hid (mayK l0 (k + 1) = decide (x.t < 7)) := by unfold Hid; rw [HK.out, hm]; rfl
          clear hm hx hw
          go_upto_region 16 with fail
          go_quiet (fail)
          go_wp2
          go_roundw
          case rel => exact ⟨k + 1, by go_num, by omega, by rw [HK2.out], bdn HBR.out _⟩
          case measure => simp [intOf]; omega
      · obtain rfl : k = n := by omega
        have hki : ¬ ((k : Int) < k) := by omega
        have hmk := mayK_all (l := l0) HST.out.n_
        rw [HN.out] at hmk
        have HSV8 := Lib.hid (HSV7.out.below HBR.out)
        have HE8 := Lib.hid (fun (W' : World) (hb' : Below wr.heap.size wr W') => HE7.out W' (HBR.out.trans (hb'.mono HBR.out.size)))
        have hdn := HST.out.done
        have HDN : Hid (m.done.length ≤ 20) := by unfold Hid; omega
        have HLT := Lib.hid HST.out.live.idle.fit.lt
        obtain ⟨t0, ht0⟩ : ∃ t0, (traceL m 0).length = t0 := ⟨_, rfl⟩
        have ht1 : t0 ≤ 20 := by
          have h1 : (traceL m 0).length ≤ m.done.length := by unfold traceL; rw [List.length_map]; exact List.length_filter_le _ _
          have := HDN.out
          omega
        have HT0 := Lib.hid ht0
        clear hdn ht0 HBR
        rw [hmk]
        clear hmk
        go_wp2_with fail
        refine (HSV8.out.ds.trace 0 HLT.out (by have := HDN.out; omega)).mono ?_
        rintro e w9 ⟨⟨v9, rfl, htx⟩, hb9⟩
        obtain ⟨vs, htv, _⟩ := htx
        obtain ⟨A9, c9, rfl, _, _⟩ := htv.val
        rw [HT0.out]
        have HSV9 := Lib.hid (HSV8.out.below hb9)
        have HE9 := Lib.hid (fun (W' : World) (hb' : Below w9.heap.size w9 W') => HE8.out W' (hb9.trans (hb'.mono hb9.size)))
        clear htv hb9 HSV8
        obtain ⟨us0, sq0, vn, vg, vep⟩ := And.intro HST.out.us (And.intro HST.out.sq (And.intro HST.out.n_ (And.intro HST.out.g_ HST.out.ep)))
        have hch := vchange_any HSV9.out A0 l0 k d0 HN.out hd0 hm0 HB.out (Wrs.old HY.out (HY.out.keep HSV9.out.ds.bel) HNE.out.2.2) (by omega) (by omega) (by omega) (by omega) (by have := HDN.out; omega)
        have HCH := Lib.hid hch
        have HVN := Lib.hid (And.intro us0 (And.intro vg vn))
        clear hch us0 sq0 vn vg vep
        by_cases hc : ChOk v l0
        · have hl := chOk_pos hc
          have hti : ¬ Tight v l0 := by unfold Tight; rw [HVN.out.1, HVN.out.2.1]; omega
          have hcm : chM m v l0 = putM m v l0 := by unfold chM; rw [if_pos hc, if_neg hti]
          have htr := HST.out.live.put_trace hc.1 HB.out HST.out.stops (by rw [HVN.out.1]; omega)
          rw [HT0.out, HN.out, ← hcm] at htr
          have HTR := Lib.hid htr
          have hd2 := chM_done m v l0
          have hbl : v.B.length = 7 := by rw [HST.out.live.tied.vok.len, HST.out.n_]
          have HD2 : Hid ((chM m v l0).done.length ≤ 100) := by have := HDN.out; unfold Hid; omega
          have HL2 : Hid (0 < (chM m v l0).now.length) := by
            have h1 := HST.out.live.put (l := l0) ⟨hc.1, HB.out⟩ (by rw [HVN.out.1]; omega) (by rw [HST.out.sq]; omega) (by unfold stopped; rw [← hcm, ns_ch, HST.out.stops]; rfl)
            rw [hcm]; exact h1.idle.fit.lt
          rw [if_pos hc] at HCH
          rw [decide_eq_true hc]
          clear hl hti hcm htr hd2 hbl hc
          generalize chM m v l0 = m2 at *
          generalize chV v l0 = v2 at *
          go_wp2_with fail
          refine HCH.out.mono ?_
          rintro e w10 ⟨rfl, hs10, _⟩
          have HS10 := Lib.hid hs10
          clear hs10 HCH HSV9
          go_wp2_with fail
          refine (HS10.out.ds.trace 0 HL2.out (by have := HD2.out; omega)).mono ?_
          rintro e w11 ⟨⟨v11, rfl, htx⟩, hb11⟩
          obtain ⟨vs, htv, _⟩ := htx
          obtain ⟨A11, c11, rfl, _, _⟩ := htv.val
          rw [HTR.out]
          have HF := Lib.hid (HS10.out.ds.bel.trans (hb11.mono HS10.out.ds.bel.size))
          clear htv hb11
          have e1 : IntKind.i64.wrap ((t0 : Int) + k) = ((t0 + k : Nat) : Int) := by rw [IntWalk.i64_in _ (by omega)]; omega
          have e2 : IntKind.i64.wrap (((t0 + k : Nat) : Int) + 1) = ((t0 + (1 + k) : Nat) : Int) := by rw [IntWalk.i64_in _ (by omega)]; omega
          generalize t0 + (1 + k) = t2 at *
          generalize t0 + k = t1 at *
          go_wp2
          go_ret
          exact ⟨rfl, HF.out⟩
        · rw [if_neg hc] at HCH
          rw [decide_eq_false hc]
          have hcm : chM m v l0 = m := if_neg hc
          have hcv : chV v l0 = v := if_neg hc
          rw [hcm, hcv] at HCH
          clear hc hcm hcv
          go_wp2_with fail
          refine HCH.out.mono ?_
          rintro e w10 ⟨rfl, hs10, hm10⟩
          have HS10 := Lib.hid hs10
          have HE10 := Lib.hid (fun (W' : World) (hb' : Below w10.heap.size w10 W') => kb hb' ((hm10.blk g3 ⟨Or.inl HS3.out.1, HNE.out.1, HNE.out.2.1⟩).trans (HE9.out w9 (brefl _))))
          clear hs10 hm10 HCH HSV9 HE9
          go_wp2_with fail
          go_loopw [12, 13, 14] (fun i p b wr => ∃ j : Nat, i = .int .i64 j ∧ 1 ≤ j ∧ j ≤ 7 ∧ Hid (Below w10.heap.size w10 wr)) (fun i _ _ _ => 7 - (intOf i).toNat)
          case atStart => exact ⟨1, rfl, by omega, by omega, brefl _⟩
          case round =>
            obtain ⟨j, rfl, hj1, hj2, HBR⟩ := hrel
            obtain ⟨w12, rfl⟩ : ∃ w12, w12 = wr := ⟨wr, rfl⟩
            have HS12 := Lib.hid (HS10.out.below HBR.out)
            have HE12 := Lib.hid (fun (W' : World) (hb' : Below w12.heap.size w12 W') => HE10.out W' (HBR.out.trans (hb'.mono HBR.out.size)))
            obtain ⟨z0, z1, z2, z3, z4⟩ := sh_cells (HE12.out w12 (brefl _))
            by_cases hlt : j < 7
            · have hji : (j : Int) < 7 := by omega
              have hget := vget_any HS12.out.at_ j (by constructor <;> omega)
              obtain ⟨g1, g2, g3'⟩ := HST.out.blk hj1 hlt
              rw [g1, g2, g3'] at hget
              have HGET := Lib.hid hget
              clear hget g1 g2 g3'
              go_wp2_with fail
              refine HGET.out.mono ?_
              rintro e w13 ⟨rfl, hb13⟩
              have HB13 := Lib.hid (HBR.out.trans (hb13.mono HBR.out.size))
              clear hb13
              go_upto_region 25 with (first | (refine wpList_allocB rfl rfl ?_) | (refine wpList_storeB rfl (.tmp 13) (.tmp 97) rfl w13.heap.size rfl 0 0 zBs zBs rfl zBs_len zBs_len (heap_alloc_new w13 _) ?_))
              have hb14 : Below w13.heap.size w13 ((w13.alloc (Obj.cells (blkA 0 zBs) 46)).setRow w13.heap.size (blkA 0 zBs)) := below_setRow ((Below.refl _ _).alloc (Nat.le_refl _) _) (Nat.le_refl _) _
              have e14 := setRow_blk (D := blkA 0 zBs) (heap_alloc_new w13 (Obj.cells (blkA 0 zBs) 46))
              have HB14 := Lib.hid (HB13.out.trans (hb14.mono HB13.out.size))
              have HE14 := Lib.hid e14
              clear hb14 e14
              generalize (w13.alloc (Obj.cells (blkA 0 zBs) 46)).setRow w13.heap.size (blkA 0 zBs) = w14 at *
              generalize w13.heap.size = g13 at *
              try simp only [Act.put]
              go_wp2_with (first
                | (refine wpList_loadB9 rfl (.tmp 13) rfl g13 rfl 0 zBs zBs_len HE14.out ?_)
                | (refine wpList_buildB9 rfl rfl ?_)
                | (refine wpList_neqS rfl (.tmp 102) (.tmp 103) _ rfl 0 zBs rfl rfl zBs_len zBs_allB ?_))
              go_roundw
              case rel => exact ⟨j + 1, by go_num, by omega, by omega, HB14.out⟩
              case measure => simp [intOf]; omega
            · obtain rfl : j = 7 := by omega
              have hji : ¬ ((7 : Nat) : Int) < 7 := by omega
              have HBF := Lib.hid HS12.out.ds.bel
              have HTN := HT0
              have HTR := Lib.hid (fun (W : World) (hJ : Below w12.heap.size w12 W) => (HS12.out.below hJ).ds.trace 0 HLT.out (by have := HDN.out; omega))
              have hrm : ∀ (W : World), Below w12.heap.size w12 W → Calls Try.prog 27 #[.pointer (some ⟨hp, 0, none⟩)] W fun e w' => e = .returned (.int .i64 21) ∧ Below W.heap.size W w' := fun W hJ => by
                have h1 := vroom_any (HS12.out.below hJ).at_ (by rw [HVN.out.1]; omega)
                rw [HVN.out.1, HVN.out.2.1] at h1
                exact h1
              have HRM := Lib.hid hrm
              obtain ⟨tn, htn⟩ : ∃ tn, tn = t0 := ⟨_, rfl⟩
              rw [← htn] at HTN ⊢
              clear hrm htn
              go_upto_region 27 with fail
              refine wp_region_rgk (VWw q hp g3 tn) (fun _ W => Below w12.heap.size w12 W) (fun _ w w' => Below w.heap.size w w') (by kernel_rfl) (by kernel_rfl) (fun i j v w w' _ _ h hs => by unfold VWw at *; exact h) ((Below.refl _ _).drew) ?_
              simp only [RAll]
              refine ⟨?_, ?_, ?_, ?_, ?_, ?_, ?_, ?_, ?_, ?_, ?_, ?_, ?_, ?_, ?_, ?_, ?_⟩
              · refine RStepK.of rfl fun T W L hag hL hJ hLs hd => ?_   -- 0: 106 := Op.move (Operand.tmp 11)
                have e11 : T.getD 11 undef = _ := (agree_at hag 11 (by kernel_rfl)).trans rfl
                clear hag hd
                go_simp
                first | exact ⟨_, rfl, rfl⟩ | exact ⟨_, rfl, rfl, brefl _⟩ | exact ⟨_, rfl, rfl, hJ, brefl _⟩
              · refine RStepK.of rfl fun T W L hag hL hJ hLs hd => ?_   -- 1: 107 := Op.binOp BinOp.eql 39 (Operand.tmp 106) (Operand.const (Valu
                have d106 : T.getD 106 undef = _ := hd ⟨0, .data⟩ (by simp) rfl _ rfl
                clear hag hd
                go_simp
                first | exact ⟨_, rfl, rfl⟩ | exact ⟨_, rfl, rfl, brefl _⟩ | exact ⟨_, rfl, rfl, hJ, brefl _⟩
              · refine RStepK.of rfl fun T W L hag hL hJ hLs hd => ?_   -- 2: 108 := Op.move (Operand.tmp 107)
                have d107 : T.getD 107 undef = _ := hd ⟨1, .data⟩ (by simp) rfl _ rfl
                clear hag hd
                go_simp
                first | exact ⟨_, rfl, rfl⟩ | exact ⟨_, rfl, rfl, brefl _⟩ | exact ⟨_, rfl, rfl, hJ, brefl _⟩
              · refine RStepK.want rfl rfl rfl (by kernel_rfl) (fun v w h => h) fun T W L hag hL hJ hLs hd => ?_   -- 3: 109 := Op.move (Operand.tmp 4)
                have e4 : T.getD 4 undef = _ := (agree_at hag 4 (by kernel_rfl)).trans rfl
                clear hag hd
                go_simp
                first | exact ⟨_, rfl, rfl⟩ | exact ⟨_, rfl, rfl, brefl _⟩ | exact ⟨_, rfl, rfl, hJ, brefl _⟩
              · refine RStepK.want rfl rfl rfl (by kernel_rfl) (fun v w h => h) fun T W L hag hL hJ hLs hd => ?_   -- 4: 110 := Op.call { callee := Callee.value (Operand.func 25), args := 
                have d109 : T.getD 109 undef = _ := hd ⟨3, .data⟩ (by simp) rfl _ rfl
                clear hag hd
                go_simp
                refine (HTR.out W hJ).mono ?_
                rintro e w' ⟨⟨v9, rfl, htx⟩, hb⟩
                obtain ⟨vs, h1, _⟩ := htx
                obtain ⟨A, c, rfl, _, _⟩ := h1.val
                rw [HTN.out]
                exact ⟨_, rfl, ⟨A, c, rfl⟩, keepB hJ hb, hb⟩
              · refine RStepK.want rfl rfl rfl (by kernel_rfl) (fun v w h => h) fun T W L hag hL hJ hLs hd => ?_   -- 5: 111 := Op.call { callee := Callee.builtin Builtin.len, args := #[Op
                have x110 := hd ⟨4, .data⟩ (by simp) rfl _ rfl
                obtain ⟨A, c, (hs : T.getD 110 undef = _)⟩ := x110
                clear hag hd
                go_simp
                first | exact ⟨_, rfl, rfl⟩ | exact ⟨_, rfl, rfl, brefl _⟩ | exact ⟨_, rfl, rfl, hJ, brefl _⟩
              · refine RStepK.want rfl rfl rfl (by kernel_rfl) (fun v w h => h) fun T W L hag hL hJ hLs hd => ?_   -- 6: 112 := Op.move (Operand.tmp 10)
                have e10 : T.getD 10 undef = _ := (agree_at hag 10 (by kernel_rfl)).trans rfl
                clear hag hd
                go_simp
                first | exact ⟨_, rfl, rfl⟩ | exact ⟨_, rfl, rfl, brefl _⟩ | exact ⟨_, rfl, rfl, hJ, brefl _⟩
              · refine RStepK.want rfl rfl rfl (by kernel_rfl) (fun v w h => h) fun T W L hag hL hJ hLs hd => ?_   -- 7: 113 := Op.binOp BinOp.eql 3 (Operand.tmp 111) (Operand.tmp 112) 3
                have d111 : T.getD 111 undef = _ := hd ⟨5, .data⟩ (by simp) rfl _ rfl
                have d112 : T.getD 112 undef = _ := hd ⟨6, .data⟩ (by simp) rfl _ rfl
                clear hag hd
                go_simp
                first | exact ⟨_, rfl, rfl⟩ | exact ⟨_, rfl, rfl, brefl _⟩ | exact ⟨_, rfl, rfl, hJ, brefl _⟩
              · refine RStepK.of rfl fun T W L hag hL hJ hLs hd => ?_   -- 8: 114 := Op.pick (Operand.tmp 108) (Operand.tmp 113) (Operand.const (
                have d108 : T.getD 108 undef = _ := hd ⟨2, .data⟩ (by simp) rfl _ rfl
                have d113 : T.getD 113 undef = _ := hd ⟨7, .data⟩ (by simp) rfl _ rfl
                clear hag hd
                go_simp
                first | exact ⟨_, rfl, rfl⟩ | exact ⟨_, rfl, rfl, brefl _⟩ | exact ⟨_, rfl, rfl, hJ, brefl _⟩
              · refine RStepK.of rfl fun T W L hag hL hJ hLs hd => ?_   -- 9: 115 := Op.move (Operand.tmp 114)
                have d114 : T.getD 114 undef = _ := hd ⟨8, .data⟩ (by simp) rfl _ rfl
                clear hag hd
                go_simp
                first | exact ⟨_, rfl, rfl⟩ | exact ⟨_, rfl, rfl, brefl _⟩ | exact ⟨_, rfl, rfl, hJ, brefl _⟩
              · refine RStepK.want rfl rfl rfl (by kernel_rfl) (fun v w h => h) fun T W L hag hL hJ hLs hd => ?_   -- 10: 116 := Op.move (Operand.tmp 6)
                have e6 : T.getD 6 undef = _ := (agree_at hag 6 (by kernel_rfl)).trans rfl
                clear hag hd
                go_simp
                first | exact ⟨_, rfl, rfl⟩ | exact ⟨_, rfl, rfl, brefl _⟩ | exact ⟨_, rfl, rfl, hJ, brefl _⟩
              · refine RStepK.want rfl rfl rfl (by kernel_rfl) (fun v w h => h) fun T W L hag hL hJ hLs hd => ?_   -- 11: 117 := Op.call { callee := Callee.value (Operand.func 27), args := 
                have d116 : T.getD 116 undef = _ := hd ⟨10, .data⟩ (by simp) rfl _ rfl
                clear hag hd
                go_simp
                refine (HRM.out W hJ).mono ?_
                rintro e w' ⟨rfl, hb⟩
                exact ⟨_, rfl, rfl, keepB hJ hb, hb⟩
              · refine RStepK.want rfl rfl rfl (by kernel_rfl) (fun v w h => h) fun T W L hag hL hJ hLs hd => ?_   -- 12: 118 := Op.fieldAddr 30 (Operand.tmp 3) 2
                have e3 : T.getD 3 undef = _ := (agree_at hag 3 (by kernel_rfl)).trans rfl
                clear hag hd
                go_simp
                first | exact ⟨_, rfl, rfl⟩ | exact ⟨_, rfl, rfl, brefl _⟩ | exact ⟨_, rfl, rfl, hJ, brefl _⟩
              · refine RStepK.want rfl rfl rfl (by kernel_rfl) (fun v w h => h) fun T W L hag hL hJ hLs hd => ?_   -- 13: 119 := Op.load 3 (Operand.tmp 118)
                have d118 : T.getD 118 undef = _ := hd ⟨12, .data⟩ (by simp) rfl _ rfl
                obtain ⟨z0, z1, z2, z3, z4⟩ := sh_cells (HE12.out W hJ)
                clear hag hd
                go_simp
                first | exact ⟨_, rfl, rfl⟩ | exact ⟨_, rfl, rfl, brefl _⟩ | exact ⟨_, rfl, rfl, hJ, brefl _⟩
              · refine RStepK.want rfl rfl rfl (by kernel_rfl) (fun v w h => h) fun T W L hag hL hJ hLs hd => ?_   -- 14: 120 := Op.binOp BinOp.eql 3 (Operand.tmp 117) (Operand.tmp 119) 3
                have d117 : T.getD 117 undef = _ := hd ⟨11, .data⟩ (by simp) rfl _ rfl
                have d119 : T.getD 119 undef = _ := hd ⟨13, .data⟩ (by simp) rfl _ rfl
                clear hag hd
                go_simp
                first | exact ⟨_, rfl, rfl⟩ | exact ⟨_, rfl, rfl, brefl _⟩ | exact ⟨_, rfl, rfl, hJ, brefl _⟩
              · refine RStepK.of rfl fun T W L hag hL hJ hLs hd => ?_   -- 15: 121 := Op.pick (Operand.tmp 115) (Operand.tmp 120) (Operand.const (
                have d115 : T.getD 115 undef = _ := hd ⟨9, .data⟩ (by simp) rfl _ rfl
                have d120 : T.getD 120 undef = _ := hd ⟨14, .data⟩ (by simp) rfl _ rfl
                clear hag hd
                go_simp
                first | exact ⟨_, rfl, rfl⟩ | exact ⟨_, rfl, rfl, brefl _⟩ | exact ⟨_, rfl, rfl, hJ, brefl _⟩
              · refine RLastK.of rfl fun T W L hag hLs hL hJ hd => ?_   -- 16: 2 := Op.assign (Operand.tmp 121)
                have d121 : T.getD 121 undef = _ := hd 15 _ (by simp) rfl
                obtain ⟨f, hf, hT⟩ := agree_fn hag
                have d106 : T.getD 106 undef = _ := hd 0 _ (by simp) rfl
                have h106 := (hf 106).trans d106
                have d107 : T.getD 107 undef = _ := hd 1 _ (by simp) rfl
                have h107 := (hf 107).trans d107
                have d108 : T.getD 108 undef = _ := hd 2 _ (by simp) rfl
                have h108 := (hf 108).trans d108
                have d109 : T.getD 109 undef = _ := hd 3 _ (by simp) rfl
                have h109 := (hf 109).trans d109
                have d111 : T.getD 111 undef = _ := hd 5 _ (by simp) rfl
                have h111 := (hf 111).trans d111
                have d112 : T.getD 112 undef = _ := hd 6 _ (by simp) rfl
                have h112 := (hf 112).trans d112
                have d113 : T.getD 113 undef = _ := hd 7 _ (by simp) rfl
                have h113 := (hf 113).trans d113
                have d114 : T.getD 114 undef = _ := hd 8 _ (by simp) rfl
                have h114 := (hf 114).trans d114
                have d115 : T.getD 115 undef = _ := hd 9 _ (by simp) rfl
                have h115 := (hf 115).trans d115
                have d116 : T.getD 116 undef = _ := hd 10 _ (by simp) rfl
                have h116 := (hf 116).trans d116
                have d117 : T.getD 117 undef = _ := hd 11 _ (by simp) rfl
                have h117 := (hf 117).trans d117
                have d118 : T.getD 118 undef = _ := hd 12 _ (by simp) rfl
                have h118 := (hf 118).trans d118
                have d119 : T.getD 119 undef = _ := hd 13 _ (by simp) rfl
                have h119 := (hf 119).trans d119
                have d120 : T.getD 120 undef = _ := hd 14 _ (by simp) rfl
                have h120 := (hf 120).trans d120
                have h121 := (hf 121).trans d121
                have HJ := Lib.hid hJ
                clear hag hd d106 d107 d108 d109 d111 d112 d113 d114 d115 d116 d117 d118 d119 d120 d121 hJ hf
                rw [hT]
                clear hT
                simp only [List.pop_toArray, List.dropLast_cons_cons, List.dropLast_singleton, List.filterMap_cons, List.filterMap_nil, List.foldl_cons, List.foldl_nil, List.setIfInBounds_toArray, List.set_cons_succ, List.set_cons_zero, h106, h107, h108, h109, h111, h112, h113, h114, h115, h116, h117, h118, h119, h120, h121]
                go_wp2
                go_ret
                exact ⟨rfl, HBF.out.trans (HJ.out.mono HBF.out.size)⟩
  · have h16i : (16 : Int) < n := by omega
    go_wp2
    go_ret
    exact ⟨rfl, HB0.out⟩

set_option maxRecDepth 100000 in
theorem lifted (os : Os) (started : os.Started) (H : Type) (enc : TypeId × Value → H) :
    ReturnsInHanded {} Try.checked os 8 .any (Rows.volWrongSpec.pre6 enc Try.prog Try.f8 Rows.volWrongRow.domain false) (Rows.volWrongSpec.post enc Try.prog Try.f8 false true false false) := by
  refine returnsInHanded_of_change (C := Try.checked) own started (by kernel_rfl) Try.func8
    (ChangeSpec.witness6 (enc := enc) (C := Try.checked) false ⟨#[], #[.slice none 0 0], []⟩ 8 (by kernel_rfl) (by kernel_rfl) (by kernel_rfl) (by kernel_rfl)) ?_
  intro W base args ds gs before hval0 hW hcnd _
  have hval : ∀ (j : Nat) t v, Try.f8.params[j]? = some t → args[j]? = some v → Value.okWide Try.prog W .any base t v := hval0
  have hW' := hW
  obtain ⟨p, q, hA0, hV, rfl, hfz, hnd⟩ := hW
  have hA : DataW.TrodAll enc Try.prog W 0 (fun _ => true) true Try.f8.params.toList args.toList ds p := hA0
  rw [Try.params8] at hA hval
  obtain ⟨v0, vs0, d0, ds0, p0, q0, hargs, rfl, rfl, h0, r0⟩ := trodAll_cons hA
  obtain ⟨rfl, rfl, rfl⟩ := trodAll_nil r0
  obtain rfl : args = #[v0] := by cases args; simp_all
  obtain ⟨rfl, rfl⟩ := trodVars_none hV
  obtain ⟨a0, len0, cap0, rfl⟩ := okWide_slice Try.underlying50 (hval 0 50 v0 rfl rfl)
  clear hA0 hval0
  simp only [List.append_nil] at hW'
  have hlt0 : ∀ y ∈ p0, y.block < W.heap.size := fun y hy => by simpa using hW'.lt y (by simp [hy])
  have harg0 : ∀ W' : World, Below W.heap.size W W' → DataW.Trod enc Try.prog W' 0 (fun b => decide (b < W.heap.size)) true 50 (.slice a0 len0 cap0) d0 p0 :=
    fun W' hn => Below.trod laidOut (by kernel_rfl) (of_decide_eq_true (by kernel_rfl)) h0 hn (fun y hy => hlt0 y hy)
  obtain ⟨fu0, hf0⟩ := h0
  obtain ⟨A0, l0, c0, e0, hd0, hm0, hy0, hB0⟩ := open_wrs hf0
  simp [Value.cells] at e0
  obtain ⟨rfl, rfl, rfl⟩ := e0
  refine (walk a0 l0 cap0 W hd0 hm0 hB0 hy0).mono fun e W' ⟨he, bel⟩ => ?_
  subst he
  exact ⟨_, rfl, _, _, _, [], _, [], hW', (trodAll_cons_mk (shut_bool Try.underlying4 _) trodAll_mk0), (trodAll_cons_mk (harg0 _ bel) trodAll_mk0), rfl, bel.frame _, fun h => by cases h⟩

theorem over : Rows.volWrongRow.holds Try.pinned (OpenSpec.ofChange Rows.volWrongSpec) :=
  OpenClaim.holds_of_wide 8 Try.f8 rfl rfl rfl rfl rfl rfl rfl ⟨rfl, rfl, rfl, rfl, rfl⟩ rfl rfl rfl rfl rfl (by kernel_rfl) Try.func8 (by kernel_rfl)
    (of_decide_eq_true (by kernel_rfl)) (by unfold Func.isWrapper; first | (rw [if_pos (by decide +kernel)]; kernel_rfl) | (rw [if_neg (by decide +kernel)]; exact ⟨rfl, rfl⟩))
    (fun os started H enc _ => lifted os started H enc)

theorem proved : Rows.VolWrongSaid :=
  over
#print axioms proved
end Go.Proofs.Ytamnpblijdgdaaa.volWrong
