/- Contract: conf.Below, the walk. -/
import Derived.Test.YtlmbkfdpgmmacaaC9
namespace Go.Proofs.Ytlmbkfdpgmmacaa
open Go.ChangeShapes Go.WideShapes Go.ChangeAt Go.RowKit
open Go.Sort (swp insInner insOuter insertionSort)
set_option linter.unusedVariables false
theorem own_lit' {W : World} {b t : Nat} {l : List Value} {n : Nat} (hb : b ≤ W.heap.size) (hn : l.length = n) (hn2 : n ≤ 1000) (cs : Array Value) (hc : cs.toList = l) : (W.alloc (.cells cs t)).ownsRow b t 1 (.slice (some ⟨W.heap.size, 0, none⟩) n n) n l := by
  have hs : cs.size = n := by rw [← Array.length_toList, hc]; exact hn
  refine ⟨by omega, .inr ⟨W.heap.size, n, cs, rfl, hb, heap_alloc_new W _, Nat.le_refl _, by simp only [maxLen]; omega, by omega, ?_⟩⟩
  rw [← hc]; exact List.take_of_length_le (by simp; omega)
/-- Nothing is told. -/
theorem below_none (A : Option Addr) (cs : List Sh) (d : Nat) (me : Int) (w : World) (hx : cs.length ≤ 1000000) (hd : cs.length ≤ d) (hd2 : d ≤ 9223372036854775807) (ho : ShsOk cs) (ha : Conf w A cs) (hn : ¬ (mayConfV cs = true ∧ 0 ≤ me ∧ me < cs.length)) :
    Calls Try.prog 11 #[.slice A cs.length d, .int .i64 me] w fun e w' => e = .returned (.slice none 0 0) ∧ Below w.heap.size w w' := by
  have HM := Lib.hid (fun w ha => may_conf A cs d w hx hd hd2 ho ha)
  have HA := Lib.hid (ha.keep ((Below.refl w.heap.size w).alloc (Nat.le_refl _) (Obj.cells #[.slice A cs.length d] 23)))
  have HN := Lib.hid hn
  clear ha hn
  generalize cs.length = n at *
  go_enter Try.func11, Try.ntmps11
  go_wp2_with fail
  refine (HM.out _ HA.out).mono ?_
  rintro e W ⟨rfl, hb⟩
  have z0 := keep hb (b := w.heap.size) (o := 0) (v := .slice A n d) (by simp [go_sem])
  have hB : Below w.heap.size w W := ((Below.refl w.heap.size w).alloc (Nat.le_refl _) _).trans (hb.mono (by simp))
  clear hb
  generalize hm : mayConfV cs = mv at *
  have HMV := Lib.hid hm
  clear hm
  cases mv
  · go_wp2_with fail
    go_ret
    exact ⟨rfl, hB⟩
  · have h2 : ¬ (0 ≤ me ∧ me < (n : Int)) := fun h => HN.out ⟨rfl, h⟩
    clear HN
    by_cases h0 : 0 ≤ me
    · have h1 : (n : Int) ≤ me := by omega
      clear h2
      go_wp2_with fail
      go_ret
      exact ⟨rfl, hB⟩
    · clear h2
      go_wp2_with fail
      go_ret
      exact ⟨rfl, hB⟩
theorem take_sorted {C0 C : Array Value} {o m : Nat} {x : Int} {l : List Int} {d : Array Int} (h0 : C0.toList.take (1 + m) = Is (x :: l)) (hl : l.length = m) (h : RowC C0 C o d) (hd : d.size = m) (ho : o = 1 ∨ (o = 0 ∧ m = 0)) (hs : 1 + m ≤ C0.size) :
    C.toList.take (1 + m) = Is (x :: d.toList) := by
  apply List.ext_getElem?
  intro i
  by_cases hi : i < 1 + m
  · rw [List.getElem?_take_of_lt hi]
    rw [Array.getElem?_toList]
    cases i with
    | zero =>
      rw [h.else_ 0 (by omega), ← Array.getElem?_toList, ← List.getElem?_take_of_lt hi, h0]; rfl
    | succ j =>
      have e1 : o = 1 := by omega
      rw [show j + 1 = o + j by omega, h.here j (by omega)]
      have e2 : o + j = j + 1 := by omega
      rw [e2]
      unfold Is
      rw [List.map_cons, List.getElem?_cons_succ, List.getElem?_map, Array.getElem?_toList, getElem!_pos d j (by omega), Array.getElem?_eq_getElem (by omega)]
      rfl
  · rw [List.getElem?_eq_none (by rw [List.length_take, Array.length_toList]; omega), List.getElem?_eq_none (by unfold Is; simp; omega)]
theorem row_first {C0 : Array Value} {o m : Nat} {x : Int} {l : List Int} (h0 : C0.toList.take (1 + m) = Is (x :: l)) (hl : l.length = m) (ho : o = 1 ∨ (o = 0 ∧ m = 0)) (hs : 1 + m ≤ C0.size) : RowC C0 C0 o l.toArray := by
  refine ⟨rfl, by simp; omega, fun i hi => ?_, fun _ _ => rfl⟩
  have hi' : i < m := by simpa [hl] using hi
  have e1 : o = 1 := by omega
  subst e1
  rw [← Array.getElem?_toList, ← List.getElem?_take_of_lt (show 1 + i < 1 + m by omega), h0, show 1 + i = i + 1 by omega]
  unfold Is
  rw [List.map_cons, List.getElem?_cons_succ, List.getElem?_map, getElem!_pos l.toArray i hi, List.getElem_toArray, List.getElem?_eq_getElem (by omega)]
  rfl
theorem conf_far {W0 W W' : World} {A : Option Addr} {cs : List Sh} {g : Nat} (h : Conf W0 A cs) (hb : Below W0.heap.size W0 W) (hg : W.grownBy W' (some g)) (hlt : W0.heap.size ≤ g) : Conf W' A cs := fun i s hi => by
  obtain ⟨a, e, hs⟩ := h i s hi
  have k : ∀ {q : Addr} {v : Value}, W0.cell? q = some v → W'.cell? q = some v := fun {q v} hq => by
    have := World.block_lt_of_cell? W0 q hq
    exact hg.cell (keepC hb hq) (fun e => by injection e; omega)
  exact ⟨a, e, ⟨k hs.c0, k hs.c1, k hs.c2, k hs.c3, k hs.c4⟩⟩
set_option maxRecDepth 100000 in
set_option maxHeartbeats 3200000 in
theorem below_some (A : Option Addr) (cs : List Sh) (d : Nat) (me : Nat) (w : World) (hd : cs.length ≤ d) (hd2 : d ≤ 9223372036854775807) (ho : ShsOk cs) (ha : Conf w A cs) (hm : mayConfV cs = true) (hme : me < cs.length) :
    Calls Try.prog 11 #[.slice A cs.length d, .int .i64 me] w fun e w' => ∃ v l, e = .returned v ∧ BelowR cs me l ∧ w'.ownsRow w.heap.size 3 1 v l.length (Is l) ∧ Below w.heap.size w w' := by
  have hlen := may_len hm
  have HM := Lib.hid (fun w ha => may_conf A cs d w (by omega) hd hd2 ho ha)
  have HA := Lib.hid (ha.keep ((Below.refl w.heap.size w).alloc (Nat.le_refl _) (Obj.cells #[.slice A cs.length d] 23)))
  have HMV := Lib.hid hm
  have HSL := Lib.hid (selTo_len cs me)
  obtain ⟨a, sme, rfl, hsme, hame⟩ := ha.at_ (k := me) hme
  have hme0 := hame.c0
  have hme1 := hame.c1
  have hosme := ho sme (List.mem_of_getElem? hsme.out)
  obtain ⟨i0, hi, hz0, hz1, hz2⟩ := info_parts info3
  have HI := Lib.hid (And.intro hi (And.intro hz0 (And.intro hz1 hz2)))
  clear hi hz0 hz1 hz2 hame ha hm
  generalize hn : cs.length = n at *
  have HN := Lib.hid hn
  clear hn
  go_enter Try.func11, Try.ntmps11
  go_wp2_with fail
  refine (HM.out _ HA.out).mono ?_
  rintro e W ⟨rfl, hb⟩
  rw [HMV.out]
  have z0 := keep hb (b := w.heap.size) (o := 0) (v := .slice (some a) n d) (by simp [go_sem])
  have hB : Below (w.alloc (Obj.cells #[.slice (some a) n d] 23)).heap.size (w.alloc (Obj.cells #[.slice (some a) n d] 23)) W := hb
  have HB0 : Hid (Below w.heap.size w (w.alloc (Obj.cells #[.slice (some a) n d] 23))) := (Below.refl w.heap.size w).alloc (Nat.le_refl _) _
  have hbx := keepA hme0 (Obj.cells #[.slice (some a) n d] 23)
  have hby := keepA hme1 (Obj.cells #[.slice (some a) n d] 23)
  have hZ : (w.alloc (Obj.cells #[.slice (some a) n d] 23)).cell? ⟨w.heap.size, 0, none⟩ = some (.slice (some a) n d) := by simp [go_sem]
  have hSZ : Hid (w.heap.size + 1 = (w.alloc (Obj.cells #[.slice (some a) n d] 23)).heap.size) := by unfold Hid; simp
  clear hb HM hme0 hme1
  generalize w.alloc (Obj.cells #[.slice (some a) n d] 23) = W0 at *
  have HZ := Lib.hid hZ
  have HX0 := Lib.hid hbx
  have HX1 := Lib.hid hby
  clear hZ hbx hby
  have z1 := keepA z0 (Obj.cells #[.int .i64 (me : Int)] 3)
  have d1 : decide ((me : Int) < 0) = false := decide_eq_false (by omega)
  have d2 : decide (n ≤ me) = false := decide_eq_false (by omega)
  have own0 := own_lit' (W := W) (b := W0.heap.size) (t := 3) (l := Is ((me : Int) :: selTo cs me 0)) (n := 1) hB.size rfl (by omega) #[.int .i64 (me : Int)] rfl
  have hB1 : Below W0.heap.size W0 (W.alloc (Obj.cells #[.int .i64 (me : Int)] 3)) := hB.alloc hB.size _
  clear hB
  go_wp2_with fail
  clear z0 z1 d1 d2
  go_loopw [5, 25] (fun v i wr => ∃ k : Nat, k ≤ n ∧ i = .int .i64 k ∧ wr.ownsRow W0.heap.size 3 1 v (1 + (selTo cs me k).length) (Is ((me : Int) :: selTo cs me k)) ∧ Below W0.heap.size W0 wr) (fun _ i _ => n - (intOf i).toNat)
  case atStart => exact ⟨0, Nat.zero_le _, rfl, own0, hB1⟩
  case round =>
    obtain ⟨k, hk, rfl, own, hB⟩ := hrel
    by_cases hlt : k < n
    · obtain ⟨a', x, ha', hsx, hsa⟩ := (HA.out.keep hB).at_ (k := k) (by rw [HN.out]; exact hlt)
      injection ha' with ha'
      subst ha'
      have g0 := hsa.c0
      have g1 := hsa.c1
      have g2 := hsa.c2
      have g3 := hsa.c3
      have g4 := hsa.c4
      have hox := ho x (List.mem_of_getElem? hsx.out)
      have HOWN := Lib.hid own
      clear hsa own
      have zb : wr.cell? ⟨w.heap.size, 0, none⟩ = some (.slice (some a) n d) := keepC hB HZ.out
      have HAB := Lib.hid (fun w => above_all sme.l sme.c x.l x.c w hosme.1 hosme.2 hox.1 hox.2)
      have HSE : Hid (sees cs me k = aboveV sme.l sme.c x.l x.c) := by
        unfold Hid sees
        rw [(lab_some (x := (me : Int)) hsme.out).1, (lab_some (x := (me : Int)) hsme.out).2, (lab_some (x := (k : Int)) hsx.out).1, (lab_some (x := (k : Int)) hsx.out).2]
      clear hox
      go_wp2_with fail
      obtain ⟨W2, hW⟩ : ∃ W2, W2 = wr.alloc (Obj.cells #[.int .i64 x.l, .int .i64 x.c, .int .i64 x.b, .int .i64 x.g, .int .i64 x.f] 47) := ⟨_, rfl⟩
      rw [← hW]
      have hBW : Below W0.heap.size W0 W2 := by rw [hW]; exact hB.alloc hB.size _
      have y0 : W2.cell? ⟨wr.heap.size, 0, none⟩ = some (.int .i64 x.l) := by rw [hW]; simp [go_sem]
      have y1 : W2.cell? ⟨wr.heap.size, 1, none⟩ = some (.int .i64 x.c) := by rw [hW]; simp [go_sem]
      have HOW : Hid (W2.ownsRow W0.heap.size 3 1 u5 (1 + (selTo cs me k).length) (Is ((me : Int) :: selTo cs me k))) := by rw [hW]; exact HOWN.out.alloc _
      clear hW g0 g1 g2 g3 g4 zb
      generalize wr.heap.size = r at *
      have k0 : ∀ g : Later W2, g.w.cell? _ = _ := fun g => keepC g.below (keepC hBW HZ.out)
      have k1 : ∀ g : Later W2, g.w.cell? _ = _ := fun g => keepC g.below (keepC hBW HX0.out)
      have k2 : ∀ g : Later W2, g.w.cell? _ = _ := fun g => keepC g.below (keepC hBW HX1.out)
      have k3 : ∀ g : Later W2, g.w.cell? _ = _ := fun g => keepC g.below y0
      have k4 : ∀ g : Later W2, g.w.cell? _ = _ := fun g => keepC g.below y1
      clear y0 y1
      by_cases hkm : k = me
      · have hneq : ((k : Int) != (me : Int)) = false := by simp [hkm]
        have HKM := Lib.hid hkm
        clear hkm
        refine wp_region_later (by kernel_rfl) (by kernel_rfl) ?_
        repeat (first | go_big_quiet_step (fail) | (refine BigFrame.wpQuiet_skip (by rfl) ?_; simp only [Act.put, List.setIfInBounds_toArray, List.set_cons_zero, List.set_cons_succ]))
        refine wpQuiet_nil ?_
        intro _ hw'
        obtain ⟨nq, hw''⟩ := hw'
        subst hw''
        have HOW2 := Lib.hid (ownB HOW.out nq.below)
        replace hBW := keepB hBW nq.below
        clear k0 k1 k2 k3 k4
        generalize Later.w nq = V at *
        clear nq
        go_wp2_with fail
        go_roundw
        case rel => exact ⟨k + 1, by omega, by go_num, by rw [selTo_me HKM.out]; exact HOW2.out, hBW⟩
        case measure => simp [intOf]; omega
      · have hneq : ((k : Int) != (me : Int)) = true := by simp; omega
        have HKM := Lib.hid hkm
        clear hkm
        cases hsee : aboveV sme.l sme.c x.l x.c
        all_goals
          have HS := Lib.hid hsee
          clear hsee
          refine wp_region_later (by kernel_rfl) (by kernel_rfl) ?_
          repeat (first | go_big_quiet_step ((go_at_call 25; exact quiet_laterB (HAB.out _) HS.out)) | (refine BigFrame.wpQuiet_skip (by rfl) ?_; simp only [Act.put, List.setIfInBounds_toArray, List.set_cons_zero, List.set_cons_succ]))
          refine wpQuiet_nil ?_
          intro _ hw'
          obtain ⟨nq, hw''⟩ := hw'
          subst hw''
          have HOW2 := Lib.hid (ownB HOW.out nq.below)
          replace hBW := keepB hBW nq.below
          clear k0 k1 k2 k3 k4
          generalize Later.w nq = V at *
          clear nq
        · go_wp2_with fail
          go_roundw
          case rel => exact ⟨k + 1, by omega, by go_num, by rw [selTo_no HKM.out (HSE.out.trans HS.out)]; exact HOW2.out, hBW⟩
          case measure => simp [intOf]; omega
        · have hsl : (selTo cs me k).length ≤ 8 := by have := HSL.out k; omega
          go_wp2_with (at_builtin; refine wpList_append_own _ rfl (.tmp 43) (.tmp 45) 30 rfl W0.heap.size 3 i0 (.int .i64 0) 1 8 Try.underlying30 HI.out.1 HI.out.2.1 HI.out.2.2.1 HI.out.2.2.2 rfl (by decide) _ _ _ rfl (HOW2.out.alloc _) ⟨V.heap.size, 0, none⟩ 1 1 (Is [(k : Int)]) rfl rfl (cell_one_new _ _ _) (Is_one _) (by simp only [maxLen]; omega) (by omega) ((hBW.alloc hBW.size _).size) ?_; intro v4 w4 hown4 hg4 _; have hB5 := grownB (hBW.alloc hBW.size _) (HOW2.out.alloc _) hg4; have HO := Lib.hid hown4; clear hown4 hg4)
          go_roundw
          case rel => exact ⟨k + 1, by omega, by go_num, by rw [selTo_yes HKM.out (HSE.out.trans HS.out), List.length_append]; have h := HO.out; rw [show Is ((me : Int) :: selTo cs me k) ++ Is [(k : Int)] = Is ((me : Int) :: (selTo cs me k ++ [(k : Int)])) by unfold Is; simp] at h; exact h, hB5⟩
          case measure => simp [intOf]; omega
    · obtain rfl : k = n := by omega
      have hsl := HSL.out k
      rw [if_pos hme] at hsl
      generalize hm2 : (selTo cs me k).length = m at *
      have HM2 := Lib.hid hm2
      clear hm2
      rcases own.2 with ⟨_, h0⟩ | ⟨g, cap, C0, hv, hbg, hg, hnc, hcm, hcs, htk⟩
      · omega
      subst hv
      have HW : Hid (W0.heap.size ≤ g) := hbg
      have hcapx : ∀ W', wr.grownBy W' (some g) → Cap W' ⟨w.heap.size, 0, none⟩ (some a) cs d := fun W' hW' =>
        ⟨by
          rw [HN.out]
          refine hW'.cell (keepC hB HZ.out) (fun e => ?_)
          injection e with e
          have := hSZ.out
          have h2 : w.heap.size = g := e
          omega, conf_far HA.out hB hW' hbg⟩
      have hls : (selTo cs me cs.length).length = m := by rw [HN.out]; exact HM2.out
      have hvals : Vals cs (selTo cs me cs.length).toArray := fun i hi => by
        rw [getElem!_pos _ i hi]
        have := selTo_mem (cs := cs) (me := me) (k := cs.length) (x := (selTo cs me cs.length).toArray[i]) (by simp)
        exact ⟨this.1, this.2.1⟩
      have hfit : 1 + m ≤ C0.size := by rw [hcs]; omega
      have htk' : C0.toList.take (1 + m) = Is ((me : Int) :: selTo cs me cs.length) := by rw [HN.out, ← htk]; simp
      have HSF : Hid (∀ o, (o = 1 ∨ (o = 0 ∧ m = 0)) → ∀ c, m ≤ c → Calls Try.prog 26 #[.slice (some ⟨g, o, none⟩) m c, .func (.func 27) #[] #[.pointer (some ⟨w.heap.size, 0, none⟩)]] wr fun e w' => e = .returned (.tuple #[]) ∧ ∃ l C, BelowR cs me ((me : Int) :: l) ∧ l.length = m ∧ w'.heap[g]? = some (.cells C 3 (0, 0)) ∧ C.size = C0.size ∧ C.toList.take (1 + m) = Is ((me : Int) :: l) ∧ wr.grownBy w' (some g)) := fun o hoo c hc => by
        have hrow := row_first htk' hls hoo hfit
        refine (sortFunc_any cs (some a) d ⟨w.heap.size, 0, none⟩ HMV.out ho g o m c C0 (selTo cs me cs.length).toArray wr hc (by omega) ⟨by simpa using hls, hg, hrow, World.grownBy.refl wr _⟩ hvals hcapx).mono ?_
        rintro e w' ⟨rfl, C, hI⟩
        have hR := sorted_R HMV.out me (selTo cs me cs.length).toArray rfl
        have hsz : (selTo cs me cs.length).toArray.size = m := by simpa using hls
        rw [hsz] at hR
        refine ⟨rfl, _, C, hR, by rw [Array.length_toList]; exact hI.sz, hI.blk, hI.row.size, take_sorted htk' hls hI.row hI.sz hoo hfit, hI.gr⟩
      have HCS := Lib.hid hcs
      have HB := Lib.hid hB
      have HBG : Hid (w.heap.size ≤ g) := by have := hSZ.out; unfold Hid; omega
      have HB1 : Hid (∀ w', wr.grownBy w' (some g) → Below w.heap.size w w') := fun w' hw' => by
        have h1 : Below w.heap.size w wr := keepB HB0.out HB.out
        exact h1.grown hw' h1.size (fun k hk => by injection hk with hk; rw [← hk]; exact HBG.out)
      clear hg htk hcs hcapx hls hvals hfit htk' HSL HA own
      by_cases hcap1 : cap = 1
      · subst hcap1
        obtain rfl : m = 0 := by omega
        go_wp2_with fail
        refine (HSF.out 0 (by simp) _ (Nat.zero_le _)).mono ?_
        rintro e w' ⟨rfl, l, C, hR, hl, hblk, hCs, hCt, hgr⟩
        have HH := Lib.hid (And.intro hR (And.intro hl (And.intro hblk (And.intro hCs (And.intro hCt hgr)))))
        clear hR hl hblk hCs hCt hgr
        go_wp2_with fail
        go_ret
        obtain ⟨hR, hl, hblk, hCs, hCt, hgr⟩ := HH.out
        refine ⟨_, _, rfl, hR, ?_, HB1.out w' hgr⟩
        refine ⟨by unfold Is; simp, .inr ⟨g, 1, C, by simp [hl], HBG.out, hblk, by simp [hl], hcm, by rw [hCs, HCS.out], ?_⟩⟩
        rw [← hCt]; simp [hl]
      · go_wp2_with fail
        refine (HSF.out 1 (Or.inl rfl) _ ?_).mono ?_
        · omega
        rintro e w' ⟨rfl, l, C, hR, hl, hblk, hCs, hCt, hgr⟩
        have HH := Lib.hid (And.intro hR (And.intro hl (And.intro hblk (And.intro hCs (And.intro hCt hgr)))))
        clear hR hl hblk hCs hCt hgr
        go_wp2_with fail
        go_ret
        obtain ⟨hR, hl, hblk, hCs, hCt, hgr⟩ := HH.out
        refine ⟨_, _, rfl, hR, ?_, HB1.out w' hgr⟩
        refine ⟨by unfold Is; simp, .inr ⟨g, cap, C, by simp [hl]; omega, HBG.out, hblk, by simp [hl]; omega, hcm, by rw [hCs, HCS.out], ?_⟩⟩
        rw [← hCt]; simp [hl]; congr 1; omega
end Go.Proofs.Ytlmbkfdpgmmacaa
