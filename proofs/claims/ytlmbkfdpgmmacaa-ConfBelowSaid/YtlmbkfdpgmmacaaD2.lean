/- Contract: the reference's Below. -/
import Derived.Test.YtlmbkfdpgmmacaaD1
namespace Go.Proofs.Ytlmbkfdpgmmacaa
open Go.ChangeShapes Go.WideShapes Go.ChangeAt Go.RowKit
set_option linter.unusedVariables false
theorem step_app {P : Program} {V w : World} {ops : Array Oper} {o : Oper} {a : Act} {K : Act → World → Prop} {Q : Exit → Act → World → Prop} {E : Prop} (hgd : o.guard = none) (s x : Operand) (t : TypeId)
    (ho : o.op = .call { callee := .builtin .append, args := #[s, x], argTypes := #[t, t] })
    (e : TypeId) (i : TypeInfo) (z : Value) (size bytes : Nat) (ht : P.underlying t = some (.slice e)) (hi : P.info? e = some i) (hz : i.zero = some z)
    (hsize : i.size = size) (hby : i.bytes = bytes) (hzs : z.cells.size = size) (hsz : 0 < size)
    (v : Value) (n : Nat) (xs : List Value) (hs : a.eval s = v) (hB : Below V.heap.size V w) (hown : w.ownsRow V.heap.size e size v n xs)
    (ad : Addr) (m c : Nat) (news : List Value) (hx : a.eval x = .slice (some ad) m c) (hl : news.length = m * size) (hnews : ∀ j u, news[j]? = some u → w.cell? (ad.add j) = some u) (h1 : ∀ u ∈ news, u.oneCell' = true)
    (h63 : n + m ≤ 1000) (hbytes : bytes ≤ 1000)
    (h : ∀ v' w', Below V.heap.size V w' → w'.ownsRow V.heap.size e size v' (n + m) (xs ++ news) → w.grownBy w' v.ownBlock → K (a.put o.dst v') w') :
    if Region.wanted o (yielded ops a.tmps) = true then Oper.wp P o a w K Q else E :=
  step_append_own w hgd s x t ho V.heap.size e i z size bytes ht hi hz hsize hby hzs hsz v n xs hs hown ad m c news hx hl hnews h1 (by simp only [maxLen]; omega)
    (by have := Nat.mul_le_mul h63 hbytes; omega) hB.size (fun v' w' h2 h3 _ => h v' w' (grownB hB hown h3) h2 h3)
theorem add_posD (a : Addr) (k : Nat) (h : 0 < k) : a.add k = ⟨a.block, a.off + k, none⟩ := by unfold Addr.add; rw [if_neg (by omega)]
theorem ownDrew {W : World} {b e sz n : Nat} {v : Value} {xs : List Value} (h : W.ownsRow b e sz v n xs) : W.drew.ownsRow b e sz v n xs := h
theorem block_of_addD (a : Addr) (n : Nat) : (a.add n).block = a.block := by unfold Addr.add; split <;> rfl
theorem own_second (V : World) (I : Obj) : ((V.alloc I).alloc (Obj.cells #[] 3)).drew.ownsRow V.heap.size 3 1 (.slice (some ⟨V.heap.size + 1, 0, none⟩) 0 0) 0 [] := by
  have h := own_lit' (W := V.alloc I) (b := V.heap.size) (t := 3) (l := []) (n := 0) (by simp) rfl (by omega) #[] rfl
  have e : (V.alloc I).heap.size = V.heap.size + 1 := by simp
  rw [e] at h
  exact h
theorem cell_second (V : World) (E : Obj) (x : Value) : ∀ j u, [x][j]? = some u → ((V.alloc E).alloc (Obj.cells #[x] 3)).drew.cell? ((⟨V.heap.size + 1, 0, none⟩ : Addr).add j) = some u := fun j u hu => by
  have h := cell_one_new (V.alloc E) x 3 j u hu
  have e : (V.alloc E).heap.size = V.heap.size + 1 := by simp
  rw [e] at h
  exact h
theorem news_b {V w1 : World} {E : Obj} {x : Value} {n c : Nat} (g : ((V.alloc E).alloc (Obj.cells #[x] 3)).drew.grownBy w1 (Value.slice (some ⟨V.heap.size, 0, none⟩) n c).ownBlock) :
    ∀ j u, [x][j]? = some u → w1.cell? ((⟨V.heap.size + 1, 0, none⟩ : Addr).add j) = some u := fun j u hu =>
  g.cell (cell_second V E x j u hu) (by rw [block_of_addD]; simp [Value.ownBlock])
theorem news_c {V w1 : World} {E : Obj} {x : Value} {n c : Nat} (g : ((V.alloc (Obj.cells #[x] 3)).alloc E).drew.grownBy w1 (Value.slice (some ⟨V.heap.size + 1, 0, none⟩) n c).ownBlock) :
    ∀ j u, [x][j]? = some u → w1.cell? ((⟨V.heap.size, 0, none⟩ : Addr).add j) = some u := fun j u hu =>
  g.cell (show ((V.alloc (Obj.cells #[x] 3)).alloc E).drew.cell? _ = _ from keepA (cell_one_new V x 3 j u hu) E) (by rw [block_of_addD]; simp [Value.ownBlock])
theorem belA {V W : World} (h : Below V.heap.size V W) (o : Obj) : Below V.heap.size V (W.alloc o) := h.alloc h.size o
theorem ownMore {W : World} {b b' e sz n : Nat} {v : Value} {xs : List Value} (h : W.ownsRow b e sz v n xs) (hb : b' ≤ b) : W.ownsRow b' e sz v n xs := by
  refine ⟨h.1, ?_⟩
  rcases h.2 with h | ⟨g, cap, cur, e1, e2, rest⟩
  · exact .inl h
  · exact .inr ⟨g, cap, cur, e1, by omega, rest⟩
theorem refLess_all (l c i j : Int) (w : World) (h : mayV l c = true) (g : mayV i j = true) :
    Calls Try.prog 21 #[.agg #[.int .i64 l, .int .i64 c], .agg #[.int .i64 i, .int .i64 j]] w fun e w' => e = .returned (.bool (lessV l c i j)) ∧ Below w.heap.size w w' := by
  have hv : lessV l c i j = lessN l.toNat c.toNat i.toNat j.toNat := by unfold lessV; rw [h, g]; rfl
  rw [hv]
  obtain ⟨l', c', rfl, rfl, h1, h2⟩ := may_t h
  obtain ⟨i', j', rfl, rfl, g1, g2⟩ := may_t g
  exact refLess_yes l' c' i' j' w h1 h2 g1 g2
theorem refAbove_all (l c i j : Int) (w : World) (h : mayV l c = true) (g : mayV i j = true) :
    Calls Try.prog 22 #[.agg #[.int .i64 l, .int .i64 c], .agg #[.int .i64 i, .int .i64 j]] w fun e w' => e = .returned (.bool (aboveV l c i j)) ∧ Below w.heap.size w w' := by
  have hv : aboveV l c i j = aboveN l.toNat c.toNat i.toNat j.toNat := by unfold aboveV; rw [h, g]; rfl
  rw [hv]
  obtain ⟨l', c', rfl, rfl, h1, h2⟩ := may_t h
  obtain ⟨i', j', rfl, rfl, g1, g2⟩ := may_t g
  exact refAbove_yes l' c' i' j' w h1 h2 g1 g2
/-- So far. -/
def SoFar (cs : List Sh) (me k : Nat) (t : List Int) : Prop := t.Perm (selTo cs me k) ∧ t.Pairwise (fun x y => rk cs y < rk cs x)
theorem SoFar.ins {cs : List Sh} (hm : mayConfV cs = true) {me k : Nat} {t : List Int} (h : SoFar cs me k t) (hk : k < cs.length) (hkm : k ≠ me) (hs : sees cs me k = true) (p : Nat)
    (h1 : ∀ x ∈ t.take p, rk cs k < rk cs x) (h2 : ∀ x, t[p]? = some x → ¬ rk cs k < rk cs x) : SoFar cs me (k + 1) (t.take p ++ [(k : Int)] ++ t.drop p) := by
  have hmem : ∀ x ∈ t, InR cs x ∧ x < k := fun x hx => by
    have := selTo_mem (h.1.mem_iff.1 hx)
    exact ⟨⟨this.1, by omega⟩, this.2.1⟩
  have hkr : InR cs (k : Int) := ⟨by omega, by omega⟩
  have hlow : ∀ x ∈ t.drop p, rk cs x < rk cs k := by
    have hpw := h.2
    rw [List.pairwise_iff_getElem] at hpw
    intro x hx
    obtain ⟨j, hj, rfl⟩ := List.getElem_of_mem hx
    rw [List.getElem_drop] at *
    have hj' : p + j < t.length := by rw [List.length_drop] at hj; omega
    have hp : p < t.length := by omega
    have hnp := h2 t[p] (List.getElem?_eq_getElem hp)
    have hne : rk cs t[p] ≠ rk cs k := fun e => by
      have := rk_inj hm (hmem _ (List.getElem_mem hp)).1 hkr e
      have := (hmem _ (List.getElem_mem hp)).2
      omega
    rcases Nat.eq_zero_or_pos j with rfl | hj0
    · simp only [Nat.add_zero]; omega
    · have := hpw p (p + j) hp hj' (by omega); omega
  constructor
  · rw [selTo_yes hkm hs]
    refine List.Perm.trans ?_ (h.1.append_right _)
    rw [List.append_assoc]
    refine List.Perm.trans (List.Perm.append_left _ List.perm_append_comm) ?_
    rw [← List.append_assoc, List.take_append_drop]
  · have hpw := h.2
    rw [← List.take_append_drop p t, List.pairwise_append] at hpw
    rw [List.pairwise_append, List.pairwise_append]
    refine ⟨⟨hpw.1, List.pairwise_singleton _ _, fun x hx y hy => by rw [List.mem_singleton.1 hy]; exact h1 x hx⟩, hpw.2.1, fun x hx y hy => ?_⟩
    rcases List.mem_append.1 hx with hx | hx
    · exact hpw.2.2 x hx y hy
    · rw [List.mem_singleton.1 hx]; exact hlow y hy
theorem refBelow_none (A : Option Addr) (cs : List Sh) (d : Nat) (me : Int) (w : World) (hx : cs.length ≤ 1000000) (ha : Conf w A cs) (hn : ¬ (mayConfV cs = true ∧ 0 ≤ me ∧ me < cs.length)) :
    Calls Try.prog 12 #[.slice A cs.length d, .int .i64 me] w fun e w' => e = .returned (.slice none 0 0) ∧ Below w.heap.size w w' := by
  have HM := Lib.hid (refMayConf A cs d w hx ha)
  have HN := Lib.hid hn
  clear ha hn
  generalize cs.length = n at *
  go_enter Try.func12, Try.ntmps12
  go_wp2_with fail
  refine HM.out.mono ?_
  rintro e W ⟨rfl, hB⟩
  generalize hm : mayConfV cs = mv at *
  have HMV := Lib.hid hm
  clear hm
  cases mv
  · go_wp2_with fail
    go_ret
    exact ⟨rfl, hB⟩
  · have h2 : ¬ (0 ≤ me ∧ me < (n : Int)) := fun h => HN.out ⟨rfl, h⟩
    clear HN
    by_cases h0 : 0 ≤ me
    · have h1 : (n : Int) ≤ me := by omega
      clear h2
      go_wp2_with fail
      go_ret
      exact ⟨rfl, hB⟩
    · clear h2
      go_wp2_with fail
      go_ret
      exact ⟨rfl, hB⟩
set_option maxRecDepth 100000 in
set_option maxHeartbeats 3200000 in
theorem refBelow_some (A : Option Addr) (cs : List Sh) (d : Nat) (me : Nat) (w : World) (ha : Conf w A cs) (hm : mayConfV cs = true) (hme : me < cs.length) :
    Calls Try.prog 12 #[.slice A cs.length d, .int .i64 me] w fun e w' => ∃ v l, e = .returned v ∧ BelowR cs me l ∧ w'.ownsRow w.heap.size 3 1 v l.length (Is l) ∧ Below w.heap.size w w' := by
  have hlen := may_len hm
  have HM := Lib.hid (refMayConf A cs d w (by omega) ha)
  have HA := Lib.hid ha
  have HMV := Lib.hid hm
  have HSL := Lib.hid (selTo_len cs me)
  obtain ⟨a, sme, rfl, hsme, hame⟩ := ha.at_ (k := me) hme
  have HX0 := Lib.hid hame.c0
  have HX1 := Lib.hid hame.c1
  have HMM := Lib.hid (may_nums (may_at hm hsme.out)).1
  obtain ⟨i0, hi, hz0, hz1, hz2⟩ := info_parts info3
  have HI := Lib.hid (And.intro hi (And.intro hz0 (And.intro hz1 hz2)))
  clear hi hz0 hz1 hz2 hame ha hm
  generalize hn : cs.length = n at *
  have HN := Lib.hid hn
  clear hn
  have d1 : decide ((me : Int) < 0) = false := decide_eq_false (by omega)
  have d2 : decide (n ≤ me) = false := decide_eq_false (by omega)
  go_enter Try.func12, Try.ntmps12
  go_wp2_with fail
  refine HM.out.mono ?_
  rintro e W ⟨rfl, hb⟩
  rw [HMV.out]
  have own0 := own_lit' (W := W) (b := w.heap.size) (t := 3) (l := Is ((me : Int) :: [])) (n := 1) hb.size rfl (by omega) #[.int .i64 (me : Int)] rfl
  have hB1 : Below w.heap.size w (W.alloc (Obj.cells #[.int .i64 (me : Int)] 3)) := hb.alloc hb.size _
  clear hb HM
  go_wp2_with fail
  clear d1 d2
  go_loopw [5, 6] (fun v i wr => ∃ (k : Nat) (t : List Int), k ≤ n ∧ i = .int .i64 k ∧ SoFar cs me k t ∧ wr.ownsRow w.heap.size 3 1 v (1 + t.length) (Is ((me : Int) :: t)) ∧ Below w.heap.size w wr) (fun _ i _ => n - (intOf i).toNat)
  case atStart => exact ⟨0, [], Nat.zero_le _, rfl, ⟨List.Perm.refl _, List.Pairwise.nil⟩, own0, hB1⟩
  case round =>
    obtain ⟨k, t, hk, rfl, hso, own, hB⟩ := hrel
    have HSO := Lib.hid hso
    have HOWN := Lib.hid own
    clear own0 hB1 hso own
    by_cases hlt : k < n
    · obtain ⟨a', x, ha', hsx, hsa⟩ := (HA.out.keep hB).at_ (k := k) (by rw [HN.out]; exact hlt)
      injection ha' with ha'
      subst ha'
      have HG0 := Lib.hid hsa.c0
      have HG1 := Lib.hid hsa.c1
      have HMX := Lib.hid (may_nums (may_at HMV.out hsx.out)).1
      clear hsa
      have HAB := Lib.hid (fun w => refAbove_all sme.l sme.c x.l x.c w HMM.out HMX.out)
      have HSE : Hid (sees cs me k = aboveV sme.l sme.c x.l x.c) := by
        unfold Hid sees
        rw [(lab_some (x := (me : Int)) hsme.out).1, (lab_some (x := (me : Int)) hsme.out).2, (lab_some (x := (k : Int)) hsx.out).1, (lab_some (x := (k : Int)) hsx.out).2]
      have k1 : ∀ g : Later wr, g.w.cell? _ = _ := fun g => keepC g.below (keepC hB HX0.out)
      have k2 : ∀ g : Later wr, g.w.cell? _ = _ := fun g => keepC g.below (keepC hB HX1.out)
      have k3 : ∀ g : Later wr, g.w.cell? _ = _ := fun g => keepC g.below HG0.out
      have k4 : ∀ g : Later wr, g.w.cell? _ = _ := fun g => keepC g.below HG1.out
      by_cases hkm : k = me
      · have hneq : ((k : Int) == (me : Int)) = true := by simp [hkm]
        have HKM := Lib.hid hkm
        clear hkm
        go_wp2_with fail
        refine wp_region_later (by kernel_rfl) (by kernel_rfl) ?_
        repeat (first | go_big_quiet_step (fail) | (refine BigFrame.wpQuiet_skip (by rfl) ?_; simp only [Act.put, List.setIfInBounds_toArray, List.set_cons_zero, List.set_cons_succ]))
        refine wpQuiet_nil ?_
        intro _ hw'
        obtain ⟨nq, hw''⟩ := hw'
        subst hw''
        have HOW2 := Lib.hid (ownB HOWN.out nq.below)
        have hBW := keepB hB nq.below
        clear k1 k2 k3 k4
        generalize Later.w nq = V at *
        clear nq
        go_wp2_with fail
        go_roundw
        case rel => exact ⟨k + 1, t, by omega, by go_num, by unfold SoFar; rw [selTo_me HKM.out]; exact HSO.out, HOW2.out, hBW⟩
        case measure => simp [intOf]; omega
      · have hneq : ((k : Int) == (me : Int)) = false := by simp; omega
        have HKM := Lib.hid hkm
        clear hkm
        cases hsee : aboveV sme.l sme.c x.l x.c
        all_goals
          have HS := Lib.hid hsee
          clear hsee
          go_wp2_with fail
          refine wp_region_later (by kernel_rfl) (by kernel_rfl) ?_
          repeat (first | go_big_quiet_step ((go_at_call 22; exact quiet_laterB (HAB.out _) HS.out)) | (refine BigFrame.wpQuiet_skip (by rfl) ?_; simp only [Act.put, List.setIfInBounds_toArray, List.set_cons_zero, List.set_cons_succ]))
          refine wpQuiet_nil ?_
          intro _ hw'
          obtain ⟨nq, hw''⟩ := hw'
          subst hw''
          have HOW2 := Lib.hid (ownB HOWN.out nq.below)
          have hBW := keepB hB nq.below
          have HVG0 := Lib.hid (keepC nq.below HG0.out)
          have HVG1 := Lib.hid (keepC nq.below HG1.out)
          clear k1 k2 k3 k4
          generalize Later.w nq = V at *
          clear nq
        · go_wp2_with fail
          go_roundw
          case rel => exact ⟨k + 1, t, by omega, by go_num, by unfold SoFar; rw [selTo_no HKM.out (HSE.out.trans HS.out)]; exact HSO.out, HOW2.out, hBW⟩
          case measure => simp [intOf]; omega
        · have htl : t.length ≤ 8 := by have := HSL.out k; have := HSO.out.1.length_eq; omega
          have hown := HOW2.out
          rcases hown.2 with ⟨_, h0⟩ | ⟨g, cap, C0, hv, hbg, hg, hnc, hcm, hcs, htk⟩
          · omega
          subst hv
          have HROW : Hid (∀ j y, t[j]? = some y → V.cell? ⟨g, j + 1, none⟩ = some (.int .i64 y)) := fun j y hj => by
            have h := hown.cells (g := g) rfl (j + 1) (.int .i64 y) (by unfold Is; rw [List.map_cons, List.getElem?_cons_succ, List.getElem?_map, hj]; rfl)
            rwa [add_posD _ _ (by omega), Nat.zero_add] at h
          have HCONF := Lib.hid (HA.out.keep hBW)
          have HCELLS := Lib.hid (hown.cells (g := g) rfl)
          have HC0 := Lib.hid (And.intro hnc (And.intro hcm hg))
          clear hown hg htk hcs hbg hnc
          generalize hm : t.length = m at *
          have HML := Lib.hid hm
          clear hm
          go_wp2_with fail
          go_loopw [7] (fun vk wr2 => ∃ p : Nat, p ≤ m ∧ vk = .int .i64 ((p + 1 : Nat) : Int) ∧ (∀ y ∈ t.take p, rk cs k < rk cs y) ∧ Below V.heap.size V wr2) (fun vk _ => m + 1 - (intOf vk).toNat)
          case atStart => exact ⟨0, Nat.zero_le _, rfl, (fun y hy => by simp at hy), Below.refl _ _⟩
          case round =>
            obtain ⟨p, hp, rfl, hpre, hB2⟩ := hrel
            have HPRE := Lib.hid hpre
            clear hpre
            by_cases hpm : p < m
            · obtain ⟨y, hy⟩ : ∃ y, t[p]? = some y := ⟨_, List.getElem?_eq_getElem (by rw [HML.out]; exact hpm)⟩
              have hyr := selTo_mem (HSO.out.1.mem_iff.1 (List.mem_of_getElem? hy))
              obtain ⟨q, rfl⟩ : ∃ q : Nat, y = q := ⟨y.toNat, by omega⟩
              have hqn : q < n := by omega
              obtain ⟨a', z, ha', hsz, hza⟩ := (HCONF.out.keep hB2).at_ (k := q) (by rw [HN.out]; exact hqn)
              injection ha' with ha'
              subst ha'
              have HMZ := Lib.hid (may_nums (may_at HMV.out hsz.out)).1
              have HY := Lib.hid hy
              have HYR := Lib.hid hyr
              clear hyr hy
              have HLS := Lib.hid (fun w => refLess_all x.l x.c z.l z.c w HMX.out HMZ.out)
              have HRK : Hid (lessV x.l x.c z.l z.c = decide (rk cs k < rk cs q)) := by
                unfold Hid rk
                rw [(lab_some (x := (k : Int)) hsx.out).1, (lab_some (x := (k : Int)) hsx.out).2, (lab_some (x := (q : Int)) hsz.out).1, (lab_some (x := (q : Int)) hsz.out).2, less_rank HMX.out HMZ.out]
              have j0 : ∀ g' : Later wr, g'.w.cell? ⟨g, p + 1, none⟩ = some (.int .i64 (q : Int)) := fun g' => keepC g'.below (keepC hB2 (HROW.out p _ HY.out))
              have j1 : ∀ g : Later wr, g.w.cell? _ = _ := fun g => keepC g.below hza.c0
              have j2 : ∀ g : Later wr, g.w.cell? _ = _ := fun g => keepC g.below hza.c1
              have j3 : ∀ g' : Later wr, g'.w.cell? (a.add (k * 5)) = some (.int .i64 x.l) := fun g' => keepC g'.below (keepC hB2 HVG0.out)
              have j4 : ∀ g' : Later wr, g'.w.cell? ⟨(a.add (k * 5)).block, (a.add (k * 5)).off + 1, none⟩ = some (.int .i64 x.c) := fun g' => keepC g'.below (keepC hB2 HVG1.out)
              have l1 : decide (p + 1 < 1 + m) = true := decide_eq_true (by omega)
              have l2 : (p : Int) + 1 < 1 + (m : Int) := by omega
              clear hza
              have HBV := Lib.hid hB2
              clear hB2
              cases hb : lessV x.l x.c z.l z.c
              all_goals
                have HB := Lib.hid hb
                clear hb
                go_wp2_with fail
                refine wp_region_later (by kernel_rfl) (by kernel_rfl) ?_
                repeat (first | go_big_quiet_step ((go_at_call 21; exact quiet_laterB (HLS.out _) HB.out)) | (refine BigFrame.wpQuiet_skip (by rfl) ?_; simp only [Act.put, List.setIfInBounds_toArray, List.set_cons_zero, List.set_cons_succ]))
                refine wpQuiet_nil ?_
                intro _ hw'
                obtain ⟨nq2, hw''⟩ := hw'
                subst hw''
                have HBV2 := Lib.hid (keepB HBV.out nq2.below)
                clear j0 j1 j2 j3 j4
                generalize Later.w nq2 = V2 at *
                clear nq2
              · have HSTOP : Hid (∀ y, t[p]? = some y → ¬ rk cs k < rk cs y) := fun y hy => by
                  rw [HY.out] at hy; injection hy with hy; subst hy
                  exact of_decide_eq_false (HRK.out.symm.trans HB.out)
                have HSO2 := Lib.hid (SoFar.ins HMV.out HSO.out (by rw [HN.out]; exact hlt) HKM.out (HSE.out.trans HS.out) p HPRE.out (fun y hy => by have := HSTOP.out y hy; omega))
                clear HSTOP
                have bd0 : Below V2.heap.size V2 V2.drew := (Below.refl _ _).drew
                have BD0 := Lib.hid bd0
                have OL : Hid (∀ W : World, Below V2.heap.size V2 W → (W.alloc (Obj.cells #[] 3)).ownsRow V2.heap.size 3 1 (.slice (some ⟨W.heap.size, 0, none⟩) 0 0) 0 []) := fun W hW => own_lit' (l := []) (n := 0) hW.size rfl (by omega) #[] rfl
                have FA : Hid (∀ W : World, Below V2.heap.size V2 W → ∀ j u, (Is (((me : Int) :: t).take (p + 1)))[j]? = some u → W.cell? ((⟨g, 0, none⟩ : Addr).add j) = some u) := fun W hW j u hu => keepC hW (keepC HBV2.out (HCELLS.out j u (by
                  unfold Is at hu ⊢
                  rw [List.map_take, List.getElem?_take] at hu
                  split at hu
                  · exact hu
                  · cases hu)))
                have FB : Hid (∀ W : World, Below V2.heap.size V2 W → ∀ ad : Addr, (ad = ⟨g, p + 1, none⟩ ∨ m = p) → ∀ j u, (Is (((me : Int) :: t).drop (p + 1)))[j]? = some u → W.cell? (ad.add j) = some u) := fun W hW ad had j u hu => by
                  unfold Is at hu
                  rw [List.map_drop, List.getElem?_drop] at hu
                  rcases had with rfl | had
                  · have := keepC hW (keepC HBV2.out (HCELLS.out (p + 1 + j) u hu))
                    rw [add_posD _ _ (by omega), Nat.zero_add] at this
                    by_cases hj : j = 0
                    · subst hj; exact this
                    · rw [add_posD _ _ (by omega)]; exact this
                  · rw [List.getElem?_eq_none (by have := HML.out; simp; omega)] at hu; cases hu
                have hlt1 : (Is (((me : Int) :: t).take (p + 1))).length = (p + 1) * 1 := by have := HML.out; unfold Is; simp; omega
                have hlt2 : (Is (((me : Int) :: t).drop (p + 1))).length = (1 + m - (p + 1)) * 1 := by have := HML.out; unfold Is; simp; omega
                have HL1 := Lib.hid hlt1
                have HL2 := Lib.hid hlt2
                have hcc := HC0.out.1
                clear hlt1 hlt2 bd0
                go_wp2_with fail
                have p0 : (0 : Int) ≤ (p : Int) + 1 := by omega
                have pt : ((p : Int) + 1).toNat = p + 1 := by omega
                have pl : (p : Int) + 1 ≤ ((1 + m : Nat) : Int) := by omega
                have pl2 : (p : Int) + 1 ≤ 1 + (m : Int) := by omega
                by_cases hcp : cap = p + 1
                all_goals
                  have pc : (p : Int) + 1 ≤ (cap : Int) := by omega
                  go_region_law (first
                    | (refine step_app (V := V2) rfl (.tmp 68) (.tmp 71) 30 rfl 3 i0 (.int .i64 0) 1 8 Try.underlying30 HI.out.1 HI.out.2.1 HI.out.2.2.1 HI.out.2.2.2 rfl (by decide) _ 0 [] rfl (by first | exact belA BD0.out _ | exact belA (belA BD0.out _) _) (by first | exact ownDrew (OL.out V2 (Below.refl _ _)) | exact ownDrew ((OL.out V2 (Below.refl _ _)).alloc _) | exact own_second V2 _) ⟨g, 0, none⟩ (p + 1) _ (Is (((me : Int) :: t).take (p + 1))) rfl HL1.out (FA.out _ (by first | exact belA BD0.out _ | exact belA (belA BD0.out _) _)) (Is_one _) (by omega) (by decide) ?_; intro v1 w1 b1 o1 g1; have B1 := Lib.hid b1; have O1 := Lib.hid o1; have G1 := Lib.hid g1; clear b1 o1 g1)
                    | (refine step_app (V := V2) rfl (.tmp 72) (.tmp 74) 30 rfl 3 i0 (.int .i64 0) 1 8 Try.underlying30 HI.out.1 HI.out.2.1 HI.out.2.2.1 HI.out.2.2.2 rfl (by decide) v1 _ _ rfl (by first | exact B1.out | exact belA B1.out _) (by first | exact O1.out | exact O1.out.alloc _) _ 1 _ (Is [(k : Int)]) rfl rfl (by first | exact cell_one_new _ _ _ | exact news_b G1.out | exact news_c G1.out) (Is_one _) (by omega) (by decide) ?_; intro v2 w2 b2 o2 g2; have B2 := Lib.hid b2; have O2 := Lib.hid o2; clear b2 o2 g2)
                    | (refine step_app (V := V2) rfl (.tmp 75) (.tmp 78) 30 rfl 3 i0 (.int .i64 0) 1 8 Try.underlying30 HI.out.1 HI.out.2.1 HI.out.2.2.1 HI.out.2.2.2 rfl (by decide) v2 _ _ rfl B2.out O2.out _ (1 + m - (p + 1)) _ (Is (((me : Int) :: t).drop (p + 1))) rfl HL2.out (FB.out _ B2.out _ (by first | exact Or.inl rfl | exact Or.inr (by omega))) (Is_one _) (by omega) (by decide) ?_; intro v3 w3 b3 o3 g3; have B3 := Lib.hid b3; have O3 := Lib.hid o3; clear b3 o3 g3))
                all_goals
                  go_wp2_with fail
                  go_roundw
                  case rel =>
                    refine ⟨k + 1, t.take p ++ [(k : Int)] ++ t.drop p, by omega, by go_num, HSO2.out, ?_, keepB (keepB hBW HBV2.out) B3.out⟩
                    have h := ownMore O3.out (show w.heap.size ≤ V2.heap.size from Nat.le_trans hBW.size HBV2.out.size)
                    have e1 : 0 + (p + 1) + 1 + (1 + m - (p + 1)) = 1 + (t.take p ++ [(k : Int)] ++ t.drop p).length := by have := HML.out; simp; omega
                    have e2 : [] ++ Is (((me : Int) :: t).take (p + 1)) ++ Is [(k : Int)] ++ Is (((me : Int) :: t).drop (p + 1)) = Is ((me : Int) :: (t.take p ++ [(k : Int)] ++ t.drop p)) := by unfold Is; simp
                    rw [e1, e2] at h
                    exact h
                  case measure => simp [intOf]; omega
              · go_wp2_with fail
                go_roundw
                case rel => exact ⟨p + 1, by omega, by go_num, (fun y hy => by
                  rw [take_snoc' HY.out] at hy
                  rcases List.mem_append.1 hy with h | h
                  · exact HPRE.out y h
                  · rw [List.mem_singleton.1 h]; exact of_decide_eq_true (HRK.out.symm.trans HB.out)), HBV2.out⟩
                case measure => simp [intOf]; omega
            · have HSTOP : Hid (∀ y, t[p]? = some y → ¬ rk cs k < rk cs y) := fun y hy => by
                rw [List.getElem?_eq_none (by have := HML.out; omega)] at hy; cases hy
              have l1 : decide (p + 1 < 1 + m) = false := decide_eq_false (by omega)
              have l2 : decide ((p : Int) + 1 < 1 + (m : Int)) = false := decide_eq_false (by omega)
              have l3 : decide (((p + 1 : Nat) : Int) < ((1 + m : Nat) : Int)) = false := decide_eq_false (by omega)
              have HBV := Lib.hid hB2
              clear hB2
              go_wp2_with fail
              refine wp_region_later (by kernel_rfl) (by kernel_rfl) ?_
              repeat (first | go_big_quiet_step (fail) | (refine BigFrame.wpQuiet_skip (by rfl) ?_; simp only [Act.put, List.setIfInBounds_toArray, List.set_cons_zero, List.set_cons_succ]))
              refine wpQuiet_nil ?_
              intro _ hw'
              obtain ⟨nq2, hw''⟩ := hw'
              subst hw''
              have HBV2 := Lib.hid (keepB HBV.out nq2.below)
              generalize Later.w nq2 = V2 at *
              clear nq2
              have HSO2 := Lib.hid (SoFar.ins HMV.out HSO.out (by rw [HN.out]; exact hlt) HKM.out (HSE.out.trans HS.out) p HPRE.out (fun y hy => by have := HSTOP.out y hy; omega))
              clear HSTOP
              have bd0 : Below V2.heap.size V2 V2.drew := (Below.refl _ _).drew
              have BD0 := Lib.hid bd0
              have OL : Hid (∀ W : World, Below V2.heap.size V2 W → (W.alloc (Obj.cells #[] 3)).ownsRow V2.heap.size 3 1 (.slice (some ⟨W.heap.size, 0, none⟩) 0 0) 0 []) := fun W hW => own_lit' (l := []) (n := 0) hW.size rfl (by omega) #[] rfl
              have FA : Hid (∀ W : World, Below V2.heap.size V2 W → ∀ j u, (Is (((me : Int) :: t).take (p + 1)))[j]? = some u → W.cell? ((⟨g, 0, none⟩ : Addr).add j) = some u) := fun W hW j u hu => keepC hW (keepC HBV2.out (HCELLS.out j u (by
                unfold Is at hu ⊢
                rw [List.map_take, List.getElem?_take] at hu
                split at hu
                · exact hu
                · cases hu)))
              have FB : Hid (∀ W : World, Below V2.heap.size V2 W → ∀ ad : Addr, (ad = ⟨g, p + 1, none⟩ ∨ m = p) → ∀ j u, (Is (((me : Int) :: t).drop (p + 1)))[j]? = some u → W.cell? (ad.add j) = some u) := fun W hW ad had j u hu => by
                unfold Is at hu
                rw [List.map_drop, List.getElem?_drop] at hu
                rcases had with rfl | had
                · have := keepC hW (keepC HBV2.out (HCELLS.out (p + 1 + j) u hu))
                  rw [add_posD _ _ (by omega), Nat.zero_add] at this
                  by_cases hj : j = 0
                  · subst hj; exact this
                  · rw [add_posD _ _ (by omega)]; exact this
                · rw [List.getElem?_eq_none (by have := HML.out; simp; omega)] at hu; cases hu
              have hlt1 : (Is (((me : Int) :: t).take (p + 1))).length = (p + 1) * 1 := by have := HML.out; unfold Is; simp; omega
              have hlt2 : (Is (((me : Int) :: t).drop (p + 1))).length = (1 + m - (p + 1)) * 1 := by have := HML.out; unfold Is; simp; omega
              have HL1 := Lib.hid hlt1
              have HL2 := Lib.hid hlt2
              have hcc := HC0.out.1
              clear hlt1 hlt2 bd0
              go_wp2_with fail
              have p0 : (0 : Int) ≤ (p : Int) + 1 := by omega
              have pt : ((p : Int) + 1).toNat = p + 1 := by omega
              have pl : (p : Int) + 1 ≤ ((1 + m : Nat) : Int) := by omega
              have pl2 : (p : Int) + 1 ≤ 1 + (m : Int) := by omega
              by_cases hcp : cap = p + 1
              all_goals
                have pc : (p : Int) + 1 ≤ (cap : Int) := by omega
                go_region_law (first
                  | (refine step_app (V := V2) rfl (.tmp 68) (.tmp 71) 30 rfl 3 i0 (.int .i64 0) 1 8 Try.underlying30 HI.out.1 HI.out.2.1 HI.out.2.2.1 HI.out.2.2.2 rfl (by decide) _ 0 [] rfl (by first | exact belA BD0.out _ | exact belA (belA BD0.out _) _) (by first | exact ownDrew (OL.out V2 (Below.refl _ _)) | exact ownDrew ((OL.out V2 (Below.refl _ _)).alloc _) | exact own_second V2 _) ⟨g, 0, none⟩ (p + 1) _ (Is (((me : Int) :: t).take (p + 1))) rfl HL1.out (FA.out _ (by first | exact belA BD0.out _ | exact belA (belA BD0.out _) _)) (Is_one _) (by omega) (by decide) ?_; intro v1 w1 b1 o1 g1; have B1 := Lib.hid b1; have O1 := Lib.hid o1; have G1 := Lib.hid g1; clear b1 o1 g1)
                  | (refine step_app (V := V2) rfl (.tmp 72) (.tmp 74) 30 rfl 3 i0 (.int .i64 0) 1 8 Try.underlying30 HI.out.1 HI.out.2.1 HI.out.2.2.1 HI.out.2.2.2 rfl (by decide) v1 _ _ rfl (by first | exact B1.out | exact belA B1.out _) (by first | exact O1.out | exact O1.out.alloc _) _ 1 _ (Is [(k : Int)]) rfl rfl (by first | exact cell_one_new _ _ _ | exact news_b G1.out | exact news_c G1.out) (Is_one _) (by omega) (by decide) ?_; intro v2 w2 b2 o2 g2; have B2 := Lib.hid b2; have O2 := Lib.hid o2; clear b2 o2 g2)
                  | (refine step_app (V := V2) rfl (.tmp 75) (.tmp 78) 30 rfl 3 i0 (.int .i64 0) 1 8 Try.underlying30 HI.out.1 HI.out.2.1 HI.out.2.2.1 HI.out.2.2.2 rfl (by decide) v2 _ _ rfl B2.out O2.out _ (1 + m - (p + 1)) _ (Is (((me : Int) :: t).drop (p + 1))) rfl HL2.out (FB.out _ B2.out _ (by first | exact Or.inl rfl | exact Or.inr (by omega))) (Is_one _) (by omega) (by decide) ?_; intro v3 w3 b3 o3 g3; have B3 := Lib.hid b3; have O3 := Lib.hid o3; clear b3 o3 g3))
              all_goals
                go_wp2_with fail
                go_roundw
                case rel =>
                  refine ⟨k + 1, t.take p ++ [(k : Int)] ++ t.drop p, by omega, by go_num, HSO2.out, ?_, keepB (keepB hBW HBV2.out) B3.out⟩
                  have h := ownMore O3.out (show w.heap.size ≤ V2.heap.size from Nat.le_trans hBW.size HBV2.out.size)
                  have e1 : 0 + (p + 1) + 1 + (1 + m - (p + 1)) = 1 + (t.take p ++ [(k : Int)] ++ t.drop p).length := by have := HML.out; simp; omega
                  have e2 : [] ++ Is (((me : Int) :: t).take (p + 1)) ++ Is [(k : Int)] ++ Is (((me : Int) :: t).drop (p + 1)) = Is ((me : Int) :: (t.take p ++ [(k : Int)] ++ t.drop p)) := by unfold Is; simp
                  rw [e1, e2] at h
                  exact h
                case measure => simp [intOf]; omega
    · obtain rfl : k = n := by omega
      go_wp2_with fail
      go_ret
      refine ⟨_, (me : Int) :: t, rfl, ⟨t, rfl, by have h := HSO.out.1; rw [HN.out]; exact h, HSO.out.2⟩, ?_, hB⟩
      have h := HOWN.out
      rw [Nat.add_comm] at h
      exact h
end Go.Proofs.Ytlmbkfdpgmmacaa
