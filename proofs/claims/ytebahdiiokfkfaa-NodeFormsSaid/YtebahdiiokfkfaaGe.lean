/- Contract: the reference's MayNode. -/
import Derived.Test.YtebahdiiokfkfaaGd
namespace Go.Proofs.Ytebahdiiokfkfaa
open Go.ChangeShapes Go.WideShapes Go.ChangeAt Go.RowKit
set_option linter.unusedVariables false
theorem NdAt.nts {w : World} {p : Nat} {n : Nd} (h : NdAt w p n) : Nts w (some ⟨p, 3, none⟩) [n.a, n.b, n.c, n.d] := fun i x hi => by
  refine ⟨_, rfl, ?_⟩
  rw [add_off, h.cell]
  have hlt := (List.getElem?_eq_some_iff.1 hi).1
  simp only [List.length_cons, List.length_nil] at hlt
  match i, hlt, hi with
  | 0, _, hi => injection hi with hi; subst hi; rfl
  | 1, _, hi => injection hi with hi; subst hi; rfl
  | 2, _, hi => injection hi with hi; subst hi; rfl
  | 3, _, hi => injection hi with hi; subst hi; rfl
structure JMN (w : World) (p : Nat) (n : Nd) (W : World) : Prop where
  bel : Below p w W
  sz : p + 1 ≤ W.heap.size
  at_ : NdAt W p n
def VMN (p : Nat) (n : Nd) (i : Nat) (v : Value) (W : World) : Prop :=
  match i with
  | 1 => v = .pointer (some ⟨p, 3, none⟩)
  | 2 => v = .slice (some ⟨p, 3, none⟩) 4 4
  | 4 => v = .pointer (some ⟨p, 7, none⟩)
  | 5 => v = .int .i64 n.x
  | 0 => (∃ g, v = .slice (some ⟨g, 0, none⟩) 0 0 ∧ p + 1 ≤ g ∧ W.heap[g]? = some (.cells #[] 3 (0, 0)))
  | 3 => W.ownsRow (p + 1) 3 1 v 4 (Is [n.a, n.b, n.c, n.d])
  | 6 => (∃ g, v = .slice (some ⟨g, 0, none⟩) 1 1 ∧ W.heap[g]? = some (.cells #[.int .i64 n.x] 3 (0, 0)))
  | 7 => W.ownsRow (p + 1) 3 1 v 5 (Is n.ps)
  | _ => True
def SMN (i : Nat) (w w' : World) : Prop := if i = 7 then KeepB 4 5 w w' else w.grownBy w' none
theorem VMN.on {p : Nat} {n : Nd} {i j : Nat} {v : Value} {w w' : World} (hij : i ≠ j) (h : VMN p n j v w) (hs : SMN i w w') : VMN p n j v w' := by
  unfold SMN at hs
  by_cases hi : i = 7
  · rw [if_pos hi] at hs
    unfold VMN at *
    split <;> try exact h
    · obtain ⟨g, e, hb, hg⟩ := h; exact ⟨g, e, hb, hs.small _ _ _ _ hg (by decide)⟩
    · exact own_keep h hs (by decide)
    · obtain ⟨g, e, hg⟩ := h; exact ⟨g, e, hs.small _ _ _ _ hg (show 1 < 5 by omega)⟩
    · exact absurd hi hij
    · trivial
  · rw [if_neg hi] at hs
    unfold VMN at *
    split <;> try exact h
    · obtain ⟨g, e, hb, hg⟩ := h; exact ⟨g, e, hb, by rw [hs.block g (room_lt hg) (by simp)]; exact hg⟩
    · exact World.ownsRow.kept h hs (by cases v.ownBlock <;> simp)
    · obtain ⟨g, e, hg⟩ := h; exact ⟨g, e, by rw [hs.block g (room_lt hg) (by simp)]; exact hg⟩
    · exact World.ownsRow.kept h hs (by cases v.ownBlock <;> simp)
    · trivial
theorem plM_none5 : PlM none5 := by decide
theorem MayN.pl {k : Int} {n : Nd} (h : MayN k n) : PlM n.ps := by
  rcases h.2 with h1 | h1 | h1
  · exact h1.2.2.2
  · rw [h1.2.2.2.2]; exact plM_none5
  · rw [h1.2.2.2]; exact plM_none5
theorem ps_len (n : Nd) : n.ps.length = 5 := rfl
theorem ps_none (n : Nd) : n.ps = none5 ↔ ∀ j, j < 5 → n.ps.getD j 0 = -1 := by
  constructor
  · intro h j hj; rw [h]
    match j, hj with
    | 0, _ => rfl
    | 1, _ => rfl
    | 2, _ => rfl
    | 3, _ => rfl
    | 4, _ => rfl
  · intro h
    have h0 := h 0 (by omega); have h1 := h 1 (by omega); have h2 := h 2 (by omega); have h3 := h 3 (by omega); have h4 := h 4 (by omega)
    unfold Nd.ps none5 at *
    simp only [List.getD_cons_zero, List.getD_cons_succ] at h0 h1 h2 h3 h4
    rw [h0, h1, h2, h3, h4]
theorem mem_take {xs : List Int} {k : Nat} {x : Int} (h : x ∈ xs.take k) : ∃ j, j < k ∧ xs[j]? = some x := by
  obtain ⟨j, hj⟩ := List.getElem?_of_mem h
  rw [List.getElem?_take] at hj
  split at hj
  · exact ⟨j, by assumption, hj⟩
  · cases hj
set_option maxRecDepth 100000 in
set_option maxHeartbeats 6400000 in
theorem rmay_any (k : Int) (n : Nd) (w : World) (hn : NdOk n) (htl : n.t.length ≤ 100) : Calls Try.prog 12 #[.int .i64 k, .agg (ndA n)] w fun e w' => e = .returned (.bool (decide (MayN k n))) ∧ Below w.heap.size w w' := by
  have HN := Lib.hid (NdAt.new w n)
  have HB := Lib.hid (bel1 (w := w) (Obj.cells (ndA n) 25))
  have hs := str_nil hn.t
  have HT := Lib.hid (fun w => maytarget_any n.t w hn.t htl)
  have HMA := Lib.hid mayat_any
  have hsz := strOfNums_size n.t
  have HS : Hid (w.heap.size + 1 ≤ (w.alloc (Obj.cells (ndA n) 25)).heap.size) := by unfold Hid; rw [size_alloc']; exact Nat.le_refl _
  go_enter Try.func12, Try.ntmps12
  go_upto_region 1 with fail
  obtain ⟨c0, c1, c2, c7, c8⟩ := HN.out.cells
  generalize w.alloc (Obj.cells (ndA n) 25) = W at *
  have HTN : Hid (∀ b, decide (n.t = []) = b → (n.t = [] ↔ b = true)) := fun b h => by subst h; simp
  generalize hbt : decide (n.t = []) = bt at hs
  have HTB := Lib.hid (HTN.out bt hbt)
  clear hbt HTN c7
  by_cases h1 : n.g < 1
  · have HF : Hid (decide (MayN k n) = false) := decide_eq_false fun h => by unfold MayN at h; omega
    go_wp2_with fail
    go_ret
    exact ⟨ret_bool HF.out.symm, HB.out⟩
  by_cases h2 : n.l < 0
  · have HF : Hid (decide (MayN k n) = false) := decide_eq_false fun h => by unfold MayN at h; omega
    go_wp2_with fail
    go_ret
    exact ⟨ret_bool HF.out.symm, HB.out⟩
  by_cases h3 : 1000 < n.l
  · have HF : Hid (decide (MayN k n) = false) := decide_eq_false fun h => by unfold MayN at h; omega
    go_wp2_with fail
    go_ret
    exact ⟨ret_bool HF.out.symm, HB.out⟩
  go_upto_region 3 with fail
  generalize hp : w.heap.size = p at *
  go_cut [5] (fun s wx => wx.ownsRow (p + 1) 3 1 s 5 (Is n.ps) ∧ Below p w wx ∧ NdAt wx p n)
  case first =>
    have hJ0 : JMN w p n W.drew := ⟨HB.out.drew, HS.out, HN.out⟩
    refine wp_region_rgk (VMN p n) (fun _ W => JMN w p n W) SMN (by kernel_rfl) (by kernel_rfl) (fun i j v' w' w'' hij hind h hg => h.on hij hg) hJ0 ?_
    have srefl : ∀ (i : Nat) (W : World), SMN i W W := fun i W => by unfold SMN; split; exact KeepB.grown (World.grownBy.refl _ _); exact World.grownBy.refl _ _
    clear hJ0 HB HS HN c0 c1 c2 c8 hs
    simp only [RAll]
    refine ⟨?_, ?_, ?_, ?_, ?_, ?_, ?_, ?_, ?_⟩
    · refine RStepK.of rfl fun T W L hag hL hJ hLs hd => ?_   -- 0: 22 := Op.buildSlice 39 0 #[]
      clear hag hd
      go_simp
      exact ⟨_, rfl, ⟨_, rfl, hJ.sz, heap_alloc_new _ _⟩, ⟨hJ.bel.alloc (Nat.le_trans (Nat.le_succ _) hJ.sz) _, by rw [size_alloc']; exact Nat.le_succ_of_le hJ.sz, hJ.at_.alloc _⟩, World.grownBy_alloc W _ _⟩
    · refine RStepK.of rfl fun T W L hag hL hJ hLs hd => ?_   -- 1: 23 := Op.fieldAddr 25 (Operand.tmp 3) 3
      have e3 : T.getD 3 undef = _ := (agree_at hag 3 (by kernel_rfl)).trans rfl
      clear hag hd
      go_simp
      exact ⟨_, rfl, rfl⟩
    · refine RStepK.of rfl fun T W L hag hL hJ hLs hd => ?_   -- 2: 24 := Op.slice 23 (Operand.tmp 23) none none none
      have d23 : T.getD 23 undef = _ := hd ⟨1, .data⟩ (by simp) rfl _ rfl
      clear hag hd
      go_simp
      exact ⟨_, rfl, rfl⟩
    · refine RStepK.of rfl fun T W L hag hL hJ hLs hd => ?_   -- 3: 25 := Op.call { callee := Callee.builtin Builtin.append, args := #
      have x22 : (∃ g, (T.getD 22 undef) = .slice (some ⟨g, 0, none⟩) 0 0 ∧ p + 1 ≤ g ∧ W.heap[g]? = some (.cells #[] 3 (0, 0))) := hd ⟨0, .data⟩ (by simp) rfl _ rfl
      have d24 : T.getD 24 undef = _ := hd ⟨2, .data⟩ (by simp) rfl _ rfl
      obtain ⟨g, (e22 : T.getD 22 undef = _), hb, hg⟩ := x22
      refine wp_app_none W (.tmp 22) (.tmp 24) rfl (p + 1) g e22 hb hg (some ⟨p, 3, none⟩) 4 4 [n.a, n.b, n.c, n.d] d24 hJ.at_.nts rfl (by omega) (by omega) hJ.sz ?_
      intro v' w' h1 h2
      exact ⟨_, rfl, h1, ⟨hJ.bel.grown h2 (Nat.le_trans (Nat.le_succ _) hJ.sz) (by simp), Nat.le_trans hJ.sz h2.size, hJ.at_.grown h2 (by simp)⟩, h2⟩
    · refine RStepK.of rfl fun T W L hag hL hJ hLs hd => ?_   -- 4: 26 := Op.fieldAddr 25 (Operand.tmp 3) 4
      have e3 : T.getD 3 undef = _ := (agree_at hag 3 (by kernel_rfl)).trans rfl
      clear hag hd
      go_simp
      exact ⟨_, rfl, rfl⟩
    · refine RStepK.of rfl fun T W L hag hL hJ hLs hd => ?_   -- 5: 27 := Op.load 3 (Operand.tmp 26)
      have d26 : T.getD 26 undef = _ := hd ⟨4, .data⟩ (by simp) rfl _ rfl
      have fct0 := (show W.cell? ⟨p, 7, none⟩ = some (.int .i64 n.x) from hJ.at_.cell 7)
      clear hag hd
      go_simp
      exact ⟨_, rfl, rfl⟩
    · refine RStepK.of rfl fun T W L hag hL hJ hLs hd => ?_   -- 6: 28 := Op.buildSlice 39 1 #[(0, Operand.tmp 27)]
      have d27 : T.getD 27 undef = _ := hd ⟨5, .data⟩ (by simp) rfl _ rfl
      simp only [Array.getD_eq_getD_getElem?] at d27
      clear hag hd
      go_simp
      exact ⟨_, rfl, ⟨_, rfl, heap_alloc_new _ _⟩, ⟨hJ.bel.alloc (Nat.le_trans (Nat.le_succ _) hJ.sz) _, by rw [size_alloc']; exact Nat.le_succ_of_le hJ.sz, hJ.at_.alloc _⟩, World.grownBy_alloc W _ _⟩
    · refine RStepK.of rfl fun T W L hag hL hJ hLs hd => ?_   -- 7: 29 := Op.call { callee := Callee.builtin Builtin.append, args := #
      have x25 : W.ownsRow (p + 1) 3 1 (T.getD 25 undef) 4 (Is [n.a, n.b, n.c, n.d]) := hd ⟨3, .data⟩ (by simp) rfl _ rfl
      have x28 : (∃ g, (T.getD 28 undef) = .slice (some ⟨g, 0, none⟩) 1 1 ∧ W.heap[g]? = some (.cells #[.int .i64 n.x] 3 (0, 0))) := hd ⟨6, .data⟩ (by simp) rfl _ rfl
      obtain ⟨g, (e28 : T.getD 28 undef = _), hg⟩ := x28
      refine wp_app_keepI W (.tmp 25) (.tmp 28) rfl (p + 1) _ 4 _ rfl x25 (some ⟨g, 0, none⟩) 1 1 [n.x] e28 (nts_blk hg rfl) rfl (by omega) hJ.sz ?_
      intro v' w' h1 h2 h3
      have hne : (T.getD 25 undef).ownBlock ≠ some p := fun e => by have := (x25.lt p e).1; omega
      exact ⟨_, rfl, h1, ⟨hJ.bel.grown h2 (Nat.le_trans (Nat.le_succ _) hJ.sz) (fun k hk => Nat.le_trans (Nat.le_succ _) (x25.lt k hk).1), Nat.le_trans hJ.sz h2.size, hJ.at_.grown h2 hne⟩, h3⟩
    · refine RLastK.of rfl fun T W L hag hLs hL hJ hd => ?_   -- 8: 5 := Op.assign (Operand.tmp 29)
      have x29 : W.ownsRow (p + 1) 3 1 (T.getD 29 undef) 5 (Is n.ps) := hd 7 _ (by simp) rfl
      obtain ⟨f, hf, hT⟩ := agree_fn hag
      have h29 := hf 29
      rw [← h29] at x29
      have HX29 := Lib.hid x29
      clear h29 x29
      have HJ := Lib.hid hJ
      clear hag hd hJ hf
      rw [hT]
      clear hT
      simp only [List.pop_toArray, List.dropLast_cons_cons, List.dropLast_singleton, List.filterMap_cons, List.filterMap_nil, List.foldl_cons, List.foldl_nil, List.setIfInBounds_toArray, List.set_cons_succ, List.set_cons_zero]
      rename_i hJc hKc
      go_wp2_with fail
      refine hJc _ _ ?_
      repeat apply Exists.intro
      exact ⟨⟨HX29.out, HJ.out.bel, HJ.out.at_⟩, rfl⟩
  case rest =>
    obtain ⟨own, hbel, hat⟩ := hcut
    obtain ⟨A, d, rfl, hle, hd, hy⟩ := nts_own own (ps_len n)
    obtain ⟨ad, rfl, _⟩ := hy 0 n.a rfl
    rw [ps_len n]
    clear own hle hd HB HS HN c0 c1 c2 c8
    go_wp2_with fail
    go_loopw [6, 7] (fun nn i wr => ∃ (b : Bool) (k2 : Nat), nn = .bool b ∧ i = .int .i64 k2 ∧ k2 ≤ 5 ∧ Hid (b = true ↔ ∀ j, j < k2 → n.ps.getD j 0 = -1) ∧ Hid (∀ j, j < k2 → plAt n.ps j) ∧ Hid (Nts wr (some ad) n.ps) ∧ Hid (Below p w wr) ∧ Hid (NdAt wr p n)) (fun _ i _ => (5 - intOf i).toNat)
    case atStart => exact ⟨true, 0, rfl, rfl, by omega, ⟨fun _ j hj => absurd hj (by omega), fun _ => rfl⟩, (fun j hj => absurd hj (by omega)), hy, hbel, hat⟩
    case round =>
      obtain ⟨b, k2, rfl, rfl, hk2, HBN, HPL, HY, HB, HN⟩ := hrel
      clear hy hbel hat
      by_cases hlt : k2 < 5
      · have hx : n.ps[k2]? = some (n.ps.getD k2 0) := by
          rw [List.getD, List.getElem?_eq_getElem (by rw [ps_len]; exact hlt)]; rfl
        obtain ⟨ad2, e2, hcx⟩ := HY.out k2 _ hx
        injection e2 with e2; subst e2
        have HX := Lib.hid hx
        have HE : Hid (plAt n.ps k2 ↔ (n.ps.getD k2 0 = -1 ∨ ((1 ≤ n.ps.getD k2 0 ∧ n.ps.getD k2 0 < 200) ∧ n.ps.getD k2 0 ∉ n.ps.take k2))) := Iff.rfl
        have HNO : Hid (¬ plAt n.ps k2 → decide (MayN k n) = false) := fun h => decide_eq_false fun hm => h (hm.pl k2 hlt)
        have HPN : Hid (plAt n.ps k2 → ∀ j, j < k2 + 1 → plAt n.ps j) := fun h j hj => by
          rcases Nat.lt_or_ge j k2 with h8 | h8
          · exact HPL.out j h8
          · obtain rfl : j = k2 := by omega
            exact h
        have HBX : Hid ((b = true ∧ n.ps.getD k2 0 = -1) ↔ ∀ j, j < k2 + 1 → n.ps.getD j 0 = -1) := by
          constructor
          · rintro ⟨h8, h9⟩ j hj
            rcases Nat.lt_or_ge j k2 with h7 | h7
            · exact HBN.out.1 h8 j h7
            · obtain rfl : j = k2 := by omega
              exact h9
          · intro h; exact ⟨HBN.out.2 fun j hj => h j (by omega), h k2 (by omega)⟩
        clear hx
        generalize hxx : n.ps.getD k2 0 = x at *
        clear hxx
        have HM := Lib.hid (HMA.out x)
        by_cases hx1 : x = -1
        · cases b
          · have hg1 : decide (x = -1) = true := decide_eq_true hx1
            have hg2 : (x != -1) = false := by simp [hx1]
            have hg3 : (x == -1) = true := by simp [hx1]
            go_wp2_with fail
            clear hg1 hg2 hg3
            go_loopw [8] (fun i wq => ∃ j2 : Nat, i = .int .i64 j2 ∧ j2 ≤ k2 ∧ Hid (x ≠ -1 → x ∉ n.ps.take j2) ∧ Hid (Nts wq (some ad) n.ps) ∧ Hid (Below p w wq) ∧ Hid (NdAt wq p n)) (fun i _ => (k2 - intOf i).toNat)
            case atStart => exact ⟨0, rfl, by omega, (fun _ h => by simp at h), HY, HB, HN⟩
            case round =>
              obtain ⟨j2, rfl, hj2, HNI, HYq, HBq, HNq⟩ := hrel
              obtain ⟨w5, rfl⟩ : ∃ w5, w5 = wr := ⟨wr, rfl⟩
              clear hcx HY HB HN
              by_cases hjl : j2 < k2
              · obtain ⟨y, hyj⟩ : ∃ y, n.ps[j2]? = some y := ⟨_, List.getElem?_eq_getElem (by rw [ps_len]; omega)⟩
                obtain ⟨ad3, e3, hcy⟩ := HYq.out j2 _ hyj
                injection e3 with e3; subst e3
                obtain ⟨ad3, e3, hcx⟩ := HYq.out k2 _ HX.out
                injection e3 with e3; subst e3
                have HYJ := Lib.hid hyj
                clear hyj
                have hcxq := fun q => (show ((w5.drewN q).cell? (ad.add k2) = some (.int .i64 x)) from hcx)
                have hcyq := fun q => (show ((w5.drewN q).cell? (ad.add j2) = some (.int .i64 y)) from hcy)
                have hg1 : decide (x = -1) = true := decide_eq_true hx1
                have hg2 : (x != -1) = false := by simp [hx1]
                have HNI2 : Hid (x ≠ -1 → x ∉ n.ps.take (j2 + 1)) := fun h => absurd hx1 h
                clear hx1
                go_upto_region 14 with fail
                go_quiet (fail)
                go_wp2_with fail
                go_roundw
                case rel => exact ⟨j2 + 1, by go_num, by omega, HNI2, HYq, bdn HBq.out _, HNq⟩
                case measure => simp [intOf]; omega
              · obtain rfl : j2 = k2 := by omega
                have HPK := Lib.hid (HPN.out (HE.out.2 (Or.inl hx1)))
                have HBK : Hid (false = true ↔ ∀ j, j < j2 + 1 → n.ps.getD j 0 = -1) := ⟨(fun h => by cases h), (fun h => by have := HBX.out.2 h; simp_all)⟩
                clear hx1
                go_wp2_with fail
                go_roundw
                case rel => exact ⟨_, j2 + 1, rfl, by go_num, by omega, HBK, HPK, HYq, HBq, HNq⟩
                case measure => simp [intOf]; omega
          · have hg1 : decide (x = -1) = true := decide_eq_true hx1
            have hg2 : (x != -1) = false := by simp [hx1]
            have hg3 : (x == -1) = true := by simp [hx1]
            go_wp2_with fail
            clear hg1 hg2 hg3
            go_loopw [8] (fun i wq => ∃ j2 : Nat, i = .int .i64 j2 ∧ j2 ≤ k2 ∧ Hid (x ≠ -1 → x ∉ n.ps.take j2) ∧ Hid (Nts wq (some ad) n.ps) ∧ Hid (Below p w wq) ∧ Hid (NdAt wq p n)) (fun i _ => (k2 - intOf i).toNat)
            case atStart => exact ⟨0, rfl, by omega, (fun _ h => by simp at h), HY, HB, HN⟩
            case round =>
              obtain ⟨j2, rfl, hj2, HNI, HYq, HBq, HNq⟩ := hrel
              obtain ⟨w5, rfl⟩ : ∃ w5, w5 = wr := ⟨wr, rfl⟩
              clear hcx HY HB HN
              by_cases hjl : j2 < k2
              · obtain ⟨y, hyj⟩ : ∃ y, n.ps[j2]? = some y := ⟨_, List.getElem?_eq_getElem (by rw [ps_len]; omega)⟩
                obtain ⟨ad3, e3, hcy⟩ := HYq.out j2 _ hyj
                injection e3 with e3; subst e3
                obtain ⟨ad3, e3, hcx⟩ := HYq.out k2 _ HX.out
                injection e3 with e3; subst e3
                have HYJ := Lib.hid hyj
                clear hyj
                have hcxq := fun q => (show ((w5.drewN q).cell? (ad.add k2) = some (.int .i64 x)) from hcx)
                have hcyq := fun q => (show ((w5.drewN q).cell? (ad.add j2) = some (.int .i64 y)) from hcy)
                have hg1 : decide (x = -1) = true := decide_eq_true hx1
                have hg2 : (x != -1) = false := by simp [hx1]
                have HNI2 : Hid (x ≠ -1 → x ∉ n.ps.take (j2 + 1)) := fun h => absurd hx1 h
                clear hx1
                go_upto_region 14 with fail
                go_quiet (fail)
                go_wp2_with fail
                go_roundw
                case rel => exact ⟨j2 + 1, by go_num, by omega, HNI2, HYq, bdn HBq.out _, HNq⟩
                case measure => simp [intOf]; omega
              · obtain rfl : j2 = k2 := by omega
                have HPK := Lib.hid (HPN.out (HE.out.2 (Or.inl hx1)))
                have HBK : Hid (true = true ↔ ∀ j, j < j2 + 1 → n.ps.getD j 0 = -1) := ⟨fun _ => HBX.out.1 ⟨by first | trivial | rfl, hx1⟩, fun _ => rfl⟩
                clear hx1
                go_wp2_with fail
                go_roundw
                case rel => exact ⟨_, j2 + 1, rfl, by go_num, by omega, HBK, HPK, HYq, HBq, HNq⟩
                case measure => simp [intOf]; omega
        · have hg1 : decide (x = -1) = false := decide_eq_false hx1
          have hg2 : (x != -1) = true := by simp [hx1]
          have hg3 : (x == -1) = false := by simp [hx1]
          by_cases hmx : 1 ≤ x ∧ x < 200
          · have HM1 := Lib.hid (decide_eq_true hmx)
            rw [HM1.out] at HM
            cases b
            · go_wp2_with fail
              refine (HM.out _).mono ?_; rintro e w7 ⟨rfl, rfl⟩
              go_wp2_with fail
              clear hg1 hg2 hg3
              go_loopw [8] (fun i wq => ∃ j2 : Nat, i = .int .i64 j2 ∧ j2 ≤ k2 ∧ Hid (x ≠ -1 → x ∉ n.ps.take j2) ∧ Hid (Nts wq (some ad) n.ps) ∧ Hid (Below p w wq) ∧ Hid (NdAt wq p n)) (fun i _ => (k2 - intOf i).toNat)
              case atStart => exact ⟨0, rfl, by omega, (fun _ h => by simp at h), HY, HB, HN⟩
              case round =>
                obtain ⟨j2, rfl, hj2, HNI, HYq, HBq, HNq⟩ := hrel
                obtain ⟨w5, rfl⟩ : ∃ w5, w5 = wr := ⟨wr, rfl⟩
                clear hcx HY HB HN
                by_cases hjl : j2 < k2
                · obtain ⟨y, hyj⟩ : ∃ y, n.ps[j2]? = some y := ⟨_, List.getElem?_eq_getElem (by rw [ps_len]; omega)⟩
                  obtain ⟨ad3, e3, hcy⟩ := HYq.out j2 _ hyj
                  injection e3 with e3; subst e3
                  obtain ⟨ad3, e3, hcx⟩ := HYq.out k2 _ HX.out
                  injection e3 with e3; subst e3
                  have HYJ := Lib.hid hyj
                  clear hyj
                  have hcxq := fun q => (show ((w5.drewN q).cell? (ad.add k2) = some (.int .i64 x)) from hcx)
                  have hcyq := fun q => (show ((w5.drewN q).cell? (ad.add j2) = some (.int .i64 y)) from hcy)
                  have hg1 : decide (x = -1) = false := decide_eq_false hx1
                  have hg2 : (x != -1) = true := by simp [hx1]
                  by_cases hyx : y = x
                  · have HF := Lib.hid (HNO.out fun h => by
                      rcases HE.out.1 h with h8 | h8
                      · exact hx1 h8
                      · refine h8.2 (List.mem_of_getElem? (i := j2) ?_)
                        rw [List.getElem?_take, if_pos hjl, HYJ.out, hyx])
                    have hg3 : decide (y = x) = true := decide_eq_true hyx
                    have hg4 : (y == x) = true := by simp [hyx]
                    clear hyx hx1
                    go_upto_region 14 with fail
                    go_quiet (fail)
                    go_wp2_with fail
                    go_ret
                    exact ⟨ret_bool HF.out.symm, (by rw [hp]; exact bdn HBq.out _)⟩
                  · have HNI2 : Hid (x ≠ -1 → x ∉ n.ps.take (j2 + 1)) := fun h hm => by
                      rw [take_snoc' HYJ.out, List.mem_append, List.mem_singleton] at hm
                      rcases hm with hm | hm
                      · exact HNI.out h hm
                      · exact hyx hm.symm
                    have hg3 : decide (y = x) = false := decide_eq_false hyx
                    have hg4 : (y == x) = false := by simp [hyx]
                    clear hyx hx1
                    go_upto_region 14 with fail
                    go_quiet (fail)
                    go_wp2_with fail
                    go_roundw
                    case rel => exact ⟨j2 + 1, by go_num, by omega, HNI2, HYq, bdn HBq.out _, HNq⟩
                    case measure => simp [intOf]; omega
                · obtain rfl : j2 = k2 := by omega
                  have HPK := Lib.hid (HPN.out (HE.out.2 (Or.inr ⟨hmx, HNI.out hx1⟩)))
                  have HBK : Hid (false = true ↔ ∀ j, j < j2 + 1 → n.ps.getD j 0 = -1) := ⟨(fun h => by cases h), (fun h => by have := HBX.out.2 h; simp_all)⟩
                  clear hx1
                  clear hmx
                  go_wp2_with fail
                  go_roundw
                  case rel => exact ⟨_, j2 + 1, rfl, by go_num, by omega, HBK, HPK, HYq, HBq, HNq⟩
                  case measure => simp [intOf]; omega
            · go_wp2_with fail
              refine (HM.out _).mono ?_; rintro e w7 ⟨rfl, rfl⟩
              go_wp2_with fail
              clear hg1 hg2 hg3
              go_loopw [8] (fun i wq => ∃ j2 : Nat, i = .int .i64 j2 ∧ j2 ≤ k2 ∧ Hid (x ≠ -1 → x ∉ n.ps.take j2) ∧ Hid (Nts wq (some ad) n.ps) ∧ Hid (Below p w wq) ∧ Hid (NdAt wq p n)) (fun i _ => (k2 - intOf i).toNat)
              case atStart => exact ⟨0, rfl, by omega, (fun _ h => by simp at h), HY, HB, HN⟩
              case round =>
                obtain ⟨j2, rfl, hj2, HNI, HYq, HBq, HNq⟩ := hrel
                obtain ⟨w5, rfl⟩ : ∃ w5, w5 = wr := ⟨wr, rfl⟩
                clear hcx HY HB HN
                by_cases hjl : j2 < k2
                · obtain ⟨y, hyj⟩ : ∃ y, n.ps[j2]? = some y := ⟨_, List.getElem?_eq_getElem (by rw [ps_len]; omega)⟩
                  obtain ⟨ad3, e3, hcy⟩ := HYq.out j2 _ hyj
                  injection e3 with e3; subst e3
                  obtain ⟨ad3, e3, hcx⟩ := HYq.out k2 _ HX.out
                  injection e3 with e3; subst e3
                  have HYJ := Lib.hid hyj
                  clear hyj
                  have hcxq := fun q => (show ((w5.drewN q).cell? (ad.add k2) = some (.int .i64 x)) from hcx)
                  have hcyq := fun q => (show ((w5.drewN q).cell? (ad.add j2) = some (.int .i64 y)) from hcy)
                  have hg1 : decide (x = -1) = false := decide_eq_false hx1
                  have hg2 : (x != -1) = true := by simp [hx1]
                  by_cases hyx : y = x
                  · have HF := Lib.hid (HNO.out fun h => by
                      rcases HE.out.1 h with h8 | h8
                      · exact hx1 h8
                      · refine h8.2 (List.mem_of_getElem? (i := j2) ?_)
                        rw [List.getElem?_take, if_pos hjl, HYJ.out, hyx])
                    have hg3 : decide (y = x) = true := decide_eq_true hyx
                    have hg4 : (y == x) = true := by simp [hyx]
                    clear hyx hx1
                    go_upto_region 14 with fail
                    go_quiet (fail)
                    go_wp2_with fail
                    go_ret
                    exact ⟨ret_bool HF.out.symm, (by rw [hp]; exact bdn HBq.out _)⟩
                  · have HNI2 : Hid (x ≠ -1 → x ∉ n.ps.take (j2 + 1)) := fun h hm => by
                      rw [take_snoc' HYJ.out, List.mem_append, List.mem_singleton] at hm
                      rcases hm with hm | hm
                      · exact HNI.out h hm
                      · exact hyx hm.symm
                    have hg3 : decide (y = x) = false := decide_eq_false hyx
                    have hg4 : (y == x) = false := by simp [hyx]
                    clear hyx hx1
                    go_upto_region 14 with fail
                    go_quiet (fail)
                    go_wp2_with fail
                    go_roundw
                    case rel => exact ⟨j2 + 1, by go_num, by omega, HNI2, HYq, bdn HBq.out _, HNq⟩
                    case measure => simp [intOf]; omega
                · obtain rfl : j2 = k2 := by omega
                  have HPK := Lib.hid (HPN.out (HE.out.2 (Or.inr ⟨hmx, HNI.out hx1⟩)))
                  have HBK : Hid (false = true ↔ ∀ j, j < j2 + 1 → n.ps.getD j 0 = -1) := ⟨(fun h => by cases h), (fun h => by have := HBX.out.2 h; simp_all)⟩
                  clear hx1
                  clear hmx
                  go_wp2_with fail
                  go_roundw
                  case rel => exact ⟨_, j2 + 1, rfl, by go_num, by omega, HBK, HPK, HYq, HBq, HNq⟩
                  case measure => simp [intOf]; omega
          · have HM1 := Lib.hid (decide_eq_false hmx)
            rw [HM1.out] at HM
            have HF := Lib.hid (HNO.out fun h => by rcases HE.out.1 h with h8 | h8; exact hx1 h8; exact hmx h8.1)
            clear hmx
            go_wp2_with fail
            refine (HM.out _).mono ?_; rintro e w7 ⟨rfl, rfl⟩
            go_wp2_with fail
            go_ret
            exact ⟨ret_bool HF.out.symm, (by rw [hp]; exact HB.out)⟩
      · obtain rfl : k2 = 5 := by omega
        have HPLM : Hid (PlM n.ps) := HPL
        have HBN5 : Hid (b = true ↔ n.ps = none5) := HBN.out.trans (ps_none n).symm
        obtain ⟨c0, c1, c2, c7, c8⟩ := HN.out.cells
        have hs2 := hs
        clear HPL HBN hs2 HMA
        by_cases k1 : k = 1
        · subst k1
          by_cases hs0 : 0 ≤ n.s
          · by_cases hs1 : n.s ≤ 1120
            · cases bt
              · have hq := hs1
                have HF : Hid (decide (MayN 1 n) = false) := decide_eq_false fun h => by have h9 := HTB.out; have h10 := HBN5.out; unfold MayN at h; rcases h.2 with h6 | h6 | h6 <;> simp_all
                go_wp2_with fail
                go_ret
                exact ⟨ret_bool HF.out.symm, by first | exact HB.out | (rw [hp]; exact HB.out)⟩
              · have hq := hs1
                have HF : Hid (decide (MayN 1 n) = true) := decide_eq_true ⟨⟨by omega, by omega, by omega⟩, Or.inl ⟨rfl, ⟨hs0, hs1⟩, HTB.out.2 rfl, HPLM.out⟩⟩
                go_wp2_with fail
                go_ret
                exact ⟨ret_bool HF.out.symm, by first | exact HB.out | (rw [hp]; exact HB.out)⟩
            · have hq := hs1
              have HF : Hid (decide (MayN 1 n) = false) := decide_eq_false fun h => by unfold MayN at h; omega
              go_wp2_with fail
              go_ret
              exact ⟨ret_bool HF.out.symm, by first | exact HB.out | (rw [hp]; exact HB.out)⟩
          · have hq := hs0
            have HF : Hid (decide (MayN 1 n) = false) := decide_eq_false fun h => by unfold MayN at h; omega
            go_wp2_with fail
            go_ret
            exact ⟨ret_bool HF.out.symm, by first | exact HB.out | (rw [hp]; exact HB.out)⟩
        by_cases k2 : k = 2
        · subst k2
          by_cases hs0 : n.s = 0
          · cases b
            · have hq := hs0
              have HF : Hid (decide (MayN 2 n) = false) := decide_eq_false fun h => by have h9 := HTB.out; have h10 := HBN5.out; unfold MayN at h; rcases h.2 with h6 | h6 | h6 <;> simp_all
              go_wp2_with fail
              go_ret
              exact ⟨ret_bool HF.out.symm, by first | exact HB.out | (rw [hp]; exact HB.out)⟩
            · cases bt
              · have hq := hs0
                have HF : Hid (decide (MayN 2 n) = false) := decide_eq_false fun h => by have h9 := HTB.out; have h10 := HBN5.out; unfold MayN at h; rcases h.2 with h6 | h6 | h6 <;> simp_all
                go_wp2_with fail
                go_ret
                exact ⟨ret_bool HF.out.symm, by first | exact HB.out | (rw [hp]; exact HB.out)⟩
              · by_cases hl1 : n.l ≤ 1
                · have hq := hl1
                  have HF : Hid (decide (MayN 2 n) = true) := decide_eq_true ⟨⟨by omega, by omega, by omega⟩, Or.inr (Or.inl ⟨rfl, hl1, hs0, HTB.out.2 rfl, HBN5.out.1 rfl⟩)⟩
                  go_wp2_with fail
                  go_ret
                  exact ⟨ret_bool HF.out.symm, by first | exact HB.out | (rw [hp]; exact HB.out)⟩
                · have hq := hl1
                  have HF : Hid (decide (MayN 2 n) = false) := decide_eq_false fun h => by unfold MayN at h; omega
                  go_wp2_with fail
                  go_ret
                  exact ⟨ret_bool HF.out.symm, by first | exact HB.out | (rw [hp]; exact HB.out)⟩
          · have hq := hs0
            have HF : Hid (decide (MayN 2 n) = false) := decide_eq_false fun h => by unfold MayN at h; omega
            go_wp2_with fail
            go_ret
            exact ⟨ret_bool HF.out.symm, by first | exact HB.out | (rw [hp]; exact HB.out)⟩
        by_cases k3 : k = 3
        · subst k3
          cases b
          · have hq := hsz
            have HF : Hid (decide (MayN 3 n) = false) := decide_eq_false fun h => by have h9 := HTB.out; have h10 := HBN5.out; unfold MayN at h; rcases h.2 with h6 | h6 | h6 <;> simp_all
            go_wp2_with fail
            go_ret
            exact ⟨ret_bool HF.out.symm, by first | exact HB.out | (rw [hp]; exact HB.out)⟩
          · have HLN := Lib.hid hsz
            by_cases h4 : TgM n.t
            · have HT0 := Lib.hid (decide_eq_true h4)
              rw [HT0.out] at HT
              by_cases h5 : n.s = n.t.length
              · have HF : Hid (decide (MayN 3 n) = true) := decide_eq_true ⟨⟨by omega, by omega, by omega⟩, Or.inr (Or.inr ⟨rfl, h4, h5, HBN5.out.1 rfl⟩)⟩
                rw [← HLN.out] at h5
                have h5a : (n.s == ((strOfNums n.t).size : Int)) = true := by simpa using h5
                have h5b : decide (n.s = ((strOfNums n.t).size : Int)) = true := decide_eq_true h5
                clear h4 hsz h5 HLN HTB HT0
                go_wp2_with fail
                refine (HT.out _).mono ?_; rintro e w8 ⟨rfl, rfl⟩
                go_wp2_with fail
                go_ret
                exact ⟨ret_bool HF.out.symm, by first | exact HB.out | (rw [hp]; exact HB.out)⟩
              · have HF : Hid (decide (MayN 3 n) = false) := decide_eq_false fun h => by unfold MayN at h; rcases h.2 with h6 | h6 | h6; exact absurd h6.1 (by omega); exact absurd h6.1 (by omega); exact h5 h6.2.2.1
                rw [← HLN.out] at h5
                have h5a : (n.s == ((strOfNums n.t).size : Int)) = false := by simpa using h5
                have h5b : decide (n.s = ((strOfNums n.t).size : Int)) = false := decide_eq_false h5
                clear h4 hsz h5 HLN HTB HT0
                go_wp2_with fail
                refine (HT.out _).mono ?_; rintro e w8 ⟨rfl, rfl⟩
                go_wp2_with fail
                go_ret
                exact ⟨ret_bool HF.out.symm, by first | exact HB.out | (rw [hp]; exact HB.out)⟩
            · have HT0 := Lib.hid (decide_eq_false h4)
              rw [HT0.out] at HT
              have HF : Hid (decide (MayN 3 n) = false) := decide_eq_false fun h => by unfold MayN at h; rcases h.2 with h6 | h6 | h6; exact absurd h6.1 (by omega); exact absurd h6.1 (by omega); exact h4 h6.2.1
              clear h4 hsz HLN HTB HT0
              go_wp2_with fail
              refine (HT.out _).mono ?_; rintro e w8 ⟨rfl, rfl⟩
              go_wp2_with fail
              go_ret
              exact ⟨ret_bool HF.out.symm, by first | exact HB.out | (rw [hp]; exact HB.out)⟩
        have HF : Hid (decide (MayN k n) = false) := decide_eq_false fun h => by unfold MayN at h; omega
        go_wp2_with fail
        go_ret
        exact ⟨ret_bool HF.out.symm, by first | exact HB.out | (rw [hp]; exact HB.out)⟩
end Go.Proofs.Ytebahdiiokfkfaa
