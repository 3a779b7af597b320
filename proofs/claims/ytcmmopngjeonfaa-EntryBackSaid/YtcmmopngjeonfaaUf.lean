/- Contract: the reference's PutID. -/
import Derived.Test.YtcmmopngjeonfaaUe
import Derived.Test.YtcmmopngjeonfaaUd
import Derived.Test.YtcmmopngjeonfaaAp
namespace Go.Proofs.Ytcmmopngjeonfaa
open Go.ChangeShapes Go.WideShapes Go.ChangeAt Go.RowKit
set_option linter.unusedVariables false
structure JPI (w : World) (p : Nat) (l a g : Int) (W : World) : Prop where
  bel : Below p w W
  sz : p ≤ W.heap.size
  at_ : IdAt W p l a g
def VPI (p : Nat) (l : Int) (an gn : Nat) (i : Nat) (v : Value) (W : World) : Prop :=
  match i with
  | 0 => v = .pointer (some ⟨p, 0, none⟩)
  | 1 => v = .int .i64 l
  | 2 => v = .int .u8 (l % 256)
  | 4 => v = .pointer (some ⟨p, 1, none⟩)
  | 5 => v = .int .i64 an
  | 6 => v = .int .u64 an
  | 9 => v = .pointer (some ⟨p, 2, none⟩)
  | 10 => v = .int .u32 gn
  | 11 => v = .int .u64 gn
  | 3 => FullAt W p v [l % 256]
  | 7 => FullAt W p v (be an 2)
  | 8 => W.ownsRow p 5 1 v 3 (Bs ([l % 256] ++ be an 2))
  | 12 => FullAt W p v (be gn 4)
  | 13 => W.ownsRow p 5 1 v 7 (Bs (([l % 256] ++ be an 2) ++ be gn 4))
  | _ => True
def SPI (i : Nat) (w w' : World) : Prop := if i = 13 then KeepB 3 7 w w' else w.grownBy w' none
theorem VPI.on {p : Nat} {l : Int} {an gn i j : Nat} {v : Value} {w w' : World} (hij : i ≠ j) (h : VPI p l an gn j v w) (hs : SPI i w w') : VPI p l an gn j v w' := by
  unfold SPI at hs
  by_cases hi : i = 13
  · rw [if_pos hi] at hs
    unfold VPI at *
    split <;> try exact h
    · exact FullAt.keep h hs (by show 1 < 7; omega)
    · exact FullAt.keep h hs (by rw [be_length]; decide)
    · exact own_keep h hs (by decide)
    · exact FullAt.keep h hs (by rw [be_length]; decide)
    · exact absurd hi hij
    · trivial
  · rw [if_neg hi] at hs
    unfold VPI at *
    split <;> try exact h
    · exact FullAt.grown h hs
    · exact FullAt.grown h hs
    · exact World.ownsRow.kept h hs (by cases v.ownBlock <;> simp)
    · exact FullAt.grown h hs
    · exact World.ownsRow.kept h hs (by cases v.ownBlock <;> simp)
    · trivial
set_option maxRecDepth 100000 in
set_option maxHeartbeats 3200000 in
theorem irput_any (l a g : Int) (w : World) (hl : i64 l) (ha : i64 a) (hg : u32 g) :
    Calls Try.prog 18 #[idV l a g] w fun e w' => ∃ v, e = .returned v ∧ w'.ownsRow w.heap.size 5 1 v (putL l a g).length (Bs (putL l a g)) ∧ Below w.heap.size w w' := by
  have HM := Lib.hid (irmay_any l a g)
  have HB := Lib.hid (bel1 (w := w) (Obj.cells #[.int .i64 l, .int .i64 a, .int .u32 g] 24))
  have H0 := Lib.hid (IdAt.new w l a g)
  rw [idV_eq] at HM ⊢
  by_cases hmay : MayI l a g
  · have hp : putL l a g = idL l a g := by unfold putL; rw [if_pos hmay]
    have hp2 : (idL l a g).length = 7 := by unfold idL numB; simp [be_length]
    rw [hp, hp2]
    rw [decide_eq_true hmay] at HM
    have hl2 : -1 ≤ l ∧ l < 8 := by unfold MayI Within at hmay; omega
    have ha2 : 0 ≤ a ∧ a < 200 := by unfold MayI Within at hmay; omega
    obtain ⟨gn, rfl⟩ : ∃ gn : Nat, g = (gn : Int) := ⟨g.toNat, by have := hg.1; omega⟩
    obtain ⟨an, rfl⟩ : ∃ an : Nat, a = (an : Int) := ⟨a.toNat, by omega⟩
    have hgn : gn < 4294967296 := by have := hg.2; omega
    have HI : Hid (idL l an gn = ([l % 256] ++ be an 2) ++ be gn 4) := by
      unfold Hid idL numB
      rw [be2_eq, show (an : Int) / 256 = ((an / 256 % 256 : Nat) : Int) by omega, show ((an : Int)) = ((an / 1 % 256 : Nat) : Int) by omega]
      rfl
    rw [HI.out]
    have HA2 := Lib.hid (fun W => high_full an 2 W (by omega) (by omega))
    have HA4 := Lib.hid (fun W => high_full gn 4 W (by omega) (by omega))
    have e1 : IntKind.u64.wrap (an : Int) = an := IntWalk.u64_in _ (by omega)
    have e2 : IntKind.u64.wrap (gn : Int) = gn := IntWalk.u64_in _ (by omega)
    clear hmay hp hp2 hg ha hl HI
    unfold idA at HM ⊢
    go_enter Try.func18, Try.ntmps18
    go_wp2_with fail
    refine (HM.out _).mono ?_
    rintro e w1 ⟨rfl, hb1⟩
    have H1 := Lib.hid (H0.out.below hb1)
    have HB1 := Lib.hid (keepB HB.out hb1)
    have HS1 := Lib.hid HB1.out.size
    clear hb1 HB H0
    go_upto_region 3 with fail
    generalize hp : w.heap.size = p at *
    have hJ0 : JPI w p l an gn w1.drew := ⟨HB1.out.drew, HS1.out, H1.out⟩
    refine wp_region_rgk (VPI p l an gn) (fun _ W => JPI w p l an gn W) SPI (by kernel_rfl) (by kernel_rfl) (fun i j v' w' w'' hij hind h hg => h.on hij hg) hJ0 ?_
    have srefl : ∀ (i : Nat) (W : World), SPI i W W := fun i W => by unfold SPI; split; exact KeepB.grown (World.grownBy.refl _ _); exact World.grownBy.refl _ _
    have HP := Lib.hid hp
    clear hJ0 hp HB1 HS1 H1
    simp only [RAll]
    refine ⟨?_, ?_, ?_, ?_, ?_, ?_, ?_, ?_, ?_, ?_, ?_, ?_, ?_, ?_, ?_⟩
    · refine RStepK.of rfl fun T W L hag hL hJ hLs hd => ?_   -- 0: 6 := Op.fieldAddr 24 (Operand.tmp 1) 0
      have e1 : T.getD 1 undef = _ := (agree_at hag 1 (by kernel_rfl)).trans rfl
      clear hag hd
      go_simp
      exact ⟨_, rfl, rfl⟩
    · refine RStepK.of rfl fun T W L hag hL hJ hLs hd => ?_   -- 1: 7 := Op.load 3 (Operand.tmp 6)
      have d6 : T.getD 6 undef = _ := hd ⟨0, .data⟩ (by simp) rfl _ rfl
      have fct0 := (show W.cell? ⟨p, 0, none⟩ = some (.int .i64 l) from hJ.at_.cell 0)
      clear hag hd
      go_simp
      exact ⟨_, rfl, rfl⟩
    · refine RStepK.of rfl fun T W L hag hL hJ hLs hd => ?_   -- 2: 8 := Op.convert 3 5 (Operand.tmp 7)
      have d7 : T.getD 7 undef = _ := hd ⟨1, .data⟩ (by simp) rfl _ rfl
      clear hag hd
      go_simp
      exact ⟨_, rfl, rfl⟩
    · refine RStepK.of rfl fun T W L hag hL hJ hLs hd => ?_   -- 3: 9 := Op.buildSlice 25 1 #[(0, Operand.tmp 8)]
      have d8 : T.getD 8 undef = _ := hd ⟨2, .data⟩ (by simp) rfl _ rfl
      simp only [Array.getD_eq_getD_getElem?] at d8
      clear hag hd
      go_simp
      exact ⟨_, rfl, ⟨_, _, rfl, hJ.sz, heap_alloc_new _ _, rfl⟩, ⟨hJ.bel.alloc hJ.sz _, by rw [size_alloc']; exact Nat.le_succ_of_le hJ.sz, hJ.at_.alloc _⟩, World.grownBy_alloc W _ _⟩
    · refine RStepK.of rfl fun T W L hag hL hJ hLs hd => ?_   -- 4: 10 := Op.fieldAddr 24 (Operand.tmp 1) 1
      have e1 : T.getD 1 undef = _ := (agree_at hag 1 (by kernel_rfl)).trans rfl
      clear hag hd
      go_simp
      exact ⟨_, rfl, rfl⟩
    · refine RStepK.of rfl fun T W L hag hL hJ hLs hd => ?_   -- 5: 11 := Op.load 3 (Operand.tmp 10)
      have d10 : T.getD 10 undef = _ := hd ⟨4, .data⟩ (by simp) rfl _ rfl
      have fct0 := (show W.cell? ⟨p, 1, none⟩ = some (.int .i64 an) from hJ.at_.cell 1)
      clear hag hd
      go_simp
      exact ⟨_, rfl, rfl⟩
    · refine RStepK.of rfl fun T W L hag hL hJ hLs hd => ?_   -- 6: 12 := Op.convert 3 41 (Operand.tmp 11)
      have d11 : T.getD 11 undef = _ := hd ⟨5, .data⟩ (by simp) rfl _ rfl
      clear hag hd
      go_simp
      exact ⟨_, rfl, rfl⟩
    · refine RStepK.of rfl fun T W L hag hL hJ hLs hd => ?_   -- 7: 13 := Op.call { callee := Callee.value (Operand.func 24), args := 
      have d12 : T.getD 12 undef = _ := hd ⟨6, .data⟩ (by simp) rfl _ rfl
      clear hag hd
      go_simp
      refine (HA2.out W).mono ?_
      rintro en w' ⟨u, rfl, hf, hb⟩
      exact ⟨_, rfl, hf.mono hJ.sz, ⟨hJ.bel.trans (hb.mono hJ.sz), Nat.le_trans hJ.sz hb.size, hJ.at_.below hb⟩, growN hb⟩
    · refine RStepK.of rfl fun T W L hag hL hJ hLs hd => ?_   -- 8: 14 := Op.call { callee := Callee.builtin Builtin.append, args := #
      have x9 : FullAt W p (T.getD 9 undef) [l % 256] := hd ⟨3, .data⟩ (by simp) rfl _ rfl
      have x13 : FullAt W p (T.getD 13 undef) (be an 2) := hd ⟨7, .data⟩ (by simp) rfl _ rfl
      obtain ⟨q, (e13 : T.getD 13 undef = _), hy⟩ := x13.byt
      refine wp_app_full' W (.tmp 9) (.tmp 13) rfl p _ [l % 256] rfl x9 (some ⟨q, 0, none⟩) 2 2 (be an 2) e13 hy rfl (by omega) (by simp) hJ.sz ?_
      intro v' w' h1 h2
      exact ⟨_, rfl, h1, ⟨hJ.bel.grown h2 hJ.sz (by simp), Nat.le_trans hJ.sz h2.size, hJ.at_.grown h2⟩, h2⟩
    · refine RStepK.of rfl fun T W L hag hL hJ hLs hd => ?_   -- 9: 15 := Op.fieldAddr 24 (Operand.tmp 1) 2
      have e1 : T.getD 1 undef = _ := (agree_at hag 1 (by kernel_rfl)).trans rfl
      clear hag hd
      go_simp
      exact ⟨_, rfl, rfl⟩
    · refine RStepK.of rfl fun T W L hag hL hJ hLs hd => ?_   -- 10: 16 := Op.load 22 (Operand.tmp 15)
      have d15 : T.getD 15 undef = _ := hd ⟨9, .data⟩ (by simp) rfl _ rfl
      have fct0 := (show W.cell? ⟨p, 2, none⟩ = some (.int .u32 gn) from hJ.at_.cell 2)
      clear hag hd
      go_simp
      exact ⟨_, rfl, rfl⟩
    · refine RStepK.of rfl fun T W L hag hL hJ hLs hd => ?_   -- 11: 17 := Op.convert 22 41 (Operand.tmp 16)
      have d16 : T.getD 16 undef = _ := hd ⟨10, .data⟩ (by simp) rfl _ rfl
      clear hag hd
      go_simp
      exact ⟨_, rfl, rfl⟩
    · refine RStepK.of rfl fun T W L hag hL hJ hLs hd => ?_   -- 12: 18 := Op.call { callee := Callee.value (Operand.func 24), args := 
      have d17 : T.getD 17 undef = _ := hd ⟨11, .data⟩ (by simp) rfl _ rfl
      clear hag hd
      go_simp
      refine (HA4.out W).mono ?_
      rintro en w' ⟨u, rfl, hf, hb⟩
      exact ⟨_, rfl, hf.mono hJ.sz, ⟨hJ.bel.trans (hb.mono hJ.sz), Nat.le_trans hJ.sz hb.size, hJ.at_.below hb⟩, growN hb⟩
    · refine RStepK.of rfl fun T W L hag hL hJ hLs hd => ?_   -- 13: 19 := Op.call { callee := Callee.builtin Builtin.append, args := #
      have x14 : W.ownsRow p 5 1 (T.getD 14 undef) 3 (Bs ([l % 256] ++ be an 2)) := hd ⟨8, .data⟩ (by simp) rfl _ rfl
      have x18 : FullAt W p (T.getD 18 undef) (be gn 4) := hd ⟨12, .data⟩ (by simp) rfl _ rfl
      obtain ⟨q, (e18 : T.getD 18 undef = _), hy⟩ := x18.byt
      refine wp_app_keep W (.tmp 14) (.tmp 18) rfl p _ 3 _ rfl x14 (some ⟨q, 0, none⟩) 4 4 (be gn 4) e18 hy rfl (by omega) hJ.sz ?_
      intro v' w' h1 h2 h3
      exact ⟨_, rfl, h1, ⟨hJ.bel.grown h2 hJ.sz (fun k hk => (x14.lt k hk).1), Nat.le_trans hJ.sz h2.size, h3.small _ _ _ _ hJ.at_ (by show 3 < 3 + 4; omega)⟩, h3⟩
    · refine RLastK.of rfl fun T W L hag hLs hL hJ hd => ?_   -- 14: 2 := Op.assign (Operand.tmp 19)
      have x19 : W.ownsRow p 5 1 (T.getD 19 undef) 7 (Bs (([l % 256] ++ be an 2) ++ be gn 4)) := hd 13 _ (by simp) rfl
      obtain ⟨f, hf, hT⟩ := agree_fn hag
      have h19 := hf 19
      rw [← h19] at x19
      have HX19 := Lib.hid x19
      clear h19 x19
      have HJ := Lib.hid hJ
      clear hag hd hJ hf
      rw [hT]
      clear hT
      simp only [List.pop_toArray, List.dropLast_cons_cons, List.dropLast_singleton, List.filterMap_cons, List.filterMap_nil, List.foldl_cons, List.foldl_nil, List.setIfInBounds_toArray, List.set_cons_succ, List.set_cons_zero]
      go_wp2_with fail
      go_ret
      exact ⟨_, rfl, by rw [HP.out]; exact HX19.out, by rw [HP.out]; exact HJ.out.bel⟩
  · have hp : putL l a g = [] := by unfold putL; rw [if_neg hmay]
    rw [hp]
    rw [decide_eq_false hmay] at HM
    clear hp hmay
    unfold idA at HM ⊢
    go_enter Try.func18, Try.ntmps18
    go_wp2_with fail
    refine (HM.out _).mono ?_
    rintro e w1 ⟨rfl, hb1⟩
    have HB1 := Lib.hid (keepB HB.out hb1)
    clear hb1 HB H0
    go_wp2_with fail
    go_ret
    exact ⟨_, rfl, ⟨rfl, Or.inl ⟨rfl, rfl⟩⟩, HB1.out⟩
end Go.Proofs.Ytcmmopngjeonfaa
