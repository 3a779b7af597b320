/- Contract: the reference's PutRec. -/
import Derived.Test.YtflldlhfeiamnaaEl
import Derived.Test.YtflldlhfeiamnaaEh
import Derived.Deep.DeepCutAuto
namespace Go.Proofs.Ytflldlhfeiamnaa
open Go.ChangeShapes Go.WideShapes Go.ChangeAt Go.RowKit
set_option linter.unusedVariables false
theorem be2_mod (n : Nat) : be (n % 65536) 2 = be n 2 := by
  have h1 : n % 65536 / 256 % 256 = n / 256 % 256 := by omega
  have h2 : n % 65536 / 1 % 256 = n / 1 % 256 := by omega
  rw [be2_eq, be2_eq, h1, h2]
set_option maxRecDepth 100000 in
set_option maxHeartbeats 6400000 in
theorem rput_any (lb : Int) (e s : Nat) (A : Option Addr) (l : List Wr) (n d : Nat) (w : World) (hlb : 0 ≤ lb ∧ lb ≤ 255) (he : e < 4294967296) (hs : s < 4294967296) (hn : l.length = n) (hl : n ≤ d) (hd : d ≤ 9223372036854775807) (hok : WrsOk l) (hy : Wrs w A l) :
    Calls Try.prog 11 #[.int .u8 lb, .int .u32 e, .int .u32 s, .slice A n d] w fun en w' => ∃ v, en = .returned (.tuple #[v, .bool (decide (MayL l))]) ∧ OwnTx w' w.heap.size v (putX lb e s l) ∧ Below w.heap.size w w' := by
  have HY := Lib.hid hy
  have HN := Lib.hid hn
  have HO := Lib.hid hok
  have HC := Lib.hid (rmay_any A l n d w hn hl hd hok hy)
  clear hn hok hy
  by_cases hmay : MayL l
  · have hn12 : n ≤ 12 := by rw [← HN.out]; exact hmay.1.2
    have HMAY := Lib.hid hmay
    have HX : Hid (putX lb e s l = putL lb e s l) := by unfold Hid putX; rw [if_pos hmay]
    have HHB := Lib.hid (headR_allB e s hlb hmay)
    have HHL := Lib.hid (headR_length lb e s l)
    have hwn : IntKind.u8.wrap (n : Int) = n := IntWalk.u8_in _ (by omega)
    have we : IntKind.u64.wrap (e : Int) = e := IntWalk.u64_in _ (by omega)
    have ws : IntKind.u64.wrap (s : Int) = s := IntWalk.u64_in _ (by omega)
    rw [decide_eq_true hmay] at HC ⊢
    clear hmay
    go_enter Try.func11, Try.ntmps11
    go_wp2_with fail
    refine HC.out.mono ?_
    rintro en w1 ⟨rfl, hb1⟩
    have own2 := own_new w1 w.heap.size 5 2 #[.int .u8 72, .int .u8 lb] (Bs [72, lb]) hb1.size rfl (by decide) rfl
    have B2 : Below w.heap.size w (w1.alloc (Obj.cells #[.int .u8 72, .int .u8 lb] 5)) := hb1.alloc hb1.size _
    clear HC
    go_wp2_with fail
    generalize w1.alloc (Obj.cells #[.int .u8 72, .int .u8 lb] 5) = W2 at *
    refine (high1_any e 4 W2 (by omega) (by omega)).mono ?_
    rintro en w3 ⟨v3, rfl, own3, hb3⟩
    obtain ⟨A3, d3, rfl, hle3, hd3, hy3⟩ := byt_own own3 (be_length e 4)
    rw [be_length]
    have own2' := ownB own2 hb3
    have B3 := keepB B2 hb3
    clear own2 own3 hle3
    go_wp2_with (first
      | (at_builtin
         refine wpList_app_byt _ rfl (.tmp 19) (.tmp 22) rfl w.heap.size _ 2 [72, lb] rfl own2' A3 4 d3 (be e 4) rfl hy3 (be_length _ _) (by omega) B3.size ?_
         intro v4 w4 h4 hg4 _
         have B4 : Below w.heap.size w w4 := B3.grown hg4 B3.size (fun j hj => (own2'.lt j hj).1)
         have own4 : w4.ownsRow w.heap.size 5 1 v4 6 (Bs ([72, lb] ++ be e 4)) := h4
         clear h4 hg4 own2' B2 B3 hy3))
    refine (high1_any s 4 w4 (by omega) (by omega)).mono ?_
    rintro en w5 ⟨v5, rfl, own5, hb5⟩
    obtain ⟨A5, d5, rfl, hle5, hd5, hy5⟩ := byt_own own5 (be_length s 4)
    rw [be_length]
    have own4' := ownB own4 hb5
    have B5 := keepB B4 hb5
    clear own4 own5 hle5
    go_wp2_with (first
      | (at_builtin
         refine wpList_app_byt _ rfl (.tmp 23) (.tmp 26) rfl w.heap.size _ 6 _ rfl own4' A5 4 d5 (be s 4) rfl hy5 (be_length _ _) (by omega) B5.size ?_
         intro v6 w6 h6 hg6 _
         have B6 : Below w.heap.size w w6 := B5.grown hg6 B5.size (fun j hj => (own4'.lt j hj).1)
         have own6 : w6.ownsRow w.heap.size 5 1 v6 10 (Bs ([72, lb] ++ be e 4 ++ be s 4)) := h6
         clear h6 hg6 own4' B4 B5 hy5)
      | (at_builtin
         refine wpList_app_byt _ rfl (.tmp 28) (.tmp 32) rfl w.heap.size _ 10 _ rfl (own6.alloc _) (some ⟨w6.heap.size, 0, none⟩) 1 1 [(n : Int)] rfl (byt_blk (heap_alloc_new _ _) rfl) rfl (by omega) (by rw [size_alloc']; have := B6.size; omega) ?_
         intro v7 w7 h7 hg7 _
         have B7 : Below w.heap.size w w7 := (B6.alloc B6.size _).grown hg7 (by rw [size_alloc']; have := B6.size; omega) (fun j hj => (own6.lt j hj).1)
         have own7 : w7.ownsRow w.heap.size 5 1 v7 11 (Bs (front lb e s n ++ told (l.take 0))) := by
           rw [show told (l.take 0) = [] from rfl, List.append_nil]; exact h7
         clear h7 hg7 own6 B6))
    go_loopw [10, 11] (fun v i wr => ∃ k : Nat, i = .int .i64 k ∧ k ≤ n ∧ wr.ownsRow w.heap.size 5 1 v (11 + 3 * k) (Bs (front lb e s n ++ told (l.take k))) ∧ Below w.heap.size w wr) (fun _ i _ => n - (intOf i).toNat)
    case atStart => exact ⟨0, rfl, Nat.zero_le _, own7, B7⟩
    case round =>
      obtain ⟨v, rfl⟩ : ∃ v, v = u10 := ⟨u10, rfl⟩
      obtain ⟨k, rfl, hk, own, hbel⟩ := hrel
      clear own7 B7
      by_cases hlt : k < n
      · obtain ⟨x, hx⟩ : ∃ x, l[k]? = some x := ⟨_, List.getElem?_eq_getElem (by rw [HN.out]; exact hlt)⟩
        have hxm := HMAY.out.2.1 x (List.mem_of_getElem? hx)
        obtain ⟨m, hm⟩ : ∃ m : Nat, x.t = (m : Int) := ⟨x.t.toNat, by have := hxm.2; omega⟩
        have hm200 : m < 200 := by have := hxm.2; omega
        have hk7 := hxm.1
        obtain ⟨ad, rfl, hat⟩ := HY.out.keep hbel k x hx
        have HT := Lib.hid (told_snoc hx hm)
        have HC0 : Hid (∀ W, Below w.heap.size w W → W.cell? (ad.add (k * 58)) = some (.int .i64 m)) := fun W hW => by
          obtain ⟨a', e', h⟩ := HY.out.keep hW k x hx
          injection e' with e'; subst e'
          rw [← hm]; exact h.c0
        have HC1 : Hid (∀ W, Below w.heap.size w W → W.cell? ⟨(ad.add (k * 58)).block, (ad.add (k * 58)).off + 1, none⟩ = some (.int .i64 x.k)) := fun W hW => by
          obtain ⟨a', e', h⟩ := HY.out.keep hW k x hx
          injection e' with e'; subst e'
          exact h.c1
        have wm : IntKind.u64.wrap (m : Int) = m := IntWalk.u64_in _ (by omega)
        have wk : IntKind.u8.wrap x.k = x.k := IntWalk.u8_in _ (by omega)
        have hkk : (k : Int) < n := by omega
        clear hx hat hxm hm
        go_upto_region 8 with fail
        have srefl : ∀ (i : Nat) (W : World), SPR w.heap.size (11 + 3 * k) i W W := fun i W => PresR.refl _ _ _
        have hJ0 : JPR w.heap.size w v (11 + 3 * k) (front lb e s n ++ told (l.take k)) wr.drew := ⟨hbel.drew, own⟩
        refine wp_region_rgk (VPR w.heap.size ad n d k m x.k v (11 + 3 * k) (front lb e s n ++ told (l.take k))) (fun _ W => JPR w.heap.size w v (11 + 3 * k) (front lb e s n ++ told (l.take k)) W) (SPR w.heap.size (11 + 3 * k)) (by kernel_rfl) (by kernel_rfl) (fun i j v' w' w'' hij hind h hg => h.on (by omega) hij (by
          rintro ⟨rfl, rfl⟩
          exact absurd (show true = false from hind.symm.trans (by kernel_rfl)) (by decide)) hg) hJ0 ?_
        clear hJ0
        simp only [RAll]
        refine ⟨?_, ?_, ?_, ?_, ?_, ?_, ?_, ?_, ?_, ?_, ?_, ?_, ?_, ?_, ?_, ?_, ?_, ?_, ?_⟩
        · refine RStepK.of rfl fun T W L hag hL hJ hLs hd => ?_   -- 0: 40 := Op.move (Operand.tmp 10)
          have e10 : T.getD 10 undef = _ := (agree_at hag 10 (by kernel_rfl)).trans rfl
          clear hag hd
          go_simp
          exact ⟨_, rfl, rfl⟩
        · refine RStepK.of rfl fun T W L hag hL hJ hLs hd => ?_   -- 1: 41 := Op.move (Operand.tmp 3)
          have e3 : T.getD 3 undef = _ := (agree_at hag 3 (by kernel_rfl)).trans rfl
          clear hag hd
          go_simp
          exact ⟨_, rfl, rfl⟩
        · refine RStepK.of rfl fun T W L hag hL hJ hLs hd => ?_   -- 2: 42 := Op.move (Operand.tmp 11)
          have e11 : T.getD 11 undef = _ := (agree_at hag 11 (by kernel_rfl)).trans rfl
          clear hag hd
          go_simp
          exact ⟨_, rfl, rfl⟩
        · refine RStepK.of rfl fun T W L hag hL hJ hLs hd => ?_   -- 3: 43 := Op.indexAddr 23 (Operand.tmp 41) (Operand.tmp 42)
          have d41 : T.getD 41 undef = _ := hd ⟨1, .data⟩ (by simp) rfl _ rfl
          have d42 : T.getD 42 undef = _ := hd ⟨2, .data⟩ (by simp) rfl _ rfl
          clear hag hd
          go_simp
          exact ⟨_, rfl, rfl⟩
        · refine RStepK.of rfl fun T W L hag hL hJ hLs hd => ?_   -- 4: 44 := Op.fieldAddr 46 (Operand.tmp 43) 0
          have d43 : T.getD 43 undef = _ := hd ⟨3, .data⟩ (by simp) rfl _ rfl
          clear hag hd
          go_simp
          exact ⟨_, rfl, rfl⟩
        · refine RStepK.of rfl fun T W L hag hL hJ hLs hd => ?_   -- 5: 45 := Op.load 3 (Operand.tmp 44)
          have d44 : T.getD 44 undef = _ := hd ⟨4, .data⟩ (by simp) rfl _ rfl
          have fct0 := HC0.out W hJ.bel
          clear hag hd
          go_simp
          exact ⟨_, rfl, rfl⟩
        · refine RStepK.of rfl fun T W L hag hL hJ hLs hd => ?_   -- 6: 46 := Op.convert 3 52 (Operand.tmp 45)
          have d45 : T.getD 45 undef = _ := hd ⟨5, .data⟩ (by simp) rfl _ rfl
          clear hag hd
          go_simp
          exact ⟨_, rfl, rfl⟩
        · refine RStepK.of rfl fun T W L hag hL hJ hLs hd => ?_   -- 7: 47 := Op.call { callee := Callee.value (Operand.func 24), args := #[Operand.
          have d46 : T.getD 46 undef = _ := hd ⟨6, .data⟩ (by simp) rfl _ rfl
          clear hag hd
          go_simp
          refine (high1_any m 2 W (by omega) (by omega)).mono ?_; rintro en w' ⟨v', rfl, hown, hb⟩
          exact ⟨_, rfl, hown.mono hJ.bel.size, ⟨hJ.bel.trans (hb.mono hJ.bel.size), ownB hJ.row hb⟩, PresR.below hb⟩
        · refine RStepK.of rfl fun T W L hag hL hJ hLs hd => ?_   -- 8: 48 := Op.call { callee := Callee.builtin Builtin.append, args := #[Operand.t
          have d40 : T.getD 40 undef = _ := hd ⟨0, .data⟩ (by simp) rfl _ rfl
          have x47 : W.ownsRow w.heap.size 5 1 (T.getD 47 undef) 2 (Bs (be m 2)) := hd ⟨7, .data⟩ (by simp) rfl _ rfl
          obtain ⟨A2, d2, e47, hle2, hd2, hy2⟩ := byt_own x47 (be_length m 2)
          rw [be_length] at e47
          refine wp_app_pres W (.tmp 40) (.tmp 47) rfl w.heap.size v (11 + 3 * k) _ d40 hJ.row A2 2 d2 (be m 2) e47 hy2 (be_length _ _) (by omega) (by omega) hJ.bel.size ?_
          intro v' w' h1 h2 h3
          exact ⟨_, rfl, h1, ⟨hJ.bel.trans h2, h3 _ _ _ (Nat.le_refl _) hJ.row⟩, h3⟩
        · refine RStepK.of rfl fun T W L hag hL hJ hLs hd => ?_   -- 9: 49 := Op.move (Operand.tmp 3)
          have e3 : T.getD 3 undef = _ := (agree_at hag 3 (by kernel_rfl)).trans rfl
          clear hag hd
          go_simp
          exact ⟨_, rfl, rfl⟩
        · refine RStepK.of rfl fun T W L hag hL hJ hLs hd => ?_   -- 10: 50 := Op.move (Operand.tmp 11)
          have e11 : T.getD 11 undef = _ := (agree_at hag 11 (by kernel_rfl)).trans rfl
          clear hag hd
          go_simp
          exact ⟨_, rfl, rfl⟩
        · refine RStepK.of rfl fun T W L hag hL hJ hLs hd => ?_   -- 11: 51 := Op.indexAddr 23 (Operand.tmp 49) (Operand.tmp 50)
          have d49 : T.getD 49 undef = _ := hd ⟨9, .data⟩ (by simp) rfl _ rfl
          have d50 : T.getD 50 undef = _ := hd ⟨10, .data⟩ (by simp) rfl _ rfl
          clear hag hd
          go_simp
          exact ⟨_, rfl, rfl⟩
        · refine RStepK.of rfl fun T W L hag hL hJ hLs hd => ?_   -- 12: 52 := Op.fieldAddr 46 (Operand.tmp 51) 1
          have d51 : T.getD 51 undef = _ := hd ⟨11, .data⟩ (by simp) rfl _ rfl
          clear hag hd
          go_simp
          exact ⟨_, rfl, rfl⟩
        · refine RStepK.of rfl fun T W L hag hL hJ hLs hd => ?_   -- 13: 53 := Op.fieldAddr 44 (Operand.tmp 52) 0
          have d52 : T.getD 52 undef = _ := hd ⟨12, .data⟩ (by simp) rfl _ rfl
          clear hag hd
          go_simp
          exact ⟨_, rfl, rfl⟩
        · refine RStepK.of rfl fun T W L hag hL hJ hLs hd => ?_   -- 14: 54 := Op.load 3 (Operand.tmp 53)
          have d53 : T.getD 53 undef = _ := hd ⟨13, .data⟩ (by simp) rfl _ rfl
          have fct0 := HC1.out W hJ.bel
          clear hag hd
          go_simp
          exact ⟨_, rfl, rfl⟩
        · refine RStepK.of rfl fun T W L hag hL hJ hLs hd => ?_   -- 15: 55 := Op.convert 3 5 (Operand.tmp 54)
          have d54 : T.getD 54 undef = _ := hd ⟨14, .data⟩ (by simp) rfl _ rfl
          clear hag hd
          go_simp
          exact ⟨_, rfl, rfl⟩
        · refine RStepK.of rfl fun T W L hag hL hJ hLs hd => ?_   -- 16: 56 := Op.buildSlice 25 1 #[(0, Operand.tmp 55)]
          have d55 : T.getD 55 undef = _ := hd ⟨15, .data⟩ (by simp) rfl _ rfl
          rw [Array.getD_eq_getD_getElem?] at d55
          clear hag hd
          go_simp
          exact ⟨_, rfl, own_new W w.heap.size 5 1 #[.int .u8 x.k] (Bs [x.k]) hJ.bel.size rfl (by decide) rfl, ⟨hJ.bel.alloc hJ.bel.size _, hJ.row.alloc _⟩, PresR.below ((Below.refl _ _).alloc (Nat.le_refl _) _)⟩
        · refine RStepK.of rfl fun T W L hag hL hJ hLs hd => ?_   -- 17: 57 := Op.call { callee := Callee.builtin Builtin.append, args := #[Operand.t
          have x48 : W.ownsRow w.heap.size 5 1 (T.getD 48 undef) (11 + 3 * k + 2) (Bs ((front lb e s n ++ told (l.take k)) ++ be m 2)) := hd ⟨8, .data⟩ (by simp) rfl _ rfl
          have x56 : W.ownsRow w.heap.size 5 1 (T.getD 56 undef) 1 (Bs [x.k]) := hd ⟨16, .data⟩ (by simp) rfl _ rfl
          obtain ⟨A2, d2, e56, hle2, hd2, hy2⟩ := byt_own x56 rfl
          refine wp_app_pres W (.tmp 48) (.tmp 56) rfl w.heap.size _ _ _ rfl x48 A2 1 d2 [x.k] e56 hy2 rfl (by omega) (by omega) hJ.bel.size ?_
          intro v' w' h1 h2 h3
          exact ⟨_, rfl, h1, ⟨hJ.bel.trans h2, h3 _ _ _ (by omega) hJ.row⟩, h3⟩
        · refine RLastK.of rfl fun T W L hag hLs hL hJ hd => ?_   -- 18: 10 := Op.assign (Operand.tmp 57)
          have x57 : W.ownsRow w.heap.size 5 1 (T.getD 57 undef) (11 + 3 * k + 2 + 1) (Bs (((front lb e s n ++ told (l.take k)) ++ be m 2) ++ [x.k])) := hd 17 _ (by simp) rfl
          obtain ⟨f, hf, hT⟩ := agree_fn hag
          have h57 := hf 57
          rw [← h57] at x57
          have HX := Lib.hid x57
          have HJ := Lib.hid hJ.bel
          clear hag hd x57 h57 hJ hf
          rw [hT]
          clear hT
          simp only [List.pop_toArray, List.dropLast_cons_cons, List.dropLast_singleton, List.filterMap_cons, List.filterMap_nil, List.foldl_cons, List.foldl_nil, List.setIfInBounds_toArray, List.set_cons_succ, List.set_cons_zero]
          go_wp2_with fail
          go_roundw
          case rel => exact ⟨k + 1, by go_num, by omega, by rw [HT.out, show 11 + 3 * (k + 1) = 11 + 3 * k + 2 + 1 by omega, ← List.append_assoc, ← List.append_assoc]; exact HX.out, HJ.out⟩
          case measure => simp [intOf]; omega
      · obtain rfl : k = n := by omega
        have e0 : l.take k = l := List.take_of_length_le (by rw [HN.out]; omega)
        have eH : headR lb e s l = front lb e s k ++ told l := by unfold headR; rw [HN.out]
        rw [e0, ← eH] at own
        have HL : Hid ((headR lb e s l).length = 11 + 3 * k) := by unfold Hid; rw [HHL.out, HN.out]
        obtain ⟨A3, d3, rfl, hle3, hd3, hy3⟩ := byt_own own HL.out
        rw [HL.out]
        have HY3 := Lib.hid hy3
        clear own e0 eH hy3 hle3
        go_wp2_with fail
        refine (rfilled_any A3 (headR lb e s l) (11 + 3 * k) d3 wr HL.out (by omega) (by omega) HHB.out HY3.out).mono ?_
        rintro en w8 ⟨v8, rfl, own8, hb8⟩
        have B8 := keepB hbel hb8
        have own8' := own8.mono hbel.size
        have hsl : (sumd (headR lb e s l)).length = 64 := sumd_length (by rw [headR_length, HN.out]; omega)
        obtain ⟨A8, d8, rfl, _, _, _⟩ := byt_own own8' hsl
        rw [hsl] at own8' ⊢
        have OT9 : OwnTx (w8.alloc (.cells #[.slice A8 64 d8] 25)) w.heap.size (.slice (some ⟨w8.heap.size, 0, none⟩) 1 1) (putK lb e s l 0) :=
          ⟨[.slice A8 64 d8], own_new w8 w.heap.size 25 1 #[.slice A8 64 d8] [.slice A8 64 d8] B8.size rfl (by decide) rfl, (named_one (b := sumd (headR lb e s l)) (by rw [hsl]; exact own8'.alloc _)).2⟩
        have B9 : Below w.heap.size w (w8.alloc (.cells #[.slice A8 64 d8] 25)) := B8.alloc B8.size _
        clear hsl own8 own8' hb8 hbel HY3
        go_upto_region 11 with fail
        generalize w8.alloc (.cells #[.slice A8 64 d8] 25) = W9 at *
        generalize w8.heap.size = g9 at *
        go_loopw [12, 13] (fun v i wr => ∃ k' : Nat, i = .int .i64 k' ∧ k' ≤ k ∧ OwnTx wr w.heap.size v (putK lb e s l k') ∧ Below w.heap.size w wr) (fun _ i _ => k - (intOf i).toNat)
        case atStart => exact ⟨0, rfl, Nat.zero_le _, OT9, B9⟩
        case round =>
          obtain ⟨v, rfl⟩ : ∃ v, v = u12 := ⟨u12, rfl⟩
          obtain ⟨j, rfl, hj, OT, hbel⟩ := hrel
          obtain ⟨w5, rfl⟩ : ∃ w5, w5 = wr := ⟨wr, rfl⟩
          clear OT9 B9
          by_cases hlt2 : j < k
          · obtain ⟨x, hx⟩ : ∃ x, l[j]? = some x := ⟨_, List.getElem?_eq_getElem (by rw [HN.out]; exact hlt2)⟩
            have hxo := HO.out x (List.mem_of_getElem? hx)
            obtain ⟨ad, rfl, hat⟩ := HY.out.keep hbel j x hx
            have H56 := Lib.hid hxo.len
            have HBX := Lib.hid hxo.b
            have HBY := Lib.hid hat.body
            have HK := Lib.hid (putK_snoc (lb := lb) (e := e) (s := s) hx)
            have hpl : (putK lb e s l j).length = 1 + j := putK_length (by rw [HN.out]; omega)
            have c1 := hat.c1
            have hjk : (j : Int) < k := by omega
            have own0 := own_new w5 w5.heap.size 5 0 #[] [] (Nat.le_refl _) rfl (by decide) rfl
            have B0 : Below w5.heap.size w5 (w5.alloc (Obj.cells #[] 5)) := (Below.refl _ _).alloc (Nat.le_refl _) _
            obtain ⟨e2, hme, hE2⟩ : ∃ e2 : Nat, (e : Int) % 65536 = e2 ∧ Hid (e2 = e % 65536) := ⟨e % 65536, by omega, rfl⟩
            obtain ⟨s2, hms, hS2⟩ : ∃ s2 : Nat, (s : Int) % 65536 = s2 ∧ Hid (s2 = s % 65536) := ⟨s % 65536, by omega, rfl⟩
            have he2 : e2 < 65536 := by rw [hE2.out]; omega
            have hs2 : s2 < 65536 := by rw [hS2.out]; omega
            clear hx hat hxo
            go_upto_region 14 with (first
              | (at_builtin
                 refine wpList_app_byt _ rfl (.tmp 67) (.tmp 73) rfl w5.heap.size _ 0 [] rfl own0 (some ⟨(ad.add (j * 58)).block, (ad.add (j * 58)).off + 2, none⟩) 56 56 x.bs rfl (HBY.out.alloc _) H56.out (by omega) B0.size ?_
                 intro v1 w1' h1 hg1 _
                 have B1 : Below w5.heap.size w5 w1' := B0.grown hg1 B0.size (fun j hj => (own0.lt j hj).1)
                 have own1 : w1'.ownsRow w5.heap.size 5 1 v1 56 (Bs x.bs) := h1
                 clear h1 hg1 own0 B0))
            go_wp2_with fail
            refine (high1_any e2 2 w1' (by omega) (by omega)).mono ?_
            rintro en w2' ⟨v2, rfl, own2, hb2⟩
            obtain ⟨A2, d2, rfl, hle2, hd2, hy2⟩ := byt_own own2 (be_length e2 2)
            rw [be_length]
            have own1' := ownB own1 hb2
            have B2 := keepB B1 hb2
            clear own1 own2 B1 hle2
            go_wp2_with (first
              | (at_builtin
                 refine wpList_app_byt _ rfl (.tmp 76) (.tmp 80) rfl w5.heap.size _ 56 x.bs rfl own1' A2 2 d2 (be e2 2) rfl hy2 (be_length _ _) (by omega) B2.size ?_
                 intro v3 w3' h3 hg3 _
                 have B3 : Below w5.heap.size w5 w3' := B2.grown hg3 B2.size (fun j hj => (own1'.lt j hj).1)
                 have own3 : w3'.ownsRow w5.heap.size 5 1 v3 58 (Bs (x.bs ++ be e2 2)) := h3
                 clear h3 hg3 own1' B2 hy2))
            refine (high1_any s2 2 w3' (by omega) (by omega)).mono ?_
            rintro en w4' ⟨v4, rfl, own4, hb4⟩
            obtain ⟨A4, d4, rfl, hle4, hd4, hy4⟩ := byt_own own4 (be_length s2 2)
            rw [be_length]
            have own3' := ownB own3 hb4
            have B4 := keepB B3 hb4
            clear own3 own4 B3 hle4
            go_wp2_with (first
              | (at_builtin
                 refine wpList_app_byt _ rfl (.tmp 81) (.tmp 85) rfl w5.heap.size _ 58 _ rfl own3' A4 2 d4 (be s2 2) rfl hy4 (be_length _ _) (by omega) B4.size ?_
                 intro v6 w6' h6 hg6 _
                 have B6 : Below w5.heap.size w5 w6' := B4.grown hg6 B4.size (fun j hj => (own3'.lt j hj).1)
                 have own6 : w6'.ownsRow w5.heap.size 5 1 v6 60 (Bs (bearB e s x.bs)) := by
                   unfold bearB; rw [← be2_mod e, ← be2_mod s, ← hE2.out, ← hS2.out]; exact h6
                 clear h6 hg6 own3' B4 hy4))
            have hbl := bearB_length (e := e) (s := s) H56.out
            obtain ⟨A6, d6, rfl, hle6, hd6, hy6⟩ := byt_own own6 hbl
            rw [hbl]
            refine (rfilled_any A6 (bearB e s x.bs) 60 d6 w6' hbl (by omega) (by omega) (bearB_allB HBX.out) hy6).mono ?_
            rintro en w7' ⟨v7', rfl, own7', hb7⟩
            have B7' := keepB B6 hb7
            have own7'' := own7'.mono (Nat.le_trans hbel.size B6.size)
            have hsl : (sumd (bearB e s x.bs)).length = 64 := sumd_length (by rw [hbl]; omega)
            obtain ⟨A7, d7, rfl, _, _, _⟩ := byt_own own7'' hsl
            rw [hsl] at own7'' ⊢
            have OT7 := OT.keep B7'
            have B8' := keepB hbel B7'
            clear own6 B6 hy6 own7' hb7 B7' OT hbel hle6
            go_wp2_with (first
              | (at_builtin
                 refine wpList_app_txs _ rfl (.tmp 75) (.tmp 88) rfl w.heap.size _ _ rfl (OT7.alloc _) ⟨w7'.heap.size, 0, none⟩ 1 1 rfl [_] [sumd (bearB e s x.bs)] rfl (named_one (by rw [hsl]; exact own7''.alloc _)) (cell_one_new _ _ _) (by rw [hpl]; omega) (by rw [size_alloc']; have := B8'.size; omega) ?_
                 intro v9 w9' OT9 hg9 _
                 have B9 : Below w.heap.size w w9' := (B8'.alloc B8'.size _).trans (grown_below hg9 (by rw [size_alloc']; have := B8'.size; omega) OT7.low)
                 have OT9' : OwnTx w9' w.heap.size v9 (putK lb e s l (j + 1)) := by rw [HK.out]; exact OT9
                 clear OT9 OT7 own7'' B8' hg9))
            go_roundw
            case rel => exact ⟨j + 1, by go_num, by omega, OT9', B9⟩
            case measure => simp [intOf]; omega
          · obtain rfl : j = k := by omega
            have HE := Lib.hid (putK_all (lb := lb) (e := e) (s := s) (l := l) (k := j) (by rw [HN.out]; omega))
            go_wp2_with fail
            go_ret2
            exact ⟨v, rfl, by rw [HX.out, ← HE.out]; exact OT, hbel⟩
  · have HX : Hid (putX lb e s l = []) := by unfold Hid putX; rw [if_neg hmay]
    rw [decide_eq_false hmay] at HC ⊢
    clear hmay
    go_enter Try.func11, Try.ntmps11
    go_wp2_with fail
    refine HC.out.mono ?_
    rintro en w1 ⟨rfl, hb1⟩
    go_wp2_with fail
    go_ret2
    exact ⟨.slice none 0 0, rfl, by rw [HX.out]; exact OwnTx.nil _ _, hb1⟩
end Go.Proofs.Ytflldlhfeiamnaa
