/- Contracts: anchors, rec's and the reference's. -/
import Derived.Test.YtflldlhfeiamnaaEr
namespace Go.Proofs.Ytflldlhfeiamnaa
open Go.ChangeShapes Go.WideShapes Go.ChangeAt Go.RowKit
set_option linter.unusedVariables false
theorem Byt.keep' {w W : World} {A : Option Addr} {xs : List Int} (h : Byt w A xs) (hb : Below w.heap.size w W) : Byt W A xs := h.keep hb
set_option maxRecDepth 100000 in
set_option maxHeartbeats 1600000 in
theorem anchor_any (lb : Int) (e : Nat) (w : World) (hlb : 0 ≤ lb ∧ lb ≤ 255) (he : e < 4294967296) :
    Calls Try.prog 18 #[.int .u8 lb, .int .u32 e] w fun en w' => ∃ v, en = .returned v ∧ w'.ownsRow w.heap.size 5 1 v 64 (Bs (anchorB lb e)) ∧ Below w.heap.size w w' := by
  have kc := fun (w : World) (C : Array Value) (n c : Nat) => Lib.run_convert_bytes_const (P := Try.prog) w 25 5 C n c Try.underlying25 Try.underlying5
  have HB : Hid (∀ o, Below w.heap.size w (w.alloc o)) := fun o => (Below.refl _ _).alloc (Nat.le_refl _) _
  go_enter Try.func18, Try.ntmps18
  go_upto_region 2 with (first
    | (at_builtin
       refine wpList_app_any _ rfl (.tmp 7) (.tmp 9) rfl w.heap.size _ 2 [65, 78] none rfl (Or.inr ⟨rfl, w.heap.size, 0, rfl, rfl, (byt_new rfl).alloc _⟩) (some ⟨w.heap.size + 1, 0, none⟩) 1 1 [lb] rfl (byt_blk (by rw [← size_alloc' w]; exact heap_alloc_new _ _) rfl) rfl (by omega) (by omega) (by rw [size_alloc', size_alloc']; omega) ?_
       intro v1 w1 h1 hg1 _
       have B1 : Below w.heap.size w w1 := ((HB.out _).alloc (HB.out _).size _).grown hg1 ((HB.out _).alloc (HB.out _).size _).size (fun j hj => by cases hj)
       have own1 : w1.ownsRow w.heap.size 5 1 v1 3 (Bs [65, 78, lb]) := h1
       clear h1 hg1))
  go_wp2_with fail
  refine (num_any w1 w.heap.size v1 3 _ e 4 own1 B1.size (by omega) (by omega) (by omega) he).mono ?_
  rintro en w2 ⟨v2, rfl, own2, hb2, _⟩
  have B2 := B1.trans hb2
  have hl7 : ([65, 78, lb] ++ be e 4).length = 7 := by simp [be_length]
  obtain ⟨A2, d2, rfl, _, _, hy2⟩ := byt_own own2 hl7
  rw [hl7]
  have HAB : Hid (AllB ([65, 78, lb] ++ be e 4)) := AllB.append (fun x hx => by
    simp only [List.mem_cons, List.not_mem_nil, or_false] at hx
    rcases hx with rfl | rfl | rfl <;> omega) (be_allB _ _)
  clear own1 B1 hb2
  go_wp2_with fail
  refine (summed_any A2 _ 7 d2 w2 hl7 (by omega) HAB.out hy2).mono ?_
  rintro en w3 ⟨v3, rfl, own3, hb3⟩
  go_wp2_with fail
  go_ret
  exact ⟨v3, rfl, own3.mono B2.size, keepB B2 hb3⟩
set_option maxRecDepth 100000 in
set_option maxHeartbeats 1600000 in
theorem ranchor_any (lb : Int) (e : Nat) (w : World) (hlb : 0 ≤ lb ∧ lb ≤ 255) (he : e < 4294967296) :
    Calls Try.prog 19 #[.int .u8 lb, .int .u32 e] w fun en w' => ∃ v, en = .returned v ∧ w'.ownsRow w.heap.size 5 1 v 64 (Bs (anchorB lb e)) ∧ Below w.heap.size w w' := by
  have own0 := own_new w w.heap.size 5 3 #[.int .u8 65, .int .u8 78, .int .u8 lb] (Bs [65, 78, lb]) (Nat.le_refl _) rfl (by decide) rfl
  have B0 : Below w.heap.size w (w.alloc (Obj.cells #[.int .u8 65, .int .u8 78, .int .u8 lb] 5)) := (Below.refl _ _).alloc (Nat.le_refl _) _
  have we : IntKind.u64.wrap (e : Int) = e := IntWalk.u64_in _ (by omega)
  go_enter Try.func19, Try.ntmps19
  go_wp2_with fail
  generalize w.alloc (Obj.cells #[.int .u8 65, .int .u8 78, .int .u8 lb] 5) = W0 at *
  refine (high1_any e 4 W0 (by omega) (by omega)).mono ?_
  rintro en w1 ⟨v1, rfl, own1, hb1⟩
  obtain ⟨A1, d1, rfl, _, _, hy1⟩ := byt_own own1 (be_length e 4)
  rw [be_length]
  have own0' := ownB own0 hb1
  have B1 := keepB B0 hb1
  clear own0 own1
  go_wp2_with (first
    | (at_builtin
       refine wpList_app_byt _ rfl (.tmp 6) (.tmp 9) rfl w.heap.size _ 3 [65, 78, lb] rfl own0' A1 4 d1 (be e 4) rfl hy1 (be_length _ _) (by omega) B1.size ?_
       intro v2 w2 h2 hg2 _
       have B2 : Below w.heap.size w w2 := B1.grown hg2 B1.size (fun j hj => (own0'.lt j hj).1)
       have own2 : w2.ownsRow w.heap.size 5 1 v2 7 (Bs ([65, 78, lb] ++ be e 4)) := h2
       clear h2 hg2 own0' B1 hy1))
  have hl7 : ([65, 78, lb] ++ be e 4).length = 7 := by simp [be_length]
  obtain ⟨A2, d2, rfl, _, _, hy2⟩ := byt_own own2 hl7
  rw [hl7]
  have HAB : Hid (AllB ([65, 78, lb] ++ be e 4)) := AllB.append (fun x hx => by
    simp only [List.mem_cons, List.not_mem_nil, or_false] at hx
    rcases hx with rfl | rfl | rfl <;> omega) (be_allB _ _)
  refine (rfilled_any A2 _ 7 d2 w2 hl7 (by omega) (by omega) HAB.out hy2).mono ?_
  rintro en w3 ⟨v3, rfl, own3, hb3⟩
  go_wp2_with fail
  go_ret
  exact ⟨v3, rfl, own3.mono B2.size, keepB B2 hb3⟩
/-! Which blocks anchors are. -/
def anE (xs : List Int) : Nat := numV ((xs.drop 3).take 4)
def TakenA (lb : Int) (xs : List Int) : Prop := xs.length = 64 ∧ anE xs ≠ 4294967295 ∧ anchorB lb (anE xs) = xs
instance (lb : Int) (xs : List Int) : Decidable (TakenA lb xs) := by unfold TakenA; infer_instance
def takeA (lb : Int) (xs : List Int) : Nat := if TakenA lb xs then anE xs else 0
theorem anE_lt {xs : List Int} (h : AllB xs) (hl : xs.length = 64) : anE xs < 4294967296 := by
  have := numV_lt 4 ((xs.drop 3).take 4) (by rw [List.length_take, List.length_drop, hl]; rfl) (fun x hx => h x (List.mem_of_mem_drop (List.mem_of_mem_take hx)))
  unfold anE; omega
theorem byt_cut {w : World} {a : Addr} {xs : List Int} (h : Byt w (some a) xs) (q m : Nat) : Byt w (some (a.add q)) ((xs.drop q).take m) := by
  intro i z hz
  rw [List.getElem?_take] at hz
  split at hz
  · rw [List.getElem?_drop] at hz
    obtain ⟨a2, e2, h2⟩ := h _ _ hz
    injection e2 with e2; subst e2
    exact ⟨_, rfl, by rw [add_add']; exact h2⟩
  · cases hz
set_option maxRecDepth 100000 in
set_option maxHeartbeats 3200000 in
theorem takea_any (lb : Int) (A : Option Addr) (xs : List Int) (n c : Nat) (w : World) (hlb : 0 ≤ lb ∧ lb ≤ 255) (hn : xs.length = n) (hl : n ≤ c) (hc : c ≤ 9223372036854775807) (hB : AllB xs) (hy : Byt w A xs) :
    Calls Try.prog 14 #[.int .u8 lb, .slice A n c] w fun en w' => en = .returned (.tuple #[.int .u32 (takeA lb xs), .bool (decide (TakenA lb xs))]) ∧ Below w.heap.size w w' := by
  have HY := Lib.hid hy
  have HN := Lib.hid hn
  have HB := Lib.hid hB
  have HNO : Hid (¬ TakenA lb xs → takeA lb xs = 0 ∧ decide (TakenA lb xs) = false) := fun h => ⟨by unfold takeA; rw [if_neg h], decide_eq_false h⟩
  clear hn hB hy
  go_enter Try.func14, Try.ntmps14
  go_wp2
  refine wp_scope1e (fun a' w' => Hid (Below w.heap.size w w' ∧ ¬ TakenA lb xs) ∧ ∃ u0 u1 u2 u3 u4 u5 u6 u7 u8 u9 u10 u11 u12 u13 u14 u15 u16 u17 u18 u19 u20 u21 : Value, a' = { tmps := #[u0, u1, u2, u3, u4, u5, u6, u7, u8, u9, u10, u11, u12, u13, u14, u15, u16, u17, u18, u19, u20, u21], defers := [] }) (fun _ _ => 0) rfl ?_ ?_
  · intro _
    by_cases h64 : n = 64
    · subst h64
      obtain ⟨x0, hx0⟩ : ∃ x0, xs[0]? = some x0 := ⟨_, List.getElem?_eq_getElem (by rw [HN.out]; omega)⟩
      obtain ⟨ad, rfl, _⟩ := HY.out 0 x0 hx0
      have hlt := anE_lt HB.out HN.out
      have HNUM := Lib.hid (numof_any (some (ad.add 3)) ((xs.drop 3).take 4) 4 (c - 3) w (by rw [List.length_take, List.length_drop, HN.out]; rfl) (by omega) (fun x hx => HB.out x (List.mem_of_mem_drop (List.mem_of_mem_take hx))) (byt_cut HY.out 3 4))
      have HT : Hid (TakenA lb xs ↔ anE xs ≠ 4294967295 ∧ anchorB lb (anE xs) = xs) := ⟨fun h => h.2, fun h => ⟨HN.out, h⟩⟩
      have HTA : Hid (TakenA lb xs → takeA lb xs = anE xs) := fun h => by unfold takeA; rw [if_pos h]
      change Hid (Calls _ _ _ _ (fun e w' => e = .returned (.int .u32 (anE xs)) ∧ w = w')) at HNUM
      generalize anE xs = ev at *
      have ha3 : ad.add 3 = ⟨ad.block, ad.off + 3, none⟩ := add_sum ad 2
      rw [ha3] at HNUM
      have hc3 : ¬ c = 3 := by omega
      clear hx0 ha3
      by_cases hlast : ev = 4294967295
      · have HNT : Hid (¬ TakenA lb xs) := fun h => (HT.out.1 h).1 hlast
        have hq : ((ev : Int) == 4294967295) = true := by simp; omega
        clear hlast
        go_wp2_with fail
        refine HNUM.out.mono ?_
        rintro en w1 ⟨rfl, rfl⟩
        go_wp2_with fail
        go_step3
        exact ⟨rfl, ⟨Below.refl _ _, HNT.out⟩, _, _, _, _, _, _, _, _, _, _, _, _, _, _, _, _, _, _, _, _, _, _,  rfl⟩
      · have hq : ((ev : Int) == 4294967295) = false := by simp; omega
        have HL := Lib.hid hlast
        clear hlast
        go_wp2_with fail
        refine HNUM.out.mono ?_
        rintro en w1 ⟨rfl, rfl⟩
        go_wp2_with fail
        refine (anchor_any lb ev w hlb hlt).mono ?_
        rintro en w2 ⟨v2, rfl, own2, hb2⟩
        obtain ⟨A2, d2, rfl, _, _, hy2⟩ := byt_own own2 (anchorB_length lb ev)
        rw [anchorB_length]
        have HE := Lib.hid (equal_any A2 (some ad) (anchorB lb ev) xs 64 64 d2 c w2 (anchorB_length lb ev) HN.out (anchorB_allB ev hlb) HB.out hy2 (HY.out.keep hb2))
        clear own2 hy2
        by_cases heq : anchorB lb ev = xs
        · have HYES : Hid (TakenA lb xs) := HT.out.2 ⟨HL.out, heq⟩
          rw [decide_eq_true heq] at HE
          clear heq
          go_wp2_with fail
          refine HE.out.mono ?_
          rintro en w3 ⟨rfl, rfl⟩
          go_wp2_with fail
          try simp only [Exit.jump]
          go_ret2
          exact ⟨by rw [HTA.out HYES.out, decide_eq_true HYES.out]; rfl, hb2⟩
        · have HNT : Hid (¬ TakenA lb xs) := fun h => heq (HT.out.1 h).2
          rw [decide_eq_false heq] at HE
          clear heq
          go_wp2_with fail
          refine HE.out.mono ?_
          rintro en w3 ⟨rfl, rfl⟩
          go_wp2_with fail
          go_step3
          exact ⟨rfl, ⟨hb2, HNT.out⟩, _, _, _, _, _, _, _, _, _, _, _, _, _, _, _, _, _, _, _, _, _, _,  rfl⟩
    · have HNT : Hid (¬ TakenA lb xs) := fun h => h64 (by rw [← HN.out]; exact h.1)
      go_wp2
      go_step3
      exact ⟨rfl, ⟨Below.refl _ _, HNT.out⟩, _, _, _, _, _, _, _, _, _, _, _, _, _, _, _, _, _, _, _, _, _, _,  rfl⟩
  · rintro a' W ⟨HH, u0, u1, u2, u3, u4, u5, u6, u7, u8, u9, u10, u11, u12, u13, u14, u15, u16, u17, u18, u19, u20, u21, rfl⟩
    go_wp2
    try simp only [Exit.jump]
    go_ret2
    obtain ⟨h1, h2⟩ := HNO.out HH.out.2
    exact ⟨by rw [h1, h2]; rfl, HH.out.1⟩
def VTA (base : Nat) (lb : Int) (ev : Nat) (A : Option Addr) (c : Nat) (z1 z2 : ByteArray) (b : Bool) (i : Nat) (v : Value) (w : World) : Prop :=
  match i with
  | 0 | 4 => v = .int .u32 ev
  | 1 | 2 => v = .bool false
  | 3 => v = .int .u8 lb
  | 5 => w.ownsRow base 5 1 v 64 (Bs (anchorB lb ev))
  | 6 => v = .string z1
  | 7 => v = .slice A 64 c
  | 8 => v = .string z2
  | 9 => v = .bool (!b)
  | _ => True
theorem VTA.on {base : Nat} {lb : Int} {ev : Nat} {A : Option Addr} {c : Nat} {z1 z2 : ByteArray} {b : Bool} {j : Nat} {v : Value} {w w' : World} (h : VTA base lb ev A c z1 z2 b j v w) (hs : w.grownBy w' none) : VTA base lb ev A c z1 z2 b j v w' := by
  unfold VTA at *
  split <;> try exact h
  · exact World.ownsRow.kept h hs (by cases v.ownBlock <;> simp)
  · trivial
set_option maxRecDepth 100000 in
set_option maxHeartbeats 3200000 in
theorem rtakea_any (lb : Int) (A : Option Addr) (xs : List Int) (n c : Nat) (w : World) (hlb : 0 ≤ lb ∧ lb ≤ 255) (hn : xs.length = n) (hl : n ≤ c) (hc : c ≤ 9223372036854775807) (hB : AllB xs) (hy : Byt w A xs) :
    Calls Try.prog 15 #[.int .u8 lb, .slice A n c] w fun en w' => en = .returned (.tuple #[.int .u32 (takeA lb xs), .bool (decide (TakenA lb xs))]) ∧ Below w.heap.size w w' := by
  have HY := Lib.hid hy
  have HN := Lib.hid hn
  have HB := Lib.hid hB
  have HNO : Hid (¬ TakenA lb xs → takeA lb xs = 0 ∧ decide (TakenA lb xs) = false) := fun h => ⟨by unfold takeA; rw [if_neg h], decide_eq_false h⟩
  clear hn hB hy
  by_cases h64 : n = 64
  · subst h64
    obtain ⟨x0, hx0⟩ : ∃ x0, xs[0]? = some x0 := ⟨_, List.getElem?_eq_getElem (by rw [HN.out]; omega)⟩
    obtain ⟨ad, rfl, _⟩ := HY.out 0 x0 hx0
    have hev := anE_lt HB.out HN.out
    have HNUM := Lib.hid (rnum_any (some (ad.add 3)) ((xs.drop 3).take 4) 4 (c - 3) w (by rw [List.length_take, List.length_drop, HN.out]; rfl) (by omega) (fun x hx => HB.out x (List.mem_of_mem_drop (List.mem_of_mem_take hx))) (byt_cut HY.out 3 4))
    have HT : Hid (TakenA lb xs ↔ anE xs ≠ 4294967295 ∧ anchorB lb (anE xs) = xs) := ⟨fun h => h.2, fun h => ⟨HN.out, h⟩⟩
    have HTA : Hid (TakenA lb xs → takeA lb xs = anE xs) := fun h => by unfold takeA; rw [if_pos h]
    change Hid (Calls _ _ _ _ (fun e w' => e = .returned (.int .u64 (anE xs)) ∧ w = w')) at HNUM
    generalize anE xs = ev at *
    have ha3 : ad.add 3 = ⟨ad.block, ad.off + 3, none⟩ := add_sum ad 2
    rw [ha3] at HNUM
    have hc3 : ¬ c = 3 := by omega
    have wev : IntKind.u32.wrap (ev : Int) = ev := IntWalk.u32_in _ (by omega)
    clear hx0 ha3
    go_enter Try.func15, Try.ntmps15
    go_wp2_with fail
    refine HNUM.out.mono ?_
    rintro en w1 ⟨rfl, rfl⟩
    by_cases hlast : ev = 4294967295
    · have HNT : Hid (¬ TakenA lb xs) := fun h => (HT.out.1 h).1 hlast
      have hq : ((ev : Int) == 4294967295) = true := by simp; omega
      have hq' : (ev : Int) = 4294967295 := by omega
      clear hlast
      go_upto_region 4 with fail
      go_quiet (fail)
      have hbq := bdn (Below.refl w.heap.size w) nq
      generalize w.drewN nq = w7 at *
      go_wp2
      go_ret2
      obtain ⟨h1, h2⟩ := HNO.out HNT.out
      exact ⟨by rw [h1, h2]; rfl, hbq⟩
    · have hq : ((ev : Int) == 4294967295) = false := by simp; omega
      have HL := Lib.hid hlast
      clear hlast
      obtain ⟨z1, HZ1⟩ : ∃ z1, Hid (z1 = strOfNums (anchorB lb ev)) := ⟨_, rfl⟩
      obtain ⟨z2, HZ2⟩ : ∃ z2, Hid (z2 = strOfNums xs) := ⟨_, rfl⟩
      have hsq : (z1.toList == z2.toList) = decide (anchorB lb ev = xs) := by rw [HZ1.out, HZ2.out]; exact str_beq (anchorB_allB ev hlb) HB.out
      obtain ⟨b, hb', HBB⟩ : ∃ b, (z1.toList == z2.toList) = b ∧ Hid (b = decide (anchorB lb ev = xs)) := ⟨_, rfl, hsq⟩
      clear hsq
      go_upto_region 4 with fail
      have grefl : ∀ W : World, W.grownBy W none := fun W => World.grownBy.refl W _
      refine wp_region_rgk (VTA w.heap.size lb ev (some ad) c z1 z2 b) (fun _ W => Below w.heap.size w W) (fun _ w w' => w.grownBy w' none) (by kernel_rfl) (by kernel_rfl) (fun i j v' w' w'' hij hind h hg => h.on hg) ((Below.refl _ _).drew) ?_
      simp only [RAll]
      refine ⟨?_, ?_, ?_, ?_, ?_, ?_, ?_, ?_, ?_, ?_, ?_⟩
      · refine RStepK.of rfl fun T W L hag hL hJ hLs hd => ?_   -- 0: 14 := Op.move (Operand.tmp 6)
        have e6 : T.getD 6 undef = _ := (agree_at hag 6 (by kernel_rfl)).trans rfl
        clear hag hd
        go_simp
        exact ⟨_, rfl, rfl⟩
      · refine RStepK.of rfl fun T W L hag hL hJ hLs hd => ?_   -- 1: 15 := Op.binOp BinOp.eql 22 (Operand.tmp 14) (Operand.const (Value.int IntKi
        have d14 : T.getD 14 undef = _ := hd ⟨0, .data⟩ (by simp) rfl _ rfl
        clear hag hd
        go_simp
        exact ⟨_, rfl, rfl⟩
      · refine RStepK.of rfl fun T W L hag hL hJ hLs hd => ?_   -- 2: 16 := Op.move (Operand.tmp 15)
        have d15 : T.getD 15 undef = _ := hd ⟨1, .data⟩ (by simp) rfl _ rfl
        clear hag hd
        go_simp
        exact ⟨_, rfl, rfl⟩
      · refine RStepK.want rfl rfl rfl (by kernel_rfl) (fun v w h => h) fun T W L hag hL hJ hLs hd => ?_   -- 3: 17 := Op.move (Operand.tmp 0)
        have e0 : T.getD 0 undef = _ := (agree_at hag 0 (by kernel_rfl)).trans rfl
        clear hag hd
        go_simp
        exact ⟨_, rfl, rfl⟩
      · refine RStepK.want rfl rfl rfl (by kernel_rfl) (fun v w h => h) fun T W L hag hL hJ hLs hd => ?_   -- 4: 18 := Op.move (Operand.tmp 6)
        have e6 : T.getD 6 undef = _ := (agree_at hag 6 (by kernel_rfl)).trans rfl
        clear hag hd
        go_simp
        exact ⟨_, rfl, rfl⟩
      · refine RStepK.want rfl rfl rfl (by kernel_rfl) (fun v w h => h) fun T W L hag hL hJ hLs hd => ?_   -- 5: 19 := Op.call { callee := Callee.value (Operand.func 19), args := #[Operand.
        have d17 : T.getD 17 undef = _ := hd ⟨3, .data⟩ (by simp) rfl _ rfl
        have d18 : T.getD 18 undef = _ := hd ⟨4, .data⟩ (by simp) rfl _ rfl
        clear hag hd
        go_simp
        refine (ranchor_any lb ev W hlb hev).mono ?_; rintro en w' ⟨v', rfl, hown, hb⟩
        exact ⟨_, rfl, hown.mono hJ.size, hJ.trans (hb.mono hJ.size), growN hb⟩
      · refine RStepK.want rfl rfl rfl (by kernel_rfl) (fun v w h => h) fun T W L hag hL hJ hLs hd => ?_   -- 6: 20 := Op.convert 25 9 (Operand.tmp 19)
        have x19 : W.ownsRow w.heap.size 5 1 (T.getD 19 undef) 64 (Bs (anchorB lb ev)) := hd ⟨5, .data⟩ (by simp) rfl _ rfl
        obtain ⟨A2, d2, e19, _, _, hy2⟩ := byt_own x19 (anchorB_length lb ev)
        rw [anchorB_length] at e19
        have hcv : (convert 25 9 (.slice A2 64 d2)).run Try.prog W = .ok (.string z1) W := by rw [HZ1.out]; exact conv_any hy2 (anchorB_length lb ev)
        have ev19 : (⟨T, []⟩ : Act).eval (.tmp 19) = .slice A2 64 d2 := e19
        clear hag hd
        refine wp_run (v := .string z1) (w' := W) ?_ ⟨_, rfl, rfl, hJ, World.grownBy.refl _ _⟩
        unfold execOp
        simp only [ev19, Sem.run_bind, hcv, Result.andThen_ok, Sem.run_pure]
      · refine RStepK.want rfl rfl rfl (by kernel_rfl) (fun v w h => h) fun T W L hag hL hJ hLs hd => ?_   -- 7: 21 := Op.move (Operand.tmp 1)
        have e1 : T.getD 1 undef = _ := (agree_at hag 1 (by kernel_rfl)).trans rfl
        clear hag hd
        go_simp
        exact ⟨_, rfl, rfl⟩
      · refine RStepK.want rfl rfl rfl (by kernel_rfl) (fun v w h => h) fun T W L hag hL hJ hLs hd => ?_   -- 8: 22 := Op.convert 25 9 (Operand.tmp 21)
        have d21 : T.getD 21 undef = _ := hd ⟨7, .data⟩ (by simp) rfl _ rfl
        have hcv : (convert 25 9 (.slice (some ad) 64 c)).run Try.prog W = .ok (.string z2) W := by rw [HZ2.out]; exact conv_any (HY.out.keep' hJ) HN.out
        have ev21 : (⟨T, []⟩ : Act).eval (.tmp 21) = .slice (some ad) 64 c := d21
        clear hag hd
        refine wp_run (v := .string z2) (w' := W) ?_ ⟨_, rfl, rfl, hJ, World.grownBy.refl _ _⟩
        unfold execOp
        simp only [ev21, Sem.run_bind, hcv, Result.andThen_ok, Sem.run_pure]
      · refine RStepK.want rfl rfl rfl (by kernel_rfl) (fun v w h => h) fun T W L hag hL hJ hLs hd => ?_   -- 9: 23 := Op.binOp BinOp.neq 9 (Operand.tmp 20) (Operand.tmp 22) 9
        have d20 : T.getD 20 undef = _ := hd ⟨6, .data⟩ (by simp) rfl _ rfl
        have d22 : T.getD 22 undef = _ := hd ⟨8, .data⟩ (by simp) rfl _ rfl
        clear hag hd
        go_simp
        exact ⟨_, rfl, rfl⟩
      · refine RLastK.of rfl fun T W L hag hLs hL hJ hd => ?_   -- 10: 24 := Op.pick (Operand.tmp 16) (Operand.const (Value.bool true)) (Operand.tm
        have d16 : T.getD 16 undef = _ := hd 2 _ (by simp) rfl
        have d23 : T.getD 23 undef = _ := hd 9 _ (by simp) rfl
        obtain ⟨f, hf, hT⟩ := agree_fn hag
        have h16 := (hf 16).trans d16
        have h23 := (hf 23).trans d23
        have HJ := Lib.hid hJ
        clear hag hd d16 d23 hJ hf
        rw [hT]
        clear hT
        simp only [List.pop_toArray, List.dropLast_cons_cons, List.dropLast_singleton, List.filterMap_cons, List.filterMap_nil, List.foldl_cons, List.foldl_nil, List.setIfInBounds_toArray, List.set_cons_succ, List.set_cons_zero, h16, h23]
        cases b with
        | true =>
          have HYES : Hid (TakenA lb xs) := HT.out.2 ⟨HL.out, of_decide_eq_true HBB.out.symm⟩
          go_wp2_with fail
          go_ret2
          exact ⟨by rw [HTA.out HYES.out, decide_eq_true HYES.out]; rfl, HJ.out⟩
        | false =>
          have HNT : Hid (¬ TakenA lb xs) := fun h => of_decide_eq_false HBB.out.symm (HT.out.1 h).2
          go_wp2_with fail
          go_ret2
          obtain ⟨h1, h2⟩ := HNO.out HNT.out
          exact ⟨by rw [h1, h2]; rfl, HJ.out⟩
  · have HNT : Hid (¬ TakenA lb xs) := fun h => h64 (by rw [← HN.out]; exact h.1)
    go_enter Try.func15, Try.ntmps15
    go_wp2
    go_ret2
    obtain ⟨h1, h2⟩ := HNO.out HNT.out
    exact ⟨by rw [h1, h2]; rfl, Below.refl _ _⟩
end Go.Proofs.Ytflldlhfeiamnaa
