/- The law RecRow answers true for every input, and leaves its arguments alone. No condition. -/
import Derived.Test.YtflldlhfeiamnaaRows
import Derived.Test.YtflldlhfeiamnaaEx
import Derived.Test.YtflldlhfeiamnaaEu
import Derived.Test.YtflldlhfeiamnaaEh
import Derived.Test.YtflldlhfeiamnaaRk
import Derived.WalkKit
import Derived.ProofKit
import Derived.OpenShut
namespace Go.Proofs.Ytflldlhfeiamnaa.recRow
open Go.ChangeShapes Go.WideShapes Go.ChangeAt Go.RowKit Go.Joins
set_option linter.unusedVariables false
theorem own : ownKnob Try.prog.godebug = none := by kernel_rfl
theorem laidOut : laidOutB Try.prog = true := by kernel_rfl
def VRW (base gb q cb kb gk dk : Nat) (x y : Int) (bt : List Int) (i : Nat) (v : Value) (w : World) : Prop :=
  match i with
  | 0 | 2 | 10 => v = .slice (some ⟨gb, 0, none⟩) q cb
  | 1 | 3 | 11 => v = .int .i64 (kb : Nat)
  | 4 | 12 | 16 => v = .pointer (some ⟨gb, kb, none⟩)
  | 5 | 13 => v = .slice (some ⟨gk, 0, none⟩) 64 dk
  | 6 => v = .pointer (some ⟨gk, 0, none⟩)
  | 7 => v = .int .u8 x
  | 8 => v = .int .u8 y
  | 14 => v = .slice (some ⟨gk, 1, none⟩) 63 (dk - 1)
  | 9 => ∃ g, v = .slice (some ⟨g, 0, none⟩) 1 1 ∧ w.heap[g]? = some (.cells #[.int .u8 y] 5 (0, 0))
  | 15 => w.ownsRow base 5 1 v 64 (Bs (y :: bt))
  | _ => True
theorem VRW.on {base gb q cb kb gk dk : Nat} {x y : Int} {bt : List Int} {j : Nat} {v : Value} {w w' : World} (h : VRW base gb q cb kb gk dk x y bt j v w) (hs : w.grownBy w' none) : VRW base gb q cb kb gk dk x y bt j v w' := by
  unfold VRW at *
  split <;> try exact h
  · obtain ⟨g, h1, h2⟩ := h; exact ⟨g, h1, by rw [hs.block g (room_lt h2) (by simp)]; exact h2⟩
  · exact World.ownsRow.kept h hs (by cases v.ownBlock <;> simp)
  · trivial
theorem flat_len : ∀ {R : List (List (List Int))} {m : Nat}, (∀ r ∈ R, r.length ≤ m) → R.flatten.length ≤ m * R.length
  | [], m, _ => by simp
  | r :: R, m, h => by
    have h1 := flat_len (R := R) (m := m) (fun x hx => h x (by simp [hx]))
    have h2 := h r (by simp)
    rw [List.flatten_cons, List.length_append, List.length_cons, Nat.mul_add]; omega
/-- What is so of one of the records. -/
structure GoodOne (lb : Int) (e bad : Nat) (i : Nat) (l : List Wr) (r : List (List Int)) : Prop where
  may : MayL l
  was : i ≠ bad → r = putL lb e i l
  bad : i = bad → ∃ k c, k ≤ l.length ∧ ¬ Sealed c ∧ r = (putL lb e i l).set k c
  len : r.length = 1 + l.length
  ok : TxOk r
structure GoodR (lb : Int) (e bad : Nat) (ls : List (List Wr)) (k : Nat) (R : List (List (List Int))) : Prop where
  len : R.length = k
  one : ∀ (i : Nat) (r : List (List Int)), R[i]? = some r → ∃ l, ls[i]? = some l ∧ GoodOne lb e bad i l r
theorem GoodR.few {lb : Int} {e bad : Nat} {ls : List (List Wr)} {k : Nat} {R : List (List (List Int))} (h : GoodR lb e bad ls k R) : ∀ r ∈ R, r.length ≤ 13 := fun r hr => by
  obtain ⟨i, hi⟩ := List.mem_iff_getElem?.1 hr
  obtain ⟨l, _, h2⟩ := h.one i r hi
  have := h2.len
  have := h2.may.1.2
  omega
theorem GoodR.snoc {lb : Int} {e bad : Nat} {ls : List (List Wr)} {k : Nat} {R : List (List (List Int))} {r : List (List Int)} {l : List Wr} (h : GoodR lb e bad ls k R) (hl : ls[k]? = some l) (hm : MayL l) (h1 : k ≠ bad → r = putL lb e k l) (h2 : k = bad → ∃ j c, j ≤ l.length ∧ ¬ Sealed c ∧ r = (putL lb e k l).set j c) (h3 : r.length = 1 + l.length) (h4 : TxOk r) : GoodR lb e bad ls (k + 1) (R ++ [r]) := by
  refine ⟨by simp [h.len], fun i r' hi => ?_⟩
  by_cases hlt : i < k
  · rw [List.getElem?_append_left (by rw [h.len]; exact hlt)] at hi; exact h.one i r' hi
  · have := (List.getElem?_eq_some_iff.1 hi).1
    rw [List.length_append, h.len] at this
    simp at this
    obtain rfl : i = k := by omega
    rw [List.getElem?_append_right (by rw [h.len]; omega), h.len, Nat.sub_self] at hi
    injection hi with hi
    subst hi
    exact ⟨l, hl, ⟨hm, h1, h2, h3, h4⟩⟩
theorem not_taken_nil {lb : Int} {e s : Nat} : ¬ Taken lb e s [] := fun h => by have := h.1.1; simp at this
set_option maxRecDepth 100000 in
set_option maxHeartbeats 6400000 in
theorem walk (x0 : Int) (x1 : Int) (A2 : Option Addr) (l2 : List (List Wr)) (d2 : Nat) (x3 : Int) (x4 : Int) (w : World) (hx0 : 0 ≤ x0 ∧ x0 ≤ 255) (hx1 : 0 ≤ x1 ∧ x1 ≤ 4294967295) (hd2 : l2.length ≤ d2) (hm2 : d2 ≤ 9223372036854775807) (hB2 : WssOk l2) (hy2 : Wss w A2 l2) (hx3 : 0 ≤ x3 ∧ x3 ≤ 255) (hx4 : 0 ≤ x4 ∧ x4 ≤ 255) :
    Calls Try.prog 8 #[.int .u8 x0, .int .u32 x1, .slice A2 l2.length d2, .int .u8 x3, .int .u8 x4] w fun e w' => e = .returned (.bool true) ∧ Below w.heap.size w w' := by
  obtain ⟨e, rfl⟩ : ∃ n : Nat, x1 = (n : Int) := ⟨x1.toNat, by omega⟩
  obtain ⟨m3, rfl⟩ : ∃ n : Nat, x3 = (n : Int) := ⟨x3.toNat, by omega⟩
  obtain ⟨m4, rfl⟩ : ∃ n : Nat, x4 = (n : Int) := ⟨x4.toNat, by omega⟩
  have he : e < 4294967296 := by omega
  have H2 := Lib.hid hy2
  have HO2 := Lib.hid hB2
  clear hy2 hB2
  obtain ⟨ls, hls⟩ : ∃ ls, ls = l2 := ⟨_, rfl⟩
  subst hls
  generalize hn : ls.length = n at *
  have HN := Lib.hid hn
  clear hn
  go_enter Try.func8, Try.ntmps8
  go_wp2_with fail
  refine (begun7_any _).mono ?_
  rintro en w1 ⟨rfl, hb1⟩
  by_cases q1 : n < 1
  · have hd1 : decide ((n : Int) < 1) = true := decide_eq_true (by omega)
    go_wp2
    go_ret
    exact ⟨rfl, hb1⟩
  have hd1 : decide ((n : Int) < 1) = false := decide_eq_false (by omega)
  by_cases q8 : 8 < n
  · have hd8 : decide (8 < (n : Int)) = true := decide_eq_true (by omega)
    go_wp2
    go_ret
    exact ⟨rfl, hb1⟩
  have hd8 : decide (8 < (n : Int)) = false := decide_eq_false (by omega)
  have wm3 : IntKind.i64.wrap (m3 : Int) = m3 := IntWalk.i64_in _ (by omega)
  have wm4 : IntKind.i64.wrap (m4 : Int) = m4 := IntWalk.i64_in _ (by omega)
  obtain ⟨n1, hn1, HN1⟩ : ∃ n1 : Nat, (n : Int) + 1 = n1 ∧ Hid (n1 = n + 1) := ⟨n + 1, by omega, rfl⟩
  have wn1 : IntKind.i64.wrap (n1 : Int) = n1 := IntWalk.i64_in _ (by omega)
  have hn10 : ¬ (n1 : Int) = 0 := by omega
  obtain ⟨bad, hbad, HBAD⟩ : ∃ b : Nat, (m3 : Int) % (n1 : Int) = b ∧ Hid (b < n1) := ⟨m3 % n1, by omega, Nat.mod_lt _ (by omega)⟩
  have hbad2 : Int.tmod (m3 : Int) (n1 : Int) = bad := by rw [Int.tmod_eq_emod_of_nonneg (by omega)]; exact hbad
  have hbn : bad ≤ n := by have := HBAD.out; have := HN1.out; omega
  go_wp2_with fail
  go_loopw [11, 13] (fun v i wr => ∃ (k : Nat) (R : List (List (List Int))), i = .int .i64 k ∧ k ≤ n ∧ GoodR x0 e bad ls k R ∧ OwnTx wr w.heap.size v R.flatten ∧ Below w.heap.size w wr) (fun _ i _ => n - (intOf i).toNat)
  case atStart => exact ⟨0, [], rfl, Nat.zero_le _, ⟨rfl, fun i r h => by cases h⟩, OwnTx.nil _ _, hb1⟩
  case round =>
    obtain ⟨v, rfl⟩ : ∃ v, v = u11 := ⟨u11, rfl⟩
    obtain ⟨k, R, rfl, hk, hgood, hotl, hbel⟩ := hrel
    obtain ⟨w4, rfl⟩ : ∃ w4, w4 = wr := ⟨wr, rfl⟩
    have HGR := Lib.hid hgood
    have HOTL := Lib.hid hotl
    clear hgood hotl
    by_cases hlt : k < n
    · have hkn : (k : Int) < n := by omega
      obtain ⟨lk, hlk⟩ : ∃ lk, ls[k]? = some lk := ⟨_, List.getElem?_eq_getElem (by rw [HN.out]; exact hlt)⟩
      obtain ⟨a, B, d, rfl, hca, hld, hdm, hwk⟩ := (H2.out.keep hbel) k lk hlk
      have HLK := Lib.hid hlk
      have HOK := Lib.hid (HO2.out lk (List.mem_of_getElem? hlk))
      have HWK := Lib.hid hwk
      generalize hnk : lk.length = nk at *
      have HNK := Lib.hid hnk
      have HMC := Lib.hid (rmay_any B lk nk d w4 HNK.out hld hdm HOK.out HWK.out)
      clear hlk hwk hnk
      by_cases hmay : MayL lk
      · have HMK := Lib.hid hmay
        rw [decide_eq_true hmay] at HMC
        clear hmay
        have hnk12 : 1 ≤ nk ∧ nk ≤ 12 := by rw [← HNK.out]; exact HMK.out.1
        have wk : IntKind.u32.wrap (k : Int) = k := IntWalk.u32_in _ (by omega)
        go_wp2_with fail
        refine HMC.out.mono ?_
        rintro en wm ⟨rfl, hbm⟩
        have hcm := keepC hbm hca
        have HP := Lib.hid (put_any x0 e k B lk nk d wm hx0 he (by omega) HNK.out hld hdm HOK.out (HWK.out.keep hbm))
        rw [decide_eq_true HMK.out, putX_may HMK.out] at HP
        obtain ⟨q, hq, HQQ⟩ : ∃ q : Nat, (nk : Int) + 1 = q ∧ Hid (q = nk + 1) := ⟨nk + 1, by omega, rfl⟩
        have wq : IntKind.i64.wrap (q : Int) = q := IntWalk.i64_in _ (by omega)
        have hq13 : 2 ≤ q ∧ q ≤ 13 := by omega
        have HLP : Hid ((putL x0 e k lk).length = q) := by unfold Hid; rw [putL_length, HNK.out]; have := HQQ.out; omega
        go_wp2_with fail
        refine HP.out.mono ?_
        rintro en w5 ⟨v14, rfl, ot5, hb5⟩
        obtain ⟨gb, cb, ysb, rfl, hcb, hcmb, hgb, hglb, nmb, clb, frb⟩ := ot5.parts (by rw [HLP.out]; omega)
        rw [HLP.out] at hcb ot5 ⊢
        have HGB : Hid (w4.heap.size ≤ gb) := Nat.le_trans hbm.size hgb
        have HOTP := Lib.hid (ot5.mono (Nat.le_trans hbel.size hbm.size))
        have HB45 := Lib.hid (keepB hbm hb5)
        have hc5 := keepC hb5 hcm
        have HNM := Lib.hid nmb
        have HCL := Lib.hid clb
        have HFR := Lib.hid frb
        clear ot5 nmb clb frb HP HMC hbm hb5 hca hcm hgb
        by_cases hkb : k = bad
        · subst hkb
          have hq0 : ¬ (q : Int) = 0 := by omega
          obtain ⟨kb, hkb1, HKB⟩ : ∃ kb : Nat, (m4 : Int) % (q : Int) = kb ∧ Hid (kb < q) := ⟨m4 % q, by omega, Nat.mod_lt _ (by omega)⟩
          have hkb2 : Int.tmod (m4 : Int) (q : Int) = kb := by rw [Int.tmod_eq_emod_of_nonneg (by omega)]; exact hkb1
          have hkbq : kb < q := HKB.out
          have hkbi : (kb : Int) < q := by omega
          obtain ⟨bk, hbk⟩ : ∃ bk, (putL x0 e k lk)[kb]? = some bk := ⟨_, List.getElem?_eq_getElem (by rw [HLP.out]; exact hkbq)⟩
          have hse := putL_sealed HMK.out HOK.out hbk
          have hBk := putL_txOk e k hx0 HMK.out HOK.out bk (List.mem_of_getElem? hbk)
          obtain ⟨gk, dk, hyk, hrk⟩ := HNM.out.at64 hbk hse.1
          have ckk := HCL.out kb _ hyk
          obtain ⟨x, hx⟩ : ∃ x, bk[0]? = some x := ⟨_, List.getElem?_eq_getElem (by rw [hse.1]; omega)⟩
          obtain ⟨_, _, ev, hdk, hdkm, _, _, hcg, _⟩ := own_at hrk (by rw [hse.1]; omega)
          injection ev with ev1 ev2 ev3
          clear ev2
          injection ev1 with ev1
          injection ev1 with ev1
          subst ev1; subst ev3
          have cx := hcg 0 x hx
          have hxb := hBk x (List.mem_of_getElem? hx)
          have hxor := xor_byte hxb (show (0 : Int) ≤ 1 ∧ (1 : Int) ≤ 255 by omega)
          obtain ⟨y, hy⟩ : ∃ y, bits .xor .u8 x 1 = y := ⟨_, rfl⟩
          rw [hy] at hxor
          obtain ⟨bt, hbt⟩ : ∃ bt, bk = x :: bt := by
            cases bk with
            | nil => cases hx
            | cons z zs => injection hx with hx; subst hx; exact ⟨zs, rfl⟩
          have HBT : Hid (bt.length = 63) := by have := hse.1; rw [hbt] at this; simp at this; exact this
          have HNS : Hid (¬ Sealed (y :: bt)) := by
            have h := turned_not (i := 0) hse hBk hx hxor.1 (fun e => by have := hxor.2.1 e; omega)
            rw [hbt] at h; exact h
          have HYB : Hid (AllB (y :: bt)) := fun z hz => by
            rcases List.mem_cons.1 hz with rfl | h
            · exact hxor.1
            · exact hBk z (by rw [hbt]; simp [h])
          have HY1 : Hid (Byt w5 (some ⟨gk, 1, none⟩) bt) := fun i z hz => by
            refine ⟨_, rfl, ?_⟩
            rw [add_off]
            exact hcg (1 + i) z (by rw [hbt, Nat.add_comm]; exact hz)
          have HFK : Hid (∀ W, Below w5.heap.size w5 W → W.frozen? ⟨gb, kb, none⟩ = false) := fun W hW => by
            rw [hW.frozen (World.block_lt_of_cell? w5 _ ckk)]; exact HFR.out kb
          have hd64 : 64 ≤ dk := by rw [hse.1] at hdk; exact hdk
          have hdk1 : ¬ dk = 1 := by omega
          clear hse hBk hyk hrk hcg hxor hx hbk hbt hdk HNM HCL HFR
          go_upto_region 19 with fail
          have grefl : ∀ W : World, W.grownBy W none := fun W => World.grownBy.refl W _
          refine wp_region_rgk (VRW w5.heap.size gb q cb kb gk dk x y bt) (fun _ W => Below w5.heap.size w5 W) (fun _ w w' => w.grownBy w' none) (by kernel_rfl) (by kernel_rfl) (fun i j v' w' w'' hij hind h hg => h.on hg) ((Below.refl _ _).drew) ?_
          simp only [RAll]
          refine ⟨?_, ?_, ?_, ?_, ?_, ?_, ?_, ?_, ?_, ?_, ?_, ?_, ?_, ?_, ?_, ?_, ?_, ?_⟩
          · refine RStepK.of rfl fun T W L hag hL hJ hLs hd => ?_   -- 0: 88 := Op.move (Operand.tmp 14)
            have e14 : T.getD 14 undef = _ := (agree_at hag 14 (by kernel_rfl)).trans rfl
            clear hag hd
            go_simp
            exact ⟨_, rfl, rfl⟩
          · refine RStepK.of rfl fun T W L hag hL hJ hLs hd => ?_   -- 1: 89 := Op.move (Operand.tmp 16)
            have e16 : T.getD 16 undef = _ := (agree_at hag 16 (by kernel_rfl)).trans rfl
            clear hag hd
            go_simp
            exact ⟨_, rfl, rfl⟩
          · refine RStepK.of rfl fun T W L hag hL hJ hLs hd => ?_   -- 2: 90 := Op.move (Operand.tmp 14)
            have e14 : T.getD 14 undef = _ := (agree_at hag 14 (by kernel_rfl)).trans rfl
            clear hag hd
            go_simp
            exact ⟨_, rfl, rfl⟩
          · refine RStepK.of rfl fun T W L hag hL hJ hLs hd => ?_   -- 3: 91 := Op.move (Operand.tmp 16)
            have e16 : T.getD 16 undef = _ := (agree_at hag 16 (by kernel_rfl)).trans rfl
            clear hag hd
            go_simp
            exact ⟨_, rfl, rfl⟩
          · refine RStepK.of rfl fun T W L hag hL hJ hLs hd => ?_   -- 4: 92 := Op.indexAddr 24 (Operand.tmp 90) (Operand.tmp 91)
            have d90 : T.getD 90 undef = _ := hd ⟨2, .data⟩ (by simp) rfl _ rfl
            have d91 : T.getD 91 undef = _ := hd ⟨3, .data⟩ (by simp) rfl _ rfl
            clear hag hd
            go_simp
            exact ⟨_, rfl, rfl⟩
          · refine RStepK.of rfl fun T W L hag hL hJ hLs hd => ?_   -- 5: 93 := Op.load 25 (Operand.tmp 92)
            have d92 : T.getD 92 undef = _ := hd ⟨4, .data⟩ (by simp) rfl _ rfl
            have fct0 := keepC hJ ckk
            clear hag hd
            go_simp
            exact ⟨_, rfl, rfl⟩
          · refine RStepK.of rfl fun T W L hag hL hJ hLs hd => ?_   -- 6: 94 := Op.indexAddr 25 (Operand.tmp 93) (Operand.const (Value.int I
            have d93 : T.getD 93 undef = _ := hd ⟨5, .data⟩ (by simp) rfl _ rfl
            clear hag hd
            go_simp
            exact ⟨_, rfl, rfl⟩
          · refine RStepK.of rfl fun T W L hag hL hJ hLs hd => ?_   -- 7: 95 := Op.load 5 (Operand.tmp 94)
            have d94 : T.getD 94 undef = _ := hd ⟨6, .data⟩ (by simp) rfl _ rfl
            have fct0 := keepC hJ cx
            clear hag hd
            go_simp
            exact ⟨_, rfl, rfl⟩
          · refine RStepK.of rfl fun T W L hag hL hJ hLs hd => ?_   -- 8: 96 := Op.binOp BinOp.xor 5 (Operand.tmp 95) (Operand.const (Value.
            have d95 : T.getD 95 undef = _ := hd ⟨7, .data⟩ (by simp) rfl _ rfl
            clear hag hd
            go_simp
            exact ⟨_, rfl, rfl⟩
          · refine RStepK.of rfl fun T W L hag hL hJ hLs hd => ?_   -- 9: 97 := Op.buildSlice 25 1 #[(0, Operand.tmp 96)]
            have d96 : T.getD 96 undef = _ := hd ⟨8, .data⟩ (by simp) rfl _ rfl
            rw [Array.getD_eq_getD_getElem?] at d96
            clear hag hd
            go_simp
            exact ⟨_, rfl, ⟨W.heap.size, rfl, heap_alloc_new W _⟩, hJ.alloc hJ.size _, World.grownBy_alloc W _ _⟩
          · refine RStepK.of rfl fun T W L hag hL hJ hLs hd => ?_   -- 10: 98 := Op.move (Operand.tmp 14)
            have e14 : T.getD 14 undef = _ := (agree_at hag 14 (by kernel_rfl)).trans rfl
            clear hag hd
            go_simp
            exact ⟨_, rfl, rfl⟩
          · refine RStepK.of rfl fun T W L hag hL hJ hLs hd => ?_   -- 11: 99 := Op.move (Operand.tmp 16)
            have e16 : T.getD 16 undef = _ := (agree_at hag 16 (by kernel_rfl)).trans rfl
            clear hag hd
            go_simp
            exact ⟨_, rfl, rfl⟩
          · refine RStepK.of rfl fun T W L hag hL hJ hLs hd => ?_   -- 12: 100 := Op.indexAddr 24 (Operand.tmp 98) (Operand.tmp 99)
            have d98 : T.getD 98 undef = _ := hd ⟨10, .data⟩ (by simp) rfl _ rfl
            have d99 : T.getD 99 undef = _ := hd ⟨11, .data⟩ (by simp) rfl _ rfl
            clear hag hd
            go_simp
            exact ⟨_, rfl, rfl⟩
          · refine RStepK.of rfl fun T W L hag hL hJ hLs hd => ?_   -- 13: 101 := Op.load 25 (Operand.tmp 100)
            have d100 : T.getD 100 undef = _ := hd ⟨12, .data⟩ (by simp) rfl _ rfl
            have fct0 := keepC hJ ckk
            clear hag hd
            go_simp
            exact ⟨_, rfl, rfl⟩
          · refine RStepK.of rfl fun T W L hag hL hJ hLs hd => ?_   -- 14: 102 := Op.slice 25 (Operand.tmp 101) (some (Operand.const (Value.in
            have d101 : T.getD 101 undef = _ := hd ⟨13, .data⟩ (by simp) rfl _ rfl
            clear hag hd
            go_simp
            exact ⟨_, rfl, rfl⟩
          · refine RStepK.of rfl fun T W L hag hL hJ hLs hd => ?_   -- 15: 103 := Op.call { callee := Callee.builtin Builtin.append, args := #
            have x97 := hd ⟨9, .data⟩ (by simp) rfl _ rfl
            have d102 : T.getD 102 undef = _ := hd ⟨14, .data⟩ (by simp) rfl _ rfl
            obtain ⟨g, (e97 : T.getD 97 undef = _), hg⟩ := x97
            have hy1 : Byt W (some ⟨gk, 1, none⟩) bt := HY1.out.keep hJ
            refine wp_app_full W (.tmp 97) (.tmp 102) rfl g 1 [y] e97 (blk_row hg rfl) rfl (some ⟨gk, 1, none⟩) 63 (dk - 1) bt d102 hy1 HBT.out (by omega) (by omega) ?_
            intro v' w' h1 h2
            exact ⟨_, rfl, h1 _ hJ.size, hJ.grown h2 hJ.size (fun j hj => by cases hj), h2⟩
          · refine RStepK.of rfl fun T W L hag hL hJ hLs hd => ?_   -- 16: 104 := Op.indexAddr 24 (Operand.tmp 88) (Operand.tmp 89)
            have d88 : T.getD 88 undef = _ := hd ⟨0, .data⟩ (by simp) rfl _ rfl
            have d89 : T.getD 89 undef = _ := hd ⟨1, .data⟩ (by simp) rfl _ rfl
            clear hag hd
            go_simp
            exact ⟨_, rfl, rfl⟩
          · refine RLastK.of rfl fun T W L hag hLs hL hJ hd => ?_   -- 17: None := Op.store 25 (Operand.tmp 104) (Operand.tmp 103)
            have d104 : T.getD 104 undef = _ := hd 16 _ (by simp) rfl
            have x103 : W.ownsRow w5.heap.size 5 1 (T.getD 103 undef) 64 (Bs (y :: bt)) := hd 15 _ (by simp) rfl
            obtain ⟨gn, cn, e103, _, _, _, _, _, _⟩ := own_at x103 (by omega)
            rw [e103] at x103
            obtain ⟨f, hf, hT⟩ := agree_fn hag
            have h104 := (hf 104).trans d104
            have h103 := (hf 103).trans e103
            have HJ := Lib.hid hJ
            have HX103 := Lib.hid x103
            clear hag hd d104 e103 x103 hJ hf
            rw [hT]
            clear hT
            simp only [List.pop_toArray, List.dropLast_cons_cons, List.dropLast_singleton, List.filterMap_cons, List.filterMap_nil, List.foldl_cons, List.foldl_nil, List.setIfInBounds_toArray, List.set_cons_succ, List.set_cons_zero, h104, h103]
            have hgbw : w4.heap.size ≤ gb := HGB.out
            have hOB : OwnTx W w.heap.size (.slice (some ⟨gb, 0, none⟩) q cb) (putL x0 e k lk) := HOTP.out.keep HJ.out
            have hset := hOB.set HLP.out hkbq (u := .slice (some ⟨gn, 0, none⟩) 64 cn) (b := y :: bt) (by rw [show (y :: bt).length = 64 by simp [HBT.out]]; exact HX103.out.mono (Nat.le_trans hbel.size HB45.out.size))
            have BWR : Below w4.heap.size w4 (W.setCell ⟨gb, kb, none⟩ (.slice (some ⟨gn, 0, none⟩) 64 cn)) := (keepB HB45.out HJ.out).setCell hgbw _
            have ckk2 := keepC HJ.out ckk
            have fkk2 : W.frozen? ⟨gb, kb, none⟩ = false := HFK.out W HJ.out
            obtain ⟨rk, hrk, HRK⟩ : ∃ rk, (putL x0 e k lk).set kb (y :: bt) = rk ∧ Hid (rk = (putL x0 e k lk).set kb (y :: bt)) := ⟨_, rfl, rfl⟩
            rw [hrk] at hset
            have HOTB := Lib.hid hset
            have HLB : Hid (rk.length = q) := by unfold Hid; rw [HRK.out, List.length_set, HLP.out]
            have HG1 : Hid (GoodR x0 e k ls (k + 1) (R ++ [rk])) := HGR.out.snoc HLK.out HMK.out (fun h => absurd rfl h) (fun _ => ⟨kb, y :: bt, by rw [HNK.out]; have := HQQ.out; omega, HNS.out, HRK.out⟩) (by rw [HLB.out, HNK.out]; have := HQQ.out; omega) (fun b hb => by
              rw [HRK.out] at hb
              rcases List.mem_or_eq_of_mem_set hb with h | h
              · exact putL_txOk e k hx0 HMK.out HOK.out b h
              · rw [h]; exact HYB.out)
            clear hset hOB hrk
            go_upto_region 20 with fail
            generalize W.setCell ⟨gb, kb, none⟩ (.slice (some ⟨gn, 0, none⟩) 64 cn) = W9 at *
            have HLF := Lib.hid (flat_len (R := R) (m := 13) (fun r hr => HGR.out.few r hr))
            have BW0 := Nat.le_trans hbel.size BWR.size
            obtain ⟨gb2, cb2, ysr, evb, _, _, _, _, nmr, clr, _⟩ := HOTB.out.parts (by rw [HLB.out]; omega)
            rw [HLB.out] at evb
            injection evb with evb1 _ evb2
            injection evb1 with evb1
            injection evb1 with evb1
            subst evb1; subst evb2
            have HNMR := Lib.hid nmr
            have HCLR := Lib.hid clr
            clear nmr clr
            go_wp2_with (first
              | (at_builtin
                 refine wpList_app_txs _ rfl (.tmp 105) (.tmp 106) rfl w.heap.size v R.flatten rfl (HOTL.out.keep BWR) ⟨gb, 0, none⟩ q cb rfl ysr rk HLB.out HNMR.out (fun j u hj => by rw [add_at]; exact HCLR.out j u hj) (by have := HLF.out; have := HGR.out.len; omega) BW0 ?_
                 intro v7 w7 ot7 hgr7 _
                 have B7 : Below w.heap.size w w7 := (hbel.trans (BWR.mono hbel.size)).trans (grown_below hgr7 BW0 (HOTL.out.keep BWR).low)
                 have OT7 : OwnTx w7 w.heap.size v7 (R ++ [rk]).flatten := by rw [List.flatten_append, List.flatten_singleton]; exact ot7
                 clear ot7 hgr7))
            go_roundw
            case rel => exact ⟨k + 1, R ++ [rk], by go_num, by omega, HG1.out, OT7, B7⟩
            case measure => simp [intOf]; omega
        · have hkbi : ((k : Int) == bad) = false := by simp; omega
          obtain ⟨rk, hrk, HRK⟩ : ∃ rk, putL x0 e k lk = rk ∧ Hid (rk = putL x0 e k lk) := ⟨_, rfl, rfl⟩
          rw [hrk] at HOTP HLP
          have HOTB := HOTP
          have HLB := HLP
          have BWR := HB45.out
          have HG1 : Hid (GoodR x0 e bad ls (k + 1) (R ++ [rk])) := HGR.out.snoc HLK.out HMK.out (fun _ => HRK.out) (fun h => absurd h hkb) (by rw [HLB.out, HNK.out]; have := HQQ.out; omega) (by rw [HRK.out]; exact putL_txOk e k hx0 HMK.out HOK.out)
          clear hrk HNM HCL HFR
          go_upto_region 20 with fail
          have HLF := Lib.hid (flat_len (R := R) (m := 13) (fun r hr => HGR.out.few r hr))
          have BW0 := Nat.le_trans hbel.size BWR.size
          obtain ⟨gb2, cb2, ysr, evb, _, _, _, _, nmr, clr, _⟩ := HOTB.out.parts (by rw [HLB.out]; omega)
          rw [HLB.out] at evb
          injection evb with evb1 _ evb2
          injection evb1 with evb1
          injection evb1 with evb1
          subst evb1; subst evb2
          have HNMR := Lib.hid nmr
          have HCLR := Lib.hid clr
          clear nmr clr
          go_wp2_with (first
            | (at_builtin
               refine wpList_app_txs _ rfl (.tmp 105) (.tmp 106) rfl w.heap.size v R.flatten rfl (HOTL.out.keep BWR) ⟨gb, 0, none⟩ q cb rfl ysr rk HLB.out HNMR.out (fun j u hj => by rw [add_at]; exact HCLR.out j u hj) (by have := HLF.out; have := HGR.out.len; omega) BW0 ?_
               intro v7 w7 ot7 hgr7 _
               have B7 : Below w.heap.size w w7 := (hbel.trans (BWR.mono hbel.size)).trans (grown_below hgr7 BW0 (HOTL.out.keep BWR).low)
               have OT7 : OwnTx w7 w.heap.size v7 (R ++ [rk]).flatten := by rw [List.flatten_append, List.flatten_singleton]; exact ot7
               clear ot7 hgr7))
          go_roundw
          case rel => exact ⟨k + 1, R ++ [rk], by go_num, by omega, HG1.out, OT7, B7⟩
          case measure => simp [intOf]; omega
      · rw [decide_eq_false hmay] at HMC
        clear hmay
        go_wp2_with fail
        refine HMC.out.mono ?_
        rintro en wm ⟨rfl, hbm⟩
        go_wp2
        go_ret
        exact ⟨rfl, keepB hbel hbm⟩
    · obtain rfl : n = k := by omega
      clear hlt hk
      obtain ⟨A, d, ev, hld, hdm, htx⟩ := HOTL.out.tx
      subst ev
      obtain ⟨X, hX, HX⟩ : ∃ X, R.flatten = X ∧ Hid (X = (R.drop 0).flatten) := ⟨_, rfl, rfl⟩
      rw [hX] at hld htx ⊢
      obtain ⟨m, hm, HM⟩ : ∃ m, X.length = m ∧ Hid (X.length = m) := ⟨_, rfl, rfl⟩
      rw [hm] at hld ⊢
      have HTX := Lib.hid htx
      have HBE := Lib.hid hbel
      clear htx hbel HOTL hX hm
      have hnn : ¬ (n : Int) < n := by omega
      go_wp2_with fail
      go_loopw [11, 17] (fun v i wr => ∃ (j : Nat) (A : Option Addr) (d m : Nat) (X : List (List Int)), i = .int .i64 j ∧ j ≤ n ∧ j ≤ bad ∧ v = .slice A m d ∧ m ≤ d ∧ d ≤ 9223372036854775807 ∧ Hid (X.length = m) ∧ Tx wr A X ∧ Hid (X = (R.drop j).flatten) ∧ Below w.heap.size w wr) (fun _ i _ => n + 1 - (intOf i).toNat)
      case atStart => exact ⟨0, A, d, m, X, rfl, Nat.zero_le _, Nat.zero_le _, rfl, hld, hdm, HM, HTX.out, HX, HBE.out⟩
      case round =>
        clear HM HTX HX HBE hld hdm
        obtain ⟨j, A, d, m, X, rfl, hj, hjb, ev, hld, hdm, HM, htx, HX, hbel⟩ := hrel
        subst ev
        have HTX := Lib.hid htx
        have HBE := Lib.hid hbel
        clear htx hbel
        have wj : IntKind.u32.wrap (j : Int) = j := IntWalk.u32_in _ (by omega)
        have hj1 : (j : Int) ≤ n := by omega
        have hsub : TxOk X := fun b hb => by
          rw [HX.out] at hb
          obtain ⟨r, hr, hbr⟩ := List.mem_flatten.1 hb
          obtain ⟨i, hi⟩ := List.mem_iff_getElem?.1 (List.mem_of_mem_drop hr)
          obtain ⟨_, _, hg⟩ := HGR.out.one i r hi
          exact hg.ok b hbr
        have HTK := Lib.hid (fun W (h : Tx W A X) => take_any x0 e j A X m d W hx0 he (by omega) HM.out hld hdm hsub h)
        by_cases hgo : j < n ∧ j < bad
        · obtain ⟨r, hr⟩ : ∃ r, R[j]? = some r := ⟨_, List.getElem?_eq_getElem (by rw [HGR.out.len]; exact hgo.1)⟩
          obtain ⟨lj, hlj, hg1⟩ := HGR.out.one j r hr
          have hrp := hg1.was (by omega)
          have hdr : R.drop j = r :: R.drop (j + 1) := by
            obtain ⟨h1, h2⟩ := List.getElem?_eq_some_iff.1 hr
            rw [List.drop_eq_getElem_cons h1, h2]
          have hfl : X = putL x0 e j lj ++ (R.drop (j + 1)).flatten := by rw [HX.out, hdr, List.flatten_cons, hrp]
          have hokj := HO2.out lj (List.mem_of_getElem? hlj)
          have hTk : decide (Taken x0 e j X) = true := by rw [hfl]; exact decide_eq_true ((taken_put hg1.may hokj he he (by omega) (by omega)).2 ⟨rfl, rfl, rfl⟩)
          have hTv := takeV_put (lb := x0) (rest := (R.drop (j + 1)).flatten) hg1.may hokj he (show j < 4294967296 by omega)
          rw [← hfl] at hTv
          rw [hTk, hTv.1, hTv.2] at HTK
          have HOKJ := Lib.hid hokj
          have hm12 := hg1.may.1
          have HFL := Lib.hid hfl
          have HPL := Lib.hid (putL_length x0 e j lj)
          have hcw := (H2.out.keep HBE.out) j lj hlj
          obtain ⟨a, B, db, eA, hcj, hldj, hdmj, hwj⟩ := hcw
          subst eA
          have HWJ := Lib.hid hwj
          clear hwj
          generalize hnj : lj.length = nj at *
          have HNJ := Lib.hid hnj
          obtain ⟨t, ht, HT⟩ : ∃ t : Nat, (nj : Int) + 1 = t ∧ Hid (1 + nj = t) := ⟨1 + nj, by omega, rfl⟩
          rw [HT.out] at HTK HPL
          have HFN : Hid (m = t + (R.drop (j + 1)).flatten.length) := by unfold Hid; rw [← HM.out, HFL.out, List.length_append, HPL.out]
          clear hr hlj hg1 hrp hdr hfl hokj hTk hTv hnj hsub
          have hpn : (t : Int) ≤ m := by have := HFN.out; omega
          have hj2 : (j : Int) < n := by omega
          have hj3 : (j : Int) < bad := by omega
          have hmt : ¬ (m : Int) < t := by omega
          have wt : IntKind.i64.wrap (t : Int) = t := IntWalk.i64_in _ (by omega)
          obtain ⟨b0, hb0⟩ : ∃ b0, X[0]? = some b0 := ⟨_, List.getElem?_eq_getElem (by rw [HM.out]; omega)⟩
          obtain ⟨ax, _, _, eA, _⟩ := HTX.out 0 b0 hb0
          subst eA
          clear hb0
          go_wp2_with fail
          refine (HTK.out _ HTX.out).mono ?_
          rintro en w6 ⟨v, rfl, ow6, hb6⟩
          obtain ⟨A6, d6, ev, hl6, hm6, hx6⟩ := ow6.wrs HOKJ.out.len
          subst ev
          have HX6 := Lib.hid hx6
          have HTX6 := Lib.hid (HTX.out.keep hb6)
          have hcj6 := keepC hb6 hcj
          have HWJ6 := Lib.hid (HWJ.out.keep hb6)
          have HB6 := Lib.hid (keepB HBE.out hb6)
          clear ow6 hx6 HTX HTK hcj HWJ HBE hb6
          rw [HNJ.out] at hl6 ⊢
          have HSM := Lib.hid (samew_any A6 B lj lj nj nj d6 db w6 HNJ.out HNJ.out (by omega) HOKJ.out HOKJ.out HX6.out HWJ6.out)
          rw [decide_eq_true (rfl : lj = lj)] at HSM
          go_wp2_with fail
          refine HSM.out.mono ?_
          rintro en w7 ⟨rfl, hb7⟩
          have hcj7 := keepC hb7 hcj6
          have HTX7 := Lib.hid (HTX6.out.keep hb7)
          have HB7 := Lib.hid (keepB HB6.out hb7)
          clear HTX6 hcj6 HWJ6 HB6 hb7 HSM HX6
          go_wp2_with fail
          go_roundw
          case rel =>
            refine ⟨j + 1, (if d = t then some ax else some (ax.add t)), d - t, m - t, (R.drop (j + 1)).flatten, by go_num, by omega, by omega, rfl, by omega, by omega, by have := HFN.out; unfold Hid; omega, fun i b hi => ?_, rfl, HB7.out⟩
            obtain ⟨a', B', d', e', hc, h1, h2, hy⟩ := HTX7.out (t + i) b (by rw [HFL.out, List.getElem?_append_right (by rw [HPL.out]; omega), HPL.out, Nat.add_sub_cancel_left]; exact hi)
            injection e' with e'
            subst e'
            have hdt : ¬ d = t := by have := (List.getElem?_eq_some_iff.1 hi).1; have := HFN.out; omega
            exact ⟨ax.add t, B', d', by rw [if_neg hdt], by rw [add_add']; exact hc, h1, h2, hy⟩
          case measure => simp [intOf]; omega
        · have hnt : ¬ Taken x0 e j X := by
            rw [HX.out]
            by_cases hjn : j < n
            · obtain ⟨r, hr⟩ : ∃ r, R[j]? = some r := ⟨_, List.getElem?_eq_getElem (by rw [HGR.out.len]; exact hjn)⟩
              obtain ⟨lj, hlj, hg1⟩ := HGR.out.one j r hr
              obtain ⟨k, c, hk, hc, hrp⟩ := hg1.bad (by omega)
              have hdr : R.drop j = r :: R.drop (j + 1) := by
                obtain ⟨h1, h2⟩ := List.getElem?_eq_some_iff.1 hr
                rw [List.drop_eq_getElem_cons h1, h2]
              rw [hdr, List.flatten_cons, hrp, ← List.set_append_left k c (by rw [putL_length]; omega)]
              exact not_taken_set hg1.may hk hc
            · rw [List.drop_of_length_le (by rw [HGR.out.len]; omega)]
              exact not_taken_nil
          rw [decide_eq_false hnt] at HTK
          have hjl : ¬ (j : Int) < bad := by omega
          have hje : ((j : Int) == bad) = true := by simp; omega
          generalize takeN x0 e j X = tn at *
          clear hnt hgo
          go_wp2_with fail
          refine (HTK.out _ HTX.out).mono ?_
          rintro en w6 ⟨v, rfl, ow6, hb6⟩
          have BEL := keepB HBE.out hb6
          clear ow6 hb6 HTK
          go_wp2_with fail
          go_ret
          exact ⟨rfl, BEL⟩

set_option maxRecDepth 100000 in
theorem lifted (os : Os) (started : os.Started) (H : Type) (enc : TypeId × Value → H) :
    ReturnsInHanded {} Try.checked os 8 .any (Rows.recRowSpec.pre6 enc Try.prog Try.f8 Rows.recRowRow.domain false) (Rows.recRowSpec.post enc Try.prog Try.f8 false true false false) := by
  refine returnsInHanded_of_change (C := Try.checked) own started (by kernel_rfl) Try.func8
    (ChangeSpec.witness6 (enc := enc) (C := Try.checked) false ⟨#[], #[.int .u8 0, .int .u32 0, .slice none 0 0, .int .u8 0, .int .u8 0], []⟩ 8 (by kernel_rfl) (by kernel_rfl) (by kernel_rfl) (by kernel_rfl)) ?_
  intro W base args ds gs before hval0 hW hcnd _
  have hval : ∀ (j : Nat) t v, Try.f8.params[j]? = some t → args[j]? = some v → Value.okWide Try.prog W .any base t v := hval0
  have hW' := hW
  obtain ⟨p, q, hA0, hV, rfl, hfz, hnd⟩ := hW
  have hA : DataW.TrodAll enc Try.prog W 0 (fun _ => true) true Try.f8.params.toList args.toList ds p := hA0
  rw [Try.params8] at hA hval
  obtain ⟨v0, vs0, d0, ds0, p0, q0, hargs, rfl, rfl, h0, r0⟩ := trodAll_cons hA
  obtain ⟨v1, vs1, d1, ds1, p1, q1, rfl, rfl, rfl, h1, r1⟩ := trodAll_cons r0
  obtain ⟨v2, vs2, d2, ds2, p2, q2, rfl, rfl, rfl, h2, r2⟩ := trodAll_cons r1
  obtain ⟨v3, vs3, d3, ds3, p3, q3, rfl, rfl, rfl, h3, r3⟩ := trodAll_cons r2
  obtain ⟨v4, vs4, d4, ds4, p4, q4, rfl, rfl, rfl, h4, r4⟩ := trodAll_cons r3
  obtain ⟨rfl, rfl, rfl⟩ := trodAll_nil r4
  obtain rfl : args = #[v0, v1, v2, v3, v4] := by cases args; simp_all
  obtain ⟨rfl, rfl⟩ := trodVars_none hV
  obtain ⟨x0, rfl, rfl, rfl, wx0⟩ := open_int Try.underlying5 (hval 0 5 v0 rfl rfl) h0
  obtain ⟨x1, rfl, rfl, rfl, wx1⟩ := open_int Try.underlying22 (hval 1 22 v1 rfl rfl) h1
  obtain ⟨a2, len2, cap2, rfl⟩ := okWide_slice Try.underlying47 (hval 2 47 v2 rfl rfl)
  obtain ⟨x3, rfl, rfl, rfl, wx3⟩ := open_int Try.underlying5 (hval 3 5 v3 rfl rfl) h3
  obtain ⟨x4, rfl, rfl, rfl, wx4⟩ := open_int Try.underlying5 (hval 4 5 v4 rfl rfl) h4
  clear hA0 hval0
  simp only [List.append_nil] at hW'
  have hlt2 : ∀ y ∈ p2, y.block < W.heap.size := fun y hy => by simpa using hW'.lt y (by simp [hy])
  have harg2 : ∀ W' : World, Below W.heap.size W W' → DataW.Trod enc Try.prog W' 0 (fun b => decide (b < W.heap.size)) true 47 (.slice a2 len2 cap2) d2 p2 :=
    fun W' hn => Below.trod laidOut (by kernel_rfl) (of_decide_eq_true (by kernel_rfl)) h2 hn (fun y hy => hlt2 y hy)
  obtain ⟨fu2, hf2⟩ := h2
  obtain ⟨A2, l2, c2, e2, hd2, hm2, hy2, hB2⟩ := open_wrss hf2
  simp [Value.cells] at e2
  obtain ⟨rfl, rfl, rfl⟩ := e2
  refine (walk x0 x1 a2 l2 cap2 x3 x4 W (by have := bounds_u8 wx0; omega) (by have := bounds_u32 wx1; omega) hd2 hm2 hB2 hy2 (by have := bounds_u8 wx3; omega) (by have := bounds_u8 wx4; omega)).mono fun e W' ⟨he, bel⟩ => ?_
  subst he
  exact ⟨_, rfl, _, _, _, [], _, [], hW', (trodAll_cons_mk (shut_bool Try.underlying4 _) trodAll_mk0), (trodAll_cons_mk (shut_int Try.underlying5 wx0) (trodAll_cons_mk (shut_int Try.underlying22 wx1) (trodAll_cons_mk (harg2 _ bel) (trodAll_cons_mk (shut_int Try.underlying5 wx3) (trodAll_cons_mk (shut_int Try.underlying5 wx4) trodAll_mk0))))), rfl, bel.frame _, fun h => by cases h⟩

theorem over : Rows.recRowRow.holds Try.pinned (OpenSpec.ofChange Rows.recRowSpec) :=
  OpenClaim.holds_of_wide 8 Try.f8 rfl rfl rfl rfl rfl rfl rfl ⟨rfl, rfl, rfl, rfl, rfl⟩ rfl rfl rfl rfl rfl (by kernel_rfl) Try.func8 (by kernel_rfl)
    (of_decide_eq_true (by kernel_rfl)) (by unfold Func.isWrapper; first | (rw [if_pos (by decide +kernel)]; kernel_rfl) | (rw [if_neg (by decide +kernel)]; exact ⟨rfl, rfl⟩))
    (fun os started H enc _ => lifted os started H enc)

theorem proved : Rows.RecRowSaid :=
  over
#print axioms proved
end Go.Proofs.Ytflldlhfeiamnaa.recRow
