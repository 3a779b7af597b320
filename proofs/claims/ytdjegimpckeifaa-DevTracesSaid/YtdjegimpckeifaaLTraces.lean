/- The law DevTraces answers true for every input, and leaves its arguments alone. No condition. -/
import Derived.Test.YtdjegimpckeifaaRows
import Derived.Test.YtdjegimpckeifaaV38
import Derived.StillTailTactics
import Derived.WalkKit
import Derived.ProofKit
import Derived.OpenShut
namespace Go.Proofs.Ytdjegimpckeifaa.devTraces
open Go.ChangeShapes Go.WideShapes Go.ChangeAt Go.RowKit Go.Joins
set_option linter.unusedVariables false
theorem own : ownKnob Try.prog.godebug = none := by kernel_rfl
theorem laidOut : laidOutB Try.prog = true := by kernel_rfl
def VT14 (dr di : Int) (q r ix k n d0 bl c B : Nat) (a : Addr) (A : Option Addr) (fb : List Int) (i : Nat) (v : Value) (w : World) : Prop :=
  match i with
  | 0 => v = .pointer (some ⟨q, 0, none⟩)
  | 1 | 7 | 13 => v = .slice (some a) n d0
  | 2 | 8 | 14 => v = .int .i64 k
  | 3 | 9 | 15 => v = .pointer (some (a.add (k * 6)))
  | 4 => v = .pointer (some ⟨(a.add (k * 6)).block, (a.add (k * 6)).off + 1, none⟩)
  | 5 => v = .int .i64 dr
  | 6 => v = .int .i64 r
  | 10 => v = .pointer (some ⟨(a.add (k * 6)).block, (a.add (k * 6)).off + 2, none⟩)
  | 11 => v = .int .i64 di
  | 12 => v = .int .i64 ix
  | 16 => v = .pointer (some ⟨(a.add (k * 6)).block, (a.add (k * 6)).off + 4, none⟩)
  | 17 => v = .slice A bl c
  | 18 => ∃ g, v = .slice (some ⟨g, 0, none⟩) 64 64 ∧ B ≤ g ∧ Blk64 w g fb
  | _ => True
theorem VT14.on {dr di : Int} {q r ix k n d0 bl c B : Nat} {a : Addr} {A : Option Addr} {fb : List Int} {j : Nat} {v : Value} {w w' : World} (h : VT14 dr di q r ix k n d0 bl c B a A fb j v w) (hs : w.grownBy w' none) : VT14 dr di q r ix k n d0 bl c B a A fb j v w' := by
  unfold VT14 at *
  split <;> try exact h
  · obtain ⟨g, h1, h2, h3⟩ := h; exact ⟨g, h1, h2, (hs.block g (room_lt h3) (by simp)).trans h3⟩
  · trivial
set_option maxRecDepth 100000 in
set_option maxHeartbeats 6400000 in
theorem walk (A0 : Option Addr) (l0 : List Dd) (d0 : Nat) (w : World) (hd0 : l0.length ≤ d0) (hm0 : d0 ≤ 9223372036854775807) (hB0 : DdsOk l0) (hy0 : Deeds w A0 l0) :
    Calls Try.prog 8 #[.slice A0 l0.length d0] w fun e w' => e = .returned (.bool true) ∧ Below w.heap.size w w' := by
  have HY := Lib.hid hy0
  have HBO := Lib.hid hB0
  clear hy0 hB0
  generalize hn : l0.length = n at *
  have HN := Lib.hid hn
  clear hn
  by_cases h40 : 40 < n
  · have hgt : (40 : Int) < n := by omega
    go_enter Try.func8, Try.ntmps8
    go_wp2_with fail
    refine (begun_any _).mono ?_
    rintro e w1 ⟨rfl, hb1⟩
    go_wp2
    go_ret
    exact ⟨rfl, hb1⟩
  have hle : n ≤ 40 := by omega
  have hgt : ¬ ((40 : Int) < n) := by omega
  go_enter Try.func8, Try.ntmps8
  go_wp2_with fail
  refine (begun_any _).mono ?_
  rintro e w1 ⟨rfl, hb1⟩
  have HB1 := Lib.hid hb1
  clear hb1
  go_wp2_with fail
  refine (new_at _ w1.heap.size [4, 4] 2 rfl (by decide) (fun x hx => by simp at hx; subst hx; constructor <;> omega) _ (heap_alloc_new w1 _)).mono ?_
  rintro e w2 ⟨⟨q, F, rfl, hd, hF⟩, hb⟩
  have hds := DS.made (HB1.out.alloc HB1.out.size _) hd hF hb
  have HDS := Lib.hid hds
  clear hd hF hb hds
  go_wp2_with fail
  refine (new_at _ w2.heap.size [4, 4] 2 rfl (by decide) (fun x hx => by simp at hx; subst hx; constructor <;> omega) _ (heap_alloc_new w2 _)).mono ?_
  rintro e w3 ⟨⟨qe, F, rfl, hd, hF⟩, hb⟩
  have hd2 : D2 w w3 q _ qe _ := D2.made (P := fun _ => False) (by exact HDS.out.below ((Below.refl _ _).alloc (Nat.le_refl _) _) (fun k hk => hk.elim)) hd hF hb
  have HD : Hid (D2 w w3 q (DM.make [4, 4]) qe (DM.make [4, 4])) := hd2
  clear hd hF hb HDS hd2
  go_wp2_with fail
  go_loopw [7] (fun i wr => ∃ (k : Nat) (m : DM), i = .int .i64 k ∧ k ≤ n ∧ Hid (K2 m k) ∧ Hid (Tr m) ∧ Hid (D2 w wr q m qe (DM.make [4, 4]))) (fun i _ => n - (intOf i).toNat)
  case atStart => exact ⟨0, _, rfl, Nat.zero_le _, K2.make, Tr.make, HD.out⟩
  case round =>
    obtain ⟨w4, rfl⟩ : ∃ w4, w4 = wr := ⟨wr, rfl⟩
    obtain ⟨k, m, rfl, hk, HK, HTR, HDK⟩ := hrel
    clear HD
    by_cases hlt : k < n
    · obtain ⟨d, hdk⟩ : ∃ d, l0[k]? = some d := ⟨_, List.getElem?_eq_getElem (by rw [HN.out]; exact hlt)⟩
      obtain ⟨a, rfl, hat⟩ := (HY.out.keep (HDK.out.bel)) k d hdk
      have HOK := Lib.hid (HBO.out d (List.mem_of_getElem? hdk))
      obtain ⟨r, hr, hbr⟩ := and1_nat d.r
      obtain ⟨i, hi, hbi⟩ := and3_nat d.i
      have hkk : (k : Int) < n := by omega
      have c0 := hat.c0
      have c1 := hat.c1
      have c2 := hat.c2
      have HAT := Lib.hid hat
      clear hat hdk
      generalize hd : d.k = kind at *
      clear hd
      cases hkd : (kind.tmod 5 == 4)
      · have hkd2 : ¬ (kind.tmod 5 = 4) := by simpa using hkd
        have c4 := HAT.out.c4
        have C1 := Lib.hid c1
        have C2 := Lib.hid c2
        have C4 := Lib.hid c4
        have hfull := fun W (hb : Below w4.heap.size w4 W) => full_any d.A d.b d.c W HOK.out.b (HAT.out.b.keep hb) (by have := HOK.out.bl; have := HOK.out.bc; omega)
        have HF := Lib.hid hfull
        have HFOK := Lib.hid (fullV_ok HOK.out.b)
        have HD5 := HDK
        clear hfull c1 c2 c4
        generalize fullV d.b = fb at *
        generalize d.b.length = bl at *
        generalize d.r = dr at *
        generalize d.i = di at *
        go_upto_region 14 with fail
        have grefl : ∀ W : World, W.grownBy W none := fun W => World.grownBy.refl W _
        refine wp_region_rg (VT14 dr di q r i k n d0 bl d.c w4.heap.size a d.A fb) (Below w4.heap.size w4) (fun w w' => w.grownBy w' none) (by kernel_rfl) (by kernel_rfl) (fun j v w w' h hg => h.on hg) ((Below.refl _ _).drew) ?_
        simp only [RAll]
        refine ⟨?_, ?_, ?_, ?_, ?_, ?_, ?_, ?_, ?_, ?_, ?_, ?_, ?_, ?_, ?_, ?_, ?_, ?_, ?_, ?_⟩
        · refine RStep.of rfl fun T W hag hJ hd => ?_   -- 0: 66 := Op.move (Operand.tmp 3)
          have e3 : T.getD 3 undef = _ := (agree_at hag 3 (by kernel_rfl)).trans rfl
          clear hag hd
          go_simp
          first | exact ⟨_, rfl, rfl⟩ | exact ⟨_, rfl, rfl, hJ, grefl _⟩
        · refine RStep.of rfl fun T W hag hJ hd => ?_   -- 1: 67 := Op.move (Operand.tmp 0)
          have e0 : T.getD 0 undef = _ := (agree_at hag 0 (by kernel_rfl)).trans rfl
          clear hag hd
          go_simp
          first | exact ⟨_, rfl, rfl⟩ | exact ⟨_, rfl, rfl, hJ, grefl _⟩
        · refine RStep.of rfl fun T W hag hJ hd => ?_   -- 2: 68 := Op.move (Operand.tmp 7)
          have e7 : T.getD 7 undef = _ := (agree_at hag 7 (by kernel_rfl)).trans rfl
          clear hag hd
          go_simp
          first | exact ⟨_, rfl, rfl⟩ | exact ⟨_, rfl, rfl, hJ, grefl _⟩
        · refine RStep.of rfl fun T W hag hJ hd => ?_   -- 3: 69 := Op.indexAddr 23 (Operand.tmp 67) (Operand.tmp 68)
          have d67 : T.getD 67 undef = _ := hd ⟨1, .data⟩ (by simp) rfl _ rfl
          have d68 : T.getD 68 undef = _ := hd ⟨2, .data⟩ (by simp) rfl _ rfl
          clear hag hd
          go_simp
          first | exact ⟨_, rfl, rfl⟩ | exact ⟨_, rfl, rfl, hJ, grefl _⟩
        · refine RStep.of rfl fun T W hag hJ hd => ?_   -- 4: 70 := Op.fieldAddr 34 (Operand.tmp 69) 1
          have d69 : T.getD 69 undef = _ := hd ⟨3, .data⟩ (by simp) rfl _ rfl
          clear hag hd
          go_simp
          first | exact ⟨_, rfl, rfl⟩ | exact ⟨_, rfl, rfl, hJ, grefl _⟩
        · refine RStep.of rfl fun T W hag hJ hd => ?_   -- 5: 71 := Op.load 3 (Operand.tmp 70)
          have d70 : T.getD 70 undef = _ := hd ⟨4, .data⟩ (by simp) rfl _ rfl
          have fct0 := keepC hJ C1.out
          clear hag hd
          go_simp
          first | exact ⟨_, rfl, rfl⟩ | exact ⟨_, rfl, rfl, hJ, grefl _⟩
        · refine RStep.of rfl fun T W hag hJ hd => ?_   -- 6: 72 := Op.binOp BinOp.and 3 (Operand.tmp 71) (Operand.const (Value.int IntKin
          have d71 : T.getD 71 undef = _ := hd ⟨5, .data⟩ (by simp) rfl _ rfl
          clear hag hd
          go_simp
          first | exact ⟨_, rfl, rfl⟩ | exact ⟨_, rfl, rfl, hJ, grefl _⟩
        · refine RStep.of rfl fun T W hag hJ hd => ?_   -- 7: 73 := Op.move (Operand.tmp 0)
          have e0 : T.getD 0 undef = _ := (agree_at hag 0 (by kernel_rfl)).trans rfl
          clear hag hd
          go_simp
          first | exact ⟨_, rfl, rfl⟩ | exact ⟨_, rfl, rfl, hJ, grefl _⟩
        · refine RStep.of rfl fun T W hag hJ hd => ?_   -- 8: 74 := Op.move (Operand.tmp 7)
          have e7 : T.getD 7 undef = _ := (agree_at hag 7 (by kernel_rfl)).trans rfl
          clear hag hd
          go_simp
          first | exact ⟨_, rfl, rfl⟩ | exact ⟨_, rfl, rfl, hJ, grefl _⟩
        · refine RStep.of rfl fun T W hag hJ hd => ?_   -- 9: 75 := Op.indexAddr 23 (Operand.tmp 73) (Operand.tmp 74)
          have d73 : T.getD 73 undef = _ := hd ⟨7, .data⟩ (by simp) rfl _ rfl
          have d74 : T.getD 74 undef = _ := hd ⟨8, .data⟩ (by simp) rfl _ rfl
          clear hag hd
          go_simp
          first | exact ⟨_, rfl, rfl⟩ | exact ⟨_, rfl, rfl, hJ, grefl _⟩
        · refine RStep.of rfl fun T W hag hJ hd => ?_   -- 10: 76 := Op.fieldAddr 34 (Operand.tmp 75) 2
          have d75 : T.getD 75 undef = _ := hd ⟨9, .data⟩ (by simp) rfl _ rfl
          clear hag hd
          go_simp
          first | exact ⟨_, rfl, rfl⟩ | exact ⟨_, rfl, rfl, hJ, grefl _⟩
        · refine RStep.of rfl fun T W hag hJ hd => ?_   -- 11: 77 := Op.load 3 (Operand.tmp 76)
          have d76 : T.getD 76 undef = _ := hd ⟨10, .data⟩ (by simp) rfl _ rfl
          have fct0 := keepC hJ C2.out
          clear hag hd
          go_simp
          first | exact ⟨_, rfl, rfl⟩ | exact ⟨_, rfl, rfl, hJ, grefl _⟩
        · refine RStep.of rfl fun T W hag hJ hd => ?_   -- 12: 78 := Op.binOp BinOp.and 3 (Operand.tmp 77) (Operand.const (Value.int IntKin
          have d77 : T.getD 77 undef = _ := hd ⟨11, .data⟩ (by simp) rfl _ rfl
          clear hag hd
          go_simp
          first | exact ⟨_, rfl, rfl⟩ | exact ⟨_, rfl, rfl, hJ, grefl _⟩
        · refine RStep.of rfl fun T W hag hJ hd => ?_   -- 13: 79 := Op.move (Operand.tmp 0)
          have e0 : T.getD 0 undef = _ := (agree_at hag 0 (by kernel_rfl)).trans rfl
          clear hag hd
          go_simp
          first | exact ⟨_, rfl, rfl⟩ | exact ⟨_, rfl, rfl, hJ, grefl _⟩
        · refine RStep.of rfl fun T W hag hJ hd => ?_   -- 14: 80 := Op.move (Operand.tmp 7)
          have e7 : T.getD 7 undef = _ := (agree_at hag 7 (by kernel_rfl)).trans rfl
          clear hag hd
          go_simp
          first | exact ⟨_, rfl, rfl⟩ | exact ⟨_, rfl, rfl, hJ, grefl _⟩
        · refine RStep.of rfl fun T W hag hJ hd => ?_   -- 15: 81 := Op.indexAddr 23 (Operand.tmp 79) (Operand.tmp 80)
          have d79 : T.getD 79 undef = _ := hd ⟨13, .data⟩ (by simp) rfl _ rfl
          have d80 : T.getD 80 undef = _ := hd ⟨14, .data⟩ (by simp) rfl _ rfl
          clear hag hd
          go_simp
          first | exact ⟨_, rfl, rfl⟩ | exact ⟨_, rfl, rfl, hJ, grefl _⟩
        · refine RStep.of rfl fun T W hag hJ hd => ?_   -- 16: 82 := Op.fieldAddr 34 (Operand.tmp 81) 4
          have d81 : T.getD 81 undef = _ := hd ⟨15, .data⟩ (by simp) rfl _ rfl
          clear hag hd
          go_simp
          first | exact ⟨_, rfl, rfl⟩ | exact ⟨_, rfl, rfl, hJ, grefl _⟩
        · refine RStep.of rfl fun T W hag hJ hd => ?_   -- 17: 83 := Op.load 31 (Operand.tmp 82)
          have d82 : T.getD 82 undef = _ := hd ⟨16, .data⟩ (by simp) rfl _ rfl
          have fct0 := keepC hJ C4.out
          clear hag hd
          go_simp
          first | exact ⟨_, rfl, rfl⟩ | exact ⟨_, rfl, rfl, hJ, grefl _⟩
        · refine RStep.of rfl fun T W hag hJ hd => ?_   -- 18: full
          have d83 : T.getD 83 undef = _ := hd ⟨17, .data⟩ (by simp) rfl _ rfl
          clear hag hd
          go_simp
          refine (HF.out W hJ).mono ?_
          rintro e w' ⟨⟨g, rfl, hg, hblk⟩, hb⟩
          refine ⟨_, rfl, ⟨g, rfl, Nat.le_trans hJ.size hg, hblk⟩, keepB hJ hb, ?_⟩
          exact grown_of_below hb
        · refine RLast.of rfl fun T W hag hJ hd => ?_   -- 19: Write
          have d66 : T.getD 66 undef = _ := hd 0 _ (by simp) rfl
          have d72 : T.getD 72 undef = _ := hd 6 _ (by simp) rfl
          have d78 : T.getD 78 undef = _ := hd 12 _ (by simp) rfl
          obtain ⟨g, (d84 : T.getD 84 undef = _), hg, hblk⟩ := hd 18 _ (by simp) rfl
          have hcall := (HD5.out.below hJ).write r i (by constructor <;> omega) (by constructor <;> omega) g fb HFOK.out hblk (by have := HK.out.done; omega)
          rw [HK.out.hasB hr hi, HK.out.doW hr hi HFOK.out] at hcall
          have HCALL := Lib.hid hcall
          have HAG := Lib.hid hag
          clear hag hd hcall hg hblk
          go_simp
          refine HCALL.out.mono ?_
          rintro e w7 ⟨rfl, hd7⟩
          obtain ⟨_, hK7, _, _, _⟩ := HK.out.write hr hi fb HFOK.out hd7.ok
          have hT7 := HTR.out.write HK.out hr hi fb HFOK.out hd7.ok
          have HM := Lib.hid (And.intro hK7 (And.intro hT7 hd7))
          clear hK7 hT7 hd7 HCALL
          obtain ⟨f, hf, hT⟩ := agree_fn HAG.out
          clear HAG hf
          rw [hT]
          clear hT d66 d72 d78 d84
          simp only [List.filterMap_cons, List.filterMap_nil, List.foldl_cons, List.foldl_nil, List.setIfInBounds_toArray, List.set_cons_succ, List.set_cons_zero]
          go_wp2
          go_roundw
          case rel => exact ⟨k + 1, m.write r i fb, by go_num, by omega, HM.out.1, HM.out.2.1, HM.out.2.2⟩
          case measure => simp [intOf]; omega
      · have hkd2 : kind.tmod 5 = 4 := by simpa using hkd
        have hbar := HDK.out.barrier r (by constructor <;> omega) (by have := HK.out.done; omega)
        rw [HK.out.hasR hr, HK.out.doB hr] at hbar
        have HBAR := Lib.hid hbar
        clear hbar
        go_wp2_with fail
        refine HBAR.out.mono ?_
        rintro e w6 ⟨rfl, hd6⟩
        obtain ⟨_, hK6, _, _, _⟩ := HK.out.barrier hr hd6.ok
        have hT6 := HTR.out.barrier HK.out hr hd6.ok
        have HM := Lib.hid (And.intro hK6 (And.intro hT6 hd6))
        clear hK6 hT6 hd6 HBAR
        go_wp2_with fail
        go_roundw
        case rel => exact ⟨k + 1, m.barrier r, by go_num, by omega, HM.out.1, HM.out.2.1, HM.out.2.2⟩
        case measure => simp [intOf]; omega
    · obtain rfl : k = n := by omega
      have hge : ¬ ((k : Int) < k) := by omega
      have hm1 : m.done.length ≤ 40 := by have := HK.out.done; omega
      go_wp2_with fail
      go_loopw [8] (fun i8 wr => ∃ (r N : Nat) (me : DM), i8 = .int .i64 r ∧ r ≤ 2 ∧ N ≤ 40 * r ∧ Hid (Again m me N r 0) ∧ Hid (D2 w wr q m qe me)) (fun i _ => 2 - (intOf i).toNat)
      case atStart => exact ⟨0, 0, _, rfl, by omega, by omega, Again.start m, HDK.out⟩
      case round =>
        obtain ⟨w5, rfl⟩ : ∃ w5, w5 = wr := ⟨wr, rfl⟩
        obtain ⟨r, N, me, rfl, hr, hN, HA, HDR⟩ := hrel
        clear HDK
        by_cases hr2 : r < 2
        · have hr2i : (r : Int) < 2 := by omega
          have HTC := Lib.hid (HDR.out.trace r (by rw [HK.out.len]; exact hr2) (by omega))
          go_wp2_with fail
          refine HTC.out.mono ?_
          rintro e w6 ⟨v, rfl, hrows, hd6⟩
          obtain ⟨Av, cv, rfl, hcv1, hcv2⟩ := hrows.val
          have hTl : (traceL m r).length ≤ 40 := Nat.le_trans (HTR.out.len r) hm1
          have HTX := Lib.hid (fun t (h : t ∈ traceL m r) => HTR.out.txt r t h)
          have HR6 := Lib.hid hrows
          have HD6 := Lib.hid hd6
          clear hrows hd6 HTC HDR
          generalize hP : (fun k => w5.heap.size ≤ k ∧ k < w6.heap.size) = P at *
          have HTT := Lib.hid (rfl : traceL m r = traceL m r)
          generalize hT : traceL m r = T at HTX HR6 hTl hcv1 ⊢
          have HTE := Lib.hid hT
          clear hT HTT hP
          generalize htn : T.length = tn at *
          have HTN := Lib.hid htn
          clear htn
          go_wp2_with fail
          go_loopw [10] (fun i10 wr => ∃ (k N : Nat) (me : DM), i10 = .int .i64 k ∧ k ≤ tn ∧ N ≤ 40 * r + k ∧ Hid (Again m me N r k) ∧ Hid (RowsAt wr P (fun _ => P) 31 5 1 Bs (.slice Av tn cv) T) ∧ Hid (D2P w wr P q m qe me)) (fun i _ => tn - (intOf i).toNat)
          case atStart => exact ⟨0, N, me, rfl, Nat.zero_le _, by omega, HA.out, HR6.out, HD6.out⟩
          case round =>
            obtain ⟨w7, rfl⟩ : ∃ w7, w7 = wr := ⟨wr, rfl⟩
            obtain ⟨kt, N2, me2, rfl, hkt, hN2, HA2, HR2, HD2⟩ := hrel
            clear HR6 HD6 HA
            by_cases hktl : kt < tn
            · obtain ⟨t, ht⟩ : ∃ t, T[kt]? = some t := ⟨_, List.getElem?_eq_getElem (by rw [HTN.out]; exact hktl)⟩
              have hkti : (kt : Int) < tn := by omega
              have htx := HTX.out t (List.mem_of_getElem? ht)
              obtain ⟨g, cap, u, e1, _, _, hcu, _, hru⟩ := HR2.out.row ht
              injection e1 with e1 e2 e3
              subst e1
              clear e2 e3
              rcases htx with rfl | ⟨i, b, hi4, hbk, rfl⟩
              · obtain ⟨gu, cu, rfl, _, _, _, _, _, _⟩ := hru.pos (by simp)
                have hbar := HD2.out.swap.barrier r (by constructor <;> omega) (by have := HA2.out.k2.done; omega)
                rw [HA2.out.k2.hasR hr2, HA2.out.k2.doB hr2] at hbar
                have HBAR := Lib.hid hbar
                have HT2 := Lib.hid ht
                clear hbar hru ht
                simp only [List.length_cons, List.length_nil] at hcu
                go_wp2_with fail
                refine HBAR.out.mono ?_
                rintro e w8 ⟨rfl, hd8, hs8⟩
                have HM := Lib.hid (And.intro (HA2.out.bar hr2 (by rw [HTE.out]; exact HT2.out) hd8.ok) (And.intro (HR2.out.same hs8) hd8.swap))
                clear hd8 hs8 HBAR
                go_wp2_with fail
                go_roundw
                case rel => exact ⟨kt + 1, N2 + 1, _, by go_num, by omega, by omega, HM.out.1, HM.out.2.1, HM.out.2.2⟩
                case measure => simp [intOf]; omega
              · have hbl := hbk.1
                have hl66 : ((0 : Int) :: (i : Int) :: b).length = 66 := by simp [hbl]
                rw [hl66] at hru
                obtain ⟨gu, cu, rfl, _, hgu, hcu1, hcu2, hcells, _⟩ := hru.pos (by omega)
                have hc0 : w7.cell? ⟨gu, 0, none⟩ = some (.int .u8 0) := (hcells 0 (by omega)).trans rfl
                have hc1 : w7.cell? ⟨gu, 1, none⟩ = some (.int .u8 (i : Int)) := (hcells 1 (by omega)).trans rfl
                have hby : Byt w7 (some ⟨gu, 2, none⟩) b := fun j x hx => ⟨_, rfl, by
                  have hj := (List.getElem?_eq_some_iff.1 hx).1
                  rw [Addr.add_mid]
                  refine (hcells (2 + j) (by omega)).trans ?_
                  unfold Bs
                  rw [List.getElem?_map, show 2 + j = (j + 1) + 1 by omega, List.getElem?_cons_succ, List.getElem?_cons_succ, hx]; rfl⟩
                have HBY := Lib.hid hby
                have HT2 := Lib.hid ht
                have HBK := Lib.hid hbk
                clear hby hcells hru ht hl66 hbk
                have hw0 : IntKind.i64.wrap 0 = 0 := rfl
                have hwi : IntKind.i64.wrap (i : Int) = i := IntWalk.i64_in _ (by omega)
                have hcn : ¬ cu = 2 := by omega
                have hbit := Lib.hid (bdn (Below.refl w7.heap.size w7) 1)
                have hcall := (HD2.out.swap.below hbit.out).write r i (by constructor <;> omega) (by constructor <;> omega) (some ⟨gu, 2, none⟩) (cu - 2) b HBK.out (HBY.out.drew 1) (by have := HA2.out.k2.done; omega)
                rw [HA2.out.k2.hasB hr2 hi4, HA2.out.k2.doW hr2 hi4 HBK.out] at hcall
                have HCALL : Hid (Calls Try.prog 21 #[.pointer (some ⟨qe, 0, none⟩), .int .i64 r, .int .i64 i, .slice (some ⟨gu, 2, none⟩) 64 (cu - 2)] w7.drew fun e w' => e = .returned (.bool true) ∧ D2P w w' P qe (me2.write r i b) q m ∧ Same P w7.drew w') := hcall
                have HR3 : Hid (RowsAt w7.drew P (fun _ => P) 31 5 1 Bs (.slice (some ⟨g, 0, none⟩) tn cv) T) := HR2.out.below hbit.out
                clear hcall
                go_upto_region 24 with fail
                go_still_tail 30, (by kernel_rfl)
                change wpList _ _ _ _ _ w7.drew
                clear hc0 hc1 hcu HBY hbit
                generalize w7.drew = w9 at *
                go_wp2_with fail
                refine HCALL.out.mono ?_
                rintro e w8 ⟨rfl, hd8, hs8⟩
                have HM := Lib.hid (And.intro (HA2.out.wr hr2 hi4 HBK.out (by rw [HTE.out]; exact HT2.out) hd8.ok) (And.intro (HR3.out.same hs8) hd8.swap))
                clear hd8 hs8 HCALL HR3
                go_wp2_with fail
                go_roundw
                case rel => exact ⟨kt + 1, N2 + 1, _, by go_num, by omega, by omega, HM.out.1, HM.out.2.1, HM.out.2.2⟩
                case measure => simp [intOf]; omega
            · obtain rfl : kt = tn := by omega
              have hge3 : ¬ ((kt : Int) < kt) := by omega
              have HM := Lib.hid (HA2.out.next HTR.out hr2 (by rw [HTE.out, HTN.out]; omega))
              go_wp2_with fail
              go_roundw
              case rel => exact ⟨r + 1, N2, me2, by go_num, by omega, by omega, HM.out, HD2.out.two⟩
              case measure => simp [intOf]; omega
        · obtain rfl : r = 2 := by omega
          have hge2 : ¬ ((2 : Int) < 2) := by omega
          have hcr := HDR.out.crash0 (by omega)
          have HCR := Lib.hid hcr
          clear hcr
          go_wp2_with fail
          refine HCR.out.mono ?_
          rintro e w6 ⟨rfl, hd6⟩
          have hcr := hd6.swap.crash0 (by have := HA.out.k2.done; omega)
          have HCR2 := Lib.hid hcr
          clear hcr hd6 HCR HDR
          go_wp2_with fail
          refine HCR2.out.mono ?_
          rintro e w7 ⟨rfl, hd7⟩
          have hrow : ∀ s, s < 2 → nowRow (me.crash []) s = nowRow (m.crash []) s := fun s hs => by
            rw [HA.out.k2.none hs, HK.out.none hs]; exact HA.out.low s hs
          have hdm1 : dims (m.crash []) = [4, 4] := (dims_crash HK.out.ok []).trans HK.out.dims
          have hdm2 : dims (me.crash []) = [4, 4] := (dims_crash HA.out.k2.ok []).trans HA.out.k2.dims
          have HD11 := Lib.hid hd7.swap
          have HROW := Lib.hid hrow
          have HDM1 := Lib.hid hdm1
          have HDM2 := Lib.hid hdm2
          clear hd7 hrow hdm1 hdm2 HCR2 HA HK HTR hm1
          generalize m.crash [] = m4 at *
          generalize me.crash [] = m5 at *
          go_wp2_with fail
          go_loopw [11] (fun i wx => ∃ k : Nat, i = .int .i64 k ∧ k ≤ 8 ∧ Hid (D2 w wx q m4 qe m5)) (fun i _ => 8 - (intOf i).toNat)
          case atStart => exact ⟨0, rfl, by omega, HD11.out⟩
          case round =>
            obtain ⟨w12, rfl⟩ : ∃ w12, w12 = wr := ⟨wr, rfl⟩
            obtain ⟨j, rfl, hj, HDX⟩ := hrel
            clear HD11
            by_cases hlt8 : j < 8
            · obtain ⟨kq, kr, hkq, hkr, hkk⟩ : ∃ kq kr : Nat, kq < 2 ∧ kr < 4 ∧ Hid (j = kq * 4 + kr) := ⟨j / 4, j % 4, by omega, by omega, Lib.hid (by omega)⟩
              have hkz := hkk.out
              have hk8 : (j : Int) < 8 := by omega
              have hq1 : (j : Int) / 4 = kq := by omega
              have hq2 : (j : Int) % 4 = kr := by omega
              have hq3 : Int.tdiv (j : Int) 4 = kq := by rw [Int.tdiv_eq_ediv_of_nonneg (by omega)]; exact hq1
              have hq4 : Int.tmod (j : Int) 4 = kr := by rw [Int.tmod_eq_emod_of_nonneg (by omega)]; exact hq2
              have hwq : IntKind.i64.wrap (kq : Int) = kq := IntWalk.i64_in _ (by omega)
              clear hkz
              obtain ⟨b, hb1, hb2, hb3⟩ := get_four HDX.out.ok HDM1.out hkq hkr
              have hb2' : (m5.now.getD (kq : Int).toNat [])[(kr : Int).toNat]? = some b := by
                have h := HROW.out kq hkq
                unfold nowRow at h
                rw [Int.toNat_natCast, h]
                rw [Int.toNat_natCast] at hb2
                exact hb2
              have hrd := HDX.out.read kq kr (by constructor <;> omega) (by constructor <;> omega) (hasB_four HDM1.out hkq hkr) hb2
              have HRD := Lib.hid hrd
              have HB2 := Lib.hid hb2'
              have HB3 := Lib.hid hb3
              clear hrd hb1 hb2 hb2' hb3
              go_wp2_with fail
              refine HRD.out.mono ?_
              rintro e w13 ⟨⟨g1, rfl, hg1⟩, hd13, hbb1⟩
              have hrd := hd13.swap.read kq kr (by constructor <;> omega) (by constructor <;> omega) (hasB_four HDM2.out hkq hkr) HB2.out
              have HRD2 := Lib.hid hrd
              have HG1 := Lib.hid hg1
              clear hrd hd13 hbb1 HRD hg1
              go_wp2_with fail
              refine HRD2.out.mono ?_
              rintro e w14 ⟨⟨g2, rfl, hg2⟩, hd14, hbb2⟩
              have hcv1 := conv_any (n := 64) (c := 64) (w := w14) (byt_blk ((hbb2.block _ (room_lt HG1.out)).trans HG1.out) (by simp)) HB3.out.1
              have hcv2 := conv_any (n := 64) (c := 64) (w := w14) (byt_blk hg2 (by simp)) HB3.out.1
              have HD14 := Lib.hid hd14.swap
              clear hd14 hbb2 hg2 HRD2
              go_wp2_with fail
              go_roundw
              case rel => exact ⟨j + 1, by go_num, by omega, HD14.out⟩
              case measure => simp [intOf]; omega
            · obtain rfl : j = 8 := by omega
              have hge8 : ¬ ((8 : Int) < 8) := by omega
              go_wp2_with fail
              go_ret
              exact ⟨rfl, HDX.out.bel⟩

set_option maxRecDepth 100000 in
theorem lifted (os : Os) (started : os.Started) (H : Type) (enc : TypeId × Value → H) :
    ReturnsInHanded {} Try.checked os 8 .any (Rows.devTracesSpec.pre6 enc Try.prog Try.f8 Rows.devTracesRow.domain false) (Rows.devTracesSpec.post enc Try.prog Try.f8 false true false false) := by
  refine returnsInHanded_of_change (C := Try.checked) own started (by kernel_rfl) Try.func8
    (ChangeSpec.witness6 (enc := enc) (C := Try.checked) false ⟨#[], #[.slice none 0 0], []⟩ 8 (by kernel_rfl) (by kernel_rfl) (by kernel_rfl) (by kernel_rfl)) ?_
  intro W base args ds gs before hval0 hW hcnd _
  have hval : ∀ (j : Nat) t v, Try.f8.params[j]? = some t → args[j]? = some v → Value.okWide Try.prog W .any base t v := hval0
  have hW' := hW
  obtain ⟨p, q, hA0, hV, rfl, hfz, hnd⟩ := hW
  have hA : DataW.TrodAll enc Try.prog W 0 (fun _ => true) true Try.f8.params.toList args.toList ds p := hA0
  rw [Try.params8] at hA hval
  obtain ⟨v0, vs0, d0, ds0, p0, q0, hargs, rfl, rfl, h0, r0⟩ := trodAll_cons hA
  obtain ⟨rfl, rfl, rfl⟩ := trodAll_nil r0
  obtain rfl : args = #[v0] := by cases args; simp_all
  obtain ⟨rfl, rfl⟩ := trodVars_none hV
  obtain ⟨a0, len0, cap0, rfl⟩ := okWide_slice Try.underlying23 (hval 0 23 v0 rfl rfl)
  clear hA0 hval0
  simp only [List.append_nil] at hW'
  have hlt0 : ∀ y ∈ p0, y.block < W.heap.size := fun y hy => by simpa using hW'.lt y (by simp [hy])
  have harg0 : ∀ W' : World, Below W.heap.size W W' → DataW.Trod enc Try.prog W' 0 (fun b => decide (b < W.heap.size)) true 23 (.slice a0 len0 cap0) d0 p0 :=
    fun W' hn => Below.trod laidOut (by kernel_rfl) (of_decide_eq_true (by kernel_rfl)) h0 hn (fun y hy => hlt0 y hy)
  obtain ⟨fu0, hf0⟩ := h0
  obtain ⟨A0, l0, c0, e0, hd0, hm0, hy0, hB0⟩ := open_deeds hf0
  simp [Value.cells] at e0
  obtain ⟨rfl, rfl, rfl⟩ := e0
  refine (walk a0 l0 cap0 W hd0 hm0 hB0 hy0).mono fun e W' ⟨he, bel⟩ => ?_
  subst he
  exact ⟨_, rfl, _, _, _, [], _, [], hW', (trodAll_cons_mk (shut_bool Try.underlying4 _) trodAll_mk0), (trodAll_cons_mk (harg0 _ bel) trodAll_mk0), rfl, bel.frame _, fun h => by cases h⟩

theorem over : Rows.devTracesRow.holds Try.pinned (OpenSpec.ofChange Rows.devTracesSpec) :=
  OpenClaim.holds_of_wide 8 Try.f8 rfl rfl rfl rfl rfl rfl rfl ⟨rfl, rfl, rfl, rfl, rfl⟩ rfl rfl rfl rfl rfl (by kernel_rfl) Try.func8 (by kernel_rfl)
    (of_decide_eq_true (by kernel_rfl)) (by unfold Func.isWrapper; first | (rw [if_pos (by decide +kernel)]; kernel_rfl) | (rw [if_neg (by decide +kernel)]; exact ⟨rfl, rfl⟩))
    (fun os started H enc _ => lifted os started H enc)

theorem proved : Rows.DevTracesSaid :=
  over
#print axioms proved
end Go.Proofs.Ytdjegimpckeifaa.devTraces
