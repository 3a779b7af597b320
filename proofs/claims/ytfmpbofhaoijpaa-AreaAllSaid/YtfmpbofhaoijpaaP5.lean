/- Contract: a config made out of numbers. -/
import Derived.Test.YtfmpbofhaoijpaaP8
namespace Go.Proofs.Ytfmpbofhaoijpaa
open Go.ChangeShapes Go.WideShapes Go.ChangeAt Go.RowKit
set_option linter.unusedVariables false
set_option maxRecDepth 100000 in
set_option maxHeartbeats 12800000 in
theorem config_any (pb : Nat) (A : Option Addr) (bs : List Int) (c nn : Nat) (w : World) (h : PickAt w pb A bs c nn) (hl : bs.length ≤ 60) (hB : AllB bs) :
    Calls Try.prog 7 #[.pointer (some ⟨pb, 0, none⟩), .int .i64 8] w fun e w' => ∃ v cs, e = .returned v ∧ mayConfV cs = true ∧ w'.ownsRow w.heap.size 35 5 v cs.length (cellsL cs) ∧ w.grownBy w' (some pb) := by
  have hpw0 : PW w pb A bs c w := ⟨⟨nn, h⟩, World.grownBy.refl w _⟩
  have hpl := h.lt
  have FN : Hid (∀ w0 W (m : Nat), PW w0 pb A bs c W → 0 < m → m ≤ 100 → Calls Try.prog 14 #[.pointer (some ⟨pb, 0, none⟩), .int .i64 (m : Int)] W fun e w' => ∃ r : Nat, e = .returned (.int .i64 r) ∧ r < m ∧ PW w0 pb A bs c w' ∧ W.grownBy w' (some pb)) := fun w0 W m hW h1 h2 => pw_num m hW hl hB h1 h2
  have HPW := Lib.hid hpw0
  clear hpw0 h hl hB
  go_enter Try.func7, Try.ntmps7
  go_wp2_with fail
  refine (FN.out w w 8 HPW.out (by omega) (by omega)).mono ?_
  rintro e W0 ⟨r0, rfl, hr0, hpw, hg⟩
  have HP0 := Lib.hid hpw
  clear hpw hg
  go_wp2_with fail
  go_loopw [5, 6] (fun v i wr => ∃ (k : Nat) (cs : List Sh), i = .int .i64 k ∧ k ≤ 1 + r0 ∧ cs.length = k ∧ wr.ownsRow w.heap.size 35 5 v k (cellsL cs) ∧ Hid (okV cs = true) ∧ PW w pb A bs c wr) (fun _ i _ => 1 + r0 - (intOf i).toNat)
  case atStart => exact ⟨0, [], rfl, Nat.zero_le _, rfl, World.ownsRow_nil _ _ _ _, rfl, HP0.out⟩
  case round =>
    obtain ⟨k, cs, rfl, hk, hcs, own, HOK, hpw⟩ := hrel
    have HCS := Lib.hid hcs
    have HOWN := Lib.hid own
    have HPR := Lib.hid hpw
    have hpr : PW wr pb A bs c wr := ⟨hpw.1, World.grownBy.refl wr _⟩
    have HPRR := Lib.hid hpr
    clear hcs own hpw hpr HP0
    by_cases hlt : k < 1 + r0
    · have FN3 : Hid (∀ W, PW wr pb A bs c W → Calls Try.prog 14 #[.pointer (some ⟨pb, 0, none⟩), .int .i64 3] W fun e w' => ∃ r : Nat, e = .returned (.int .i64 r) ∧ r < 3 ∧ PW wr pb A bs c w' ∧ W.grownBy w' (some pb)) := fun W hW => FN.out wr W 3 hW (by omega) (by omega)
      have FN4 : Hid (∀ W, PW wr pb A bs c W → Calls Try.prog 14 #[.pointer (some ⟨pb, 0, none⟩), .int .i64 4] W fun e w' => ∃ r : Nat, e = .returned (.int .i64 r) ∧ r < 4 ∧ PW wr pb A bs c w' ∧ W.grownBy w' (some pb)) := fun W hW => FN.out wr W 4 hW (by omega) (by omega)
      have FN5 : Hid (∀ W, PW wr pb A bs c W → Calls Try.prog 14 #[.pointer (some ⟨pb, 0, none⟩), .int .i64 5] W fun e w' => ∃ r : Nat, e = .returned (.int .i64 r) ∧ r < 5 ∧ PW wr pb A bs c w' ∧ W.grownBy w' (some pb)) := fun W hW => FN.out wr W 5 hW (by omega) (by omega)
      have FN30 : Hid (∀ W, PW wr pb A bs c W → Calls Try.prog 14 #[.pointer (some ⟨pb, 0, none⟩), .int .i64 30] W fun e w' => ∃ r : Nat, e = .returned (.int .i64 r) ∧ r < 30 ∧ PW wr pb A bs c w' ∧ W.grownBy w' (some pb)) := fun W hW => FN.out wr W 30 hW (by omega) (by omega)
      have FN9 : Hid (∀ W, PW wr pb A bs c W → Calls Try.prog 14 #[.pointer (some ⟨pb, 0, none⟩), .int .i64 9] W fun e w' => ∃ r : Nat, e = .returned (.int .i64 r) ∧ r < 9 ∧ PW wr pb A bs c w' ∧ W.grownBy w' (some pb)) := fun W hW => FN.out wr W 9 hW (by omega) (by omega)
      go_upto_region 5 with fail
      go_cut [8] (fun s wx => ∃ (r8 : Nat) (x : Sh), s = .pointer (some ⟨r8, 0, none⟩) ∧ DraftAt wr pb A bs c wx r8 x)
      case first =>
        have hpl' := HPRR.out.lt
        have hsz := HPRR.out.2.size
        refine wp_region_rg (VC pb wr.heap.size) (PW wr pb A bs c) (fun w w' => w.grownBy w' (some pb)) (by kernel_rfl) (by kernel_rfl) (fun j v w w' h hg => h.on hg) (HPRR.out.drew) ?_
        simp only [RAll]
        have grefl : ∀ W : World, W.grownBy W (some pb) := fun W => World.grownBy.refl W _
        refine ⟨?_, ?_, ?_, ?_, ?_, ?_, ?_, ?_, ?_, ?_, ?_, ?_, ?_, ?_, ?_, ?_, ?_, ?_, ?_⟩
        · refine RStep.of rfl fun T W hag hJ hd => ?_
          have e0 : T.getD 0 undef = .pointer (some ⟨pb, 0, none⟩) := (agree_at hag 0 (by kernel_rfl)).trans rfl
          clear hag hd
          go_simp
          exact ⟨_, rfl, rfl⟩
        · refine RStep.of rfl fun T W hag hJ hd => ?_
          have d0 : T.getD 19 undef = .pointer (some ⟨pb, 0, none⟩) := hd ⟨0, .data⟩ (by simp) rfl _ rfl
          clear hag hd
          go_simp
          refine (FN3.out _ hJ).mono ?_; rintro e w' ⟨r, rfl, hr, hp, hg⟩
          exact ⟨_, rfl, ⟨r, rfl, hr⟩, hp, hg⟩
        · refine RStep.of rfl fun T W hag hJ hd => ?_
          have e0 : T.getD 0 undef = .pointer (some ⟨pb, 0, none⟩) := (agree_at hag 0 (by kernel_rfl)).trans rfl
          clear hag hd
          go_simp
          exact ⟨_, rfl, rfl⟩
        · refine RStep.of rfl fun T W hag hJ hd => ?_
          have d0 : T.getD 21 undef = .pointer (some ⟨pb, 0, none⟩) := hd ⟨2, .data⟩ (by simp) rfl _ rfl
          clear hag hd
          go_simp
          refine (FN4.out _ hJ).mono ?_; rintro e w' ⟨r, rfl, hr, hp, hg⟩
          exact ⟨_, rfl, ⟨r, rfl, hr⟩, hp, hg⟩
        · refine RStep.of rfl fun T W hag hJ hd => ?_
          obtain ⟨x, (d0 : T.getD 20 undef = _), hx⟩ := hd ⟨1, .data⟩ (by simp) rfl _ rfl
          obtain ⟨y, (d1 : T.getD 22 undef = _), hy⟩ := hd ⟨3, .data⟩ (by simp) rfl _ rfl
          have d0' := d0
          have d1' := d1
          rw [Array.getD_eq_getD_getElem?] at d0' d1'
          clear hag hd
          go_simp
          exact ⟨_, rfl, x, y, rfl, hx, hy⟩
        · refine RStep.of rfl fun T W hag hJ hd => ?_
          clear hag hd
          go_simp
          refine ⟨_, rfl, ?_, hJ.alloc _, World.grownBy_alloc W _ _⟩
          exact ⟨W.heap.size, rfl, heap_alloc_new W _, Nat.ne_of_gt hJ.lt⟩
        · refine RStep.of rfl fun T W hag hJ hd => ?_
          have e0 : T.getD 0 undef = .pointer (some ⟨pb, 0, none⟩) := (agree_at hag 0 (by kernel_rfl)).trans rfl
          clear hag hd
          go_simp
          exact ⟨_, rfl, rfl⟩
        · refine RStep.of rfl fun T W hag hJ hd => ?_
          have d0 : T.getD 25 undef = .pointer (some ⟨pb, 0, none⟩) := hd ⟨6, .data⟩ (by simp) rfl _ rfl
          clear hag hd
          go_simp
          refine (FN5.out _ hJ).mono ?_; rintro e w' ⟨r, rfl, hr, hp, hg⟩
          exact ⟨_, rfl, ⟨r, rfl, hr⟩, hp, hg⟩
        · refine RStep.of rfl fun T W hag hJ hd => ?_
          obtain ⟨b, (d0 : T.getD 24 undef = _), hb⟩ := hd ⟨5, .data⟩ (by simp) rfl _ rfl
          obtain ⟨r, (d1 : T.getD 26 undef = _), hr⟩ := hd ⟨7, .data⟩ (by simp) rfl _ rfl
          have hri : (r : Int) < 5 := by omega
          clear hag hd
          go_simp
          exact ⟨_, rfl, b, r, rfl, hr, hb⟩
        · refine RStep.of rfl fun T W hag hJ hd => ?_
          obtain ⟨b, r, (d0 : T.getD 27 undef = _), hr, hb⟩ := hd ⟨8, .data⟩ (by simp) rfl _ rfl
          have hti := tab_at hr
          have hc : W.cell? ⟨b, r, none⟩ = some (.int .i64 (tabV r)) := (blk_cell hb.1 r).trans hti
          have ht := tab_in r hr
          clear hag hd hb
          go_simp
          exact ⟨_, rfl, _, rfl, by omega, by omega⟩
        · refine RStep.of rfl fun T W hag hJ hd => ?_
          have e0 : T.getD 0 undef = .pointer (some ⟨pb, 0, none⟩) := (agree_at hag 0 (by kernel_rfl)).trans rfl
          clear hag hd
          go_simp
          exact ⟨_, rfl, rfl⟩
        · refine RStep.of rfl fun T W hag hJ hd => ?_
          have d0 : T.getD 29 undef = .pointer (some ⟨pb, 0, none⟩) := hd ⟨10, .data⟩ (by simp) rfl _ rfl
          clear hag hd
          go_simp
          refine (FN30.out _ hJ).mono ?_; rintro e w' ⟨r, rfl, hr, hp, hg⟩
          exact ⟨_, rfl, ⟨r, rfl, hr⟩, hp, hg⟩
        · refine RStep.of rfl fun T W hag hJ hd => ?_
          obtain ⟨r, (d0 : T.getD 30 undef = _), hr⟩ := hd ⟨11, .data⟩ (by simp) rfl _ rfl
          have hw4 : IntKind.i64.wrap (16 + (r : Int)) = 16 + (r : Int) := (IntWalk.i64_in _ (by omega))
          clear hag hd
          go_simp
          exact ⟨_, rfl, _, rfl, by omega, by omega⟩
        · refine RStep.of rfl fun T W hag hJ hd => ?_
          have e0 : T.getD 0 undef = .pointer (some ⟨pb, 0, none⟩) := (agree_at hag 0 (by kernel_rfl)).trans rfl
          clear hag hd
          go_simp
          exact ⟨_, rfl, rfl⟩
        · refine RStep.of rfl fun T W hag hJ hd => ?_
          have d0 : T.getD 32 undef = .pointer (some ⟨pb, 0, none⟩) := hd ⟨13, .data⟩ (by simp) rfl _ rfl
          clear hag hd
          go_simp
          refine (FN9.out _ hJ).mono ?_; rintro e w' ⟨r, rfl, hr, hp, hg⟩
          exact ⟨_, rfl, ⟨r, rfl, hr⟩, hp, hg⟩
        · refine RStep.of rfl fun T W hag hJ hd => ?_
          obtain ⟨r, (d0 : T.getD 33 undef = _), hr⟩ := hd ⟨14, .data⟩ (by simp) rfl _ rfl
          have hw4 : IntKind.i64.wrap (1 + (r : Int)) = 1 + (r : Int) := (IntWalk.i64_in _ (by omega))
          clear hag hd
          go_simp
          exact ⟨_, rfl, _, rfl, by omega, by omega⟩
        · refine RStep.of rfl fun T W hag hJ hd => ?_
          obtain ⟨x, y, (d0 : T.getD 23 undef = _), hx, hy⟩ := hd ⟨4, .data⟩ (by simp) rfl _ rfl
          obtain ⟨b, (d1 : T.getD 28 undef = _), hb1, hb2⟩ := hd ⟨9, .data⟩ (by simp) rfl _ rfl
          obtain ⟨g, (d2 : T.getD 31 undef = _), hg1, hg2⟩ := hd ⟨12, .data⟩ (by simp) rfl _ rfl
          obtain ⟨f, (d3 : T.getD 34 undef = _), hf1, hf2⟩ := hd ⟨15, .data⟩ (by simp) rfl _ rfl
          have d0' := d0
          have d1' := d1
          have d2' := d2
          have d3' := d3
          rw [Array.getD_eq_getD_getElem?] at d0' d1' d2' d3'
          clear hag hd
          go_simp
          refine ⟨_, rfl, ⟨x, y, b, g, f⟩, rfl, ?_⟩
          refine ⟨?_, ?_, ?_, ?_, ?_, ?_, ?_, ?_, ?_, ?_⟩ <;> dsimp only <;> omega
        · refine RStep.of rfl fun T W hag hJ hd => ?_
          clear hag hd
          go_simp
          refine ⟨_, rfl, ?_, hJ.alloc _, World.grownBy_alloc W _ _⟩
          exact ⟨W.heap.size, rfl, heap_alloc_new W _, hJ.2.size, Nat.ne_of_gt hJ.lt⟩
        · refine RLast.of rfl fun T W hag hJ hd => ?_
          obtain ⟨⟨xl, xc, xb, xg, xf⟩, (d0 : T.getD 35 undef = _), hx⟩ := hd 16 _ (by simp) rfl
          unfold Sh.agg at d0
          dsimp only at d0
          obtain ⟨b, (d1 : T.getD 8 undef = _), hb, hb1, hb2⟩ := hd 17 _ (by simp) rfl
          obtain ⟨⟨c0, c1, c2, c3, c4⟩, f0, f1, f2, f3, f4⟩ := dr_cells hb
          have HM := Lib.hid (draft_made HPRR.out hJ hb hb1 ⟨xl, xc, xb, xg, xf⟩ hx)
          go_simp
          obtain ⟨f, hf, hT⟩ := agree_fn hag
          have h8 : f 8 = _ := (hf 8).trans d1
          clear hag hd d0 d1 hf
          rw [hT]
          clear hT
          simp only [List.filterMap_cons, List.filterMap_nil, List.foldl_cons, List.foldl_nil, List.setIfInBounds_toArray, List.set_cons_succ, List.set_cons_zero, h8]
          rename_i hJc hKc
          go_wp2_with fail
          refine hJc _ _ ?_
          repeat apply Exists.intro
          exact ⟨⟨b, ⟨xl, xc, xb, xg, xf⟩, rfl, HM.out⟩, rfl⟩
      case rest =>
        obtain ⟨w1, rfl⟩ : ∃ w1, w1 = wr := ⟨wr, rfl⟩
        obtain ⟨r8, x, rfl, hdr⟩ := hcut
        have hne8 : u5.ownBlock ≠ some r8 := fun e => by
          have h1 := (HOWN.out.lt r8 e).2
          have h2 := hdr.2.2.1
          omega
        have hnep : u5.ownBlock ≠ some pb := fun e => by
          have h1 := (HOWN.out.lt pb e).1
          omega
        obtain ⟨dd, hd64, hfree⟩ := lab_free cs (by rw [HCS.out]; omega) (x.l.toNat + 4 * x.c.toNat)
        have hlab := lab_of x.l x.c hdr.1.1 hdr.1.2.1 hdr.1.2.2.1 hdr.1.2.2.2.1
        have HS : Hid (Seek w1 pb A bs c r8 w.heap.size u5 cs 0 (x.l.toNat + 4 * x.c.toNat) dd wc x) := Lib.hid ⟨hlab.1.symm, hlab.2.symm, hfree, rfl, hdr, by rw [HCS.out]; exact HOWN.out.kept hdr.2.2.2.2 (.inr hnep)⟩
        have HNE8 := Lib.hid hne8
        obtain ⟨A5, d5, e5, hd5, hd52, hcf5⟩ := conf_own (W := w1) (B := w.heap.size) (cs := cs) (sv := u5) (by rw [HCS.out]; exact HOWN.out)
        rw [HCS.out] at e5 hd5
        subst e5
        clear hdr hlab hfree hne8 hnep hcf5
        go_wp2_with fail
        go_loopg [9] (dd * 100 + k) (fun gk s9 wx => ∃ (kk n d : Nat) (x : Sh), s9 = .int .i64 kk ∧ kk ≤ k ∧ gk = d * 100 + (k - kk) ∧ Hid (Seek w1 pb A bs c r8 w.heap.size (.slice A5 k d5) cs kk n d wx x))
        case atStart => exact ⟨0, _, dd, x, rfl, by omega, by omega, HS⟩
        case round =>
          obtain ⟨kk, n, d, x3, rfl, hkk, hgk, HS3⟩ := hrel
          have HGK := Lib.hid hgk
          obtain ⟨gO, rfl⟩ : ∃ g, g = gk := ⟨gk, rfl⟩
          clear hgk HS
          by_cases hkl : kk < k
          · go_wp2_with fail
            go_loopg [9] d (fun g2 s9 wx => ∃ (kk2 n2 : Nat) (x2 : Sh), s9 = .int .i64 kk2 ∧ kk2 < k ∧ Hid (g2 = d → kk2 = kk) ∧ g2 ≤ d ∧ Hid (Seek w1 pb A bs c r8 w.heap.size (.slice A5 k d5) cs kk2 n2 g2 wx x2))
            case atStart => exact ⟨kk, n, x3, rfl, hkl, fun _ => rfl, Nat.le_refl _, HS3⟩
            case round =>
              obtain ⟨kk2, n2, x2, rfl, hk2, HSM, hle, HS2⟩ := hrel
              clear HS3
              obtain ⟨s, hs⟩ : ∃ s, cs[kk2]? = some s := ⟨_, List.getElem?_eq_getElem (by rw [HCS.out]; exact hk2)⟩
              obtain ⟨A6, d6, e6, _, _, hcf⟩ := conf_own (W := wr) (B := w.heap.size) (cs := cs) HS2.out.2.2.2.2.2
              injection e6 with e6 _ _
              subst e6
              obtain ⟨ad, rfl, hsa⟩ := hcf kk2 s hs
              have hb8 := HS2.out.2.2.2.2.1.2.1
              obtain ⟨x21, x22, x23, x24, _⟩ := HS2.out.2.2.2.2.1.1
              have a0 := fun q => (show ((wr.drewN q).cell? (ad.add (kk2 * 5)) = _) from hsa.c0)
              have a1 := fun q => (show ((wr.drewN q).cell? _ = _) from hsa.c1)
              have b0 := fun q => (show ((wr.drewN q).cell? ⟨r8, 0, none⟩ = some (.int .i64 x2.l)) from blk_cell hb8 0)
              have b1 := fun q => (show ((wr.drewN q).cell? ⟨r8, 1, none⟩ = some (.int .i64 x2.c)) from blk_cell hb8 1)
              have f0 := fun q => (show ((wr.drewN q).frozen? ⟨r8, 0, none⟩ = false) from blk_free hb8 0)
              have f1 := fun q => (show ((wr.drewN q).frozen? ⟨r8, 1, none⟩ = false) from blk_free hb8 1)
              have heq := fun w => eql45 s.l s.c x2.l x2.c w
              have hisv : ((s.l == x2.l) && (s.c == x2.c)) = isV x2.l x2.c s := rfl
              rw [hisv] at heq
              have HIS := Lib.hid hs
              clear hisv hcf hsa hb8 hs
              cases hq : isV x2.l x2.c s
              · have HQ := Lib.hid hq
                rw [hq] at heq
                clear hq
                go_wp2_with fail
                go_quiet (fail)
                go_wp2_with fail
                go_roundg (gk * 100 + (k - (kk2 + 1)))
                case measure => 
                  have hg := HGK.out
                  have hsm := HSM.out
                  by_cases e : gk = d
                  · have := hsm e; omega
                  · omega
                case rel => exact ⟨kk2 + 1, n2, gk, x2, by go_num, by omega, rfl, (HS2.out.next HIS.out HQ.out).drewN _⟩
              · have HQ := Lib.hid hq
                rw [hq] at heq
                clear hq
                by_cases hz : (x2.l + 1) % 4 = 0
                · have HZ := Lib.hid hz
                  have hzb : (((x2.l + 1) % 4) == 0) = true := by rw [beq_iff_eq]; exact hz
                  clear hz
                  go_wp2_with fail
                  go_quiet (fail)
                  go_wp2_with fail
                  go_roundg (gk - 1)
                  case measure => have := HS2.out.pos HIS.out HQ.out; omega
                  case rel => exact ⟨0, n2 + 1, _, by go_num, by omega, fun e => by have := HS2.out.pos HIS.out HQ.out; omega, by omega, ((HS2.out.step HPRR.out (HS2.out.pos HIS.out HQ.out) HNE8.out).1 HZ.out).drewN _⟩
                · have HZ := Lib.hid hz
                  have hzb : (((x2.l + 1) % 4) == 0) = false := by rw [beq_eq_false_iff_ne]; exact hz
                  clear hz
                  go_wp2_with fail
                  go_quiet (fail)
                  go_wp2_with fail
                  go_roundg (gk - 1)
                  case measure => have := HS2.out.pos HIS.out HQ.out; omega
                  case rel => exact ⟨0, n2 + 1, _, by go_num, by omega, fun e => by have := HS2.out.pos HIS.out HQ.out; omega, by omega, ((HS2.out.step HPRR.out (HS2.out.pos HIS.out HQ.out) HNE8.out).2 HZ.out).drewN _⟩
          · obtain rfl : kk = k := by omega
            have hb8 := HS3.out.2.2.2.2.1.2.1
            have b0 := (show (wr.cell? ⟨r8, 0, none⟩ = some (.int .i64 x3.l)) from blk_cell hb8 0)
            have b1 := (show (wr.cell? ⟨r8, 1, none⟩ = some (.int .i64 x3.c)) from blk_cell hb8 1)
            have b2 := (show (wr.cell? ⟨r8, 2, none⟩ = some (.int .i64 x3.b)) from blk_cell hb8 2)
            have b3 := (show (wr.cell? ⟨r8, 3, none⟩ = some (.int .i64 x3.g)) from blk_cell hb8 3)
            have b4 := (show (wr.cell? ⟨r8, 4, none⟩ = some (.int .i64 x3.f)) from blk_cell hb8 4)
            clear hb8 HGK
            obtain ⟨i0, hi, hz0, hz1, hz2⟩ := info_parts info47
            have HIN := Lib.hid (And.intro hi (And.intro hz0 (And.intro hz1 hz2)))
            clear hi hz0 hz1 hz2
            have hown5 := HS3.out.2.2.2.2.2
            rw [HCS.out] at hown5
            have HOWN5 := Lib.hid hown5
            have hpwr : PW w pb A bs c wr := HPR.out.on HS3.out.2.2.2.2.1.2.2.2
            have HPWR := Lib.hid hpwr
            have hwsz : w.heap.size ≤ wr.heap.size := hpwr.2.size
            clear hown5 hpwr
            go_wp2_with (at_builtin; refine wpList_append_own_at _ rfl (.tmp 68) (.tmp 70) 26 rfl w.heap.size 35 i0 (.agg #[.int .i64 0, .int .i64 0, .int .i64 0, .int .i64 0, .int .i64 0]) 5 40 Try.underlying26 HIN.out.1 HIN.out.2.1 HIN.out.2.2.1 HIN.out.2.2.2 rfl (by decide) _ _ _ rfl (HOWN5.out.kept (World.grownBy_alloc wr _ none) (by generalize (Value.slice A5 kk d5).ownBlock = q; cases q <;> simp)) ⟨wr.heap.size, 0, none⟩ 1 1 (Sh.cs x3) rfl rfl (World.news_of_block (heap_alloc_new wr _)) (fun u hu => cellsL_one [x3] u (by simpa [cellsL] using hu)) (by simp only [maxLen]; omega) (by omega) (by simp; omega) ?_; intro v4 w4 hown4 hg4 _ hat4; have HO := Lib.hid hown4; have HG := Lib.hid hg4; clear hown4 hg4 hat4)
            go_roundw
            case rel =>
              have hx := draft_may HS3.out.2.2.2.2.1.1
              have hfr := HS3.out.2.2.2.1
              rw [← HCS.out, List.take_length] at hfr
              exact ⟨kk + 1, cs ++ [x3], by go_num, by omega, by rw [List.length_append, HCS.out]; rfl, by rw [cellsL_snoc]; exact HO.out, okV_append HOK.out hx hfr, PW.row HPW.out (HPWR.out.alloc _) HG.out (fun q hq => (HOWN5.out.lt q hq).1)⟩
            case measure => simp [intOf]; omega
    · obtain rfl : k = 1 + r0 := by omega
      go_wp2_with fail
      go_ret
      exact ⟨u5, cs, rfl, by unfold mayConfV; rw [HCS.out, HOK.out]; simp; omega, by rw [HCS.out]; exact HOWN.out, HPR.out.2⟩
end Go.Proofs.Ytfmpbofhaoijpaa
