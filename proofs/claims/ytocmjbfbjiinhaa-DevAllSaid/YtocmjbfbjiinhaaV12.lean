/- Contract: settle. -/
import Derived.Test.YtocmjbfbjiinhaaV11
namespace Go.Proofs.Ytocmjbfbjiinhaa
open Go.ChangeShapes Go.WideShapes Go.ChangeAt Go.RowKit
set_option linter.unusedVariables false
/-- At the label 'look'. -/
def AtLook (w : World) (O : Nat → DRole) (hp : Nat) (L : DLay) (m : DM) (r : Nat) (fv : Value) (kept : Nat → Bool) (a : Act) (wr : World) : Prop :=
  ∃ (nth k : Nat) (s : List (List (List Int))), k ≤ m.done.length ∧ nth ≤ k ∧ SureOk m s ∧ DevAt wr O hp L { m with sure := s } ∧ Touch (fun k => O k = .sure r) w wr ∧
    settleW (m.done.drop k) r kept nth s = settleW (m.done.drop (m.uns.getD r 0)) r kept 0 m.sure ∧
    ∃ u8 u9 u10 u11 u12 u13 u14 u15 u16 u17 u18 u19 u20 u21 u22 u23 u24 u25 u26 u27 u28 u29 u30 u31 u32 u33 u34 u35 u36 u37 u38 u39 u40 u41 u42 u43 u44 u45 u46 u47 u48 u49 u50 u51 u52 u53 u54 u55 u56 u57 u58 u59 u60 u61 u62 u63 u64 u65 u66 u67 u68 u69 u70 u71 u72 u73 u74 u75 u76 u77 : Value, a = { tmps := #[.pointer (some ⟨hp, 0, none⟩), .int .i64 r, fv, undef, undef, undef, .int .i64 nth, .int .i64 k, u8, u9, u10, u11, u12, u13, u14, u15, u16, u17, u18, u19, u20, u21, u22, u23, u24, u25, u26, u27, u28, u29, u30, u31, u32, u33, u34, u35, u36, u37, u38, u39, u40, u41, u42, u43, u44, u45, u46, u47, u48, u49, u50, u51, u52, u53, u54, u55, u56, u57, u58, u59, u60, u61, u62, u63, u64, u65, u66, u67, u68, u69, u70, u71, u72, u73, u74, u75, u76, u77], defers := [] }
/-- At the label 'end'. -/
def AtEnd (w : World) (O : Nat → DRole) (hp : Nat) (L : DLay) (m : DM) (r : Nat) (fv : Value) (kept : Nat → Bool) (a : Act) (wr : World) : Prop :=
  DevAt wr O hp L { m with sure := settleW (m.done.drop (m.uns.getD r 0)) r kept 0 m.sure } ∧ Touch (fun k => O k = .sure r) w wr ∧
    ∃ (nth k : Nat) (u8 u9 u10 u11 u12 u13 u14 u15 u16 u17 u18 u19 u20 u21 u22 u23 u24 u25 u26 u27 u28 u29 u30 u31 u32 u33 u34 u35 u36 u37 u38 u39 u40 u41 u42 u43 u44 u45 u46 u47 u48 u49 u50 u51 u52 u53 u54 u55 u56 u57 u58 u59 u60 u61 u62 u63 u64 u65 u66 u67 u68 u69 u70 u71 u72 u73 u74 u75 u76 u77 : Value), a = { tmps := #[.pointer (some ⟨hp, 0, none⟩), .int .i64 r, fv, undef, undef, undef, .int .i64 nth, .int .i64 k, u8, u9, u10, u11, u12, u13, u14, u15, u16, u17, u18, u19, u20, u21, u22, u23, u24, u25, u26, u27, u28, u29, u30, u31, u32, u33, u34, u35, u36, u37, u38, u39, u40, u41, u42, u43, u44, u45, u46, u47, u48, u49, u50, u51, u52, u53, u54, u55, u56, u57, u58, u59, u60, u61, u62, u63, u64, u65, u66, u67, u68, u69, u70, u71, u72, u73, u74, u75, u76, u77], defers := [] }
def VS4 (hp i bi gd gs : Nat) (sSure sDone : Value) (x : Wr) (k : Nat) (v : Value) (w : World) : Prop :=
  match k with
  | 0 | 1 | 4 | 5 | 13 | 14 => v = .pointer (some ⟨hp, 0, none⟩)
  | 2 => v = .pointer (some ⟨hp, 1, none⟩)
  | 3 => v = sSure
  | 6 | 15 => v = .pointer (some ⟨hp, 2, none⟩)
  | 7 | 16 => v = sDone
  | 8 | 17 => v = .int .i64 i
  | 9 | 10 | 18 => v = .pointer (some ⟨gd, i * 65, none⟩)
  | 11 => v = .complex .f64 (Fx.fb x.r) (Fx.fb x.i)
  | 12 | 21 => v = .pointer (some ⟨gs, bi * 64, none⟩)
  | 19 => v = .pointer (some ⟨gd, i * 65 + 1, none⟩)
  | 20 => v = .agg (Bs x.b).toArray
  | _ => True
set_option maxRecDepth 100000 in
set_option maxHeartbeats 1600000 in
theorem settle_any {w : World} {O : Nat → DRole} {hp : Nat} {L : DLay} {m : DM} (h : DevAt w O hp L m) (r : Nat) (hr : r < m.now.length) (hm : m.done.length ≤ 1000000) (fn : Nat) (caps : Array Value) (kept : Nat → Bool)
    (hcf : ∀ (args : Array Value) (W : World), (callFunc fn args).run Try.prog W = .ok (.enter fn args) W)
    (hk : ∀ W (n : Nat), Touch (fun k => O k = .sure r) w W → n ≤ 1000000 → Calls Try.prog fn (#[.int .i64 n] ++ caps) W fun e w' => e = .returned (.bool (kept n)) ∧ W = w') :
    Calls Try.prog 34 #[.pointer (some ⟨hp, 0, none⟩), .int .i64 r, .func (.func fn) #[] caps] w fun e w' => e = .returned (.tuple #[]) ∧ DevAt w' O hp L (m.settle r kept) ∧ Touch (fun k => O k = .uns ∨ O k = .sure r) w w' := by
  have few := h.ok.few
  obtain ⟨u, hu⟩ : ∃ u, m.uns[r]? = some u := ⟨_, List.getElem?_eq_getElem (by rw [h.ok.unsLen]; exact hr)⟩
  have hul := h.ok.unss r u hu
  obtain ⟨gu, capu, hvu, ogu, hgu, hcu, hfu⟩ := h.unsAt hu
  have HH := Lib.hid h
  have HK := Lib.hid hk
  have HU := Lib.hid hu
  have HVU := Lib.hid (And.intro hvu ogu)
  have hUR : m.uns.length = m.now.length := h.ok.unsLen
  have hud : m.uns.getD r 0 = u := by rw [List.getD, hu]; rfl
  have HUD := Lib.hid hud
  have c3 := fun q => (show (w.drewN q).cell? ⟨hp, 3, none⟩ = some L.sUns from h.c3)
  rw [hvu, hUR] at c3
  have cu := fun q => (show (w.drewN q).cell? ⟨gu, r, none⟩ = some (.int .i64 u) from hcu)
  clear h hk hu hvu ogu hcu hfu hud
  have HUR := Lib.hid hUR
  clear hUR
  generalize hR : m.now.length = R at *
  generalize hN : m.done.length = N at *
  have HR := Lib.hid hR
  have HN := Lib.hid hN
  clear hR hN
  have hr1 : (r : Int) < R := by omega
  go_enter Try.func34, Try.ntmps34
  refine wp_scope2e (AtLook w O hp L m r (.func (.func fn) #[] caps) kept) (AtEnd w O hp L m r (.func (.func fn) #[] caps) kept) (fun a' _ => N - (intOf (a'.tmps.getD 7 undef)).toNat) rfl rfl ?_ ?_ ?_
  · intro HF0
    have HF := Lib.hid HF0
    clear HF0
    go_wp2
    go_quiet (fail)
    go_wp2
    go_step3
    rename_i hK
    refine hK _ _ (HF.out _ _ ⟨0, u, m.sure, by rw [HN.out]; exact hul, Nat.zero_le _, HH.out.ok.sureOk, HH.out.drewN nq, (Touch.refl _ _).drewN nq, by rw [HUD.out], _, _, _, _, _, _, _, _, _, _, _, _, _, _, _, _, _, _, _, _, _, _, _, _, _, _, _, _, _, _, _, _, _, _, _, _, _, _, _, _, _, _, _, _, _, _, _, _, _, _, _, _, _, _, _, _, _, _, _, _, _, _, _, _, _, _, _, _, _, _, rfl⟩)
  · rintro a wr ⟨nth, k, s, hk, hnk, hs, hd, ht, he, u8, u9, u10, u11, u12, u13, u14, u15, u16, u17, u18, u19, u20, u21, u22, u23, u24, u25, u26, u27, u28, u29, u30, u31, u32, u33, u34, u35, u36, u37, u38, u39, u40, u41, u42, u43, u44, u45, u46, u47, u48, u49, u50, u51, u52, u53, u54, u55, u56, u57, u58, u59, u60, u61, u62, u63, u64, u65, u66, u67, u68, u69, u70, u71, u72, u73, u74, u75, u76, u77, rfl⟩
    have HS := Lib.hid hs
    have HD := Lib.hid hd
    have HT := Lib.hid ht
    have HE := Lib.hid he
    rw [HN.out] at hk
    have hnx := Lib.hid (next_any hd r k (by show r < m.now.length; rw [HR.out]; exact hr) (by show k ≤ m.done.length; rw [HN.out]; exact hk) (by show m.done.length ≤ _; rw [HN.out]; exact hm))
    have hle : k ≤ nextI m.done r k ∧ nextI m.done r k ≤ N := by have := nextI_le (l := m.done) (r := r) (i := k) (by rw [HN.out]; exact hk); rw [HN.out] at this; exact this
    have hsn := settleW_next m.done r kept nth s _ k rfl (by rw [HN.out]; exact hk)
    have hat := fun h => nextI_at (l := m.done) (r := r) (i := k) h
    rw [he] at hsn
    have HSN := Lib.hid hsn
    have HAT := Lib.hid hat
    clear hs hd ht he hsn hat
    change Hid (Calls _ _ _ _ (fun e w' => e = .returned (.int .i64 (nextI m.done r k)) ∧ wr = w')) at hnx
    generalize nextI m.done r k = k' at *
    go_wp2_with fail
    refine hnx.out.mono ?_
    rintro e w' ⟨rfl, rfl⟩
    have c2 := HD.out.c2
    obtain ⟨Ad, capd, hvd, hd1, hd2⟩ := HD.out.done.val
    have hvd' : L.sDone = .slice Ad N capd := by rw [hvd]; show Value.slice Ad m.done.length capd = _; rw [HN.out]
    rw [hvd'] at c2
    have HVD := Lib.hid hvd'
    clear hvd hvd'
    by_cases hkn : k' = N
    · subst hkn
      have hfin : s = settleW (m.done.drop (m.uns.getD r 0)) r kept 0 m.sure := by rw [HSN.out, ← HN.out, settleW_end]
      have HFIN := Lib.hid hfin
      clear hfin
      go_wp2
      go_step3
      exact (show AtEnd _ _ _ _ _ _ _ _ _ _ from ⟨by rw [← HFIN.out]; exact HD.out, HT.out, nth, k', _, _, _, _, _, _, _, _, _, _, _, _, _, _, _, _, _, _, _, _, _, _, _, _, _, _, _, _, _, _, _, _, _, _, _, _, _, _, _, _, _, _, _, _, _, _, _, _, _, _, _, _, _, _, _, _, _, _, _, _, _, _, _, _, _, _, _, _, _, _, rfl⟩)
    · have hkl : k' < N := by omega
      have hq : ((k' : Int) == N) = false := by simp; omega
      obtain ⟨x, hx, hxr⟩ := HAT.out (by rw [HN.out]; exact hkl)
      obtain ⟨g, cap', hv, _, _, _, e0, er, _⟩ := HD.out.doneAt (i := k') (x := x) hx
      have hv2 := HVD.out
      rw [hv] at hv2
      injection hv2 with e1 e2 e3
      subst e1; subst e3
      have hxi := HD.out.ok.done_r (x := x) (List.mem_of_getElem? hx)
      have hx65 : x.i < 2 ^ 53 := by have := hxi.2; omega
      have ef := eq_fb x.i 65535 (by omega) (by omega)
      rw [fb_bar] at ef
      have HX := Lib.hid hx
      have HXR := Lib.hid hxr
      have HER := Lib.hid er
      clear e2 hv hx hxr er
      by_cases hxq : x.i = 65535
      · rw [decide_eq_true hxq] at ef
        have hfin : s = settleW (m.done.drop (m.uns.getD r 0)) r kept 0 m.sure := by rw [HSN.out, settleW_at HX.out HXR.out, if_pos hxq]
        have HFIN := Lib.hid hfin
        clear hfin hxq
        go_wp2
        go_step3
        exact (show AtEnd _ _ _ _ _ _ _ _ _ _ from ⟨by rw [← HFIN.out]; exact HD.out, HT.out, nth, k', _, _, _, _, _, _, _, _, _, _, _, _, _, _, _, _, _, _, _, _, _, _, _, _, _, _, _, _, _, _, _, _, _, _, _, _, _, _, _, _, _, _, _, _, _, _, _, _, _, _, _, _, _, _, _, _, _, _, _, _, _, _, _, _, _, _, _, _, _, _, rfl⟩)
      · rw [decide_eq_false hxq] at ef
        have hstep : settleW (m.done.drop (k' + 1)) r kept (nth + 1) (if kept nth then setAt s x.r x.i x.b else s) = settleW (m.done.drop (m.uns.getD r 0)) r kept 0 m.sure := by rw [HSN.out, settleW_at HX.out HXR.out, if_neg hxq]
        have HSTEP := Lib.hid hstep
        have HXQ := Lib.hid hxq
        clear hstep hxq
        have hcall := Lib.hid (HK.out wr nth HT.out (by omega))
        go_wp2_with fail
        refine hcall.out.mono ?_
        rintro e w' ⟨rfl, rfl⟩
        cases hq2 : kept nth with
        | false =>
          rw [hq2] at HSTEP
          have HQ := Lib.hid hq2
          clear hq2
          go_wp2
          go_step3
          refine ⟨⟨nth + 1, k' + 1, s, by rw [HN.out]; omega, by omega, HS.out, HD.out, HT.out, HSTEP.out, _, _, _, _, _, _, _, _, _, _, _, _, _, _, _, _, _, _, _, _, _, _, _, _, _, _, _, _, _, _, _, _, _, _, _, _, _, _, _, _, _, _, _, _, _, _, _, _, _, _, _, _, _, _, _, _, _, _, _, _, _, _, _, _, _, _, _, _, _, _, rfl⟩, ?_⟩
          simp [intOf]; omega
        | true =>
          rw [hq2] at HSTEP
          have HQ := Lib.hid hq2
          clear hq2
          go_wp2_with fail
          obtain ⟨srow, hsr⟩ : ∃ srow, s[r]? = some srow := ⟨_, List.getElem?_eq_getElem (by rw [HS.out.len, HR.out]; exact hr)⟩
          obtain ⟨⟨nrow, hnr, hlen⟩, hblk⟩ := HS.out.rows r srow hsr
          have hnr' := HD.out.ok.rows r nrow hnr
          have hxd := HD.out.ok.dones x (List.mem_of_getElem? HX.out)
          have hxi3 : x.i < srow.length := by
            obtain ⟨⟨row, h1, h2⟩, _⟩ := hxd
            have h1' : m.now[x.r]? = some row := h1
            rw [HXR.out, hnr] at h1'
            injection h1' with h1'
            subst h1'
            rcases h2 with h2 | h2
            · omega
            · exact absurd h2 HXQ.out
          have h64 : ∀ b ∈ srow, b.length = 64 := fun b hb => (hblk b hb).1
          have hxb := hxd.2
          obtain ⟨b0, hb0⟩ : ∃ b, srow[x.i]? = some b := ⟨_, List.getElem?_eq_getElem hxi3⟩
          obtain ⟨gt, capt, gs, caps', hvs, _, ogs, hgt, hgs, hcs, _, hrow⟩ := HD.out.sure.blk (r := r) (i := x.i) hsr hb0 h64
          have hvs' : L.sSure = .slice (some ⟨gt, 0, none⟩) R capt := by rw [hvs]; show Value.slice _ s.length capt = _; rw [HS.out.len, HR.out]
          have hsl1 : srow.length ≤ 1000 := by have := hnr'.1; omega
          have hbl : (Bs x.b).length = 64 := by rw [Bs_length]; exact hxb.1
          have E0 := Lib.hid e0
          have HVS := Lib.hid hvs'
          have HCS := Lib.hid hcs
          have HROW := Lib.hid hrow
          have HSR := Lib.hid hsr
          have H64 := Lib.hid h64
          have HXB := Lib.hid hxb
          have HBL := Lib.hid hbl
          have HOGS := Lib.hid ogs
          have hkk : (k' : Int) < N := by omega
          clear hsr hnr hlen hblk hnr' hxd h64 hxb hb0 hvs hvs' ogs hcs hrow hbl e0 ef c2
          have grefl : ∀ W : World, W.grownBy W none := fun W => World.grownBy.refl W _
          refine wp_region_rg (VS4 hp k' x.i g gs L.sSure (.slice (some ⟨g, 0, none⟩) N cap') x) (Below wr.heap.size wr) (fun w w' => w.grownBy w' none) (by kernel_rfl) (by kernel_rfl) (fun j v w w' h _ => h) ((Below.refl _ _).drew) ?_
          simp only [RAll]
          refine ⟨?_, ?_, ?_, ?_, ?_, ?_, ?_, ?_, ?_, ?_, ?_, ?_, ?_, ?_, ?_, ?_, ?_, ?_, ?_, ?_, ?_, ?_, ?_⟩
          · refine RStep.of rfl fun T W hag hJ hd => ?_   -- 0: 41 := Op.move (Operand.tmp 0)
            have e0 : T.getD 0 undef = _ := (agree_at hag 0 (by kernel_rfl)).trans rfl
            clear hag hd
            go_simp
            exact ⟨_, rfl, rfl⟩
          · refine RStep.of rfl fun T W hag hJ hd => ?_   -- 1: 42 := Op.nilCheck (Operand.tmp 41)
            have d41 : T.getD 41 undef = _ := hd ⟨0, .data⟩ (by simp) rfl _ rfl
            clear hag hd
            go_simp
            exact ⟨_, rfl, rfl⟩
          · refine RStep.of rfl fun T W hag hJ hd => ?_   -- 2: 43 := Op.fieldAddr 63 (Operand.tmp 42) 1
            have d42 : T.getD 42 undef = _ := hd ⟨1, .data⟩ (by simp) rfl _ rfl
            clear hag hd
            go_simp
            exact ⟨_, rfl, rfl⟩
          · refine RStep.of rfl fun T W hag hJ hd => ?_   -- 3: 44 := Op.load 60 (Operand.tmp 43)
            have d43 : T.getD 43 undef = _ := hd ⟨2, .data⟩ (by simp) rfl _ rfl
            have fct0 := (HD.out.below hJ).c1
            clear hag hd
            go_simp
            exact ⟨_, rfl, rfl⟩
          · refine RStep.of rfl fun T W hag hJ hd => ?_   -- 4: 45 := Op.move (Operand.tmp 0)
            have e0 : T.getD 0 undef = _ := (agree_at hag 0 (by kernel_rfl)).trans rfl
            clear hag hd
            go_simp
            exact ⟨_, rfl, rfl⟩
          · refine RStep.of rfl fun T W hag hJ hd => ?_   -- 5: 46 := Op.nilCheck (Operand.tmp 45)
            have d45 : T.getD 45 undef = _ := hd ⟨4, .data⟩ (by simp) rfl _ rfl
            clear hag hd
            go_simp
            exact ⟨_, rfl, rfl⟩
          · refine RStep.of rfl fun T W hag hJ hd => ?_   -- 6: 47 := Op.fieldAddr 63 (Operand.tmp 46) 2
            have d46 : T.getD 46 undef = _ := hd ⟨5, .data⟩ (by simp) rfl _ rfl
            clear hag hd
            go_simp
            exact ⟨_, rfl, rfl⟩
          · refine RStep.of rfl fun T W hag hJ hd => ?_   -- 7: 48 := Op.load 61 (Operand.tmp 47)
            have d47 : T.getD 47 undef = _ := hd ⟨6, .data⟩ (by simp) rfl _ rfl
            have fct0 := (show W.cell? ⟨hp, 2, none⟩ = some (.slice (some ⟨g, 0, none⟩) N cap') from by rw [← HVD.out]; exact (HD.out.below hJ).c2)
            clear hag hd
            go_simp
            exact ⟨_, rfl, rfl⟩
          · refine RStep.of rfl fun T W hag hJ hd => ?_   -- 8: 49 := Op.move (Operand.tmp 7)
            have e7 : T.getD 7 undef = _ := (agree_at hag 7 (by kernel_rfl)).trans rfl
            clear hag hd
            go_simp
            exact ⟨_, rfl, rfl⟩
          · refine RStep.of rfl fun T W hag hJ hd => ?_   -- 9: 50 := Op.indexAddr 61 (Operand.tmp 48) (Operand.tmp 49)
            have d48 : T.getD 48 undef = _ := hd ⟨7, .data⟩ (by simp) rfl _ rfl
            have d49 : T.getD 49 undef = _ := hd ⟨8, .data⟩ (by simp) rfl _ rfl
            clear hag hd
            go_simp
            exact ⟨_, rfl, rfl⟩
          · refine RStep.of rfl fun T W hag hJ hd => ?_   -- 10: 51 := Op.fieldAddr 75 (Operand.tmp 50) 0
            have d50 : T.getD 50 undef = _ := hd ⟨9, .data⟩ (by simp) rfl _ rfl
            clear hag hd
            go_simp
            exact ⟨_, rfl, rfl⟩
          · refine RStep.of rfl fun T W hag hJ hd => ?_   -- 11: 52 := Op.load 70 (Operand.tmp 51)
            have d51 : T.getD 51 undef = _ := hd ⟨10, .data⟩ (by simp) rfl _ rfl
            have fct0 := keepC hJ E0.out
            clear hag hd
            go_simp
            exact ⟨_, rfl, rfl⟩
          · refine RStep.of rfl fun T W hag hJ hd => ?_   -- 12: 53 := Op.call { callee := Callee.value (Operand.func 42), args := #[Operand.
            have d44 : T.getD 44 undef = _ := hd ⟨3, .data⟩ (by simp) rfl _ rfl
            have d52 : T.getD 52 undef = _ := hd ⟨11, .data⟩ (by simp) rfl _ rfl
            rw [HVS.out] at d44
            rw [HXR.out] at d52
            clear hag hd
            go_simp
            refine (blockAt_any W gt capt R r x.i gs srow.length caps' hr hxi3 (by omega) hsl1 (keepC hJ HCS.out)).mono ?_; rintro e w' ⟨rfl, rfl⟩
            exact ⟨_, rfl, rfl, hJ, grefl _⟩
          · refine RStep.of rfl fun T W hag hJ hd => ?_   -- 13: 54 := Op.move (Operand.tmp 0)
            have e0 : T.getD 0 undef = _ := (agree_at hag 0 (by kernel_rfl)).trans rfl
            clear hag hd
            go_simp
            exact ⟨_, rfl, rfl⟩
          · refine RStep.of rfl fun T W hag hJ hd => ?_   -- 14: 55 := Op.nilCheck (Operand.tmp 54)
            have d54 : T.getD 54 undef = _ := hd ⟨13, .data⟩ (by simp) rfl _ rfl
            clear hag hd
            go_simp
            exact ⟨_, rfl, rfl⟩
          · refine RStep.of rfl fun T W hag hJ hd => ?_   -- 15: 56 := Op.fieldAddr 63 (Operand.tmp 55) 2
            have d55 : T.getD 55 undef = _ := hd ⟨14, .data⟩ (by simp) rfl _ rfl
            clear hag hd
            go_simp
            exact ⟨_, rfl, rfl⟩
          · refine RStep.of rfl fun T W hag hJ hd => ?_   -- 16: 57 := Op.load 61 (Operand.tmp 56)
            have d56 : T.getD 56 undef = _ := hd ⟨15, .data⟩ (by simp) rfl _ rfl
            have fct0 := (show W.cell? ⟨hp, 2, none⟩ = some (.slice (some ⟨g, 0, none⟩) N cap') from by rw [← HVD.out]; exact (HD.out.below hJ).c2)
            clear hag hd
            go_simp
            exact ⟨_, rfl, rfl⟩
          · refine RStep.of rfl fun T W hag hJ hd => ?_   -- 17: 58 := Op.move (Operand.tmp 7)
            have e7 : T.getD 7 undef = _ := (agree_at hag 7 (by kernel_rfl)).trans rfl
            clear hag hd
            go_simp
            exact ⟨_, rfl, rfl⟩
          · refine RStep.of rfl fun T W hag hJ hd => ?_   -- 18: 59 := Op.indexAddr 61 (Operand.tmp 57) (Operand.tmp 58)
            have d57 : T.getD 57 undef = _ := hd ⟨16, .data⟩ (by simp) rfl _ rfl
            have d58 : T.getD 58 undef = _ := hd ⟨17, .data⟩ (by simp) rfl _ rfl
            clear hag hd
            go_simp
            exact ⟨_, rfl, rfl⟩
          · refine RStep.of rfl fun T W hag hJ hd => ?_   -- 19: 60 := Op.fieldAddr 75 (Operand.tmp 59) 1
            have d59 : T.getD 59 undef = _ := hd ⟨18, .data⟩ (by simp) rfl _ rfl
            clear hag hd
            go_simp
            exact ⟨_, rfl, rfl⟩
          · refine RStep.of rfl fun T W hag hJ hd => ?_   -- 20: 61 := Op.load 73 (Operand.tmp 60)
            have d60 : T.getD 60 undef = _ := hd ⟨19, .data⟩ (by simp) rfl _ rfl
            refine wp_load_mid 73 (.tmp 60) rfl g (k' * 65 + 1) d60 (Bs x.b) _ (fun j v hj => keepC hJ (HER.out j v hj)) Try.underlying73 rfl (by rw [HBL.out]; exact size73) ?_
            exact ⟨_, rfl, rfl, hJ, grefl _⟩
          · refine RStep.of rfl fun T W hag hJ hd => ?_   -- 21: 62 := Op.nilCheck (Operand.tmp 53)
            have d53 : T.getD 53 undef = _ := hd ⟨12, .data⟩ (by simp) rfl _ rfl
            clear hag hd
            go_simp
            exact ⟨_, rfl, rfl⟩
          · refine RLast.of rfl fun T W hag hJ hd => ?_   -- 22: None := Op.store 73 (Operand.tmp 62) (Operand.tmp 61)
            have d62 : T.getD 62 undef = _ := hd 21 _ (by simp) rfl
            have d61 : T.getD 61 undef = _ := hd 20 _ (by simp) rfl
            have hrW := HROW.out.below hJ
            refine wp_store_mid 73 (.tmp 62) (.tmp 61) rfl gs (x.i * 64) _ d62 d61 (by simp only [List.size_toArray, HBL.out]; exact hrW.there (x.i * 64) 64 (by omega)) (by simp only [List.size_toArray, HBL.out]; exact size73) (all_oneCell_toArray (Bs_one x.b)) ?_
            have hnew := (HD.out.below hJ).toDevRaw.setSure (r := r) (i := x.i) HSR.out hxi3 H64.out x.b HXB.out.1 (by rw [HVS.out]; show _ = Value.slice _ s.length _; rw [HS.out.len, HR.out]) (keepC hJ HCS.out) HOGS.out
            have htc : Touch (fun k => O k = .sure r) w (W.setCells gs (x.i * 64) (Bs x.b)) := (HT.out.trans (Touch.of_below hJ _)).setCells HOGS.out _ _
            have hset : setAt s x.r x.i x.b = s.set r (srow.set x.i x.b) := by rw [HXR.out]; exact setAt_of HSR.out _ _
            have hsok : SureOk m (s.set r (srow.set x.i x.b)) := by rw [← hset]; exact HS.out.set HXB.out
            have hnewD : DevAt (W.setCells gs (x.i * 64) (Bs x.b)) O hp L { m with sure := s.set r (srow.set x.i x.b) } := ⟨hnew, HH.out.ok.withSure hsok⟩
            have hfin := HSTEP.out
            rw [if_pos trivial, hset] at hfin
            have HM := Lib.hid (And.intro hsok (And.intro hnewD (And.intro htc hfin)))
            obtain ⟨f, hf, hT⟩ := agree_fn hag
            generalize (W.setCells gs (x.i * 64) (Bs x.b)) = W2 at *
            clear hag hd d62 d61 hf hrW hnew htc hset hsok hnewD hfin
            rw [hT]
            clear hT
            simp only [List.filterMap_cons, List.filterMap_nil, List.foldl_cons, List.foldl_nil, List.setIfInBounds_toArray, List.set_cons_succ, List.set_cons_zero]
            go_wp2
            go_step3
            refine ⟨⟨nth + 1, k' + 1, _, by rw [HN.out]; omega, by omega, HM.out.1, HM.out.2.1, HM.out.2.2.1, HM.out.2.2.2, _, _, _, _, _, _, _, _, _, _, _, _, _, _, _, _, _, _, _, _, _, _, _, _, _, _, _, _, _, _, _, _, _, _, _, _, _, _, _, _, _, _, _, _, _, _, _, _, _, _, _, _, _, _, _, _, _, _, _, _, _, _, _, _, _, _, _, _, _, _, rfl⟩, ?_⟩
            simp [intOf]; omega

  · rintro a wr ⟨hd, ht, nth, k, u8, u9, u10, u11, u12, u13, u14, u15, u16, u17, u18, u19, u20, u21, u22, u23, u24, u25, u26, u27, u28, u29, u30, u31, u32, u33, u34, u35, u36, u37, u38, u39, u40, u41, u42, u43, u44, u45, u46, u47, u48, u49, u50, u51, u52, u53, u54, u55, u56, u57, u58, u59, u60, u61, u62, u63, u64, u65, u66, u67, u68, u69, u70, u71, u72, u73, u74, u75, u76, u77, rfl⟩
    have HD := Lib.hid hd
    have HT := Lib.hid ht
    obtain ⟨gv, capv, hvv, ogv, hgv, hcv, hfv⟩ := hd.unsAt (r := r) HU.out
    obtain ⟨Ad, capd, hvd, hd1, hd2⟩ := hd.done.val
    have hvd' : L.sDone = .slice Ad N capd := by rw [hvd]; show Value.slice Ad m.done.length capd = _; rw [HN.out]
    have hvv' : L.sUns = .slice (some ⟨gv, 0, none⟩) R capv := by rw [hvv]; show Value.slice _ m.uns.length _ = _; rw [HUR.out]
    have c2 := hd.c2
    have c3' := hd.c3
    rw [hvd'] at c2
    rw [hvv'] at c3'
    have HV3 := Lib.hid (And.intro hvv' ogv)
    clear hd ht hvd hvv hvd' hvv' ogv c3 cu
    go_wp2
    go_region
    all_goals
      show jumps (fun _ _ _ => False) _ Exit.normal _ _
      rw [jumps_normal]
      go_end0
      have hst := HD.out.toDevRaw.setUns r N (g := gv) (cap := capv) (by rw [HV3.out.1]; show _ = Value.slice _ m.uns.length _; rw [HUR.out]) HV3.out.2
      rw [show settleW (m.done.drop (m.uns.getD r 0)) r kept 0 m.sure = (m.settle r kept).sure from rfl] at hst
      refine ⟨rfl, ⟨?_, HH.out.ok.settle r kept⟩, ?_⟩
      · have : m.settle r kept = { m with sure := (m.settle r kept).sure, uns := m.uns.set r N } := by unfold DM.settle; rw [HN.out]
        rw [this]
        exact DevRaw.keep (w' := _) hst fun _ _ _ => rfl
      · exact (Touch.setCell (F := fun k => O k = .uns ∨ O k = .sure r) (HT.out.mono fun k _ h => Or.inr h) (p := ⟨gv, r, none⟩) (Or.inl HV3.out.2) _).drew
end Go.Proofs.Ytocmjbfbjiinhaa
