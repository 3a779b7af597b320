/- Contract: lay. -/
import Derived.Test.YtamnpblijdgdaaaNh
namespace Go.Proofs.Ytamnpblijdgdaaa
open Go.ChangeShapes Go.WideShapes Go.ChangeAt Go.RowKit
set_option linter.unusedVariables false
set_option maxRecDepth 100000
def VNla (hp rb n g5 t : Nat) (k : Int) (bs : List Int) (i : Nat) (v : Value) (w : World) : Prop :=
  match i with
  | 0 | 1 => v = .pointer (some ⟨hp, 0, none⟩)
  | 2 => v = .pointer (some ⟨hp, 8, none⟩)
  | 3 => v = .slice (some ⟨rb, 0, none⟩) n n
  | 4 => v = .pointer (some ⟨g5, 0, none⟩)
  | 5 => v = .int .i64 (t : Int)
  | 6 => v = .pointer (some ⟨g5, 1, none⟩)
  | 7 => v = .agg (blkA k bs)
  | 8 => v = .agg (hbL ⟨k, bs, true⟩).toArray
  | 9 => v = .pointer (some ⟨rb, t * 58, none⟩)
  | _ => True
set_option maxHeartbeats 6400000 in
theorem vlay_any {w0 W : World} {P : Nat → Prop} {q : Nat} {m : DM} {hp rb : Nat} {v : VM} (h : SV w0 W P q m hp rb v) (A : Option Addr) (l : List Wr) (n d : Nat) (hn : l.length = n) (hl : n ≤ d) (hd : d ≤ 9223372036854775807) (hok : WrsOk l) (hk : KindsOk l) (hy : WrsR W (Rst P hp rb) A l) :
    Calls Try.prog 47 #[.pointer (some ⟨hp, 0, none⟩), .slice A n d] W fun e w' => e = .returned (.tuple #[]) ∧ SV w0 w' P q m hp rb { v with B := layB v.B l } ∧ Same (Rst P hp rb) W w' := by
  have HV := Lib.hid h
  have HN := Lib.hid hn
  have HO := Lib.hid hok
  have HK := Lib.hid hk
  have HY := Lib.hid hy
  clear h hn hok hy hk
  go_enter Try.func47, Try.ntmps47
  go_wp2
  go_loopw [8] (fun i wr => ∃ k : Nat, i = .int .i64 k ∧ k ≤ n ∧ Hid (SV w0 wr P q m hp rb { v with B := layB v.B (l.take k) }) ∧ Hid (Same (Rst P hp rb) W wr)) (fun i _ => n - (intOf i).toNat)
  case atStart => exact ⟨0, rfl, by omega, HV.out, Same.refl _ _⟩
  case round =>
    obtain ⟨kk, rfl, hk, HSV, HSM⟩ := hrel
    obtain ⟨w5, rfl⟩ : ∃ w5, w5 = wr := ⟨wr, rfl⟩
    by_cases hlt : kk < n
    · obtain ⟨x, hx⟩ : ∃ x, l[kk]? = some x := ⟨_, List.getElem?_eq_getElem (by rw [HN.out]; exact hlt)⟩
      obtain ⟨ad, rfl, hat, hR⟩ := (HY.out.same HSM.out) kk x hx
      have HAT := Lib.hid hat
      have hxo := HO.out x (List.mem_of_getElem? hx)
      have HXO := Lib.hid hxo
      have H56 := Lib.hid hxo.len
      have HXK := Lib.hid (HK.out x (List.mem_of_getElem? hx))
      have HTK : Hid (l.take (kk + 1) = l.take kk ++ [x]) := take_snoc' hx
      have hki : (kk : Int) < n := by omega
      clear hat hxo hx hR
      obtain ⟨v5, hv5⟩ : ∃ v5 : VM, v5 = { v with B := layB v.B (l.take kk) } := ⟨_, rfl⟩
      rw [← hv5] at HSV
      have HV5 := Lib.hid hv5
      clear hv5
      go_upto_region 3 with (first
        | (refine wpList_loadWp rfl (.tmp 10) rfl (ad.add (kk * 58)) rfl x H56.out HAT.out ?_)
        | (refine wpList_allocW rfl rfl ?_)
        | (refine wpList_storeW rfl (.tmp 5) (.tmp 11) rfl w5.heap.size rfl x zW rfl H56.out zW_len (heap_alloc_new w5 _) ?_))
      have hnew := new_wr w5 x
      have hbn := new_wr_below w5 x
      have hs2 := HSV.out.below hbn
      have HS2 := Lib.hid hs2
      have HSM2 : Hid (Same (Rst P hp rb) W ((w5.alloc (.cells (wrA zW) 55)).setRow w5.heap.size (wrA x))) := HSM.out.trans (Same.rst (HSV.out.same hbn))
      clear hs2 hbn
      generalize (w5.alloc (.cells (wrA zW) 55)).setRow w5.heap.size (wrA x) = W2 at *
      generalize w5.heap.size = g5 at *
      have c0 : W2.cell? ⟨g5, 0, none⟩ = _ := (wrAt_blk hnew).c0
      have HH := Lib.hid (vhas_any HS2.out.at_ x.t HXO.out.t)
      have HNW := Lib.hid hnew
      clear hnew HAT
      go_wp2_with fail
      refine HH.out.mono ?_
      rintro e w' ⟨rfl, rfl⟩
      by_cases hh : hasV v5 x.t = true
      · obtain ⟨t, ht⟩ : ∃ t : Nat, x.t = (t : Int) := ⟨x.t.toNat, by unfold hasV at hh; simp at hh; omega⟩
        have hin : t < v5.n := by unfold hasV at hh; rw [ht] at hh; simp at hh; omega
        obtain ⟨y, hy⟩ : ∃ y, v5.B[t]? = some y := ⟨_, List.getElem?_eq_getElem (by rw [HS2.out.at_.len]; exact hin)⟩
        have HYB := Lib.hid hy
        rw [hh]
        have HT := Lib.hid ht
        have hn2 := HS2.out.at_.n
        have HN2 : Hid (v5.n ≤ 200) := hn2
        have hti : (t : Int) < v5.n := by omega
        rw [ht] at c0
        clear hh hy hn2 HH
        obtain ⟨nn, hnn⟩ : ∃ nn, nn = v5.n := ⟨_, rfl⟩
        have HC8 : Hid (∀ W', Below W2.heap.size W2 W' → W'.cell? ⟨hp, 8, none⟩ = some (.slice (some ⟨rb, 0, none⟩) nn nn)) := fun W' hb => by rw [hnn]; exact (HS2.out.at_.below hb).c8
        have HC0 : Hid (∀ W', Below W2.heap.size W2 W' → W'.cell? ⟨g5, 0, none⟩ = some (.int .i64 t)) := fun W' hb => keepC hb c0
        have HRB : Hid (∀ W', Below W2.heap.size W2 W' → W'.rangeAt g5 1 (blkL x.k x.bs)) := fun W' hb j u hj => by
          have hw := wrAt_blk (kb hb HNW.out)
          have := hw (1 + j) u (by
            show (Value.int .i64 x.t :: blkL x.k x.bs)[1 + j]? = some u
            rw [Nat.add_comm 1 j, List.getElem?_cons_succ]; exact hj)
          rw [add_at] at this
          exact this
        have HTH : Hid (∀ W', Below W2.heap.size W2 W' → W'.there rb (t * 58) 58) := fun W' hb => (HS2.out.at_.below hb).there (i := t) (o := 0) (c := 58) hin (by omega)
        have hti' : (t : Int) < nn := by rw [hnn]; exact hti
        have HNN := Lib.hid hnn
        have hnn2 : nn ≤ 200 := by rw [hnn]; exact HN2.out
        clear hnn c0 hin hti
        go_upto_region 4 with fail
        refine wp_region_rgk (VNla hp rb nn g5 t x.k x.bs) (fun _ W => Below W2.heap.size W2 W) (fun _ w w' => Below w.heap.size w w') (by kernel_rfl) (by kernel_rfl) (fun i j v w w' _ _ h hs => by unfold VNla at *; exact h) ((Below.refl _ _).drew) ?_
        simp only [RAll]
        refine ⟨?_, ?_, ?_, ?_, ?_, ?_, ?_, ?_, ?_, ?_, ?_⟩
        · refine RStepK.of rfl fun T W L hag hL hJ hLs hd => ?_   -- 0: 16 := Op.move (Operand.tmp 0)
          have e0 : T.getD 0 undef = _ := (agree_at hag 0 (by kernel_rfl)).trans rfl
          clear hag hd
          go_simp
          first | exact ⟨_, rfl, rfl⟩ | exact ⟨_, rfl, rfl, brefl _⟩ | exact ⟨_, rfl, rfl, hJ, brefl _⟩
        · refine RStepK.of rfl fun T W L hag hL hJ hLs hd => ?_   -- 1: 17 := Op.nilCheck (Operand.tmp 16)
          have d16 : T.getD 16 undef = _ := hd ⟨0, .data⟩ (by simp) rfl _ rfl
          clear hag hd
          go_simp
          first | exact ⟨_, rfl, rfl⟩ | exact ⟨_, rfl, rfl, brefl _⟩ | exact ⟨_, rfl, rfl, hJ, brefl _⟩
        · refine RStepK.of rfl fun T W L hag hL hJ hLs hd => ?_   -- 2: 18 := Op.fieldAddr 90 (Operand.tmp 17) 1
          have d17 : T.getD 17 undef = _ := hd ⟨1, .data⟩ (by simp) rfl _ rfl
          clear hag hd
          go_simp
          first | exact ⟨_, rfl, rfl⟩ | exact ⟨_, rfl, rfl, brefl _⟩ | exact ⟨_, rfl, rfl, hJ, brefl _⟩
        · refine RStepK.of rfl fun T W L hag hL hJ hLs hd => ?_   -- 3: 19 := Op.load 88 (Operand.tmp 18)
          have d18 : T.getD 18 undef = _ := hd ⟨2, .data⟩ (by simp) rfl _ rfl
          have z8 := HC8.out W hJ
          have y0 := HC0.out W hJ
          clear hag hd
          go_simp
          first | exact ⟨_, rfl, rfl⟩ | exact ⟨_, rfl, rfl, brefl _⟩ | exact ⟨_, rfl, rfl, hJ, brefl _⟩
        · refine RStepK.of rfl fun T W L hag hL hJ hLs hd => ?_   -- 4: 20 := Op.fieldAddr 55 (Operand.tmp 5) 0
          have e5 : T.getD 5 undef = _ := (agree_at hag 5 (by kernel_rfl)).trans rfl
          clear hag hd
          go_simp
          first | exact ⟨_, rfl, rfl⟩ | exact ⟨_, rfl, rfl, brefl _⟩ | exact ⟨_, rfl, rfl, hJ, brefl _⟩
        · refine RStepK.of rfl fun T W L hag hL hJ hLs hd => ?_   -- 5: 21 := Op.load 3 (Operand.tmp 20)
          have d20 : T.getD 20 undef = _ := hd ⟨4, .data⟩ (by simp) rfl _ rfl
          have z8 := HC8.out W hJ
          have y0 := HC0.out W hJ
          clear hag hd
          go_simp
          first | exact ⟨_, rfl, rfl⟩ | exact ⟨_, rfl, rfl, brefl _⟩ | exact ⟨_, rfl, rfl, hJ, brefl _⟩
        · refine RStepK.of rfl fun T W L hag hL hJ hLs hd => ?_   -- 6: 22 := Op.fieldAddr 55 (Operand.tmp 5) 1
          have e5 : T.getD 5 undef = _ := (agree_at hag 5 (by kernel_rfl)).trans rfl
          clear hag hd
          go_simp
          first | exact ⟨_, rfl, rfl⟩ | exact ⟨_, rfl, rfl, brefl _⟩ | exact ⟨_, rfl, rfl, hJ, brefl _⟩
        · refine RStepK.of rfl fun T W L hag hL hJ hLs hd => ?_   -- 7: 23 := Op.load 46 (Operand.tmp 22)
          have d22 : T.getD 22 undef = _ := hd ⟨6, .data⟩ (by simp) rfl _ rfl
          clear hag
          refine wp_load_mid 46 (.tmp 22) rfl g5 1 d22 (blkL x.k x.bs) _ (HRB.out W hJ) Try.underlying46 rfl (by rw [blkL_len H56.out]; exact size24b) ?_
          exact ⟨_, rfl, rfl, hJ, brefl _⟩
        · refine RStepK.of rfl fun T W L hag hL hJ hLs hd => ?_   -- 8: 24 := Op.build 95 #[(0, Operand.tmp 23), (1, Operand.const (Value.
          have d23 : T.getD 23 undef = _ := hd ⟨7, .data⟩ (by simp) rfl _ rfl
          have ev23 : (⟨T, []⟩ : Act).eval (.tmp 23) = .agg (blkA x.k x.bs) := d23
          clear hag hd
          have hb := run_build (P := Try.prog) W 95 #[(0, .agg (blkA x.k x.bs)), (1, .bool true)] _ (built95 x.k x.bs true H56.out)
          refine wp_run (v := .agg (hbL ⟨x.k, x.bs, true⟩).toArray) (w' := W) ?_ ⟨_, rfl, rfl, hJ, brefl _⟩
          unfold execOp
          have evc : (⟨T, []⟩ : Act).eval (.const (.bool true)) = .bool true := rfl
          simp only [List.map_toArray, List.map_cons, List.map_nil, ev23, evc, Sem.run_bind, hb, Result.andThen_ok, Sem.run_pure]
        · refine RStepK.of rfl fun T W L hag hL hJ hLs hd => ?_   -- 9: 25 := Op.indexAddr 88 (Operand.tmp 19) (Operand.tmp 21)
          have d19 : T.getD 19 undef = _ := hd ⟨3, .data⟩ (by simp) rfl _ rfl
          have d21 : T.getD 21 undef = _ := hd ⟨5, .data⟩ (by simp) rfl _ rfl
          clear hag hd
          go_simp
          first | exact ⟨_, rfl, rfl⟩ | exact ⟨_, rfl, rfl, brefl _⟩ | exact ⟨_, rfl, rfl, hJ, brefl _⟩
        · refine RLastK.of rfl fun T W L hag hLs hL hJ hd => ?_   -- 10: None := Op.store 95 (Operand.tmp 25) (Operand.tmp 24)
          have d25 : T.getD 25 undef = _ := hd 9 _ (by simp) rfl
          have d24 : T.getD 24 undef = _ := hd 8 _ (by simp) rfl
          obtain ⟨f, hf, hT⟩ := agree_fn hag
          have d16 : T.getD 16 undef = _ := hd 0 _ (by simp) rfl
          have h16 := (hf 16).trans d16
          have d17 : T.getD 17 undef = _ := hd 1 _ (by simp) rfl
          have h17 := (hf 17).trans d17
          have d18 : T.getD 18 undef = _ := hd 2 _ (by simp) rfl
          have h18 := (hf 18).trans d18
          have d19 : T.getD 19 undef = _ := hd 3 _ (by simp) rfl
          have h19 := (hf 19).trans d19
          have d20 : T.getD 20 undef = _ := hd 4 _ (by simp) rfl
          have h20 := (hf 20).trans d20
          have d21 : T.getD 21 undef = _ := hd 5 _ (by simp) rfl
          have h21 := (hf 21).trans d21
          have d22 : T.getD 22 undef = _ := hd 6 _ (by simp) rfl
          have h22 := (hf 22).trans d22
          have d23 : T.getD 23 undef = _ := hd 7 _ (by simp) rfl
          have h23 := (hf 23).trans d23
          have h24 := (hf 24).trans d24
          have h25 := (hf 25).trans d25
          have HJ := Lib.hid hJ
          clear hag hd d16 d17 d18 d19 d20 d21 d22 d23 d24 d25 hJ hf
          rw [hT]
          clear hT
          simp only [List.pop_toArray, List.dropLast_cons_cons, List.dropLast_singleton, List.filterMap_cons, List.filterMap_nil, List.foldl_cons, List.foldl_nil, List.setIfInBounds_toArray, List.set_cons_succ, List.set_cons_zero, h16, h17, h18, h19, h20, h21, h22, h23, h24, h25]
          have hth := HTH.out W HJ.out
          refine wp_store_mid 95 (.tmp 25) (.tmp 24) rfl rb (t * 58) _ rfl rfl (by rw [List.size_toArray, hbL_len H56.out]; exact hth) (by rw [List.size_toArray, hbL_len H56.out]; exact size95) (all_oneCell_toArray (hbL_one _)) ?_
          rw [List.toList_toArray]
          have hst := (HS2.out.below HJ.out).setH (y := ⟨x.k, x.bs, true⟩) HYB.out ⟨HXK.out, H56.out, HXO.out.b⟩
          have hsm := (HSM2.out.trans (Same.rst (HS2.out.same HJ.out))).trans hst.2
          have key : ({ v5 with B := v5.B.set t ⟨x.k, x.bs, true⟩ } : VM) = { v with B := layB v.B (l.take (kk + 1)) } := by
            have hl5 := HS2.out.at_.len
            have hin5 := (List.getElem?_eq_some_iff.1 HYB.out).1
            rw [HTK.out, layB_append]
            have hB : layB v.B (l.take kk) = v5.B := by rw [HV5.out]
            rw [hB]
            show _ = ({ v with B := (if 0 ≤ x.t ∧ x.t < v5.B.length then v5.B.set x.t.toNat ⟨x.k, x.bs, true⟩ else v5.B) } : VM)
            rw [HT.out, if_pos ⟨by omega, by omega⟩, Int.toNat_natCast, HV5.out]
          rw [key] at hst
          have HST := Lib.hid hst.1
          have HSM3 := Lib.hid hsm
          clear hst hsm key hth HJ
          generalize W.setCells rb (t * 58) (hbL ⟨x.k, x.bs, true⟩) = W3 at *
          simp only [Act.put]
          go_wp2
          go_roundw
          case rel => exact ⟨kk + 1, by go_num, by omega, HST.out, HSM3.out⟩
          case measure => simp [intOf]; omega

      · have h2 : hasV v5 x.t = false := by simpa using hh
        rw [h2]
        have key : v5 = { v with B := layB v.B (l.take (kk + 1)) } := by
          have hl5 := HS2.out.at_.len
          rw [HTK.out, layB_append]
          have hB : layB v.B (l.take kk) = v5.B := by rw [HV5.out]
          rw [hB]
          show _ = ({ v with B := (if 0 ≤ x.t ∧ x.t < v5.B.length then v5.B.set x.t.toNat ⟨x.k, x.bs, true⟩ else v5.B) } : VM)
          rw [if_neg (fun h => by unfold hasV at h2; simp at h2; have := h2 h.1; omega), HV5.out]
        have HST : Hid (SV w0 W2 P q m hp rb { v with B := layB v.B (l.take (kk + 1)) }) := by rw [← key]; exact HS2.out
        clear key h2 hh HS2 HH
        go_wp2
        go_roundw
        case rel => exact ⟨kk + 1, by go_num, by omega, HST.out, HSM2.out⟩
        case measure => simp [intOf]; omega
    · obtain rfl : kk = n := by omega
      have hki : ¬ ((kk : Int) < kk) := by omega
      have hsv := HSV.out
      rw [List.take_of_length_le (by rw [HN.out]; exact Nat.le_refl _)] at hsv
      have HF := Lib.hid hsv
      clear hsv
      go_wp2
      go_end0
      exact ⟨rfl, HF.out, HSM.out⟩
end Go.Proofs.Ytamnpblijdgdaaa
