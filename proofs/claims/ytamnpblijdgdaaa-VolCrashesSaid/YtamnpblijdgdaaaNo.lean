/- Contract: fetch. -/
import Derived.Test.YtamnpblijdgdaaaNn
namespace Go.Proofs.Ytamnpblijdgdaaa
open Go.ChangeShapes Go.WideShapes Go.ChangeAt Go.RowKit
set_option linter.unusedVariables false
set_option maxRecDepth 100000
/-- What no record has, taken from home. -/
def gotH (X : Nat → List Int) (o : Nat) (x : HB) : HB := if x.lg then x else ⟨opK (X o), opBs (X o), false⟩
def fetchB (X : Nat → List Int) : Nat → List HB → List HB
  | _, [] => []
  | o, x :: l => gotH X o x :: fetchB X (o + 1) l
theorem fetchB_length (X : Nat → List Int) : ∀ (l : List HB) (o : Nat), (fetchB X o l).length = l.length
  | [], _ => rfl
  | x :: l, o => by show (fetchB X (o + 1) l).length + 1 = _; rw [fetchB_length X l]; rfl
theorem fetchB_snoc (X : Nat → List Int) : ∀ (l : List HB) (o : Nat) (x : HB), fetchB X o (l ++ [x]) = fetchB X o l ++ [gotH X (o + l.length) x]
  | [], o, x => rfl
  | y :: l, o, x => by
    show gotH X o y :: fetchB X (o + 1) (l ++ [x]) = _
    rw [fetchB_snoc X l (o + 1) x, List.length_cons, show o + 1 + l.length = o + (l.length + 1) by omega]; rfl
theorem fetchB_at (X : Nat → List Int) : ∀ (l : List HB) (o i : Nat), (fetchB X o l)[i]? = (l[i]?).map (gotH X (o + i))
  | [], _, _ => rfl
  | x :: l, o, 0 => rfl
  | x :: l, o, i + 1 => by
    show (fetchB X (o + 1) l)[i]? = _
    rw [fetchB_at X l (o + 1) i, show o + 1 + i = o + (i + 1) by omega]; rfl
def got (X : Nat → List Int) (B : List HB) (k : Nat) : List HB := fetchB X 0 (B.take k) ++ B.drop k
theorem got_at {X : Nat → List Int} {B : List HB} {k : Nat} {x : HB} (h : B[k]? = some x) : (got X B k)[k]? = some x := by
  have hl := (List.getElem?_eq_some_iff.1 h).1
  unfold got
  rw [List.getElem?_append_right (by rw [fetchB_length, List.length_take]; omega), fetchB_length, List.length_take, List.getElem?_drop, show k + (k - min k B.length) = k by omega]; exact h
theorem got_next {X : Nat → List Int} {B : List HB} {k : Nat} {x : HB} (h : B[k]? = some x) : got X B (k + 1) = (got X B k).set k (gotH X k x) := by
  have hl := (List.getElem?_eq_some_iff.1 h).1
  have hlen : (fetchB X 0 (B.take k)).length = k := by rw [fetchB_length, List.length_take]; omega
  unfold got
  rw [take_snoc' h, fetchB_snoc, List.set_append_right _ _ (by omega), hlen, Nat.sub_self, List.drop_eq_getElem_cons hl, (List.getElem?_eq_some_iff.1 h).2, List.append_assoc, List.length_take, show 0 + min k B.length = k by omega]
  rfl
theorem got_skip {X : Nat → List Int} {B : List HB} {k : Nat} {x : HB} (h : B[k]? = some x) (hx : x.lg = true) : got X B (k + 1) = got X B k := by
  rw [got_next h]
  have : gotH X k x = x := by unfold gotH; rw [if_pos hx]
  rw [this]
  exact setSame (got_at h)
theorem got_all {X : Nat → List Int} {B : List HB} {k : Nat} (h : B.length ≤ k) : got X B k = fetchB X 0 B := by unfold got; rw [List.take_of_length_le h, List.drop_of_length_le h, List.append_nil]
/-- A block is stored. -/
theorem VolAt.setK {W : World} {q hp rb : Nat} {v : VM} (h : VolAt W q hp rb v) (hne : hp ≠ rb) {i : Nat} {x : HB} {k : Int} {bs : List Int} (hi : v.B[i]? = some x) (hk : 0 ≤ k ∧ k ≤ 7) (h56 : bs.length = 56) (hB : AllB bs) : VolAt (W.setCells rb (i * 58) (blkL k bs)) q hp rb { v with B := v.B.set i ⟨k, bs, x.lg⟩ } := by
  have hx := h.ok x (List.mem_of_getElem? hi)
  have hl : (rowL hbL v.B).length = v.n * 58 := by rw [rowL_length h.ok.fits, h.len]
  have hlt := (List.getElem?_eq_some_iff.1 hi).1
  have hmul : (i + 1) * 58 ≤ v.n * 58 := Nat.mul_le_mul_right _ (by rw [← h.len]; exact hlt)
  refine { h with len := by rw [List.length_set]; exact h.len, ok := h.ok.set ⟨hk, h56, hB⟩, hd := ?_, row := ?_ }
  · rw [heap_setCells_other hne]; exact h.hd
  · rw [heap_setCells (blkL k bs) (i * 58) _ W h.row (by rw [List.size_toArray, hl, blkL_len h56]; omega)]
    have := rowL_splice (k := i) (x := x) (y := ⟨k, bs, x.lg⟩) (j := 0) (cs := blkL k bs) h.ok.fits hi (by rw [blkL_len h56]; omega) (by
      unfold splice hbL
      rw [blkL_len h56, List.drop_append, List.drop_of_length_le (by rw [blkL_len hx.len]; omega), blkL_len hx.len]
      simp)
    rw [Nat.add_zero] at this
    rw [List.toList_toArray, this]
theorem SV.setK {w0 W : World} {P : Nat → Prop} {q : Nat} {m : DM} {hp rb : Nat} {v : VM} (h : SV w0 W P q m hp rb v) {i : Nat} {x : HB} {k : Int} {bs : List Int} (hi : v.B[i]? = some x) (hk : 0 ≤ k ∧ k ≤ 7) (h56 : bs.length = 56) (hB : AllB bs) :
    SV w0 (W.setCells rb (i * 58) (blkL k bs)) P q m hp rb { v with B := v.B.set i ⟨k, bs, x.lg⟩ } ∧ Same (Rst P hp rb) W (W.setCells rb (i * 58) (blkL k bs)) :=
  h.own ((Touch.refl _ _).setCells (F := fun k => k = hp ∨ k = rb) (Or.inr rfl) _ _) (h.at_.setK h.ne hi hk h56 hB)
def VNfe (hp rb n k : Nat) (bk : Int) (bs : List Int) (i : Nat) (v : Value) (w : World) : Prop :=
  match i with
  | 0 | 1 => v = .pointer (some ⟨hp, 0, none⟩)
  | 2 => v = .pointer (some ⟨hp, 8, none⟩)
  | 3 => v = .slice (some ⟨rb, 0, none⟩) n n
  | 4 => v = .int .i64 (k : Int)
  | 5 => v = .agg (blkA bk bs)
  | 6 | 7 => v = .pointer (some ⟨rb, k * 58, none⟩)
  | _ => True
/-- At the label of the next block. -/
def AtFet (w0 W : World) (P : Nat → Prop) (q : Nat) (m : DM) (hp rb : Nat) (v : VM) (X : Nat → List Int) (a' : Act) (w' : World) : Prop :=
  ∃ k : Nat, k ≤ v.n ∧ Hid (SV w0 w' P q m hp rb { v with B := got X v.B k }) ∧ Hid (Same (Rst P hp rb) W w') ∧ ∃ u4 u5 u6 u7 u8 u9 u10 u11 u12 u13 u14 u15 u16 u17 u18 u19 u20 u21 u22 u23 u24 u25 u26 u27 u28 u29 u30 u31 u32 u33 u34 u35 u36 u37 u38 u39 u40 u41 u42 : Value, a' = { tmps := #[.pointer (some ⟨hp, 0, none⟩), undef, .bool false, .int .i64 k, u4, u5, u6, u7, u8, u9, u10, u11, u12, u13, u14, u15, u16, u17, u18, u19, u20, u21, u22, u23, u24, u25, u26, u27, u28, u29, u30, u31, u32, u33, u34, u35, u36, u37, u38, u39, u40, u41, u42], defers := [] }
set_option maxHeartbeats 3200000 in
theorem vfetch_any {w0 WW : World} {P : Nat → Prop} {q : Nat} {m : DM} {hp rb : Nat} {v : VM} (h : SV w0 WW P q m hp rb v) (X : Nat → List Int) (hrow : ∀ i, i < v.n → rowV m v.r ((2 + v.g + i : Nat) : Int) = some (X i) ∧ BlkOk (X i)) (hop : ∀ (i : Nat) (x : HB), v.B[i]? = some x → x.lg = false → Opens 0 i (X i)) :
    Calls Try.prog 40 #[.pointer (some ⟨hp, 0, none⟩)] WW fun e w' => e = .returned (.bool true) ∧ SV w0 w' P q m hp rb { v with B := fetchB X 0 v.B } ∧ Same (Rst P hp rb) WW w' := by
  have HV := Lib.hid h
  have HRW := Lib.hid hrow
  have HOP := Lib.hid hop
  have HNL := Lib.hid h.at_.len
  have HNG := Lib.hid (And.intro h.at_.n h.at_.g)
  clear h hrow hop
  go_enter Try.func40, Try.ntmps40
  go_wp2
  refine wp_scope1e (AtFet w0 WW P q m hp rb v X) (fun a' _ => v.n - (intOf (a'.tmps.getD 3 undef)).toNat) rfl ?_ ?_
  · intro HF0
    have HF := Lib.hid HF0
    clear HF0
    go_wp2
    go_step3
    rename_i hK
    exact hK _ _ (HF.out _ _ ⟨0, Nat.zero_le _, HV.out, Same.refl _ _, _, _, _, _, _, _, _, _, _, _, _, _, _, _, _, _, _, _, _, _, _, _, _, _, _, _, _, _, _, _, _, _, _, _, _, _, _, _, _, rfl⟩)
  · rintro a' w5 ⟨kk, hk, HSV, HSM, u4, u5, u6, u7, u8, u9, u10, u11, u12, u13, u14, u15, u16, u17, u18, u19, u20, u21, u22, u23, u24, u25, u26, u27, u28, u29, u30, u31, u32, u33, u34, u35, u36, u37, u38, u39, u40, u41, u42, rfl⟩
    have c8 : w5.cell? ⟨hp, 8, none⟩ = some (.slice (some ⟨rb, 0, none⟩) v.n v.n) := HSV.out.at_.c8
    by_cases hkn : kk = v.n
    · have hq : ((kk : Int) == v.n) = true := by simp; omega
      have hsv := HSV.out
      rw [got_all (by rw [HNL.out]; omega)] at hsv
      have HF := Lib.hid hsv
      clear hsv
      go_wp2
      simp only [Exit.jump]
      go_ret
      exact ⟨rfl, HF.out, HSM.out⟩
    · have hkl : kk < v.n := by omega
      have hq : ((kk : Int) == v.n) = false := by simp; omega
      have hki : (kk : Int) < v.n := by omega
      obtain ⟨x, hx⟩ : ∃ x, v.B[kk]? = some x := ⟨_, List.getElem?_eq_getElem (by rw [HNL.out]; exact hkl)⟩
      have HXB : Hid ((got X v.B kk)[kk]? = some x) := got_at hx
      have zl : w5.cell? ⟨rb, kk * 58 + 57, none⟩ = some (.bool x.lg) := HSV.out.at_.lg HXB.out
      have hn2 := HNG.out.1
      have HKN : Hid (kk < v.n) := hkl
      have HX := Lib.hid hx
      clear hx
      cases hlg : x.lg
      · have hop := HOP.out kk x HX.out hlg
        have HBN : Hid ((got X v.B kk).set kk ⟨opK (X kk), opBs (X kk), x.lg⟩ = got X v.B (kk + 1)) := by
          unfold Hid
          rw [got_next HX.out]
          unfold gotH
          rw [if_neg (by rw [hlg]; simp), hlg]
        have hoa : openA 0 kk (X kk) = blkA (opK (X kk)) (opBs (X kk)) := by unfold openA; rw [if_pos hop]
        have hgo := gopen_any (HSV.out.ds.rd v.r HSV.out.at_.r) v.n v.g v.fr HNG.out.1 HNG.out.2 kk hkl (X kk) (HRW.out kk hkl).1 (HRW.out kk hkl).2
        rw [hoa, decide_eq_true hop] at hgo
        have HGO := Lib.hid hgo
        have H56 := Lib.hid (opBs_len (HRW.out kk hkl).2.1)
        have HOKB := Lib.hid (opBs_allB (HRW.out kk hkl).2.2)
        have HOKK := Lib.hid hop.2.1.1
        rw [hlg] at zl
        clear hop hoa hgo hlg
        generalize opK (X kk) = bk at *
        generalize opBs (X kk) = bs at *
        go_upto_region 5 with fail
        go_wp2_with (first | (with_reducible refine wpList_load_mid rfl 82 (.tmp 25) rfl hp 0 rfl (gndLs (some ⟨q, 0, none⟩) v.r v.n v.g v.fr) _ HSV.out.at_.rangeG Try.underlying82 rfl (by rw [show (gndLs (some ⟨q, 0, none⟩) v.r v.n v.g v.fr).length = 8 from rfl]; exact size82) ?_))
        refine HGO.out.mono ?_
        rintro e W4 ⟨rfl, hb4⟩
        have hs4 := HSV.out.below hb4
        have hm4 := HSM.out.trans (Same.rst (HSV.out.same hb4))
        have HS4 := Lib.hid hs4
        have HM4 := Lib.hid hm4
        clear hb4 hs4 hm4 c8 zl HGO
        go_upto_region 6 with (first | (refine wpList_allocB rfl rfl ?_) | (refine wpList_storeB rfl (.tmp 4) (.tmp 29) rfl W4.heap.size rfl bk 0 bs zBs rfl H56.out zBs_len (heap_alloc_new W4 _) ?_))
        have hb5 : Below W4.heap.size W4 ((W4.alloc (Obj.cells (blkA 0 zBs) 46)).setRow W4.heap.size (blkA bk bs)) := below_setRow ((Below.refl _ _).alloc (Nat.le_refl _) _) (Nat.le_refl _) _
        have e4 := setRow_blk (D := blkA bk bs) (heap_alloc_new W4 (Obj.cells (blkA 0 zBs) 46))
        have HS5 := Lib.hid (HS4.out.below hb5)
        have HM5 := Lib.hid (HM4.out.trans (Same.rst (HS4.out.same hb5)))
        generalize (W4.alloc (Obj.cells (blkA 0 zBs) 46)).setRow W4.heap.size (blkA bk bs) = W5 at *
        generalize W4.heap.size = g4 at *
        have HG4 := Lib.hid (fun (W' : World) (hb' : Below W5.heap.size W5 W') => kb hb' e4)
        obtain ⟨nn, hnn⟩ : ∃ nn, nn = v.n := ⟨_, rfl⟩
        have HC8 : Hid (∀ W', Below W5.heap.size W5 W' → W'.cell? ⟨hp, 8, none⟩ = some (.slice (some ⟨rb, 0, none⟩) nn nn)) := fun W' hb => by rw [hnn]; exact (HS5.out.at_.below hb).c8
        have hti : (kk : Int) < nn := by rw [hnn]; exact hki
        have hnn2 : nn ≤ 200 := by rw [hnn]; exact hn2
        clear hb5 e4 hnn
        go_upto_region 8 with fail
        refine wp_region_rgk (VNfe hp rb nn kk bk bs) (fun _ W => Below W5.heap.size W5 W) (fun _ w w' => Below w.heap.size w w') (by kernel_rfl) (by kernel_rfl) (fun i j v w w' _ _ h hs => by unfold VNfe at *; exact h) ((Below.refl _ _).drew) ?_
        simp only [RAll]
        refine ⟨?_, ?_, ?_, ?_, ?_, ?_, ?_, ?_, ?_⟩
        · refine RStepK.of rfl fun T W L hag hL hJ hLs hd => ?_   -- 0: 33 := Op.move (Operand.tmp 0)
          have e0 : T.getD 0 undef = _ := (agree_at hag 0 (by kernel_rfl)).trans rfl
          clear hag hd
          go_simp
          first | exact ⟨_, rfl, rfl⟩ | exact ⟨_, rfl, rfl, brefl _⟩ | exact ⟨_, rfl, rfl, hJ, brefl _⟩
        · refine RStepK.of rfl fun T W L hag hL hJ hLs hd => ?_   -- 1: 34 := Op.nilCheck (Operand.tmp 33)
          have d33 : T.getD 33 undef = _ := hd ⟨0, .data⟩ (by simp) rfl _ rfl
          clear hag hd
          go_simp
          first | exact ⟨_, rfl, rfl⟩ | exact ⟨_, rfl, rfl, brefl _⟩ | exact ⟨_, rfl, rfl, hJ, brefl _⟩
        · refine RStepK.of rfl fun T W L hag hL hJ hLs hd => ?_   -- 2: 35 := Op.fieldAddr 90 (Operand.tmp 34) 1
          have d34 : T.getD 34 undef = _ := hd ⟨1, .data⟩ (by simp) rfl _ rfl
          clear hag hd
          go_simp
          first | exact ⟨_, rfl, rfl⟩ | exact ⟨_, rfl, rfl, brefl _⟩ | exact ⟨_, rfl, rfl, hJ, brefl _⟩
        · refine RStepK.of rfl fun T W L hag hL hJ hLs hd => ?_   -- 3: 36 := Op.load 88 (Operand.tmp 35)
          have d35 : T.getD 35 undef = _ := hd ⟨2, .data⟩ (by simp) rfl _ rfl
          have z8 := HC8.out W hJ
          clear hag hd
          go_simp
          first | exact ⟨_, rfl, rfl⟩ | exact ⟨_, rfl, rfl, brefl _⟩ | exact ⟨_, rfl, rfl, hJ, brefl _⟩
        · refine RStepK.of rfl fun T W L hag hL hJ hLs hd => ?_   -- 4: 37 := Op.move (Operand.tmp 3)
          have e3 : T.getD 3 undef = _ := (agree_at hag 3 (by kernel_rfl)).trans rfl
          clear hag hd
          go_simp
          first | exact ⟨_, rfl, rfl⟩ | exact ⟨_, rfl, rfl, brefl _⟩ | exact ⟨_, rfl, rfl, hJ, brefl _⟩
        · refine RStepK.of rfl fun T W L hag hL hJ hLs hd => ?_   -- 5: 38 := Op.load 46 (Operand.tmp 4)
          have e4 : T.getD 4 undef = _ := (agree_at hag 4 (by kernel_rfl)).trans rfl
          clear hag hd
          refine wp_load_row 46 (.tmp 4) rfl g4 e4 _ _ _ _ (HG4.out W hJ) Try.underlying46 rfl (by rw [blkA_size H56.out]; exact size24b) ?_
          exact ⟨_, rfl, rfl, hJ, brefl _⟩
        · refine RStepK.of rfl fun T W L hag hL hJ hLs hd => ?_   -- 6: 39 := Op.indexAddr 88 (Operand.tmp 36) (Operand.tmp 37)
          have d36 : T.getD 36 undef = _ := hd ⟨3, .data⟩ (by simp) rfl _ rfl
          have d37 : T.getD 37 undef = _ := hd ⟨4, .data⟩ (by simp) rfl _ rfl
          clear hag hd
          go_simp
          first | exact ⟨_, rfl, rfl⟩ | exact ⟨_, rfl, rfl, brefl _⟩ | exact ⟨_, rfl, rfl, hJ, brefl _⟩
        · refine RStepK.of rfl fun T W L hag hL hJ hLs hd => ?_   -- 7: 40 := Op.fieldAddr 95 (Operand.tmp 39) 0
          have d39 : T.getD 39 undef = _ := hd ⟨6, .data⟩ (by simp) rfl _ rfl
          clear hag hd
          go_simp
          first | exact ⟨_, rfl, rfl⟩ | exact ⟨_, rfl, rfl, brefl _⟩ | exact ⟨_, rfl, rfl, hJ, brefl _⟩
        · refine RLastK.of rfl fun T W L hag hLs hL hJ hd => ?_   -- 8: None := Op.store 46 (Operand.tmp 40) (Operand.tmp 38)
          have d40 : T.getD 40 undef = _ := hd 7 _ (by simp) rfl
          have d38 : T.getD 38 undef = _ := hd 5 _ (by simp) rfl
          obtain ⟨f, hf, hT⟩ := agree_fn hag
          have d33 : T.getD 33 undef = _ := hd 0 _ (by simp) rfl
          have h33 := (hf 33).trans d33
          have d34 : T.getD 34 undef = _ := hd 1 _ (by simp) rfl
          have h34 := (hf 34).trans d34
          have d35 : T.getD 35 undef = _ := hd 2 _ (by simp) rfl
          have h35 := (hf 35).trans d35
          have d36 : T.getD 36 undef = _ := hd 3 _ (by simp) rfl
          have h36 := (hf 36).trans d36
          have d37 : T.getD 37 undef = _ := hd 4 _ (by simp) rfl
          have h37 := (hf 37).trans d37
          have h38 := (hf 38).trans d38
          have d39 : T.getD 39 undef = _ := hd 6 _ (by simp) rfl
          have h39 := (hf 39).trans d39
          have h40 := (hf 40).trans d40
          have HJ := Lib.hid hJ
          clear hag hd d33 d34 d35 d36 d37 d38 d39 d40 hJ hf
          rw [hT]
          clear hT
          simp only [List.pop_toArray, List.dropLast_cons_cons, List.dropLast_singleton, List.filterMap_cons, List.filterMap_nil, List.foldl_cons, List.foldl_nil, List.setIfInBounds_toArray, List.set_cons_succ, List.set_cons_zero, h33, h34, h35, h36, h37, h38, h39, h40]
          have hth := (HS5.out.at_.below HJ.out).there (i := kk) (o := 0) (c := 57) HKN.out (by omega)
          refine wp_store_mid 46 (.tmp 40) (.tmp 38) rfl rb (kk * 58) _ rfl rfl (by rw [blkA_size H56.out]; exact hth) (by rw [blkA_size H56.out]; exact size24b) (blkA_one _ _) ?_
          rw [blkA_list]
          have hst := (HS5.out.below HJ.out).setK (k := bk) (bs := bs) HXB.out HOKK.out H56.out HOKB.out
          have hsm := (HM5.out.trans (Same.rst (HS5.out.same HJ.out))).trans hst.2
          rw [HBN.out] at hst
          have HST := Lib.hid hst.1
          have HSM3 := Lib.hid hsm
          clear hst hsm hth HJ
          generalize W.setCells rb (kk * 58) (blkL bk bs) = W7 at *
          simp only [Act.put]
          go_wp2
          go_step3
          refine ⟨rfl, (show AtFet w0 WW P q m hp rb v X _ W7 from ⟨kk + 1, by have := HKN.out; omega, HST.out, HSM3.out, _, _, _, _, _, _, _, _, _, _, _, _, _, _, _, _, _, _, _, _, _, _, _, _, _, _, _, _, _, _, _, _, _, _, _, _, _, _, _, (by rw [show ((kk + 1 : Nat) : Int) = (kk : Int) + 1 from rfl])⟩), ?_⟩
          have := HKN.out
          simp [intOf]; omega

      · have HBN : Hid (got X v.B (kk + 1) = got X v.B kk) := got_skip HX.out hlg
        have hsv := HSV.out
        rw [← HBN.out] at hsv
        have HF := Lib.hid hsv
        rw [hlg] at zl
        clear hsv hlg
        go_wp2
        go_step3
        refine ⟨rfl, (show AtFet w0 WW P q m hp rb v X _ w5 from ⟨kk + 1, by have := HKN.out; omega, HF.out, HSM.out, _, _, _, _, _, _, _, _, _, _, _, _, _, _, _, _, _, _, _, _, _, _, _, _, _, _, _, _, _, _, _, _, _, _, _, _, _, _, _, (by rw [show ((kk + 1 : Nat) : Int) = (kk : Int) + 1 from rfl])⟩), ?_⟩
        have := HKN.out
        simp [intOf]; omega
end Go.Proofs.Ytamnpblijdgdaaa
