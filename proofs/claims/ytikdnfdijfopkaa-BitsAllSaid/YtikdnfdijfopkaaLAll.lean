/- The law BitsAll answers true for every input, and leaves its arguments alone. No condition. -/
import Derived.Test.YtikdnfdijfopkaaRows
import Derived.Test.YtikdnfdijfopkaaTc
import Derived.Deep.DeepCutAuto
import Derived.Deep.CutBlock
import Derived.Deep.Onto
import Derived.WalkKit
import Derived.ProofKit
import Derived.OpenShut
namespace Go.Proofs.Ytikdnfdijfopkaa.bitsAll
open Go.ChangeShapes Go.WideShapes Go.ChangeAt Go.RowKit Go.Joins
set_option linter.unusedVariables false
theorem own : ownKnob Try.prog.godebug = none := by kernel_rfl
theorem laidOut : laidOutB Try.prog = true := by kernel_rfl
def RowB (w : World) (h : Nat) (S : List Bool) : Prop := w.heap[h]? = some (.cells (S.map Value.bool).toArray 4 (0, 0))
theorem RowB.at_ {w : World} {h : Nat} {S : List Bool} (H : RowB w h S) {j : Nat} {b : Bool} (hj : S[j]? = some b) : w.cell? ⟨h, j, none⟩ = some (.bool b) := by
  rw [blk_cell H, List.getElem?_toArray, List.getElem?_map, hj]; rfl
theorem RowB.touch {w w' : World} {g h : Nat} {S : List Bool} (H : RowB w h S) (ht : Touch (fun k => k = g) w w') (hn : g ≠ h) : RowB w' h S := by
  unfold RowB
  rw [ht.block h (room_lt H) (fun e => hn e.symm)]; exact H
theorem RowB.set {w : World} {h : Nat} {S : List Bool} (H : RowB w h S) (j : Nat) (b : Bool) : RowB (w.setCell ⟨h, j, none⟩ (.bool b)) h (S.set j b) := by
  unfold RowB
  rw [heap_setCell_same' H]
  simp [List.map_set]
theorem made_bool (n : Nat) : madeCells (Value.bool false).cells n = ((List.replicate n false).map Value.bool).toArray := by
  apply Array.ext'
  unfold madeCells
  apply List.ext_getElem?
  intro i
  simp [List.getElem?_replicate, Value.cells]
  by_cases h : i < n <;> simp [h, Nat.mod_one]
theorem infoB : (Try.prog.info? 4).map (fun i => (i.zero, i.size, i.bytes)) = some (some (.bool false), 1, 1) := by kernel_rfl
theorem drop_cons' {S : List Bool} {q : Nat} {b : Bool} (h : S[q]? = some b) : S.drop q = b :: S.drop (q + 1) := by
  have hl := (List.getElem?_eq_some_iff.1 h).1
  rw [List.drop_eq_getElem_cons hl]
  congr 1
  exact (List.getElem?_eq_some_iff.1 h).2
theorem setB_out {S : List Bool} {t : Int} (h : inB S t = false) (b : Bool) : setB S t b = S := by unfold setB; rw [h]; rfl
set_option maxRecDepth 100000 in
set_option maxHeartbeats 6400000 in
theorem walk (x0 : Int) (A1 : Option Addr) (l1 : List Pr) (d1 : Nat) (w : World) (hx0 : -9223372036854775808 ≤ x0 ∧ x0 ≤ 9223372036854775807) (hd1 : l1.length ≤ d1) (hm1 : d1 ≤ 9223372036854775807) (hB1 : PrsOk l1) (hy1 : Prs w A1 l1) :
    Calls Try.prog 3 #[.int .i64 x0, .slice A1 l1.length d1] w fun e w' => e = .returned (.bool true) ∧ Below w.heap.size w w' := by
  obtain ⟨k, hk, hk2⟩ : ∃ k : Nat, (min (max x0 0) 200) = (k : Int) ∧ k ≤ 200 := ⟨(min (max x0 0) 200).toNat, by omega, by omega⟩
  generalize hn : l1.length = n at *
  have HN := Lib.hid hn
  have HY := Lib.hid hy1
  have HBB := Lib.hid hB1
  clear hn hy1 hB1
  by_cases h60 : n ≤ 60
  · have h60' : ¬ (60 : Int) < (n : Int) := by omega
    go_enter Try.func3, Try.ntmps3
    go_wp2_with fail
    refine (begun_any w).mono ?_
    rintro e w1 ⟨rfl, hb1⟩
    have HB1 := Lib.hid hb1
    clear hb1
    go_wp2_with fail
    refine (new_any x0 (by constructor <;> omega) w1).mono ?_
    rintro e w2 ⟨g, rfl, hg, h1, hb⟩
    have HG : Hid (w.heap.size ≤ g) := by have := HB1.out.size; unfold Hid; omega
    have HA : Hid (BitsAt w2 g (List.replicate k false)) := by rw [hk, Int.toNat_natCast] at h1; exact h1
    have HB2 := Lib.hid (HB1.out.trans (hb.mono HB1.out.size))
    clear hg h1 hb HB1
    go_upto_region 6 with fail
    go_cut [6] (fun s wx => s = .int .i64 (k : Int) ∧ wx = w2)
    case first =>
      by_cases h0 : x0 < 0
      · have e0 : k = 0 := by omega
        subst e0
        clear hk
        go_wp2_with fail
        go_meet
        case rel => exact ⟨rfl, rfl⟩
      · by_cases h1 : 200 < x0
        · have e0 : k = 200 := by omega
          subst e0
          clear hk
          go_wp2_with fail
          go_meet
          case rel => exact ⟨rfl, rfl⟩
        · have e0 : x0 = k := by omega
          subst e0
          clear hk
          go_wp2_with fail
          go_meet
          case rel => exact ⟨rfl, rfl⟩
    case rest =>
      obtain ⟨e6, rfl⟩ := hcut
      subst e6
      clear hk
      obtain ⟨i0, hi, hz0, hz1, hz2⟩ := info_parts infoB
      have hmk := run_make (P := Try.prog) wc 26 4 i0 _ Try.underlying26 hi hz0 .i64 .i64 (k : Int) (k : Int) (by omega) (by omega) (by rw [hz2]; omega) (by omega)
      generalize hC : madeCells (Value.bool false).cells ((k : Int).toNat * i0.size) = C0 at hmk
      have HC : Hid (C0 = ((List.replicate k false).map Value.bool).toArray) := by
        rw [← hC, hz1, Int.toNat_natCast, Nat.mul_one]; exact made_bool k
      clear hC hi hz0 hz1 hz2
      go_upto_region 8 with fail
      have HR0 : Hid (RowB (wc.alloc (Obj.cells C0 4)) wc.heap.size (List.replicate k false)) := by rw [HC.out]; exact heap_alloc_new wc _
      have hbA : Below wc.heap.size wc (wc.alloc (Obj.cells C0 4)) := (Below.refl _ _).alloc (Nat.le_refl _) _
      have HA3 := Lib.hid (HA.out.below hbA)
      have HB3 := Lib.hid (HB2.out.trans (hbA.mono HB2.out.size))
      have HH : Hid (w.heap.size ≤ wc.heap.size) := HB2.out.size
      have HNE : Hid (g ≠ wc.heap.size) := Nat.ne_of_lt (room_lt HA.out.hp)
      clear hmk hbA HA HB2 HC
      generalize wc.alloc (Obj.cells C0 4) = w3 at *
      generalize wc.heap.size = h at *
      go_wp2_with fail
      go_loopw [8] (fun i wr => ∃ (j : Nat) (S : List Bool), i = .int .i64 j ∧ j ≤ n ∧ Hid (S.length = k) ∧ Hid (BitsAt wr g S) ∧ Hid (RowB wr h S) ∧ Hid (Below w.heap.size w wr)) (fun i _ => n - (intOf i).toNat)
      case atStart => exact ⟨0, _, rfl, Nat.zero_le _, by unfold Hid; simp, HA3.out, HR0.out, HB3.out⟩
      case round =>
        clear HA3 HR0 HB3
        obtain ⟨j, S, rfl, hj, HL, HA, HR, HB⟩ := hrel
        obtain ⟨W, rfl⟩ : ∃ W, W = wr := ⟨wr, rfl⟩
        by_cases hlt : j < n
        · obtain ⟨⟨kd, t⟩, hx⟩ : ∃ x, l1[j]? = some x := ⟨_, List.getElem?_eq_getElem (by rw [HN.out]; exact hlt)⟩
          obtain ⟨a, rfl, hcx⟩ := HY.out.keep HB.out j _ hx
          obtain ⟨⟨hk1, hk2'⟩, ht1, ht2⟩ := HBB.out _ (List.mem_of_getElem? hx)
          have c0 := hcx.c0
          have c1 := hcx.c1
          simp only at c0 c1 hk1 hk2' ht1 ht2
          have hjl : (j : Int) < n := by omega
          obtain ⟨r, hr2, hra⟩ := and1 kd
          clear hx hcx
          go_upto_region 12 with fail
          obtain ⟨inn, hinn⟩ : ∃ b, b = inB S t := ⟨_, rfl⟩
          have HIN := Lib.hid hinn
          go_cut [10] (fun s wx => s = .bool inn ∧ wx = W)
          case first =>
            clear hinn
            by_cases h0 : 0 ≤ t
            · go_wp2_with fail
              go_meet
              case rel => exact ⟨by rw [HIN.out]; unfold inB; rw [HL.out, decide_eq_true h0]; rfl, rfl⟩
            · go_wp2_with fail
              go_meet
              case rel => exact ⟨by rw [HIN.out]; unfold inB; rw [HL.out, decide_eq_false (by omega : ¬ 0 ≤ t)]; rfl, rfl⟩
          case rest =>
            clear hinn
            obtain ⟨e10, rfl⟩ := hcut
            subst e10
            have HI64 : Hid (i64 t) := by constructor <;> omega
            have HSE := Lib.hid (set_any HA.out t HI64.out)
            have HCL := Lib.hid (clear_any HA.out t HI64.out)
            rw [← HIN.out] at HSE
            obtain ⟨bo, hbo⟩ : ∃ b, b = decide (r = 0) := ⟨_, rfl⟩
            have HBO := Lib.hid hbo
            clear hbo
            go_upto_if 55 with fail
            go_cut [] (fun wx => Hid (BitsAt wx g (setB S t bo)) ∧ Hid (RowB wx h (setB S t bo)) ∧ Hid (Below w.heap.size w wx))
            case first =>
              rcases (show r = 0 ∨ r = 1 by omega) with hr0 | hr0
              · subst hr0
                have HBT : Hid (bo = true) := HBO.out.trans rfl
                cases inn
                · have hse := HIN.out
                  have HS2 : Hid (setB S t true = S) := setB_out hse.symm _
                  have HIS : Hid (isB S t = false) := by unfold Hid isB; rw [← hse]; rfl
                  rw [HS2.out] at HSE
                  clear hse
                  go_wp2_with fail
                  refine HSE.out.mono ?_
                  rintro e w5 ⟨rfl, h5, ht5⟩
                  have HA5 := Lib.hid h5
                  have HR5 := Lib.hid (HR.out.touch ht5 HNE.out)
                  have HB5 := Lib.hid (BitsAt.next (S := []) HB.out HG.out ht5)
                  clear h5 ht5
                  go_wp2_with fail
                  go_meet
                  case rel => exact ⟨by rw [HBT.out, HS2.out]; exact HA5.out, by rw [HBT.out, HS2.out]; exact HR5.out, HB5.out⟩
                · obtain ⟨q, rfl, hq⟩ := inB_yes HIN.out.symm
                  have hqk : q < k := by have := HL.out; omega
                  have hbq := at_of hq
                  obtain ⟨b, hb⟩ : ∃ b, b = S.getD q false := ⟨_, rfl⟩
                  rw [← hb] at hbq
                  rw [isB_at hbq, setB_in hq] at HSE
                  have HBQ := Lib.hid hbq
                  have hmn : ¬ ((k : Int) - 1 < q) := by omega
                  have wk : IntKind.i64.wrap ((k : Int) - 1) = (k : Int) - 1 := IntWalk.i64_in _ (by omega)
                  have hqi : (q : Int) < k := by omega
                  clear hb hbq
                  cases b
                  all_goals
                    go_wp2_with fail
                    refine HSE.out.mono ?_
                    rintro e w5 ⟨rfl, h5, ht5⟩
                    have HA5 := Lib.hid h5
                    have HR5 := Lib.hid (HR.out.touch ht5 HNE.out)
                    have HB5 := Lib.hid (BitsAt.next (S := []) HB.out HG.out ht5)
                    have z5 := HR5.out.at_ HBQ.out
                    have f5 := blk_free HR5.out q
                    have HA6 : Hid (BitsAt (w5.setCell ⟨h, q, none⟩ (.bool true)) g (S.set q true)) := HA5.out.touch ((Touch.refl (fun k => k = h) _).setCell (p := ⟨h, q, none⟩) rfl _) HNE.out
                    have HR6 := Lib.hid (HR5.out.set q true)
                    have HB6 : Hid (Below w.heap.size w (w5.setCell ⟨h, q, none⟩ (.bool true))) := HB5.out.setCell (p := ⟨h, q, none⟩) HH.out _
                    clear h5 ht5 HA5 HR5 HB5
                    go_wp2_with fail
                    go_meet
                    case rel => exact ⟨by rw [HBT.out, setB_in hq]; exact HA6.out, by rw [HBT.out, setB_in hq]; exact HR6.out, HB6.out⟩
              · subst hr0
                have HBT : Hid (bo = false) := HBO.out.trans rfl
                cases inn
                · have hse := HIN.out
                  have HS2 : Hid (setB S t false = S) := setB_out hse.symm _
                  have HIS : Hid (isB S t = false) := by unfold Hid isB; rw [← hse]; rfl
                  rw [HS2.out, HIS.out] at HCL
                  clear hse
                  go_wp2_with fail
                  refine HCL.out.mono ?_
                  rintro e w5 ⟨rfl, h5, ht5⟩
                  have HA5 := Lib.hid h5
                  have HR5 := Lib.hid (HR.out.touch ht5 HNE.out)
                  have HB5 := Lib.hid (BitsAt.next (S := []) HB.out HG.out ht5)
                  clear h5 ht5
                  go_wp2_with fail
                  go_meet
                  case rel => exact ⟨by rw [HBT.out, HS2.out]; exact HA5.out, by rw [HBT.out, HS2.out]; exact HR5.out, HB5.out⟩
                · obtain ⟨q, rfl, hq⟩ := inB_yes HIN.out.symm
                  have hqk : q < k := by have := HL.out; omega
                  have hbq := at_of hq
                  obtain ⟨b, hb⟩ : ∃ b, b = S.getD q false := ⟨_, rfl⟩
                  rw [← hb] at hbq
                  rw [isB_at hbq, setB_in hq] at HCL
                  have HBQ := Lib.hid hbq
                  have hmn : ¬ ((k : Int) - 1 < q) := by omega
                  have wk : IntKind.i64.wrap ((k : Int) - 1) = (k : Int) - 1 := IntWalk.i64_in _ (by omega)
                  have hqi : (q : Int) < k := by omega
                  clear hb hbq
                  cases b
                  all_goals
                    go_wp2_with fail
                    refine HCL.out.mono ?_
                    rintro e w5 ⟨rfl, h5, ht5⟩
                    have HA5 := Lib.hid h5
                    have HR5 := Lib.hid (HR.out.touch ht5 HNE.out)
                    have HB5 := Lib.hid (BitsAt.next (S := []) HB.out HG.out ht5)
                    have z5 := HR5.out.at_ HBQ.out
                    have f5 := blk_free HR5.out q
                    have HA6 : Hid (BitsAt (w5.setCell ⟨h, q, none⟩ (.bool false)) g (S.set q false)) := HA5.out.touch ((Touch.refl (fun k => k = h) _).setCell (p := ⟨h, q, none⟩) rfl _) HNE.out
                    have HR6 := Lib.hid (HR5.out.set q false)
                    have HB6 : Hid (Below w.heap.size w (w5.setCell ⟨h, q, none⟩ (.bool false))) := HB5.out.setCell (p := ⟨h, q, none⟩) HH.out _
                    clear h5 ht5 HA5 HR5 HB5
                    go_wp2_with fail
                    go_meet
                    case rel => exact ⟨by rw [HBT.out, setB_in hq]; exact HA6.out, by rw [HBT.out, setB_in hq]; exact HR6.out, HB6.out⟩
            case rest =>
              obtain ⟨HA2, HR2, HB2⟩ := hcut
              clear HSE HCL HA HR HB c0 c1 hra
              obtain ⟨T, hT⟩ : ∃ T, T = setB S t bo := ⟨_, rfl⟩
              rw [← hT] at HA2 HR2
              have HTL : Hid (T.length = k) := by unfold Hid; rw [hT, setB_len]; exact HL.out
              have HIT : Hid (inn = inB T t) := by have h1 := HIN.out; unfold inB at h1 ⊢; unfold Hid; rw [h1, hT, setB_len]
              clear hT HIN HL HBO
              obtain ⟨w5, rfl⟩ : ∃ w5, w5 = wc := ⟨wc, rfl⟩
              go_wp2_with fail
              go_loopw [11, 12, 13] (fun f l m wr => ∃ (p : Nat), p ≤ k ∧ f = .int .i64 ((p + fstB (T.drop p) : Nat) : Int) ∧ l = .int .i64 (((T.drop p).count false : Nat) : Int) ∧ m = .int .i64 ((p : Int) - 1) ∧ wr = w5) (fun _ _ m _ => (intOf m + 1).toNat)
              case atStart =>
                have e0 : T.drop k = [] := List.drop_of_length_le (by rw [HTL.out]; exact Nat.le_refl _)
                refine ⟨k, Nat.le_refl _, by rw [e0]; rfl, by rw [e0]; rfl, ?_, rfl⟩
                first | rfl | go_num
              case round =>
                obtain ⟨p, hp, rfl, rfl, rfl, rfl⟩ := hrel
                have HPL : Hid ((T.drop p).count false ≤ 200) := by
                  have h1 := List.count_le_length (a := false) (l := T.drop p)
                  rw [List.length_drop, HTL.out] at h1
                  unfold Hid; omega
                cases p with
                | zero =>
                  rw [List.drop_zero, Nat.zero_add]
                  have HFI := Lib.hid (first_any HA2.out)
                  have HLE := Lib.hid (left_any HA2.out)
                  have HIS := Lib.hid (is_any HA2.out t HI64.out)
                  have hfk := fstB_has (S := T)
                  have hle := fstB_le T
                  rw [HTL.out] at hfk hle
                  unfold fstV at HFI
                  rw [HTL.out] at HFI
                  generalize T.count false = c at *
                  generalize fstB T = f at *
                  have HX : Hid (inn = false → isB T t = false) := fun h => by unfold isB; rw [← HIT.out, h]; rfl
                  have HY2 : Hid (inn = true → ∃ q : Nat, t = q ∧ q < k ∧ ∃ b, isB T (q : Int) = b ∧ T[q]? = some b) := fun h => by
                    obtain ⟨q, rfl, hq⟩ := inB_yes (HIT.out.symm.trans h)
                    have := at_of hq
                    exact ⟨q, rfl, by rw [HTL.out] at hq; exact hq, _, isB_at this, this⟩
                  have hfi : ((f : Int) == f) = true := by simp
                  have hci : ((c : Int) == c) = true := by simp
                  have wk : IntKind.i64.wrap ((k : Int) - 1) = (k : Int) - 1 := IntWalk.i64_in _ (by omega)
                  by_cases hfl : f < k
                  · have hc0 : (0 : Int) < (c : Int) := by have := hfk.1 hfl; omega
                    rw [if_pos hfl] at HFI
                    clear hfk hfl hle hp HPL
                    cases inn
                    · rw [HX.out rfl] at HIS
                      clear HX HY2
                      go_wp2_with fail
                      refine HFI.out.mono ?_; rintro e w' ⟨rfl, rfl⟩
                      go_wp2_with fail
                      refine HLE.out.mono ?_; rintro e w' ⟨rfl, rfl⟩
                      go_wp2_with fail
                      refine HIS.out.mono ?_; rintro e w' ⟨rfl, rfl⟩
                      go_wp2_with fail
                      go_roundw
                      case rel => exact ⟨j + 1, T, by go_num, by omega, HTL.out, HA2.out, HR2.out, HB2.out⟩
                      case measure => simp [intOf]; omega
                    · obtain ⟨q, rfl, hqk, b, eb, hbq⟩ := HY2.out rfl
                      rw [eb] at HIS
                      have z5 := HR2.out.at_ hbq
                      have hmn : ¬ ((k : Int) - 1 < q) := by omega
                      have hqi : (q : Int) < k := by omega
                      clear HX HY2 eb hbq
                      cases b
                      all_goals
                        go_wp2_with fail
                        refine HFI.out.mono ?_; rintro e w' ⟨rfl, rfl⟩
                        go_wp2_with fail
                        refine HLE.out.mono ?_; rintro e w' ⟨rfl, rfl⟩
                        go_wp2_with fail
                        refine HIS.out.mono ?_; rintro e w' ⟨rfl, rfl⟩
                        go_wp2_with fail
                        go_roundw
                        case rel => exact ⟨j + 1, T, by go_num, by omega, HTL.out, HA2.out, HR2.out, HB2.out⟩
                        case measure => simp [intOf]; omega
                  · have hc1 : c = 0 := by rcases Nat.eq_zero_or_pos c with h | h; exact h; exact absurd (hfk.2 h) hfl
                    subst hc1
                    rw [if_neg hfl] at HFI
                    clear hfk hfl hle hp HPL hci
                    cases inn
                    · rw [HX.out rfl] at HIS
                      clear HX HY2
                      go_wp2_with fail
                      refine HFI.out.mono ?_; rintro e w' ⟨rfl, rfl⟩
                      go_wp2_with fail
                      refine HLE.out.mono ?_; rintro e w' ⟨rfl, rfl⟩
                      go_wp2_with fail
                      refine HIS.out.mono ?_; rintro e w' ⟨rfl, rfl⟩
                      go_wp2_with fail
                      go_roundw
                      case rel => exact ⟨j + 1, T, by go_num, by omega, HTL.out, HA2.out, HR2.out, HB2.out⟩
                      case measure => simp [intOf]; omega
                    · obtain ⟨q, rfl, hqk, b, eb, hbq⟩ := HY2.out rfl
                      rw [eb] at HIS
                      have z5 := HR2.out.at_ hbq
                      have hmn : ¬ ((k : Int) - 1 < q) := by omega
                      have hqi : (q : Int) < k := by omega
                      clear HX HY2 eb hbq
                      cases b
                      all_goals
                        go_wp2_with fail
                        refine HFI.out.mono ?_; rintro e w' ⟨rfl, rfl⟩
                        go_wp2_with fail
                        refine HLE.out.mono ?_; rintro e w' ⟨rfl, rfl⟩
                        go_wp2_with fail
                        refine HIS.out.mono ?_; rintro e w' ⟨rfl, rfl⟩
                        go_wp2_with fail
                        go_roundw
                        case rel => exact ⟨j + 1, T, by go_num, by omega, HTL.out, HA2.out, HR2.out, HB2.out⟩
                        case measure => simp [intOf]; omega
                | succ q =>
                  have hqk : q < k := by omega
                  have hbq := at_of (S := T) (j := q) (by rw [HTL.out]; exact hqk)
                  obtain ⟨b, hb⟩ : ∃ b, b = T.getD q false := ⟨_, rfl⟩
                  rw [← hb] at hbq
                  have z5 := HR2.out.at_ hbq
                  have HD := Lib.hid (drop_cons' hbq)
                  have e1 : ((q + 1 : Nat) : Int) - 1 = (q : Int) := by omega
                  have wm : IntKind.i64.wrap ((q : Int) - 1) = (q : Int) - 1 := IntWalk.i64_in _ (by omega)
                  have hqi : (q : Int) < k := by omega
                  rw [e1]
                  have wl : IntKind.i64.wrap (((T.drop (q + 1)).count false : Int) + 1) = ((T.drop (q + 1)).count false : Int) + 1 := IntWalk.i64_in _ (by have := HPL.out; omega)
                  have HF1 : Hid (b = true → fstB (T.drop q) = fstB (T.drop (q + 1)) + 1) := fun h => by rw [HD.out, h]; rfl
                  have HF2 : Hid (b = false → fstB (T.drop q) = 0) := fun h => by rw [HD.out, h]; rfl
                  have HF3 : Hid (b = true → (T.drop q).count false = (T.drop (q + 1)).count false) := fun h => by rw [HD.out, h]; rfl
                  have HF4 : Hid (b = false → (T.drop q).count false = (T.drop (q + 1)).count false + 1) := fun h => by rw [HD.out, h]; simp
                  generalize fstB (T.drop (q + 1)) = f1 at *
                  generalize (T.drop (q + 1)).count false = c1 at *
                  clear hb hbq HPL HD e1
                  cases b
                  · go_wp2_with fail
                    go_roundw
                    case rel => exact ⟨q, by omega, by rw [HF2.out rfl]; rfl, by rw [HF4.out rfl]; rfl, rfl, by first | trivial | rfl⟩
                    case measure => simp [intOf]
                  · go_wp2_with fail
                    go_roundw
                    case rel => exact ⟨q, by omega, by rw [HF1.out rfl, show q + 1 + f1 = q + (f1 + 1) by omega], by rw [HF3.out rfl], rfl, by first | trivial | rfl⟩
                    case measure => simp [intOf]
        · have hjl : ¬ (j : Int) < n := by omega
          go_wp2_with fail
          refine (first_nil W).mono ?_; rintro e w' ⟨rfl, rfl⟩
          go_wp2_with fail
          refine (set_nil 0 W).mono ?_; rintro e w' ⟨rfl, rfl⟩
          go_wp2_with fail
          refine (clear_nil 0 W).mono ?_; rintro e w' ⟨rfl, rfl⟩
          go_wp2_with fail
          refine (is_nil 0 W).mono ?_; rintro e w' ⟨rfl, rfl⟩
          go_wp2_with fail
          refine (left_nil W).mono ?_; rintro e w' ⟨rfl, rfl⟩
          go_wp2_with fail
          go_ret
          exact ⟨rfl, HB.out⟩
  · have h60' : (60 : Int) < (n : Int) := by omega
    go_enter Try.func3, Try.ntmps3
    go_wp2_with fail
    refine (begun_any w).mono ?_
    rintro e w1 ⟨rfl, hb1⟩
    have HB1 := Lib.hid hb1
    clear hb1
    go_wp2_with fail
    go_ret
    exact ⟨rfl, HB1.out⟩

set_option maxRecDepth 100000 in
theorem lifted (os : Os) (started : os.Started) (H : Type) (enc : TypeId × Value → H) :
    ReturnsInHanded {} Try.checked os 3 .any (Rows.bitsAllSpec.pre6 enc Try.prog Try.f3 Rows.bitsAllRow.domain false) (Rows.bitsAllSpec.post enc Try.prog Try.f3 false true false false) := by
  refine returnsInHanded_of_change (C := Try.checked) own started (by kernel_rfl) Try.func3
    (ChangeSpec.witness6 (enc := enc) (C := Try.checked) false ⟨#[], #[.int .i64 0, .slice none 0 0], []⟩ 8 (by kernel_rfl) (by kernel_rfl) (by kernel_rfl) (by kernel_rfl)) ?_
  intro W base args ds gs before hval0 hW hcnd _
  have hval : ∀ (j : Nat) t v, Try.f3.params[j]? = some t → args[j]? = some v → Value.okWide Try.prog W .any base t v := hval0
  have hW' := hW
  obtain ⟨p, q, hA0, hV, rfl, hfz, hnd⟩ := hW
  have hA : DataW.TrodAll enc Try.prog W 0 (fun _ => true) true Try.f3.params.toList args.toList ds p := hA0
  rw [Try.params3] at hA hval
  obtain ⟨v0, vs0, d0, ds0, p0, q0, hargs, rfl, rfl, h0, r0⟩ := trodAll_cons hA
  obtain ⟨v1, vs1, d1, ds1, p1, q1, rfl, rfl, rfl, h1, r1⟩ := trodAll_cons r0
  obtain ⟨rfl, rfl, rfl⟩ := trodAll_nil r1
  obtain rfl : args = #[v0, v1] := by cases args; simp_all
  obtain ⟨rfl, rfl⟩ := trodVars_none hV
  obtain ⟨x0, rfl, rfl, rfl, wx0⟩ := open_int Try.underlying3 (hval 0 3 v0 rfl rfl) h0
  obtain ⟨a1, len1, cap1, rfl⟩ := okWide_slice Try.underlying22 (hval 1 22 v1 rfl rfl)
  clear hA0 hval0
  simp only [List.append_nil] at hW'
  have hlt1 : ∀ y ∈ p1, y.block < W.heap.size := fun y hy => by simpa using hW'.lt y (by simp [hy])
  have harg1 : ∀ W' : World, Below W.heap.size W W' → DataW.Trod enc Try.prog W' 0 (fun b => decide (b < W.heap.size)) true 22 (.slice a1 len1 cap1) d1 p1 :=
    fun W' hn => Below.trod laidOut (by kernel_rfl) (of_decide_eq_true (by kernel_rfl)) h1 hn (fun y hy => hlt1 y hy)
  obtain ⟨fu1, hf1⟩ := h1
  obtain ⟨A1, l1, c1, e1, hd1, hm1, hy1, hB1⟩ := open_prs hf1
  simp [Value.cells] at e1
  obtain ⟨rfl, rfl, rfl⟩ := e1
  refine (walk x0 a1 l1 cap1 W (by have := bounds_i64 wx0; omega) hd1 hm1 hB1 hy1).mono fun e W' ⟨he, bel⟩ => ?_
  subst he
  exact ⟨_, rfl, _, _, _, [], _, [], hW', (trodAll_cons_mk (shut_bool Try.underlying4 _) trodAll_mk0), (trodAll_cons_mk (shut_int Try.underlying3 wx0) (trodAll_cons_mk (harg1 _ bel) trodAll_mk0)), rfl, bel.frame _, fun h => by cases h⟩

theorem over : Rows.bitsAllRow.holds Try.pinned (OpenSpec.ofChange Rows.bitsAllSpec) :=
  OpenClaim.holds_of_wide 3 Try.f3 rfl rfl rfl rfl rfl rfl rfl ⟨rfl, rfl, rfl, rfl, rfl⟩ rfl rfl rfl rfl rfl (by kernel_rfl) Try.func3 (by kernel_rfl)
    (of_decide_eq_true (by kernel_rfl)) (by unfold Func.isWrapper; first | (rw [if_pos (by decide +kernel)]; kernel_rfl) | (rw [if_neg (by decide +kernel)]; exact ⟨rfl, rfl⟩))
    (fun os started H enc _ => lifted os started H enc)

theorem proved : Rows.BitsAllSaid :=
  over
#print axioms proved
end Go.Proofs.Ytikdnfdijfopkaa.bitsAll
