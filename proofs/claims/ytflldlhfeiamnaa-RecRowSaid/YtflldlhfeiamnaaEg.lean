/- Contracts: rec.may, the reference's MayWrites. -/
import Derived.Test.YtflldlhfeiamnaaEf
import Derived.Deep.QuietTactic
namespace Go.Proofs.Ytflldlhfeiamnaa
open Go.ChangeShapes Go.WideShapes Go.ChangeAt Go.RowKit
set_option linter.unusedVariables false
set_option maxRecDepth 100000 in
set_option maxHeartbeats 3200000 in
theorem may_any (A : Option Addr) (l : List Wr) (n d : Nat) (w : World) (hn : l.length = n) (hl : n ≤ d) (hd : d ≤ 9223372036854775807) (hok : WrsOk l) (hy : Wrs w A l) :
    Calls Try.prog 21 #[.slice A n d] w fun e w' => e = .returned (.bool (decide (MayL l))) ∧ Below w.heap.size w w' := by
  have HY := Lib.hid hy
  have HN := Lib.hid hn
  have HO := Lib.hid hok
  clear hn hok hy
  by_cases h1 : n < 1
  · have hno : ¬ MayL l := fun h => by have := h.1.1; rw [HN.out] at this; omega
    rw [decide_eq_false hno]
    have hd1 : decide ((n : Int) < 1) = true := decide_eq_true (by omega)
    clear hno
    go_enter Try.func21, Try.ntmps21
    go_wp2
    go_ret
    exact ⟨rfl, Below.refl _ _⟩
  have hd1 : decide ((n : Int) < 1) = false := decide_eq_false (by omega)
  by_cases h2 : 12 < n
  · have hno : ¬ MayL l := fun h => by have := h.1.2; rw [HN.out] at this; omega
    rw [decide_eq_false hno]
    have hd2 : decide (12 < (n : Int)) = true := decide_eq_true (by omega)
    clear hno
    go_enter Try.func21, Try.ntmps21
    go_wp2
    go_ret
    exact ⟨rfl, Below.refl _ _⟩
  have hd2 : decide (12 < (n : Int)) = false := decide_eq_false (by omega)
  have hbel0 : Below w.heap.size w (w.alloc (Obj.cells (seenL []).toArray 61)) := (Below.refl _ _).alloc (Nat.le_refl _) _
  have hblk0 := heap_alloc_new w (Obj.cells (seenL []).toArray 61)
  go_enter Try.func21, Try.ntmps21
  go_wp2_with (first
    | (refine wpList_allocS rfl rfl ?_))
  generalize w.alloc (Obj.cells (seenL []).toArray 61) = W0 at *
  have HS : Hid (w.heap.size = w.heap.size) := rfl
  go_loopw [16] (fun i wr => ∃ k : Nat, i = .int .i64 k ∧ k ≤ n ∧ wr.heap[w.heap.size]? = some (.cells (seenL (l.take k)).toArray 61 (0, 0)) ∧ Part l k ∧ Below w.heap.size w wr) (fun i _ => n - (intOf i).toNat)
  case atStart => exact ⟨0, rfl, Nat.zero_le _, hblk0, Part.none l, hbel0⟩
  case round =>
    obtain ⟨k, rfl, hk, hblk, hpart, hbel⟩ := hrel
    have HBK := Lib.hid hblk
    have HP := Lib.hid hpart
    clear hblk hpart hblk0 hbel0
    by_cases hlt : k < n
    · obtain ⟨x, hx⟩ : ∃ x, l[k]? = some x := ⟨_, List.getElem?_eq_getElem (by rw [HN.out]; exact hlt)⟩
      have hxo := HO.out x (List.mem_of_getElem? hx)
      obtain ⟨ad, rfl, hat⟩ := HY.out.keep hbel k x hx
      have HX := Lib.hid hx
      have H56 := Lib.hid hxo.len
      have HAT := Lib.hid hat
      have hxt := hxo.t
      have hxk := hxo.k
      clear hx hat hxo
      go_upto_region 7 with (first
        | (refine wpList_loadWp rfl (.tmp 18) rfl (ad.add (k * 58)) rfl x H56.out HAT.out ?_)
        | (refine wpList_allocW rfl rfl ?_)
        | (refine wpList_storeW rfl (.tmp 5) (.tmp 19) rfl wr.heap.size rfl x zW rfl H56.out zW_len (heap_alloc_new wr _) ?_))
      have hnew := new_wr wr x
      have hbn := new_wr_below wr x
      have hlt2 := room_lt HBK.out
      have hbl2 : ((wr.alloc (.cells (wrA zW) 46)).setRow wr.heap.size (wrA x)).heap[w.heap.size]? = _ := (hbn.block _ hlt2).trans HBK.out
      have hbel2 := keepB hbel hbn
      generalize (wr.alloc (.cells (wrA zW) 46)).setRow wr.heap.size (wrA x) = W2 at *
      generalize wr.heap.size = g5 at *
      have c0 : W2.cell? ⟨g5, 0, none⟩ = _ := (wrAt_blk hnew).c0
      have c1 : W2.cell? ⟨g5, 1, none⟩ = _ := (wrAt_blk hnew).c1
      have HBK2 := Lib.hid hbl2
      clear hnew hbn hbl2 HBK hbel HAT
      by_cases q1 : x.k < 0
      · have hno : ¬ MayL l := not_may_kind HX.out (fun h => by have := h.1; omega)
        have e1 : decide (x.k < 0) = true := decide_eq_true q1
        have HNO := Lib.hid hno
        clear hno
        go_wp2
        go_ret
        exact ⟨ret_bool (decide_eq_false HNO.out).symm, hbel2⟩
      have e1 : decide (x.k < 0) = false := decide_eq_false q1
      by_cases q2 : 7 < x.k
      · have hno : ¬ MayL l := not_may_kind HX.out (fun h => by have := h.1; omega)
        have e2 : decide (7 < x.k) = true := decide_eq_true q2
        have HNO := Lib.hid hno
        clear hno
        go_wp2
        go_ret
        exact ⟨ret_bool (decide_eq_false HNO.out).symm, hbel2⟩
      have e2 : decide (7 < x.k) = false := decide_eq_false q2
      by_cases q3 : x.t < 0
      · have hno : ¬ MayL l := not_may_kind HX.out (fun h => by have := h.2; omega)
        have e3 : decide (x.t < 0) = true := decide_eq_true q3
        have HNO := Lib.hid hno
        clear hno
        go_wp2
        go_ret
        exact ⟨ret_bool (decide_eq_false HNO.out).symm, hbel2⟩
      have e3 : decide (x.t < 0) = false := decide_eq_false q3
      by_cases q4 : 200 ≤ x.t
      · have hno : ¬ MayL l := not_may_kind HX.out (fun h => by have := h.2; omega)
        have e4 : decide (200 ≤ x.t) = true := decide_eq_true q4
        have HNO := Lib.hid hno
        clear hno
        go_wp2
        go_ret
        exact ⟨ret_bool (decide_eq_false HNO.out).symm, hbel2⟩
      obtain ⟨m, hm⟩ : ∃ m : Nat, x.t = (m : Int) := ⟨x.t.toNat, by omega⟩
      have HM := Lib.hid hm
      rw [hm] at c0 e3 q4
      have e4 : decide (200 ≤ (m : Int)) = false := decide_eq_false q4
      have hm200 : m < 200 := by omega
      have cs : W2.cell? ⟨w.heap.size, m, none⟩ = some (.bool (decide (∃ y ∈ l.take k, y.t = (m : Int)))) := by
        rw [blk_cell HBK2.out, List.getElem?_toArray]; exact seenL_at _ hm200
      have fs : W2.frozen? ⟨w.heap.size, m, none⟩ = false := blk_free HBK2.out m
      have hmay : MayB x.k x.t := ⟨by omega, by omega⟩
      have HMAY := Lib.hid hmay
      clear hmay hm q4 q3 hxt
      by_cases q5 : ∃ y ∈ l.take k, y.t = (m : Int)
      · have hno : ¬ MayL l := not_may_seen HX.out (by rw [HM.out]; exact q5)
        rw [decide_eq_true q5] at cs
        have HNO := Lib.hid hno
        clear hno q5
        go_wp2
        go_ret
        exact ⟨ret_bool (decide_eq_false HNO.out).symm, hbel2⟩
      · have HQ := Lib.hid q5
        rw [decide_eq_false q5] at cs
        clear q5
        go_wp2
        go_roundw
        case rel =>
          refine ⟨k + 1, by go_num, by omega, ?_, HP.out.next HX.out HMAY.out (by rw [HM.out]; exact HQ.out), hbel2.setCell (Nat.le_refl _) _⟩
          rw [heap_setCell_same' HBK2.out, take_snoc' HX.out, ← seenL_set _ HM.out]; simp
        case measure => simp [intOf]; omega
    · have hyes : MayL l := HP.out.all (by rw [HN.out]; omega) (by rw [HN.out]; omega)
      have HYES := Lib.hid hyes
      clear hyes
      go_wp2
      go_ret
      exact ⟨ret_bool (decide_eq_true HYES.out).symm, hbel⟩
end Go.Proofs.Ytflldlhfeiamnaa
