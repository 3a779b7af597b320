/- Contract: rec.Put. -/
import Derived.Test.YtflldlhfeiamnaaEj
namespace Go.Proofs.Ytflldlhfeiamnaa
open Go.ChangeShapes Go.WideShapes Go.ChangeAt Go.RowKit
set_option linter.unusedVariables false
set_option maxRecDepth 100000 in
set_option maxHeartbeats 3200000 in
theorem put_any (lb : Int) (e s : Nat) (A : Option Addr) (l : List Wr) (n d : Nat) (w : World) (hlb : 0 ≤ lb ∧ lb ≤ 255) (he : e < 4294967296) (hs : s < 4294967296) (hn : l.length = n) (hl : n ≤ d) (hd : d ≤ 9223372036854775807) (hok : WrsOk l) (hy : Wrs w A l) :
    Calls Try.prog 10 #[.int .u8 lb, .int .u32 e, .int .u32 s, .slice A n d] w fun en w' => ∃ v, en = .returned (.tuple #[v, .bool (decide (MayL l))]) ∧ OwnTx w' w.heap.size v (putX lb e s l) ∧ Below w.heap.size w w' := by
  have HY := Lib.hid hy
  have HN := Lib.hid hn
  have HO := Lib.hid hok
  have HC := Lib.hid (may_any A l n d w hn hl hd hok hy)
  clear hn hok hy
  by_cases hmay : MayL l
  · have hn12 : n ≤ 12 := by rw [← HN.out]; exact hmay.1.2
    have HMAY := Lib.hid hmay
    have HX : Hid (putX lb e s l = putL lb e s l) := by unfold Hid putX; rw [if_pos hmay]
    obtain ⟨i0, hi, hz0, hz1, hz2⟩ := info_parts infoT
    have hmk := fun w : World => run_make (P := Try.prog) w 24 25 i0 _ Try.underlying24 hi hz0 .i64 .i64 0 (1 + (n : Int)) (by omega) (by omega) (by rw [hz2]; omega) (by omega)
    generalize hM : madeCells (Value.slice none 0 0).cells ((1 + (n : Int)).toNat * i0.size) = M at hmk
    have HM : Hid (M.size = 1 + n) := by unfold Hid; rw [← hM, size_madeCells, hz1]; omega
    rw [show (1 + (n : Int)).toNat = 1 + n by omega, show ((0 : Int)).toNat = 0 by omega] at hmk
    rw [decide_eq_true hmay] at HC ⊢
    clear hM hi hz0 hz1 hz2 hmay
    go_enter Try.func10, Try.ntmps10
    go_wp2_with fail
    refine HC.out.mono ?_
    rintro en w1 ⟨rfl, hb1⟩
    have HY1 := Lib.hid (HY.out.keep hb1)
    clear HC
    go_upto_region 4 with fail
    have own2 := own_room w1 w.heap.size M (1 + n) hb1.size (by simp only [maxLen]; omega) HM.out
    have B2 : Below w.heap.size w (w1.alloc (Obj.cells M 25)) := hb1.alloc hb1.size _
    have HY2 := Lib.hid (HY1.out.keep ((Below.refl w1.heap.size w1).alloc (Nat.le_refl _) (Obj.cells M 25)))
    generalize w1.alloc (Obj.cells M 25) = W2 at *
    clear hmk HY1 hb1
    go_wp2_with fail
    refine (head_any lb e s A l n d W2 hlb he hs HN.out hl hd HO.out HY2.out HMAY.out).mono ?_
    rintro en w3 ⟨u3, rfl, own3, hb3⟩
    have OT3 := own2.keep hb3
    have B3 := keepB B2 hb3
    have own3' := own3.mono B2.size
    clear own2 own3 B2
    have hsl : (sumd (headR lb e s l)).length = 64 := sumd_length (by rw [headR_length, HN.out]; omega)
    obtain ⟨A3, d3, rfl, _, _, _⟩ := byt_own own3' hsl
    rw [hsl] at own3' ⊢
    go_wp2_with (first
      | (at_builtin
         refine wpList_app_txs _ rfl (.tmp 20) (.tmp 26) rfl w.heap.size _ [] rfl (OT3.alloc _) ⟨w3.heap.size, 0, none⟩ 1 1 rfl [_] [sumd (headR lb e s l)] rfl (named_one (by rw [hsl]; exact own3'.alloc _)) (cell_one_new _ _ _) (by simp) (by rw [size_alloc']; have := B3.size; omega) ?_
         intro v4 w4 OT4 hg4 _
         have B4 : Below w.heap.size w w4 := (B3.alloc B3.size _).trans (grown_below hg4 (by rw [size_alloc']; have := B3.size; omega) OT3.low)
         have OT4' : OwnTx w4 w.heap.size v4 (putK lb e s l 0) := OT4
         clear OT4 OT3 own3' B3 hg4))
    clear hsl
    go_loopw [10, 30] (fun v i wr => ∃ k : Nat, i = .int .i64 k ∧ k ≤ n ∧ OwnTx wr w.heap.size v (putK lb e s l k) ∧ Below w.heap.size w wr) (fun _ i _ => n - (intOf i).toNat)
    case atStart => exact ⟨0, rfl, Nat.zero_le _, OT4', B4⟩
    case round =>
      obtain ⟨v, rfl⟩ : ∃ v, v = u10 := ⟨u10, rfl⟩
      obtain ⟨k, rfl, hk, OT, hbel⟩ := hrel
      clear OT4' B4
      by_cases hlt : k < n
      · obtain ⟨x, hx⟩ : ∃ x, l[k]? = some x := ⟨_, List.getElem?_eq_getElem (by rw [HN.out]; exact hlt)⟩
        have hxo := HO.out x (List.mem_of_getElem? hx)
        obtain ⟨ad, rfl, hat⟩ := HY.out.keep hbel k x hx
        have H56 := Lib.hid hxo.len
        have HXO := Lib.hid hxo
        have HAT := Lib.hid hat
        have HK := Lib.hid (putK_snoc (lb := lb) (e := e) (s := s) hx)
        have hpl : (putK lb e s l k).length = 1 + k := putK_length (by rw [HN.out]; omega)
        have hnew := new_wr wr x
        have hbn := new_wr_below wr x
        clear hx hat hxo
        go_upto_region 8 with (first
          | (refine wpList_loadWp rfl (.tmp 32) rfl (ad.add (k * 58)) rfl x H56.out HAT.out ?_)
          | (refine wpList_allocW rfl rfl ?_)
          | (refine wpList_storeW rfl (.tmp 12) (.tmp 33) rfl wr.heap.size rfl x zW rfl H56.out zW_len (heap_alloc_new wr _) ?_))
        have OT5 := OT.keep hbn
        have B5 := keepB hbel hbn
        have HNW := Lib.hid hnew
        clear hnew hbn OT hbel
        generalize (wr.alloc (.cells (wrA zW) 46)).setRow wr.heap.size (wrA x) = W5 at *
        generalize wr.heap.size = g5 at *
        go_wp2_with (first
          | (refine wpList_loadW rfl (.tmp 12) rfl g5 rfl x H56.out HNW.out ?_))
        refine (bearer_any e s x W5 he hs HXO.out).mono ?_
        rintro en w6 ⟨u6, rfl, own6, hb6⟩
        have OT6 := OT5.keep hb6
        have B6 := keepB B5 hb6
        have own6' := own6.mono B5.size
        have hsl : (sumd (bearB e s x.bs)).length = 64 := sumd_length (by rw [bearB_length H56.out]; omega)
        obtain ⟨A6, d6, rfl, _, _, _⟩ := byt_own own6' hsl
        rw [hsl] at own6' ⊢
        clear OT5 B5 own6 hb6
        go_wp2_with (first
          | (at_builtin
             refine wpList_app_txs _ rfl (.tmp 34) (.tmp 39) rfl w.heap.size _ _ rfl (OT6.alloc _) ⟨w6.heap.size, 0, none⟩ 1 1 rfl [_] [sumd (bearB e s x.bs)] rfl (named_one (by rw [hsl]; exact own6'.alloc _)) (cell_one_new _ _ _) (by rw [hpl]; omega) (by rw [size_alloc']; have := B6.size; omega) ?_
             intro v7 w7 OT7 hg7 _
             have B7 : Below w.heap.size w w7 := (B6.alloc B6.size _).trans (grown_below hg7 (by rw [size_alloc']; have := B6.size; omega) OT6.low)
             have OT7' : OwnTx w7 w.heap.size v7 (putK lb e s l (k + 1)) := by rw [HK.out]; exact OT7
             clear OT7 OT6 own6' B6 hg7))
        go_roundw
        case rel => exact ⟨k + 1, by go_num, by omega, OT7', B7⟩
        case measure => simp [intOf]; omega
      · obtain rfl : k = n := by omega
        have HE := Lib.hid (putK_all (lb := lb) (e := e) (s := s) (l := l) (k := k) (by rw [HN.out]; omega))
        go_wp2_with fail
        go_ret2
        exact ⟨v, rfl, by rw [HX.out, ← HE.out]; exact OT, hbel⟩
  · have HX : Hid (putX lb e s l = []) := by unfold Hid putX; rw [if_neg hmay]
    rw [decide_eq_false hmay] at HC ⊢
    clear hmay
    go_enter Try.func10, Try.ntmps10
    go_wp2_with fail
    refine HC.out.mono ?_
    rintro en w1 ⟨rfl, hb1⟩
    go_wp2_with fail
    go_ret2
    exact ⟨.slice none 0 0, rfl, by rw [HX.out]; exact OwnTx.nil _ _, hb1⟩
end Go.Proofs.Ytflldlhfeiamnaa
