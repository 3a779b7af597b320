/- Contracts: rec.head, rec.bearer. -/
import Derived.Test.YtflldlhfeiamnaaEg
namespace Go.Proofs.Ytflldlhfeiamnaa
open Go.ChangeShapes Go.WideShapes Go.ChangeAt Go.RowKit
set_option linter.unusedVariables false
theorem told_snoc {l : List Wr} {k : Nat} {x : Wr} {m : Nat} (hx : l[k]? = some x) (hm : x.t = (m : Int)) : told (l.take (k + 1)) = (told (l.take k) ++ be m 2) ++ [x.k] := by
  rw [take_snoc' hx, told_append]
  show _ ++ ((be x.t.toNat 2 ++ [x.k]) ++ []) = _
  rw [hm, Int.toNat_natCast, List.append_nil, List.append_assoc]
set_option maxRecDepth 100000 in
set_option maxHeartbeats 3200000 in
theorem head_any (lb : Int) (e s : Nat) (A : Option Addr) (l : List Wr) (n d : Nat) (w : World) (hlb : 0 ≤ lb ∧ lb ≤ 255) (he : e < 4294967296) (hs : s < 4294967296) (hn : l.length = n) (hl : n ≤ d) (hd : d ≤ 9223372036854775807) (hok : WrsOk l) (hy : Wrs w A l) (hmay : MayL l) :
    Calls Try.prog 22 #[.int .u8 lb, .int .u32 e, .int .u32 s, .slice A n d] w fun en w' => ∃ v, en = .returned v ∧ w'.ownsRow w.heap.size 5 1 v 64 (Bs (sumd (headR lb e s l))) ∧ Below w.heap.size w w' := by
  have hn12 : n ≤ 12 := by have := hmay.1.2; omega
  have HY := Lib.hid hy
  have HN := Lib.hid hn
  have HO := Lib.hid hok
  have HMAY := Lib.hid hmay
  have HHB := Lib.hid (headR_allB e s hlb hmay)
  have HHL := Lib.hid (headR_length lb e s l)
  clear hn hok hy hmay
  have hwn : IntKind.u8.wrap (n : Int) = n := IntWalk.u8_in _ (by omega)
  have own0 := own_new w w.heap.size 5 2 #[.int .u8 72, .int .u8 lb] (Bs [72, lb]) (Nat.le_refl _) rfl (by decide) rfl
  have B0 : Below w.heap.size w (w.alloc (Obj.cells #[.int .u8 72, .int .u8 lb] 5)) := (Below.refl _ _).alloc (Nat.le_refl _) _
  go_enter Try.func22, Try.ntmps22
  go_upto_region 2 with fail
  generalize w.alloc (Obj.cells #[.int .u8 72, .int .u8 lb] 5) = W0 at *
  go_wp2_with fail
  refine (num_any W0 w.heap.size _ 2 [72, lb] e 4 own0 B0.size (by omega) (by omega) (by omega) he).mono ?_
  rintro en w1 ⟨v1, rfl, own1, hb1, _⟩
  have B1 := B0.trans hb1
  clear own0 B0 hb1
  go_wp2_with fail
  refine (num_any w1 w.heap.size v1 6 _ s 4 own1 B1.size (by omega) (by omega) (by omega) hs).mono ?_
  rintro en w2 ⟨v2, rfl, own2, hb2, _⟩
  have B2 := B1.trans hb2
  clear own1 B1 hb2
  go_wp2_with (first
    | (at_builtin
       refine wpList_app_any _ rfl (.tmp 20) (.tmp 24) rfl w.heap.size v2 10 _ _ rfl (Or.inl ⟨own2.alloc _, rfl⟩) (some ⟨w2.heap.size, 0, none⟩) 1 1 [(n : Int)] rfl (byt_blk (heap_alloc_new _ _) rfl) rfl (by omega) (by omega) (by rw [size_alloc']; have := B2.size; omega) ?_
       intro v3 w3 h3 hb3 _
       have B3 : Below w.heap.size w w3 := (B2.alloc B2.size _).trans (grown_below hb3 (by rw [size_alloc']; have := B2.size; omega) (fun k hk => (own2.lt k hk).1))
       have own3 : w3.ownsRow w.heap.size 5 1 v3 11 (Bs (front lb e s n ++ told (l.take 0))) := by
         rw [show told (l.take 0) = [] from rfl, List.append_nil]; exact h3
       clear h3 hb3 own2 B2))
  go_loopw [9, 28] (fun v i wr => ∃ k : Nat, i = .int .i64 k ∧ k ≤ n ∧ wr.ownsRow w.heap.size 5 1 v (11 + 3 * k) (Bs (front lb e s n ++ told (l.take k))) ∧ Below w.heap.size w wr) (fun _ i _ => n - (intOf i).toNat)
  case atStart => exact ⟨0, rfl, Nat.zero_le _, own3, B3⟩
  case round =>
    obtain ⟨v, rfl⟩ : ∃ v, v = u9 := ⟨u9, rfl⟩
    obtain ⟨k, rfl, hk, own, hbel⟩ := hrel
    clear own3 B3
    by_cases hlt : k < n
    · obtain ⟨x, hx⟩ : ∃ x, l[k]? = some x := ⟨_, List.getElem?_eq_getElem (by rw [HN.out]; exact hlt)⟩
      have hxo := HO.out x (List.mem_of_getElem? hx)
      have hxm := HMAY.out.2.1 x (List.mem_of_getElem? hx)
      obtain ⟨m, hm⟩ : ∃ m : Nat, x.t = (m : Int) := ⟨x.t.toNat, by have := hxm.2; omega⟩
      have hm200 : m < 200 := by have := hxm.2; omega
      have hk7 := hxm.1
      obtain ⟨ad, rfl, hat⟩ := HY.out.keep hbel k x hx
      have H56 := Lib.hid hxo.len
      have HAT := Lib.hid hat
      have HT := Lib.hid (told_snoc hx hm)
      have HM := Lib.hid hm
      have wm : IntKind.u32.wrap (m : Int) = m := IntWalk.u32_in _ (by omega)
      have wk : IntKind.u8.wrap x.k = x.k := IntWalk.u8_in _ (by omega)
      have hnew := new_wr wr x
      have hbn := new_wr_below wr x
      clear hx hat hxo hxm
      go_upto_region 8 with (first
        | (refine wpList_loadWp rfl (.tmp 30) rfl (ad.add (k * 58)) rfl x H56.out HAT.out ?_)
        | (refine wpList_allocW rfl rfl ?_)
        | (refine wpList_storeW rfl (.tmp 11) (.tmp 31) rfl wr.heap.size rfl x zW rfl H56.out zW_len (heap_alloc_new wr _) ?_))
      have own4 := ownB own hbn
      have HV := Lib.hid own
      have B4 := keepB hbel hbn
      have c0 : ((wr.alloc (.cells (wrA zW) 46)).setRow wr.heap.size (wrA x)).cell? ⟨wr.heap.size, 0, none⟩ = _ := (wrAt_blk hnew).c0
      have c1 : ((wr.alloc (.cells (wrA zW) 46)).setRow wr.heap.size (wrA x)).cell? ⟨wr.heap.size, 1, none⟩ = _ := (wrAt_blk hnew).c1
      have hg5 : w.heap.size ≤ wr.heap.size := hbel.size
      have hlt5 := room_lt hnew
      generalize (wr.alloc (.cells (wrA zW) 46)).setRow wr.heap.size (wrA x) = W4 at *
      have hVlt : v.ownBlock ≠ some wr.heap.size := fun h => Nat.lt_irrefl _ (HV.out.lt _ h).2
      generalize wr.heap.size = g5 at *
      have HNE := Lib.hid hVlt
      clear hVlt HV
      rw [hm] at c0
      clear hnew hbn own hbel hm
      go_wp2_with fail
      refine (num_any W4 w.heap.size v (11 + 3 * k) _ m 2 own4 B4.size (by omega) (by omega) (by omega) (by omega)).mono ?_
      rintro en w5 ⟨v5, rfl, own5, hb5, hg5', hn5⟩
      have c1' : w5.cell? ⟨g5, 1, none⟩ = _ := (World.cell?_of_block (hg5'.block g5 hlt5 (fun h => HNE.out h.symm))).trans c1
      have B5 := B4.trans hb5
      clear own4 B4 hb5 hg5' hn5 c0 c1
      go_wp2_with (first
        | (at_builtin
           refine wpList_app_any _ rfl (.tmp 37) (.tmp 42) rfl w.heap.size v5 (11 + 3 * k + 2) _ _ rfl (Or.inl ⟨own5.alloc _, rfl⟩) (some ⟨w5.heap.size, 0, none⟩) 1 1 [x.k] rfl (byt_blk (heap_alloc_new _ _) rfl) rfl (by omega) (by omega) (by rw [size_alloc']; have := B5.size; omega) ?_
           intro v6 w6 h6 hb6 _
           have B6 : Below w.heap.size w w6 := (B5.alloc B5.size _).trans (grown_below hb6 (by rw [size_alloc']; have := B5.size; omega) (fun k hk => (own5.lt k hk).1))
           have H6 : w6.ownsRow w.heap.size 5 1 v6 (11 + 3 * (k + 1)) (Bs (front lb e s n ++ told (l.take (k + 1)))) := by
             rw [HT.out, show 11 + 3 * (k + 1) = 11 + 3 * k + 2 + 1 by omega, ← List.append_assoc, ← List.append_assoc]; exact h6
           clear h6 hb6 own5 B5))
      go_roundw
      case rel => exact ⟨k + 1, by go_num, by omega, H6, B6⟩
      case measure => simp [intOf]; omega
    · obtain rfl : k = n := by omega
      have e0 : l.take k = l := List.take_of_length_le (by rw [HN.out]; omega)
      have eH : headR lb e s l = front lb e s k ++ told l := by unfold headR; rw [HN.out]
      rw [e0, ← eH] at own
      have HE := Lib.hid own
      have HL : Hid ((headR lb e s l).length = 11 + 3 * k) := by unfold Hid; rw [HHL.out, HN.out]
      obtain ⟨A3, d3, rfl, hle3, hd3, hy3⟩ := byt_own own HL.out
      rw [HL.out] at HE ⊢
      have HY3 := Lib.hid hy3
      clear own e0 eH hy3 hle3
      go_wp2_with fail
      refine (summed_any A3 (headR lb e s l) (11 + 3 * k) d3 wr HL.out (by omega) HHB.out HY3.out).mono ?_
      rintro en w5 ⟨v5, rfl, own5, hb5⟩
      go_wp2_with fail
      go_ret
      exact ⟨v5, rfl, own5.mono hbel.size, keepB hbel hb5⟩
set_option maxRecDepth 100000 in
set_option maxHeartbeats 3200000 in
theorem bearer_any (e s : Nat) (x : Wr) (w : World) (he : e < 4294967296) (hs : s < 4294967296) (hok : x.Ok) :
    Calls Try.prog 23 #[.int .u32 e, .int .u32 s, .agg (wrA x)] w fun en w' => ∃ v, en = .returned v ∧ w'.ownsRow w.heap.size 5 1 v 64 (Bs (sumd (bearB e s x.bs))) ∧ Below w.heap.size w w' := by
  have H56 := Lib.hid hok.len
  have HB := Lib.hid hok.b
  have hblk := heap_alloc_new w (Obj.cells (wrA x) 46)
  have hby : Byt (w.alloc (Obj.cells (wrA x) 46)) (some ⟨w.heap.size, 2, none⟩) x.bs := (wrAt_blk hblk).body
  have hbel : Below w.heap.size w (w.alloc (Obj.cells (wrA x) 46)) := (Below.refl _ _).alloc (Nat.le_refl _) _
  have HBY := Lib.hid hby
  have HBB := Lib.hid (bearB_allB (e := e) (s := s) hok.b)
  have HBL := Lib.hid (bearB_length (e := e) (s := s) hok.len)
  clear hblk hby hok
  go_enter Try.func23, Try.ntmps23
  go_wp2_with fail
  generalize w.alloc (Obj.cells (wrA x) 46) = W0 at *
  refine (num_app W0 w.heap.size _ 56 x.bs none e 2 (Or.inr ⟨rfl, w.heap.size, 2, rfl, H56.out, HBY.out⟩) hbel.size (by omega) (by omega) (by omega) he).mono ?_
  rintro en w1 ⟨v1, rfl, own1, hg1, _⟩
  have B1 := hbel.grown hg1 hbel.size (fun k hk => by cases hk)
  clear hg1 hbel HBY
  go_wp2_with fail
  refine (num_any w1 w.heap.size v1 58 _ s 2 own1 B1.size (by omega) (by omega) (by omega) hs).mono ?_
  rintro en w2 ⟨v2, rfl, own2, hb2, _⟩
  have B2 := B1.trans hb2
  have own2' : w2.ownsRow w.heap.size 5 1 v2 60 (Bs (bearB e s x.bs)) := own2
  obtain ⟨A3, d3, rfl, hle3, hd3, hy3⟩ := byt_own own2' HBL.out
  rw [HBL.out]
  have HY3 := Lib.hid hy3
  clear own1 own2 own2' B1 hb2 hy3 hle3
  go_wp2_with fail
  refine (summed_any A3 (bearB e s x.bs) 60 d3 w2 HBL.out (by omega) HBB.out HY3.out).mono ?_
  rintro en w5 ⟨v5, rfl, own5, hb5⟩
  go_wp2_with fail
  go_ret
  exact ⟨v5, rfl, own5.mono B2.size, keepB B2 hb5⟩
end Go.Proofs.Ytflldlhfeiamnaa
