/- Contract: clathriref4's Get. -/
import Derived.Test.YtbcnjilhibkcnaaMd
namespace Go.Proofs.Ytbcnjilhibkcnaa
open Go.ChangeShapes Go.WideShapes Go.ChangeAt Go.RowKit
set_option linter.unusedVariables false
theorem RA.row {W : World} {h F x : Nat} {X : List Ent} {R : Nat → Prop} (H : RA W h F X R) (C : Array Value) (hx : ¬ R x) : RA (W.setRow x C) h F X R := by
  have hs : Stp (fun k => k = x) W (W.setRow x C) := ⟨rfl, rfl, rfl, by simp, fun k _ hn => setRow_other _ _ _ _ hn⟩
  exact H.kept hs (fun k hk e => hx (by rw [← e]; exact hk))
theorem New.wider {R : Nat → Prop} {w w1 w2 w' : World} (h1 : w.heap.size ≤ w1.heap.size) (h2 : w2.heap.size ≤ w'.heap.size) {k : Nat} (h : New R w1 w2 k) : New R w w' k := h.imp id fun h => ⟨by omega, by omega⟩
set_option maxRecDepth 100000 in
set_option maxHeartbeats 1600000 in
theorem rget_any {w : World} {h F : Nat} {X : List Ent} {R : Nat → Prop} (H0 : RA w h F X R) (hR : ∀ k, R k → k < w.heap.size) (t : Int) (ht : i64 t) :
    Calls Try.prog 11 #[.pointer (some ⟨h, 0, none⟩), .int .i64 t] w fun e w' => e = .returned (ansM X t) ∧ RA w' h F (getM X t) (New R w w') ∧ Stp R w w' := by
  have hbel0 : Below w.heap.size w (w.alloc (.cells (blkA 0 zBs) 32)) := (Below.refl _ _).alloc (Nat.le_refl _) _
  have H1 := Lib.hid (H0.below hbel0)
  have HM1 := Lib.hid (heap_alloc_new w (.cells (blkA 0 zBs) 32))
  have HB1 := Lib.hid hbel0
  have HRL := Lib.hid hR
  have HNR : Hid (¬ R w.heap.size) := fun e => by have := hR _ e; omega
  have hz := zBs_len
  have HSZ : Hid ((w.alloc (.cells (blkA 0 zBs) 32)).heap.size = w.heap.size + 1) := size_alloc' _ _
  have HEO : Hid (EntsOk X) := let ⟨_, H⟩ := H0; H.ok
  clear H0 hbel0 hR
  go_enter Try.func11, Try.ntmps11
  go_upto_region 1 with (first
    | (refine wpList_allocB rfl rfl ?_))
  generalize w.alloc (.cells (blkA 0 zBs) 32) = W1 at *
  go_wp2_with fail
  refine (rpeek_any H1.out t ht).mono ?_
  rintro e W2 ⟨rfl, hb2⟩
  have HS1 : Hid (W1.heap.size ≤ W2.heap.size) := hb2.size
  rcases hp : posL X t with _ | k
  · have HANS : Hid (ansM X t = ansB 0 zBs false) := by unfold Hid ansM; rw [hp]
    have HGET : Hid (getM X t = X) := by unfold Hid getM; rw [hp]
    rw [show (ansM X t) = ansB 0 zBs false from HANS.out]
    unfold ansB
    have hb3 := new_bk_below W2 0 zBs
    have H3 := Lib.hid ((H1.out.below hb2).below hb3)
    have HM3 := Lib.hid (kb hb3 (kb hb2 HM1.out))
    have HB3 := Lib.hid (keepB (keepB HB1.out hb2) hb3)
    have HK3 := Lib.hid (new_bk W2 0 zBs)
    have HZ2 := Lib.hid (heap_alloc_new W2 (.cells (blkA 0 zBs) 32))
    clear hb2 hb3 hp H1 HM1 HB1
    go_upto_region 2 with (first
      | (refine wpList_allocB rfl rfl ?_)
      | (refine wpList_storeB rfl (.tmp 6) (.tmp 12) rfl W2.heap.size rfl 0 0 zBs zBs rfl hz hz HZ2.out ?_))
    clear HZ2
    generalize (W2.alloc (.cells (blkA 0 zBs) 32)).setRow W2.heap.size (blkA 0 zBs) = W3 at *
    generalize W2.heap.size = g6 at *
    go_wp2_with (first
      | (refine wpList_loadB rfl (.tmp 6) rfl g6 rfl 0 zBs hz HK3.out ?_)
      | (refine wpList_storeB rfl (.tmp 4) (.tmp 20) rfl w.heap.size rfl 0 0 zBs zBs rfl hz hz HM3.out ?_))
    (try simp only [Exit.jump])
    refine bodyPost_ret (results_blk rfl _ _ w.heap.size 0 zBs rfl hz (setRow_heap _ _ _ _ _ _ HM3.out)) rfl ?_
    exact ⟨by rw [HANS.out]; rfl, by rw [HGET.out]; exact (H3.out.row _ HNR.out).mono (fun _ hk => .inl hk), (Stp.refl R w).ofBelow (below_setRow HB3.out (Nat.le_refl _) _)⟩
  · obtain ⟨x, hx, hxt⟩ := posL_is hp
    have hx56 := (HEO.out.at hx).len
    have HANS : Hid (ansM X t = ansB x.1.k x.1.bs true) := by unfold Hid ansM; rw [hp]; simp only; rw [getD_of hx]
    have HGET : Hid (getM X t = x :: X.eraseIdx k) := by unfold Hid getM; rw [hp]; simp only; rw [getD_of hx]
    have HPL : Hid (placeI X t = k) := by unfold Hid placeI; rw [hp]
    rw [show (ansM X t) = ansB x.1.k x.1.bs true from HANS.out]
    unfold ansB
    have hb3 := new_bk_below W2 x.1.k x.1.bs
    have H3 := Lib.hid ((H1.out.below hb2).below hb3)
    have HM3 := Lib.hid (kb hb3 (kb hb2 HM1.out))
    have HB3 := Lib.hid (keepB (keepB HB1.out hb2) hb3)
    have HK3 := Lib.hid (new_bk W2 x.1.k x.1.bs)
    have HZ2 := Lib.hid (heap_alloc_new W2 (.cells (blkA 0 zBs) 32))
    have HXI := Lib.hid hx
    have HN6 : Hid (¬ R W2.heap.size) := fun e => by have := HRL.out _ e; have := HS1.out; have := HSZ.out; omega
    clear hb2 hb3 hp H1 HM1 HB1 hx hxt
    go_upto_region 2 with (first
      | (refine wpList_allocB rfl rfl ?_)
      | (refine wpList_storeB rfl (.tmp 6) (.tmp 12) rfl W2.heap.size rfl x.1.k 0 x.1.bs zBs rfl hx56 hz HZ2.out ?_))
    clear HZ2
    generalize (W2.alloc (.cells (blkA 0 zBs) 32)).setRow W2.heap.size (blkA x.1.k x.1.bs) = W3 at *
    generalize W2.heap.size = g6 at *
    obtain ⟨v3, hv3⟩ := H3.out
    have HPC := Lib.hid (rplace_any hv3 t ht)
    rw [HPL.out] at HPC
    have HFC := Lib.hid (rfront_any H3.out (fun k hk => Nat.lt_of_lt_of_le (HRL.out k hk) HB3.out.size) HXI.out)
    clear hv3
    go_wp2_with fail
    refine HPC.out.mono ?_
    rintro e w' ⟨rfl, rfl⟩
    go_wp2_with fail
    refine HFC.out.mono ?_
    rintro e W4 ⟨rfl, h4, hs4⟩
    have H4 := Lib.hid h4
    have HS4 : Hid (Stp R w W4) := ((Stp.refl R w).ofBelow HB3.out).trans hs4 (fun _ _ h => h)
    have HM4 : Hid (W4.heap[w.heap.size]? = some (.cells (blkA 0 zBs) 32 (0, 0))) := hs4.heap HM3.out HNR.out
    have HK4 : Hid (W4.heap[g6]? = some (.cells (blkA x.1.k x.1.bs) 32 (0, 0))) := hs4.heap HK3.out HN6.out
    have HNN : Hid (¬ New R W3 W4 w.heap.size) := fun e => e.elim HNR.out (fun e => by have := room_lt HM3.out; omega)
    clear h4 hs4 HM3 HK3 H3 HPC HFC
    go_wp2_with (first
      | (refine wpList_loadB rfl (.tmp 6) rfl g6 rfl x.1.k x.1.bs hx56 HK4.out ?_)
      | (refine wpList_storeB rfl (.tmp 4) (.tmp 20) rfl w.heap.size rfl x.1.k 0 x.1.bs zBs rfl hx56 hz HM4.out ?_))
    (try simp only [Exit.jump])
    refine bodyPost_ret (results_blk rfl _ _ w.heap.size x.1.k x.1.bs rfl hx56 (setRow_heap _ _ _ _ _ _ HM4.out)) rfl ?_
    exact ⟨by rw [HANS.out]; rfl, by rw [HGET.out]; exact (H4.out.row _ HNN.out).mono (fun _ hk => New.wider HB3.out.size (by rw [size_setRow]; exact Nat.le_refl _) hk), HS4.out.row (Nat.le_refl _) _⟩
end Go.Proofs.Ytbcnjilhibkcnaa
