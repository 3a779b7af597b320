/- Contract: cache.Put. -/
import Derived.Test.YtbcnjilhibkcnaaKh
namespace Go.Proofs.Ytbcnjilhibkcnaa
open Go.ChangeShapes Go.WideShapes Go.ChangeAt Go.RowKit
open Fx
set_option linter.unusedVariables false
/-- What Put tells. -/
def ansW (x : Wr) (b : Bool) : Value := .tuple #[.agg (wrA x), .bool b]
theorem put_nil (w : World) (t c : Int) (bs : List Int) (d : Bool) :
    Calls Try.prog 16 #[.pointer none, .int .i64 t, .agg (blkA c bs), .bool d] w fun e w' => e = .returned (ansW zW false) ∧ Below w.heap.size w w' := by
  have hb0 : Below w.heap.size w ((w.alloc (.cells (blkA c bs) 32)).alloc (.cells (wrA zW) 36)) := ((Below.refl _ _).alloc (Nat.le_refl _) _).alloc (by rw [size_alloc']; omega) _
  have HB := Lib.hid hb0
  have HM := Lib.hid (heap_alloc_new (w.alloc (.cells (blkA c bs) 32)) (.cells (wrA zW) 36))
  have hg := size_alloc' w (.cells (blkA c bs) 32)
  have hbz := zW_len
  rw [hg] at HM
  have HG := Lib.hid hg
  clear hb0 hg
  generalize blkA c bs = B at *
  go_enter Try.func16, Try.ntmps16
  go_wp2_with (first
    | (refine wpList_allocW rfl rfl ?_)
    | (refine wpList_buildWZ rfl rfl ?_)
    | (refine wpList_storeW rfl (.tmp 8) (.tmp 13) rfl (w.heap.size + 1) (by first | rfl | (show Value.pointer (some ⟨(w.alloc (.cells B 32)).heap.size, 0, none⟩) = _; rw [HG.out])) zW zW rfl hbz hbz HM.out ?_))
  (try simp only [Exit.jump])
  refine bodyPost_ret (results_wr rfl _ _ (w.heap.size + 1) zW (by first | rfl | (show Value.pointer (some ⟨(w.alloc (.cells B 32)).heap.size, 0, none⟩) = _; rw [HG.out])) hbz (setRow_heap _ _ _ _ _ _ HM.out)) rfl ?_
  exact ⟨rfl, below_setRow HB.out (by omega) _⟩
theorem Stp.old {R : Nat → Prop} {w w1 : World} {k : Nat} (h : New R w w1 k) (hk : k < w.heap.size) : R k := h.elim id fun h => absurd h.1 (by omega)
/-- The frames with the block put at k, used. -/
def putF (l : List Fr) (k : Nat) (f : Fr) (c : Int) (bs : List Int) (d : Bool) : List Fr := useF (l.set k ⟨⟨f.w.t, c, bs⟩, f.a, f.d || d⟩) k ⟨⟨f.w.t, c, bs⟩, f.a, f.d || d⟩
theorem putF_len (l : List Fr) (k : Nat) (f : Fr) (c : Int) (bs : List Int) (d : Bool) : (putF l k f c bs d).length = l.length := by unfold putF; rw [useF_len]; simp
theorem set_ages {l : List Fr} {k : Nat} {f : Fr} (ha : ∀ f ∈ l, f.a ≤ 99) (hf : f.a ≤ 99) : ∀ x ∈ l.set k f, x.a ≤ 99 := fun x hx => by
  rcases List.mem_or_eq_of_mem_set hx with h | rfl
  · exact ha x h
  · exact hf
theorem useF_ages {l : List Fr} {k : Nat} {f : Fr} (ha : ∀ f ∈ l, f.a ≤ 99) : ∀ x ∈ useF l k f, x.a ≤ 100 := fun x hx => by
  unfold useF at hx
  rcases List.mem_or_eq_of_mem_set hx with h | rfl
  · obtain ⟨y, hy, rfl⟩ := List.mem_map.1 h
    have := ha y hy
    unfold olderF; split
    · show y.a + 1 ≤ 100; omega
    · omega
  · show (0 : Nat) ≤ 100; omega
set_option maxRecDepth 100000 in
set_option maxHeartbeats 4000000 in
theorem put_old {w : World} {g m : Nat} {l : List Fr} {R : Nat → Prop} (h : CAt w g m l R) (hR : ∀ k, R k → k < w.heap.size) (t c : Int) (bs : List Int) (d : Bool) (ht : i64 t) (hc : i64 c) (h56 : bs.length = 56) (hB : AllB bs) (ha : ∀ f ∈ l, f.a ≤ 99) (hl : l.length ≤ 50)
    (l1 : List Fr) (k : Nat) (f1 : Fr) (hcase : posF l t = some k ∧ l[k]? = some f1 ∧ l1 = l) :
    Calls Try.prog 16 #[.pointer (some ⟨g, 0, none⟩), .int .i64 t, .agg (blkA c bs), .bool d] w fun e w' =>
      ((l1.length ≤ 1 + m ∧ e = .returned (ansW zW false) ∧ CAt w' g m (putF l1 k f1 c bs d) (New R w w')) ∨
       (1 + m < l1.length ∧ ∃ r f, (putF l1 k f1 c bs d)[r]? = some f ∧ Oldest (putF l1 k f1 c bs d) (putF l1 k f1 c bs d).length r ∧ e = .returned (ansW (toldF f) f.d) ∧ CAt w' g m ((putF l1 k f1 c bs d).eraseIdx r) (New R w w'))) ∧ Stp R w w' := by
  obtain ⟨v, h⟩ := h
  obtain ⟨A, cap, rfl, hc1, hc2, hA⟩ := h.val
  have hsa := size_alloc' w (.cells (blkA c bs) 32)
  have hb1 : Below w.heap.size w (w.alloc (.cells (blkA c bs) 32)) := (Below.refl _ _).alloc (Nat.le_refl _) _
  have hb2 : Below w.heap.size w ((w.alloc (.cells (blkA c bs) 32)).alloc (.cells (wrA zW) 36)) := hb1.alloc (by rw [hsa]; omega) _
  have H0 := Lib.hid (h.below hb2)
  have HM6 : Hid (((w.alloc (.cells (blkA c bs) 32)).alloc (.cells (wrA zW) 36)).heap[w.heap.size]? = some (.cells (blkA c bs) 32 (0, 0))) := heap_alloc_old' _ _ (heap_alloc_new w _)
  have HM8 : Hid (((w.alloc (.cells (blkA c bs) 32)).alloc (.cells (wrA zW) 36)).heap[w.heap.size + 1]? = some (.cells (wrA zW) 36 (0, 0))) := by
    unfold Hid; rw [← hsa]; exact heap_alloc_new _ _
  have HS0 : Hid (Stp R w ((w.alloc (.cells (blkA c bs) 32)).alloc (.cells (wrA zW) 36))) := (Stp.refl R w).ofBelow hb2
  have HG : Hid (((w.alloc (.cells (blkA c bs) 32)).alloc (.cells (wrA zW) 36)).heap.size = w.heap.size + 2) := by
    unfold Hid; rw [size_alloc', hsa]
  have HR0 := Lib.hid hR
  have HA := Lib.hid hA
  have HAG0 := Lib.hid ha
  have HOK0 := Lib.hid h.ok
  have hbz := zW_len
  clear h hA hb1 hb2 ha hR
  obtain ⟨n, hn⟩ : ∃ n, n = l.length := ⟨_, rfl⟩
  rw [← hn] at H0 hc1 hl
  have HN := Lib.hid hn
  clear hn
  generalize hBv : blkA c bs = B at *
  go_enter Try.func16, Try.ntmps16
  go_upto_region 3 with (first
    | (refine wpList_allocW rfl rfl ?_))
  clear hsa
  generalize ((w.alloc (.cells B 32)).alloc (.cells (wrA zW) 36)) = W at *
  subst hBv
  obtain ⟨hp, hf, hl1⟩ := hcase
  have HK : Hid (l1[k]? = some f1) := by rw [hl1]; exact hf
  have HAG : Hid (∀ f ∈ l1, f.a ≤ 99) := by rw [hl1]; exact HAG0
  obtain ⟨b, rfl⟩ := HA.out k f1 hf
  go_wp2_with fail
  refine (find_any H0.out t ht).mono ?_
  rintro e W' ⟨rfl, rfl⟩
  rw [fptr_is hp]
  have HCV : Hid (CV W g m l1 R (.slice (some ⟨b, 0, none⟩) n cap)) := by rw [hl1]; exact H0
  have HS := HS0
  have HR1 : Hid ((∀ k, R k → k < w.heap.size → R k) ∧ ∀ k, R k → k < w.heap.size ∨ w.heap.size + 2 ≤ k) := ⟨fun _ h _ => h, fun k h => .inl (HR0.out k h)⟩
  have HR1c : Hid (∀ k, R k → R k ∨ (w.heap.size ≤ k ∧ k < W.heap.size)) := fun k h => .inl h
  clear hp hf hl1 H0 HS0
  -- the tail: W, HCV (CV W g m l1 R ..), HK, HS, bounds
  have hk1 : k < l1.length := (List.getElem?_eq_some_iff.1 HK.out).1
  have HRG := Lib.hid (HCV.out.thereB hk1)
  have hbR := (HCV.out.Rv b rfl).1
  have hgsz := HG.out
  go_upto_region 7 with (first
    | (refine wpList_loadB rfl (.tmp 6) rfl w.heap.size rfl c bs h56 HM6.out ?_)
    | (refine wpList_store_mid rfl 32 (.tmp 26) (.tmp 23) rfl b (k * 59 + 1) (blkA c bs) rfl rfl (by rw [blkA_size h56]; exact HRG.out) (by rw [blkA_size h56]; exact size24b) (blkA_one _ _) ?_))
  rw [blkA_list]
  have H2 := Lib.hid (HCV.out.setB HK.out hc h56 hB)
  have HK2 : Hid ((l1.set k ⟨⟨f1.w.t, c, bs⟩, f1.a, f1.d⟩)[k]? = some ⟨⟨f1.w.t, c, bs⟩, f1.a, f1.d⟩) := by unfold Hid; rw [List.getElem?_set_self hk1]
  have HM82 : Hid ((W.setCells b (k * 59 + 1) (blkL c bs)).heap[w.heap.size + 1]? = some (.cells (wrA zW) 36 (0, 0))) := by
    unfold Hid; rw [heap_setCells_other (fun e => by have := HR1.out.2 b hbR; omega)]; exact HM8.out
  have HS2 : Hid (Stp R w (W.setCells b (k * 59 + 1) (blkL c bs))) := Stp.setCells (fun h => HR1.out.1 b hbR h) _ _ HS.out
  have HSZ2 : Hid (W.heap.size ≤ (W.setCells b (k * 59 + 1) (blkL c bs)).heap.size) := (Stp.setCells (R := fun _ => True) (fun _ => trivial) _ _ (Stp.refl _ W)).size
  clear HRG HM6 HM8 HS
  generalize W.setCells b (k * 59 + 1) (blkL c bs) = W2 at *
  have e58 := H2.out.cell58 HK2.out
  have ff := H2.out.ffree (k * 59 + 58)
  unfold cx at e58
  have HA2 : Hid (∀ x ∈ l1.set k ⟨⟨f1.w.t, c, bs⟩, f1.a, f1.d || d⟩, x.a ≤ 99) := set_ages HAG.out (HAG.out f1 (List.mem_of_getElem? HK.out))
  obtain ⟨W3, HW3, H3, HM83, HS3, HSZ3⟩ : ∃ W3, (W3 = if d then W2.setCell ⟨b, k * 59 + 58, none⟩ (.complex .f64 (fb f1.a) 4607182418800017408) else W2) ∧ Hid (CV W3 g m (l1.set k ⟨⟨f1.w.t, c, bs⟩, f1.a, f1.d || d⟩) R (.slice (some ⟨b, 0, none⟩) n cap)) ∧ Hid (W3.heap[w.heap.size + 1]? = some (.cells (wrA zW) 36 (0, 0))) ∧ Hid (Stp R w W3) ∧ Hid (W.heap.size ≤ W3.heap.size) := by
    refine ⟨_, rfl, ?_⟩
    cases d with
    | false => exact ⟨by rw [Bool.or_false]; exact H2, HM82, HS2, HSZ2⟩
    | true =>
      rw [Bool.or_true]
      refine ⟨?_, ?_, HS2.out.setCell (fun h => HR1.out.1 b hbR h) _, ?_⟩
      · have := H2.out.setS HK2.out f1.a true
        rw [List.set_set] at this
        unfold cx dv at this
        rw [if_pos rfl, fb_one] at this
        exact this
      · unfold Hid; rw [if_pos rfl, heap_setCell_other _ _ _ _ (fun e => by have := HR1.out.2 b hbR; have e' : w.heap.size + 1 = b := e; omega)]; exact HM82.out
      · have := HSZ2.out
        show _ ≤ (W2.heap.modify _ _).size
        simpa using this
  have HK3 : Hid ((l1.set k ⟨⟨f1.w.t, c, bs⟩, f1.a, f1.d || d⟩)[k]? = some ⟨⟨f1.w.t, c, bs⟩, f1.a, f1.d || d⟩) := by unfold Hid; rw [List.getElem?_set_self hk1]
  clear HM82 HS2 HSZ2 HK2 H2
  have hst1 := run_storeC (x := fb f1.a) (y := 4607182418800017408) e58 ff
  clear hk1
  have HUSE := Lib.hid (use_any H3.out HK3.out (fun f hf => Nat.le_trans (HA2.out f hf) (by omega)))
  have HUA := Lib.hid (useF_ages (k := k) (f := ⟨⟨f1.w.t, c, bs⟩, f1.a, f1.d || d⟩) HA2.out)
  change Hid (Calls Try.prog 22 _ W3 fun e w' => e = .returned (.tuple #[]) ∧ CV w' g m (putF l1 k f1 c bs d) R (.slice (some ⟨b, 0, none⟩) n cap) ∧ Stp R W3 w') at HUSE
  change Hid (∀ x ∈ putF l1 k f1 c bs d, x.a ≤ 100) at HUA
  have HPL := Lib.hid (putF_len l1 k f1 c bs d)
  clear HK3 HA2 H3
  obtain ⟨lu, hlu0⟩ : ∃ lu, lu = putF l1 k f1 c bs d := ⟨_, rfl⟩
  rw [← hlu0] at HUSE HUA HPL
  have HLU0 := Lib.hid hlu0
  clear hlu0
  generalize fb f1.a = fa1 at *
  generalize fb (dv f1.d) = fd1 at *
  have hd2 : d = true ∨ d = false := by cases d <;> simp
  rcases hd2 with rfl | rfl
  all_goals
    simp only [if_true, if_false, Bool.false_eq_true] at HW3
    subst HW3
    go_wp2_with fail
    refine HUSE.out.mono ?_
    rintro e W4 ⟨rfl, hcv, hst⟩
    have H4 := Lib.hid hcv
    have hnr : ¬ R (w.heap.size + 1) := fun h => by have := HR1.out.2 _ h; omega
    have HM84 : Hid (W4.heap[w.heap.size + 1]? = some (.cells (wrA zW) 36 (0, 0))) := hst.heap HM83.out hnr
    have HS4 : Hid (Stp R w W4) := HS3.out.trans hst (fun k hk h => HR1.out.1 k h hk)
    have HSZ4 : Hid (W.heap.size ≤ W4.heap.size) := Nat.le_trans HSZ3.out hst.size
    have c0 := hcv.c0
    have c1 := hcv.c1
    have hlu : lu.length = n := hcv.own'.symm
    have hm49 := hcv.few
    have hn51 := hcv.len
    rw [hlu] at hn51
    have HLU := Lib.hid hlu
    have HNR := Lib.hid hnr
    clear hcv hst hnr hlu HM83 HS3 HSZ3 HUSE e58 ff hst1
    go_upto_region 10 with fail
    have HLN : Hid (∀ q, Calls Try.prog 20 #[.pointer (some ⟨g, 0, none⟩)] (W4.drewN q) fun e w' => e = .returned (.int .i64 (n : Int)) ∧ w' = W4.drewN q) := fun q => (len_cell (show (W4.drewN q).cell? _ = _ from c0)).mono fun _ _ h => ⟨h.1, h.2.symm⟩
    have q1 := fun q => (show (W4.drewN q).cell? ⟨g, 1, none⟩ = _ from c1)
    have wm : IntKind.i64.wrap (1 + (m : Int)) = 1 + (m : Int) := IntWalk.i64_in _ (by omega)
    have HNEW : Hid (∀ k, R k → New R w W4 k) := fun k hk => by
      rcases HR1c.out k hk with h | h
      · exact .inl h
      · exact .inr ⟨h.1, Nat.lt_of_lt_of_le h.2 HSZ4.out⟩
    by_cases hle : n ≤ 1 + m
    · have hd1 : decide ((n : Int) ≤ 1 + (m : Int)) = true := decide_eq_true (by omega)
      go_quiet ((first | (go_at_call 20; with_reducible exact Calls.quiet_of_same (HLN.out _))))
      have H5 := Lib.hid (H4.out.drew nq)
      have HM5 : Hid ((W4.drewN nq).heap[w.heap.size + 1]? = some (.cells (wrA zW) 36 (0, 0))) := HM84.out
      have HS5 := Lib.hid (HS4.out.drew nq)
      have HNEW5 : Hid (∀ k, R k → New R w (W4.drewN nq) k) := HNEW
      generalize W4.drewN nq = W5 at *
      go_wp2_with (first
        | (refine wpList_buildWZ rfl rfl ?_)
        | (refine wpList_storeW rfl (.tmp 8) (.tmp 48) rfl (w.heap.size + 1) rfl zW zW rfl hbz hbz HM5.out ?_))
      (try simp only [Exit.jump])
      refine bodyPost_ret (results_wr rfl _ _ (w.heap.size + 1) zW rfl hbz (setRow_heap _ _ _ _ _ _ HM5.out)) rfl ?_
      rw [← HLU0.out]
      exact ⟨.inl ⟨by rw [← HPL.out, HLU.out]; omega, rfl, H5.out.row _ HNR.out (fun k hk => by have := HNEW5.out k hk; unfold New at this ⊢; rw [size_setRow]; exact this)⟩, HS5.out.row (by omega) _⟩
    · have hd1 : decide ((n : Int) ≤ 1 + (m : Int)) = false := decide_eq_false (by omega)
      go_quiet ((first | (go_at_call 20; with_reducible exact Calls.quiet_of_same (HLN.out _))))
      have H5 := Lib.hid (H4.out.drew nq)
      have HM5 : Hid ((W4.drewN nq).heap[w.heap.size + 1]? = some (.cells (wrA zW) 36 (0, 0))) := HM84.out
      have HS5 := Lib.hid (HS4.out.drew nq)
      have HNEW5 : Hid (∀ k, R k → New R w (W4.drewN nq) k) := HNEW
      generalize W4.drewN nq = W5 at *
      go_wp2_with fail
      refine (drop_any ⟨_, H5.out⟩ (by rw [HLU.out]; omega) HUA.out).mono ?_
      rintro e W6 ⟨r, f, hrf, hold, rfl, ⟨v6, h6⟩, hst6⟩
      have hf56 : (toldF f).bs.length = 56 := by
        unfold toldF; split
        · exact (H5.out.ok.at hrf).len
        · exact hbz
      have HM6 : Hid (W6.heap[w.heap.size + 1]? = some (.cells (wrA zW) 36 (0, 0))) := hst6.heap HM5.out HNR.out
      have HNR6 : Hid (¬ New R W5 W6 (w.heap.size + 1)) := fun h => h.elim HNR.out (fun h => by have := room_lt HM5.out; omega)
      go_wp2_with (first
        | (refine wpList_storeW rfl (.tmp 8) (.tmp 51) rfl (w.heap.size + 1) rfl (toldF f) zW rfl hf56 hbz HM6.out ?_))
      (try simp only [Exit.jump])
      refine bodyPost_ret (results_wr rfl _ _ (w.heap.size + 1) (toldF f) rfl hf56 (setRow_heap _ _ _ _ _ _ HM6.out)) rfl ?_
      rw [← HLU0.out]
      refine ⟨.inr ⟨by rw [← HPL.out, HLU.out]; omega, r, f, hrf, hold, rfl, h6.row _ HNR6.out (fun k hk => ?_)⟩, (HS5.out.trans hst6 (fun k hk h => HR1.out.1 k h hk)).row (by omega) _⟩
      have hsz6 := hst6.size
      have hsz5 := HS5.out.size
      rcases hk with h | h
      · have := HNEW5.out k h; unfold New at this ⊢; rw [size_setRow]
        exact this.imp id fun h => ⟨h.1, by omega⟩
      · right; rw [size_setRow]; exact ⟨by omega, h.2⟩
end Go.Proofs.Ytbcnjilhibkcnaa
