/- Contracts: cache.Peek, cache.Get. -/
import Derived.Test.YtbcnjilhibkcnaaKg
namespace Go.Proofs.Ytbcnjilhibkcnaa
open Go.ChangeShapes Go.WideShapes Go.ChangeAt Go.RowKit
open Fx
set_option linter.unusedVariables false
theorem ages_le {l : List Fr} {k : Nat} {f : Fr} (h : ∀ f ∈ l, f.a ≤ 100) (hk : l[k]? = some f) : f.a ≤ 100 := h f (List.mem_of_getElem? hk)
theorem setRow_below' {W : World} {B g : Nat} {C : Array Value} {w : World} (h : Below B w W) (hg : B ≤ g) : Below B w (W.setRow g C) := below_setRow h hg _
/-- What is read: the block, and whether it is there. -/
def ansB (k : Int) (bs : List Int) (b : Bool) : Value := .tuple #[.agg (blkA k bs), .bool b]
set_option maxRecDepth 100000 in
set_option maxHeartbeats 1600000 in
theorem peek_any {w : World} {g m : Nat} {l : List Fr} {R : Nat → Prop} (h : CAt w g m l R) (t : Int) (ht : i64 t) :
    Calls Try.prog 12 #[.pointer (some ⟨g, 0, none⟩), .int .i64 t] w fun e w' => ((posF l t = none ∧ e = .returned (ansB 0 zBs false)) ∨ ∃ k f, posF l t = some k ∧ l[k]? = some f ∧ e = .returned (ansB f.w.k f.w.bs true)) ∧ Below w.heap.size w w' := by
  obtain ⟨v, h⟩ := h
  obtain ⟨A, cap, rfl, hc1, hc2, hA⟩ := h.val
  have hbel0 : Below w.heap.size w (w.alloc (.cells (blkA 0 zBs) 32)) := (Below.refl _ _).alloc (Nat.le_refl _) _
  have H1 := Lib.hid (h.below hbel0)
  have HM1 := Lib.hid (heap_alloc_new w (.cells (blkA 0 zBs) 32))
  have HB1 := Lib.hid hbel0
  have HA := Lib.hid hA
  have hz := zBs_len
  have hgw := h.glt
  have HLT : Hid (∀ b n c, Value.slice A l.length cap = .slice (some ⟨b, 0, none⟩) n c → b < w.heap.size) := fun b n c e => by
    rw [e] at h; exact h.lt
  clear h hA hbel0
  generalize hn : l.length = n at *
  have HN := Lib.hid hn
  clear hn
  go_enter Try.func12, Try.ntmps12
  go_upto_region 1 with (first
    | (refine wpList_allocB rfl rfl ?_))
  generalize w.alloc (.cells (blkA 0 zBs) 32) = W1 at *
  go_wp2_with fail
  refine (find_any H1.out t ht).mono ?_
  rintro e W2 ⟨rfl, rfl⟩
  rcases hp : posF l t with _ | k
  · rw [fptr_no hp]
    have HP := Lib.hid hp
    clear hp
    go_wp2_with (first
      | (refine wpList_buildB0 rfl rfl ?_)
      | (refine wpList_storeB rfl (.tmp 4) (.tmp 12) rfl w.heap.size rfl 0 0 zBs zBs rfl hz hz HM1.out ?_))
    (try simp only [Exit.jump])
    refine bodyPost_ret (results_blk rfl _ _ w.heap.size 0 zBs rfl hz (setRow_heap _ _ _ _ _ _ HM1.out)) rfl ?_
    exact ⟨.inl ⟨HP.out, rfl⟩, below_setRow HB1.out (Nat.le_refl _) _⟩
  · obtain ⟨f, hf, hft⟩ := posF_is hp
    obtain ⟨b, rfl⟩ := HA.out k f hf
    rw [fptr_is hp]
    have HP := Lib.hid hp
    have HF := Lib.hid hf
    have hf56 := (H1.out.ok.at hf).len
    have HRG := Lib.hid (H1.out.rangeB hf)
    clear hp hf hft
    go_wp2_with (first
      | (refine wpList_loadBm rfl (.tmp 16) rfl b (k * 59 + 1) rfl f.w.k f.w.bs hf56 HRG.out ?_)
      | (refine wpList_storeB rfl (.tmp 4) (.tmp 17) rfl w.heap.size rfl f.w.k 0 f.w.bs zBs rfl hf56 hz HM1.out ?_))
    (try simp only [Exit.jump])
    refine bodyPost_ret (results_blk rfl _ _ w.heap.size f.w.k f.w.bs rfl hf56 (setRow_heap _ _ _ _ _ _ HM1.out)) rfl ?_
    exact ⟨.inr ⟨k, f, HP.out, HF.out, rfl⟩, below_setRow HB1.out (Nat.le_refl _) _⟩
theorem useF_len (l : List Fr) (k : Nat) (f : Fr) : (useF l k f).length = l.length := by unfold useF; simp
theorem olderF_w (a : Nat) (f : Fr) : (olderF a f).w = f.w ∧ (olderF a f).d = f.d := by unfold olderF; split <;> exact ⟨rfl, rfl⟩
theorem useF_at {l : List Fr} {k : Nat} {f : Fr} (hk : l[k]? = some f) : (useF l k f)[k]? = some ⟨f.w, 0, f.d⟩ := by
  unfold useF
  rw [List.getElem?_set_self (by simp; exact (List.getElem?_eq_some_iff.1 hk).1)]
theorem CAt.mono' {w : World} {g m : Nat} {l : List Fr} {R R' : Nat → Prop} {v : Value} (h : CV w g m l R v) (hR : ∀ k, R k → R' k) : CAt w g m l R' := ⟨v, h.mono hR⟩
theorem CV.row {W : World} {g m x : Nat} {l : List Fr} {R R' : Nat → Prop} {v : Value} (h : CV W g m l R v) (C : Array Value) (hx : ¬ R x) (hR : ∀ k, R k → R' k) : CAt (W.setRow x C) g m l R' := by
  refine ⟨v, ⟨?_, ?_, hR _ h.Rg, fun k hk => ⟨hR _ (h.Rv k hk).1, (h.Rv k hk).2⟩, h.ok, h.few, h.len⟩⟩
  · rw [setRow_other _ _ _ _ (fun e => hx (by rw [← e]; exact h.Rg))]; exact h.blk
  · exact h.own.kept (row := some x) ⟨rfl, rfl, rfl, by simp, fun k _ hk => setRow_other _ _ _ _ (fun e => hk (by rw [e]))⟩ (.inr (fun e => hx (h.Rv x e).1))
theorem Stp.row {R : Nat → Prop} {w W : World} (h : Stp R w W) {x : Nat} (hx : w.heap.size ≤ x) (C : Array Value) : Stp R w (W.setRow x C) :=
  ⟨h.os, h.tape, h.output, by simpa using h.size, fun k hk hn => by rw [setRow_other _ _ _ _ (by omega)]; exact h.block k hk hn⟩
theorem size_setRow (W : World) (x : Nat) (C : Array Value) : (W.setRow x C).heap.size = W.heap.size := by simp
set_option maxRecDepth 100000 in
set_option maxHeartbeats 1600000 in
theorem get_any {w : World} {g m : Nat} {l : List Fr} {R : Nat → Prop} (h : CAt w g m l R) (hR : ∀ k, R k → k < w.heap.size) (t : Int) (ht : i64 t) (ha : ∀ f ∈ l, f.a ≤ 100) :
    Calls Try.prog 10 #[.pointer (some ⟨g, 0, none⟩), .int .i64 t] w fun e w' => ((posF l t = none ∧ e = .returned (ansB 0 zBs false) ∧ CAt w' g m l (New R w w')) ∨ ∃ k f, posF l t = some k ∧ l[k]? = some f ∧ e = .returned (ansB f.w.k f.w.bs true) ∧ CAt w' g m (useF l k f) (New R w w')) ∧ Stp R w w' := by
  obtain ⟨v, h⟩ := h
  obtain ⟨A, cap, rfl, hc1, hc2, hA⟩ := h.val
  have hbel0 : Below w.heap.size w (w.alloc (.cells (blkA 0 zBs) 32)) := (Below.refl _ _).alloc (Nat.le_refl _) _
  have H1 := Lib.hid (h.below hbel0)
  have HM1 := Lib.hid (heap_alloc_new w (.cells (blkA 0 zBs) 32))
  have HS1 : Hid (Stp R w (w.alloc (.cells (blkA 0 zBs) 32))) := (Stp.refl R w).ofBelow hbel0
  have HA := Lib.hid hA
  have HAG := Lib.hid ha
  have HNR : Hid (¬ R w.heap.size) := fun e => by have := hR _ e; omega
  have hz := zBs_len
  clear h hA hbel0 ha hR
  generalize hn : l.length = n at *
  have HN := Lib.hid hn
  clear hn
  go_enter Try.func10, Try.ntmps10
  go_upto_region 1 with (first
    | (refine wpList_allocB rfl rfl ?_))
  generalize w.alloc (.cells (blkA 0 zBs) 32) = W1 at *
  go_wp2_with fail
  refine (find_any H1.out t ht).mono ?_
  rintro e W2 ⟨rfl, rfl⟩
  rcases hp : posF l t with _ | k
  · rw [fptr_no hp]
    have HP := Lib.hid hp
    clear hp
    go_wp2_with (first
      | (refine wpList_buildB0 rfl rfl ?_)
      | (refine wpList_storeB rfl (.tmp 4) (.tmp 12) rfl w.heap.size rfl 0 0 zBs zBs rfl hz hz HM1.out ?_))
    (try simp only [Exit.jump])
    refine bodyPost_ret (results_blk rfl _ _ w.heap.size 0 zBs rfl hz (setRow_heap _ _ _ _ _ _ HM1.out)) rfl ?_
    exact ⟨.inl ⟨HP.out, rfl, H1.out.row _ HNR.out fun k hk => .inl hk⟩, HS1.out.row (Nat.le_refl _) _⟩
  · obtain ⟨f, hf, hft⟩ := posF_is hp
    obtain ⟨b, rfl⟩ := HA.out k f hf
    rw [fptr_is hp]
    have HP := Lib.hid hp
    have HF := Lib.hid hf
    have hf56 := (H1.out.ok.at hf).len
    clear hp hf hft
    go_wp2_with fail
    refine (use_any H1.out HF.out HAG.out).mono ?_
    rintro e W3 ⟨rfl, hcv, hst⟩
    have H3 := Lib.hid hcv
    have HM3 : Hid (W3.heap[w.heap.size]? = some (.cells (blkA 0 zBs) 32 (0, 0))) := hst.heap HM1.out HNR.out
    have HS3 : Hid (Stp R w W3) := HS1.out.trans hst (fun _ _ h => h)
    have HRG := Lib.hid (hcv.rangeB (useF_at HF.out))
    clear hcv hst HM1 HS1
    go_wp2_with (first
      | (refine wpList_loadBm rfl (.tmp 19) rfl b (k * 59 + 1) rfl f.w.k f.w.bs hf56 HRG.out ?_)
      | (refine wpList_storeB rfl (.tmp 4) (.tmp 20) rfl w.heap.size rfl f.w.k 0 f.w.bs zBs rfl hf56 hz HM3.out ?_))
    (try simp only [Exit.jump])
    refine bodyPost_ret (results_blk rfl _ _ w.heap.size f.w.k f.w.bs rfl hf56 (setRow_heap _ _ _ _ _ _ HM3.out)) rfl ?_
    exact ⟨.inr ⟨k, f, HP.out, HF.out, rfl, H3.out.row _ HNR.out fun k hk => .inl hk⟩, HS3.out.row (Nat.le_refl _) _⟩
end Go.Proofs.Ytbcnjilhibkcnaa
