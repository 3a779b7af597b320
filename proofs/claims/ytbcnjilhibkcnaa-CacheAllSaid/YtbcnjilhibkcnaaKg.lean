/- Contract: cache.drop. -/
import Derived.Test.YtbcnjilhibkcnaaKf
namespace Go.Proofs.Ytbcnjilhibkcnaa
open Go.ChangeShapes Go.WideShapes Go.ChangeAt Go.RowKit
open Fx
set_option linter.unusedVariables false
section
variable {ops : Array Oper} {rest : List Oper} {o : Oper} {a : Act} {w : World} {Q : Exit → Act → World → Prop}
theorem wpList_allocF (hgd : o.guard = none) (ho : o.op = .alloc 60)
    (h : wpList Try.prog ops Q rest (a.put o.dst (.pointer (some ⟨w.heap.size, 0, none⟩))) (w.alloc (.cells (frA zF) 60))) : wpList Try.prog ops Q (o :: rest) a w := by
  obtain ⟨i0, hi, hz0, hz1, hz2⟩ := info_parts infoF
  rw [← zF_cells] at h
  exact wpList_plain hgd fun _ hK => wp_alloc_of 60 ho i0 _ hi hz0 (hK _ _ h)
theorem wpList_loadF (hgd : o.guard = none) (x : Operand) (ho : o.op = .load 60 x) (b off : Nat) (hx : a.eval x = .pointer (some ⟨b, off, none⟩)) (f : Fr) (h56 : f.w.bs.length = 56) (hr : w.rangeAt b off (frL f))
    (h : wpList Try.prog ops Q rest (a.put o.dst (.agg (frA f))) w) : wpList Try.prog ops Q (o :: rest) a w :=
  wpList_load_mid hgd 60 x ho b off hx (frL f) _ hr Try.underlying60 rfl (by rw [frL_length h56]; exact sizeF) h
theorem wpList_loadWm (hgd : o.guard = none) (x : Operand) (ho : o.op = .load 36 x) (b off : Nat) (hx : a.eval x = .pointer (some ⟨b, off, none⟩)) (y : Wr) (h56 : y.bs.length = 56) (hr : w.rangeAt b off (wrL y))
    (h : wpList Try.prog ops Q rest (a.put o.dst (.agg (wrA y))) w) : wpList Try.prog ops Q (o :: rest) a w :=
  wpList_load_mid hgd 36 x ho b off hx (wrL y) _ hr Try.underlying36 rfl (by rw [wrL_length h56]; exact sizeW) h
theorem wpList_loadBm (hgd : o.guard = none) (x : Operand) (ho : o.op = .load 32 x) (b off : Nat) (hx : a.eval x = .pointer (some ⟨b, off, none⟩)) (k : Int) (bs : List Int) (h56 : bs.length = 56) (hr : w.rangeAt b off (blkL k bs))
    (h : wpList Try.prog ops Q rest (a.put o.dst (.agg (blkA k bs))) w) : wpList Try.prog ops Q (o :: rest) a w :=
  wpList_load_mid hgd 32 x ho b off hx (blkL k bs) _ hr Try.underlying32 rfl (by rw [blkL_length' h56]; exact size24b) h
theorem wpList_storeF (hgd : o.guard = none) (x y : Operand) (ho : o.op = .store 60 x y) (g : Nat) (hx : a.eval x = .pointer (some ⟨g, 0, none⟩)) (u v : Fr) (hy : a.eval y = .agg (frA u)) (h56 : u.w.bs.length = 56) (h56' : v.w.bs.length = 56) (hg : w.heap[g]? = some (.cells (frA v) 60 (0, 0)))
    (h : wpList Try.prog ops Q rest (a.put o.dst undef) (w.setRow g (frA u))) : wpList Try.prog ops Q (o :: rest) a w :=
  wpList_store_row hgd 60 x y ho g _ hx hy _ _ hg (by rw [frA_size h56]; exact sizeF) (by rw [frA_size h56, frA_size h56']) (frA_one _) h
theorem wpList_buildWZ (hgd : o.guard = none) (ho : o.op = .build 36 #[])
    (h : wpList Try.prog ops Q rest (a.put o.dst (.agg (wrA zW))) w) : wpList Try.prog ops Q (o :: rest) a w :=
  wpList_plain hgd fun _ hK => by
    unfold Oper.wp execOp
    have hb := run_build (P := Try.prog) w 36 #[] _ (show Try.prog.built 36 [] = some (wrA zW) by kernel_rfl)
    simp only [ho, List.map_toArray, List.map_nil, Sem.run_bind, hb, Result.andThen_ok]
    exact hK _ _ h
end
theorem new_fr (w : World) (f : Fr) : ((w.alloc (.cells (frA zF) 60)).setRow w.heap.size (frA f)).heap[w.heap.size]? = some (.cells (frA f) 60 (0, 0)) :=
  setRow_heap _ _ _ _ _ _ (heap_alloc_new w _)
theorem new_fr_below (w : World) (f : Fr) : Below w.heap.size w ((w.alloc (.cells (frA zF) 60)).setRow w.heap.size (frA f)) :=
  below_setRow ((Below.refl _ _).alloc (Nat.le_refl _) _) (Nat.le_refl _) _
theorem range_blk {w : World} {g : Nat} {f : Fr} {t : TypeId} {fr : Nat × Nat} (h : w.heap[g]? = some (.cells (frA f) t fr)) : w.rangeAt g 0 (frL f) := fun j v hj => by
  rw [Nat.zero_add, blk_cell h]; unfold frA; simpa using hj
theorem range_wr {w : World} {g : Nat} {f : Fr} (h56 : f.w.bs.length = 56) (h : w.rangeAt g 0 (frL f)) : w.rangeAt g 0 (wrL f.w) := fun j v hj => h j v (by
  unfold frL
  rw [List.getElem?_append_left (List.getElem?_eq_some_iff.1 hj).1]; exact hj)
theorem results_wr {fn : Func} {p u : Tmp} (h : fn.results = #[.cell p 36, .tmp u]) (tmps : Array Value) (w : World) (g : Nat) (x : Wr) (hp : tmps.getD p undef = .pointer (some ⟨g, 0, none⟩)) (h56 : x.bs.length = 56) (hg : w.heap[g]? = some (.cells (wrA x) 36 (0, 0))) :
    (results fn tmps).run Try.prog w = .ok (.tuple #[.agg (wrA x), tmps.getD u undef]) w := by
  rw [results_cell_tmp h, hp]
  simp only [asAddr, Sem.run_pure, Result.andThen_ok]
  rw [run_loadVar_row w g _ _ _ _ _ hg Try.underlying36 rfl (by rw [wrA_size h56]; exact sizeW)]
  rfl
/-- What is told of a frame that goes. -/
def toldF (f : Fr) : Wr := if f.d then f.w else zW
theorem CV.del {W : World} {g m b n cap i : Nat} {l : List Fr} {R R2 : Nat → Prop} (h : CV W g m l R (.slice (some ⟨b, 0, none⟩) n cap)) {W' : World} (hi : i < l.length) (ho : W'.ownsRow 0 60 59 (.slice (some ⟨b, 0, none⟩) (n - 1) cap) (n - 1) (rowL frL (l.eraseIdx i))) (hg : W.grownBy W' (some b)) (hR : ∀ k, R k → R2 k) :
    CV (W'.setCell ⟨g, 0, none⟩ (.slice (some ⟨b, 0, none⟩) (n - 1) cap)) g m (l.eraseIdx i) R2 (.slice (some ⟨b, 0, none⟩) (n - 1) cap) := by
  have e := h.own'
  have hb := (h.Rv b rfl).2
  refine ⟨?_, ?_, hR _ h.Rg, fun k hk => ⟨hR _ (h.Rv k hk).1, (h.Rv k hk).2⟩, fun f hf => h.ok f (List.mem_of_mem_eraseIdx hf), h.few, ?_⟩
  · rw [heap_setCell_same' (by rw [hg.block g h.glt (fun e => hb (by injection e with e; exact e.symm))]; exact h.blk)]; rfl
  · rw [List.length_eraseIdx_of_lt hi, ← e]
    exact ownSet ho _ (fun e => hb (by injection e with e))
  · rw [List.length_eraseIdx_of_lt hi]; have := h.len; omega
set_option maxRecDepth 100000 in
set_option maxHeartbeats 1600000 in
theorem drop_any {w : World} {g m : Nat} {l : List Fr} {R : Nat → Prop} (h : CAt w g m l R) (hn1 : 1 ≤ l.length) (ha : ∀ f ∈ l, f.a ≤ 100) :
    Calls Try.prog 26 #[.pointer (some ⟨g, 0, none⟩)] w fun e w' => ∃ r f, l[r]? = some f ∧ Oldest l l.length r ∧ e = .returned (.tuple #[.agg (wrA (toldF f)), .bool f.d]) ∧ CAt w' g m (l.eraseIdx r) (New R w w') ∧ Stp R w w' := by
  obtain ⟨v, h⟩ := h
  obtain ⟨A, cap, rfl, hc1, hc2, hA⟩ := h.val
  obtain ⟨f0, hf0⟩ : ∃ f, l[0]? = some f := ⟨_, List.getElem?_eq_getElem (by omega)⟩
  obtain ⟨b, rfl⟩ := hA 0 f0 hf0
  have h51 := h.len
  have hbel0 : Below w.heap.size w (w.alloc (.cells (wrA zW) 36)) := (Below.refl _ _).alloc (Nat.le_refl _) _
  have H1 := Lib.hid (h.below hbel0)
  have HM1 := Lib.hid (heap_alloc_new w (.cells (wrA zW) 36))
  have hsz1 := size_alloc' w (.cells (wrA zW) 36)
  have HS1 : Hid (Stp R w (w.alloc (.cells (wrA zW) 36))) := (Stp.refl R w).ofBelow hbel0
  have HA := Lib.hid ha
  have hgw := h.glt
  have hbw := h.lt
  generalize hn : l.length = n at *
  have HN := Lib.hid hn
  clear h ha hA hf0 hbel0 hn
  go_enter Try.func26, Try.ntmps26
  go_upto_region 1 with (first
    | (refine wpList_allocW rfl rfl ?_))
  generalize w.alloc (.cells (wrA zW) 36) = W1 at *
  go_wp2_with fail
  refine (oldest_any H1.out (by rw [HN.out]; exact hn1) HA.out).mono ?_
  rintro e W2 ⟨r, rfl, hr, hold, hdr⟩
  rw [HN.out] at hr
  obtain ⟨f, hf, hmax⟩ := id hold
  have hf56 := (H1.out.ok.at hf).len
  have HF := Lib.hid hf
  have HOLD := Lib.hid hold
  have H2 := Lib.hid (H1.out.below hdr.below)
  have HM2 := Lib.hid (kb hdr.below HM1.out)
  have HS2 : Hid (Stp R w W2) := HS1.out.ofBelow hdr.below
  have hsz2 : w.heap.size + 1 ≤ W2.heap.size := by rw [← hsz1]; exact hdr.below.size
  clear hf hold hmax hdr H1 HM1 HS1 hsz1
  have c0 := H2.out.c0
  have HRG := Lib.hid (H2.out.rangeF HF.out)
  have HNF := Lib.hid (heap_alloc_new W2 (.cells (frA zF) 60))
  have hrn : (r : Int) < n := by omega
  have zF56 : zF.w.bs.length = 56 := zW_len
  go_upto_region 3 with (first
    | (refine wpList_allocF rfl rfl ?_)
    | (refine wpList_loadF rfl (.tmp 13) rfl b (r * 59) rfl f hf56 HRG.out ?_)
    | (refine wpList_storeF rfl (.tmp 5) (.tmp 14) rfl W2.heap.size rfl f zF rfl hf56 zF56 HNF.out ?_))
  have HN3 := Lib.hid (new_fr W2 f)
  have hb3 := new_fr_below W2 f
  have H3 := Lib.hid (H2.out.below hb3)
  have HM3 := Lib.hid (kb hb3 HM2.out)
  have HS3 : Hid (Stp R w ((W2.alloc (.cells (frA zF) 60)).setRow W2.heap.size (frA f))) := HS2.out.ofBelow hb3
  clear hb3 HNF HRG c0 HM2 HS2
  generalize (W2.alloc (.cells (frA zF) 60)).setRow W2.heap.size (frA f) = W3 at *
  have hg5 : w.heap.size < W2.heap.size := by omega
  have HB5 : Hid (b ≠ W2.heap.size ∧ g ≠ W2.heap.size) := ⟨by have := H2.out.lt; omega, by have := H2.out.glt; omega⟩
  clear H2 hsz2
  generalize W2.heap.size = g5 at *
  have c0 := H3.out.c0
  have hown := H3.out.own
  rw [HN.out] at hown
  have HOW := Lib.hid hown
  have HOK := Lib.hid H3.out.ok
  have wr1 : IntKind.i64.wrap ((r : Int) + 1) = (r : Int) + 1 := IntWalk.i64_in _ (by omega)
  clear hown
  go_wp2_with fail
  refine (delete_any HOK.out HN.out.symm hr h51 HOW.out).mono ?_
  rintro e W4 ⟨rfl, hown4, hg4⟩
  have hcv := H3.out.del (i := r) (by rw [HN.out]; exact hr) hown4 hg4 (fun k hk => hk)
  have d0 : W4.cell? ⟨g, 0, none⟩ = some (.slice (some ⟨b, 0, none⟩) n cap) := hg4.cell c0 (fun e => (H3.out.Rv b rfl).2 (by injection e with e; exact e.symm))
  have df : W4.frozen? ⟨g, 0, none⟩ = false := by
    rw [World.frozen?_of_block (hg4.block g H3.out.glt (fun e => (H3.out.Rv b rfl).2 (by injection e with e; exact e.symm)))]; exact H3.out.free 0
  have HCV := Lib.hid hcv
  have hgb : ∀ k, k ≠ b → k < W3.heap.size → W4.heap[k]? = W3.heap[k]? := fun k hk hlt => hg4.block k hlt (fun e => hk (by injection e))
  have HN4 : Hid ((W4.setCell ⟨g, 0, none⟩ (.slice (some ⟨b, 0, none⟩) (n - 1) cap)).heap[g5]? = some (.cells (frA f) 60 (0, 0))) := by
    unfold Hid; rw [heap_setCell_other _ _ _ _ (fun e => HB5.out.2 e.symm), hgb g5 (fun e => HB5.out.1 e.symm) (room_lt HN3.out)]; exact HN3.out
  have HM4 : Hid ((W4.setCell ⟨g, 0, none⟩ (.slice (some ⟨b, 0, none⟩) (n - 1) cap)).heap[w.heap.size]? = some (.cells (wrA zW) 36 (0, 0))) := by
    unfold Hid; rw [heap_setCell_other _ _ _ _ (by show w.heap.size ≠ g; omega), hgb _ (by omega) (room_lt HM3.out)]; exact HM3.out
  have HS4 : Hid (Stp R w (W4.setCell ⟨g, 0, none⟩ (.slice (some ⟨b, 0, none⟩) (n - 1) cap))) := (HS3.out.grown hg4 (fun k hk _ => by injection hk with hk; subst hk; exact (H3.out.Rv b rfl).1)).setCell (fun _ => H3.out.Rg) _
  clear hcv hgb hg4 hown4 HN3 HM3 HS3 HOW HOK c0 H3
  go_upto_region 4 with fail
  generalize W4.setCell ⟨g, 0, none⟩ (.slice (some ⟨b, 0, none⟩) (n - 1) cap) = W5 at *
  clear d0 df
  go_wp2_with (first
    | (refine wpList_loadF rfl (.tmp 5) rfl g5 0 rfl f hf56 (range_blk HN4.out) ?_))
  refine (isdirty_any f hf56 W5).mono ?_
  rintro e W6 ⟨rfl, hb6⟩
  have H6 := Lib.hid (HCV.out.below hb6)
  have HN6 := Lib.hid (kb hb6 HN4.out)
  have HM6 := Lib.hid (kb hb6 HM4.out)
  have HS6 := Lib.hid (HS4.out.ofBelow hb6)
  clear hb6 HCV HN4 HM4 HS4
  have hbz := zW_len
  have HEND : Hid (∀ x : Wr, CAt (W6.setRow w.heap.size (wrA x)) g m (l.eraseIdx r) (New R w (W6.setRow w.heap.size (wrA x))) ∧ Stp R w (W6.setRow w.heap.size (wrA x))) := fun x => by
    have hgb := H6.out.Rv b rfl
    refine ⟨⟨_, ⟨?_, ?_, .inl H6.out.Rg, fun k hk => ⟨.inl (H6.out.Rv k hk).1, (H6.out.Rv k hk).2⟩, H6.out.ok, H6.out.few, H6.out.len⟩⟩, ?_⟩
    · rw [setRow_other _ _ _ _ (by omega)]; exact H6.out.blk
    · exact H6.out.own.kept (row := some w.heap.size) ⟨rfl, rfl, rfl, by simp, fun k _ hk => setRow_other _ _ _ _ (fun e => hk (by rw [e]))⟩ (.inr (by simp [Value.ownBlock]; omega))
    · exact ⟨HS6.out.os, HS6.out.tape, HS6.out.output, by simpa using HS6.out.size, fun k hk hn => by rw [setRow_other _ _ _ _ (by omega)]; exact HS6.out.block k hk hn⟩
  clear H6 HS6
  rcases Bool.eq_false_or_eq_true f.d with hd | hd
  · have HD := Lib.hid hd
    rw [hd]
    clear hd
    go_wp2_with (first
      | (refine wpList_loadWm rfl (.tmp 30) rfl g5 0 rfl f.w hf56 (range_wr hf56 (range_blk HN6.out)) ?_)
      | (refine wpList_storeW rfl (.tmp 2) (.tmp 31) rfl w.heap.size rfl f.w zW rfl hf56 hbz HM6.out ?_))
    (try simp only [Exit.jump])
    refine bodyPost_ret (results_wr rfl _ _ w.heap.size f.w rfl hf56 (setRow_heap _ _ _ _ _ _ HM6.out)) rfl ?_
    exact ⟨r, f, HF.out, by rw [← HN.out]; exact HOLD.out, by unfold toldF; rw [HD.out]; rfl, HEND.out _⟩
  · have HD := Lib.hid hd
    rw [hd]
    clear hd
    go_wp2_with (first
      | (refine wpList_buildWZ rfl rfl ?_)
      | (refine wpList_storeW rfl (.tmp 2) (.tmp 29) rfl w.heap.size rfl zW zW rfl hbz hbz HM6.out ?_))
    (try simp only [Exit.jump])
    refine bodyPost_ret (results_wr rfl _ _ w.heap.size zW rfl hbz (setRow_heap _ _ _ _ _ _ HM6.out)) rfl ?_
    exact ⟨r, f, HF.out, by rw [← HN.out]; exact HOLD.out, by unfold toldF; rw [HD.out]; rfl, HEND.out _⟩
end Go.Proofs.Ytbcnjilhibkcnaa
