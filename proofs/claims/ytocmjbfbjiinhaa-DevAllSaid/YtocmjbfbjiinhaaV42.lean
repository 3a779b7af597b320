/- What holds between the deeds of DevBarrier. -/
import Derived.Test.YtocmjbfbjiinhaaV41
namespace Go.Proofs.Ytocmjbfbjiinhaa
open Go.ChangeShapes Go.WideShapes Go.ChangeAt Go.RowKit
set_option linter.unusedVariables false
theorem new_strs (W : World) (C : Array Value) (X : List Value) (hC : C.size = 8) (hX : X.length = 8) :
    Strs ((W.alloc (.cells C 47)).setCells W.heap.size 0 X) W.heap.size X ∧ Below W.heap.size W ((W.alloc (.cells C 47)).setCells W.heap.size 0 X) ∧ ((W.alloc (.cells C 47)).setCells W.heap.size 0 X).heap.size = W.heap.size + 1 := by
  have h := setCells_same W.heap.size 47 X 0 (W.alloc (.cells C 47)) C.toList (by rw [heap_alloc_new, Array.toArray_toList]) (by simp [hC, hX])
  rw [splice_all _ _ (by simp [hC, hX])] at h
  have ht : Touch (fun k => W.heap.size ≤ k) W ((W.alloc (.cells C 47)).setCells W.heap.size 0 X) := ((Touch.refl _ W).alloc _).setCells (Nat.le_refl _) 0 X
  exact ⟨h, ht.below (Nat.le_refl _) (fun k hk => hk), by rw [size_setCells]; simp⟩
theorem new_there (W : World) (C : Array Value) (hC : C.size = 8) : (W.alloc (.cells C 47)).there W.heap.size 0 8 := fun j hj => by
  have hb : (W.alloc (.cells C 47)).heap[W.heap.size]? = some (.cells C 47 (0, 0)) := heap_alloc_new W _
  rw [Nat.zero_add, blk_cell hb, blk_free hb]
  exact ⟨by rw [Array.getElem?_eq_getElem (by omega)]; rfl, rfl⟩
/-- Between the deeds. -/
structure BInv (w wr : World) (q gs gm gn k : Nat) (m : DM) (S : Nat → List (List Int)) (P : Nat → Prop) : Prop where
  k2 : K2 m k
  may : MayOk m S
  dev : DS w wr P q m
  prot : Prot w P gs gm
  pn : P gn
  ss : Strs wr gs (two (sureRow m))
  sn : Strs wr gn (two (nowRow m))
  maps : Mays wr gm P (k + 1) S (fun _ => True)
section
variable {w wr : World} {q gs gm gn k : Nat} {m : DM} {S : Nat → List (List Int)} {P : Nat → Prop}
theorem BInv.below (h : BInv w wr q gs gm gn k m S P) {W : World} (hb : Below wr.heap.size wr W) (P' : Nat → Prop) (h1 : ∀ x, P x → P' x) (h2 : ∀ x, P' x → P x ∨ (wr.heap.size ≤ x ∧ x < W.heap.size)) : BInv w W q gs gm gn k m S P' where
  k2 := h.k2
  may := h.may
  dev := h.dev.below hb h2
  prot := ⟨h1 _ h.prot.s, h1 _ h.prot.m, fun x hx => (h2 x hx).elim (h.prot.new x) (fun e => Nat.le_trans h.dev.bel.size e.1)⟩
  pn := h1 _ h.pn
  ss := h.ss.below hb
  sn := h.sn.below hb
  maps := (h.maps.below hb).weak h1 (Nat.le_refl _) (fun _ h => h)
theorem BInv.start {W : World} (hD : DS w W P q (DM.make [4, 4])) (hP : Prot w P gs gm) (hS : Strs W gs (upto 8 zS)) (hM : Mays W gm P 1 (fun _ => [fullV []]) (fun j => j < 8)) (C : Array Value) (hC : C.size = 8) :
    BInv w ((W.alloc (.cells C 47)).setCells W.heap.size 0 (upto 8 zS)) q gs gm W.heap.size 0 (DM.make [4, 4]) (fun _ => [fullV []]) (fun x => P x ∨ x = W.heap.size) := by
  obtain ⟨h1, h2, h3⟩ := new_strs W C (upto 8 zS) hC (upto_length 8 zS (by omega))
  have hz : two (nowRow (DM.make [4, 4])) = upto 8 zS := (upto_two (nowRow (DM.make [4, 4])) (fullV []) rfl rfl).symm
  have hz2 : two (sureRow (DM.make [4, 4])) = upto 8 zS := (upto_two (sureRow (DM.make [4, 4])) (fullV []) rfl rfl).symm
  refine ⟨K2.make, MayOk.make, hD.below h2 (fun k hk => hk.imp id (fun e => ⟨by omega, by omega⟩)), ⟨Or.inl hP.s, Or.inl hP.m, fun k hk => hk.elim (hP.new k) (fun e => by have := hD.bel.size; omega)⟩, Or.inr rfl, by rw [hz2]; exact hS.below h2, by rw [hz]; exact h1, ?_⟩
  obtain ⟨C2, g1, g2, g3⟩ := ((hM.below h2).weak (P' := fun x => P x ∨ x = W.heap.size) (fun x hx => Or.inl hx) (Nat.le_refl 1) (fun _ h => h)).blk
  exact ⟨C2, g1, g2, fun j hj _ => g3 j hj hj⟩
/-- A Barrier was done; the region's strings are copied. -/
structure BBar (w wr : World) (q gs gm gn k : Nat) (m : DM) (S : Nat → List (List Int)) (P : Nat → Prop) (r j : Nat) : Prop where
  k2 : K2 m k
  ok : (m.barrier r).Ok
  may : MayOk m S
  dev : DS w wr P q (m.barrier r)
  prot : Prot w P gs gm
  pn : P gn
  ss : Strs wr gs (two (sureRow (m.barrier r)))
  sn : Strs wr gn (two (nowRow (m.barrier r)))
  maps : Mays wr gm P (k + 2) (barS S (nowRow m r) r j) (fun _ => True)
theorem BBar.done {r : Nat} (h : BBar w wr q gs gm gn k m S P r 4) (hr : r < 2) : BInv w wr q gs gm gn (k + 1) (m.barrier r) (barS S (nowRow m r) r 4) P :=
  ⟨(h.k2.barrier hr h.ok).2.1, h.may.barrier h.k2 hr h.ok, h.dev, h.prot, h.pn, h.ss, h.sn, h.maps⟩
theorem BInv.barred (h : BInv w wr q gs gm gn k m S P) {r : Nat} (hr : r < 2) {W : World} (hd : DS w W P q (m.barrier r)) (hs : Same P wr W) (hsn : gs ≠ gn) (hsm : gs ≠ gm) :
    W.rangeAt gn (r * 4) (sv (nowRow m r)) ∧ W.there gs (r * 4) 4 ∧ (sv (nowRow m r)).length = 4 ∧ BBar w (W.setCells gs (r * 4) (sv (nowRow m r))) q gs gm gn k m S P r 0 := by
  obtain ⟨_, _, e1, e2, e3⟩ := h.k2.barrier hr hd.ok
  have f1 := h.k2.four.1
  have f2 := h.k2.four.2
  have hn := h.sn.same hs h.pn
  have hS := h.ss.same hs h.prot.s
  have hM := h.maps.same hs h.prot.m
  have hl : (sv (nowRow m r)).length = 4 := by rw [sv_length]; exact f1.at_ hr
  have ht : Touch (fun x => x = gs) W (W.setCells gs (r * 4) (sv (nowRow m r))) := (Touch.refl (fun x => x = gs) W).setCells rfl _ _
  have hst := hS.setRow (Y := sureRow (m.barrier r)) f2 hr (by rw [e1]; exact f1.at_ hr) e2
  rw [e1] at hst
  have hn2 := hn.other ht (show ¬ (gn = gs) from fun e => hsn e.symm)
  rw [two_congr (e3 0).symm (e3 1).symm] at hn2
  refine ⟨hn.range f1 hr, hS.there (by rw [two_length f2]; omega), hl, h.k2, hd.ok, h.may, hd.touch (ht.mono' (G := P) fun x hx => by rw [hx]; exact h.prot.s) h.prot.new, h.prot, h.pn, hst, hn2, ?_⟩
  have := (hM.strs hS hsm ht).weak (c' := k + 2) (fun _ h => h) (by omega) (fun _ h => h)
  rwa [← barS_zero S (nowRow m r) r] at this
/-- One more map is laid anew. -/
theorem BBar.next {r j : Nat} (h : BBar w wr q gs gm gn k m S P r j) (hr : r < 2) (hj : j < 4) (hsm : gs ≠ gm) (hnm : gn ≠ gm) : ∃ b, (nowRow m r)[j]? = some b ∧ BlkOk b ∧ wr.cell? ⟨gs, r * 4 + j, none⟩ = some (.string (strOfNums b)) ∧
    BBar w (((wr.alloc (oneM b)).setCell ⟨gm, r * 4 + j, none⟩ (.map (some wr.heap.size))).drew) q gs gm gn k m S (fun x => P x ∨ x = wr.heap.size) r (j + 1) := by
  obtain ⟨_, hK2, e1, e2, e3⟩ := h.k2.barrier hr h.ok
  obtain ⟨b, hb1, _, hb3⟩ := get_four h.k2.ok h.k2.dims hr hj
  have hc : wr.cell? ⟨gs, r * 4 + j, none⟩ = some (.string (strOfNums b)) := by
    rw [h.ss.cell]; exact two_get hK2.four.2 hr hj (by rw [e1]; exact hb1)
  obtain ⟨n1, n2, n3, n4⟩ := new_map (S' := barS S (nowRow m r) r (j + 1)) (Done' := fun _ => True) (x := b) h.dev h.prot h.maps (j := r * 4 + j) (by omega) (by rw [hb3.1]; omega) (by omega)
    (by unfold barS; rw [if_pos (by omega), show r * 4 + j - r * 4 = j by omega, List.getD, hb1]; rfl)
    (fun k hk hne => by
      unfold barS
      by_cases c : r * 4 ≤ k ∧ k < r * 4 + j
      · rw [if_pos c, if_pos (by omega)]
      · rw [if_neg c, if_neg (by omega)])
    (fun k _ _ => Or.inr trivial)
  exact ⟨b, hb1, hb3, hc, h.k2, h.ok, h.may, n1, n2, Or.inl h.pn, n4 gs _ h.ss hsm, n4 gn _ h.sn hnm, n3⟩
/-- A Write was done: the string is stored, then the set has it. -/
theorem BInv.stored (h : BInv w wr q gs gm gn k m S P) {r i : Nat} (hr : r < 2) (hi : i < 4) (b : List Int) (hb : BlkOk b) {W : World} (hd : DS w W P q (m.write r i b)) (hs : Same P wr W) (hsn : gs ≠ gn) (hnm : gn ≠ gm) :
    (∃ u, W.cell? ⟨gn, r * 4 + i, none⟩ = some u) ∧ W.frozen? ⟨gn, r * 4 + i, none⟩ = false ∧
    (let W2 := W.setCell ⟨gn, r * 4 + i, none⟩ (.string (strOfNums b)); K2 (m.write r i b) (k + 1) ∧ DS w W2 P q (m.write r i b) ∧ Strs W2 gs (two (sureRow (m.write r i b))) ∧ Strs W2 gn (two (nowRow (m.write r i b))) ∧ Mays W2 gm P (k + 1) S (fun _ => True)) := by
  obtain ⟨_, hK, e1, e2, e3⟩ := h.k2.write hr hi b hb hd.ok
  have hn := h.sn.same hs h.pn
  have hS := h.ss.same hs h.prot.s
  have hM := h.maps.same hs h.prot.m
  have f1 := h.k2.four.1
  refine ⟨⟨_, by rw [hn.cell]; exact List.getElem?_eq_getElem (by rw [two_length f1]; omega)⟩, hn.free _, ?_⟩
  have ht : Touch (fun x => x = gn) W (W.setCell ⟨gn, r * 4 + i, none⟩ (.string (strOfNums b))) := (Touch.refl (fun x => x = gn) W).setCell (p := ⟨gn, r * 4 + i, none⟩) rfl _
  have hn2 := hn.set (r * 4 + i) (.string (strOfNums b))
  rw [two_set f1 hr hi b e1 e2] at hn2
  have hS2 := hS.other ht (show ¬ (gs = gn) from hsn)
  rw [two_congr (e3 0).symm (e3 1).symm] at hS2
  exact ⟨hK, hd.touch (ht.mono' (G := P) fun x hx => by rw [hx]; exact h.pn) h.prot.new, hS2, hn2, hM.strs hn hnm ht⟩
theorem BInv.added {W2 : World} {r i : Nat} {b : List Int} (h0 : BInv w wr q gs gm gn k m S P) (hr : r < 2) (hi : i < 4) (hb : BlkOk b) (hk : k ≤ 1000)
    (h : K2 (m.write r i b) (k + 1) ∧ DS w W2 P q (m.write r i b) ∧ Strs W2 gs (two (sureRow (m.write r i b))) ∧ Strs W2 gn (two (nowRow (m.write r i b))) ∧ Mays W2 gm P (k + 1) S (fun _ => True)) :
    ∃ bm W3, W2.cell? ⟨gm, r * 4 + i, none⟩ = some (.map (some bm)) ∧ (Instr.mapUpdate 48 (.map (some bm)) (.string (strOfNums b)) (.bool true)).run Try.prog W2 = .ok () W3 ∧ BInv w W3 q gs gm gn (k + 1) (m.write r i b) (addS S (r * 4 + i) b) P := by
  obtain ⟨hK, hD, hS, hN, hM⟩ := h
  obtain ⟨bm, hc, hp, hh⟩ := hM.cell (j := r * 4 + i) (by omega) trivial
  obtain ⟨W3, h1, h2, h3, h4⟩ := hh.add2 (by simp only [maxLen]; omega) b (by rw [hb.1]; omega)
  have hmap := hh.isMap
  have ht : Touch (fun x => x = bm) W2 W3 := (Touch.of_grown h3).mono' fun x hx => by injection hx
  have hneS : ∀ g X, Strs W2 g X → g ≠ bm := fun g X hX e => by
    obtain ⟨es, clock, hm⟩ := hmap
    unfold Strs at hX
    rw [e, hm] at hX; cases hX
  refine ⟨bm, W3, hc, h1, hK, h0.may.write h0.k2 hr hi b, hD.touch (ht.mono' (G := P) fun x hx => by rw [hx]; exact hp) h0.prot.new, h0.prot, h0.pn, hS.other ht (hneS _ _ hS), hN.other ht (hneS _ _ hN), ?_⟩
  exact hM.add (by omega) trivial hc h2 h3 hmap h4
end
end Go.Proofs.Ytocmjbfbjiinhaa
