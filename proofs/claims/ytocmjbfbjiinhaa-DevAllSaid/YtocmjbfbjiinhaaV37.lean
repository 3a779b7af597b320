/- The texts of a Crash: six full bytes twice; those that were there ahead. -/
import Derived.Test.YtocmjbfbjiinhaaV36
namespace Go.Proofs.Ytocmjbfbjiinhaa
open Go.ChangeShapes Go.WideShapes Go.ChangeAt Go.RowKit
set_option linter.unusedVariables false
theorem keeps6 (W : World) (t1 t2 t3 : TypeId) (F : Nat → Prop) (hF : ∀ k, F k → k < W.heap.size) :
    TxtsF (((W.alloc (.cells (Bs k6).toArray t1)).alloc (.cells (Bs k6).toArray t2)).alloc (.cells #[.slice (some ⟨W.heap.size, 0, none⟩) 6 6, .slice (some ⟨W.heap.size + 1, 0, none⟩) 6 6] t3)) F (some ⟨W.heap.size + 2, 0, none⟩) [k6, k6] := fun i bs hi => by
  obtain ⟨a1, a2, a3, a4, a5⟩ := alloc3 W (.cells (Bs k6).toArray t1) (.cells (Bs k6).toArray t2) (.cells #[.slice (some ⟨W.heap.size, 0, none⟩) 6 6, .slice (some ⟨W.heap.size + 1, 0, none⟩) 6 6] t3)
  generalize (((W.alloc (.cells (Bs k6).toArray t1)).alloc (.cells (Bs k6).toArray t2)).alloc (.cells #[.slice (some ⟨W.heap.size, 0, none⟩) 6 6, .slice (some ⟨W.heap.size + 1, 0, none⟩) 6 6] t3)) = V at *
  have hlt := (List.getElem?_eq_some_iff.1 hi).1
  have nf : ∀ k, W.heap.size ≤ k → ¬ F k := fun k hk hf => by have := hF k hf; omega
  match i, hlt, hi with
  | 0, _, hi =>
    injection hi with hi
    subst hi
    refine ⟨_, some ⟨W.heap.size, 0, none⟩, 6, rfl, fun W' ht => ⟨?_, byt_blk ((ht.block _ (room_lt a1) (nf _ (by omega))).trans a1) (by simp)⟩, k6_ok, Nat.le_refl _, by omega⟩
    rw [Addr.add_mid, blk_cell ((ht.block _ (room_lt a3) (nf _ (by omega))).trans a3)]; rfl
  | 1, _, hi =>
    injection hi with hi
    subst hi
    refine ⟨_, some ⟨W.heap.size + 1, 0, none⟩, 6, rfl, fun W' ht => ⟨?_, byt_blk ((ht.block _ (room_lt a2) (nf _ (by omega))).trans a2) (by simp)⟩, k6_ok, Nat.le_refl _, by omega⟩
    rw [Addr.add_mid, blk_cell ((ht.block _ (room_lt a3) (nf _ (by omega))).trans a3)]; rfl
/-- Texts that lay there ahead of w, for whoever writes to newer blocks alone. -/
theorem Txts.older {w W : World} {A : Option Addr} {ks : List (List Int)} (h : Txts w A ks) (hb : Below w.heap.size w W) (F : Nat → Prop) (hF : ∀ k, F k → w.heap.size ≤ k) : TxtsF W F A ks := by
  have hW : Txts W A ks := h.keep fun q v hq => by rw [hb.cell (World.block_lt_of_cell? w q hq)]; exact hq
  refine hW.away hF fun i bs hi a A' c e hc => ?_
  obtain ⟨a0, A0, c0, e0, h1, h2, h3⟩ := h i bs hi
  rw [e] at e0; injection e0 with e0; subst e0
  have hlt := World.block_lt_of_cell? w _ h1
  refine ⟨hlt, fun a' ea hne => ?_⟩
  rw [hb.cell hlt, h1] at hc
  injection hc with hc; injection hc with hc _ _; subst hc
  obtain ⟨y, hy⟩ : ∃ y, bs[0]? = some y := by cases bs with | nil => exact absurd rfl hne | cons y l => exact ⟨y, rfl⟩
  obtain ⟨a2, e2, h4⟩ := h2 0 y hy
  rw [ea] at e2; injection e2 with e2; subst e2
  have := World.block_lt_of_cell? w _ h4
  rwa [block_of_add'] at this
/-- A Write of a block that is newer than the device: the block stays as it was. -/
theorem DC.writeFresh {w0 W W1 : World} {q : Nat} {m m' : DM} {c : Value} (h : DC w0 W q m c m') (hb : Below W.heap.size W W1) (r i : Int) (hr : i64 r) (hi : i64 i) (g : Nat) (bs : List Int) (hbk : BlkOk bs) (hy : Blk64 W1 g bs) (hmax : m.done.length ≤ 1000000) :
    Calls Try.prog 21 #[.pointer (some ⟨q, 0, none⟩), .int .i64 r, .int .i64 i, .slice (some ⟨g, 0, none⟩) 64 64] W1 fun e w' => e = .returned (.bool (hasB m r i)) ∧ DC w0 w' q (m.doWrite r i bs) c m' ∧ ∀ x, W.heap.size ≤ x → x < W1.heap.size → w'.heap[x]? = W1.heap[x]? := by
  have e1 : okWrite m r i bs = hasB m r i := by unfold okWrite; rw [hbk.1]; simp
  rcases h with ⟨e, h⟩ | ⟨q', e, h⟩
  · obtain ⟨F, h1, h2, h3⟩ := h.dev
    have hlt : ∀ k, F k → k < W.heap.size := by obtain ⟨O, L, _, _, h⟩ := h1; exact h
    have hw := write_any (h1.below hb) r i hr hi (some ⟨g, 0, none⟩) bs 64 hbk.2 hy.byt (by rw [hbk.1]; omega) hmax
    rw [hbk.1, e1] at hw
    have hn : DS w0 W1 (fun _ => False) q m := h.below hb (fun k hk => hk.elim)
    refine hw.mono fun e' w' ⟨he, hs⟩ => ⟨he, Or.inl ⟨e, (hn.next h2 h3 hs).1⟩, fun x hx hx1 => ?_⟩
    obtain ⟨F2, _, ht, _⟩ := hs
    exact ht.block x hx1 (fun hf => by have := hlt x hf; omega)
  · obtain ⟨F, F', h1, h2, h3, h4, h5⟩ := h.devs
    have hlt : ∀ k, F k → k < W.heap.size := by obtain ⟨O, L, _, _, h⟩ := h1; exact h
    have hw := write_any (h1.below hb) r i hr hi (some ⟨g, 0, none⟩) bs 64 hbk.2 hy.byt (by rw [hbk.1]; omega) hmax
    rw [hbk.1, e1] at hw
    refine hw.mono fun e' w' ⟨he, hs⟩ => ⟨he, Or.inr ⟨q', e, D2.step (h1.below hb) (h2.below hb) h3 h4 h5 (h.bel.trans (hb.mono h.bel.size)) hs⟩, fun x hx hx1 => ?_⟩
    obtain ⟨F2, _, ht, _⟩ := hs
    exact ht.block x hx1 (fun hf => by have := hlt x hf; omega)
end Go.Proofs.Ytocmjbfbjiinhaa
