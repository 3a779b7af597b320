/- A free label is sought: what stands in between. -/
import Derived.Test.YtfmpbofhaoijpaaP4
import Derived.Deep.LoopGhost
namespace Go.Proofs.Ytfmpbofhaoijpaa
open Go.ChangeShapes Go.WideShapes Go.ChangeAt Go.RowKit
set_option linter.unusedVariables false
theorem grown_drewN (W : World) (n : Nat) (row : Option Nat) : W.grownBy (W.drewN n) row := ⟨rfl, rfl, rfl, Nat.le_refl _, fun _ _ _ => rfl⟩
theorem DraftAt.drewN {w0 W : World} {pb : Nat} {A : Option Addr} {bs : List Int} {c r8 : Nat} {x : Sh} (h : DraftAt w0 pb A bs c W r8 x) (n : Nat) : DraftAt w0 pb A bs c (W.drewN n) r8 x :=
  ⟨h.1, h.2.1, h.2.2.1, h.2.2.2.grown (grown_drewN W n none)⟩
theorem PW.row {w0 W W' : World} {pb : Nat} {A : Option Addr} {bs : List Int} {c : Nat} {row : Option Nat} (h0 : PW w0 pb A bs c w0) (h : PW w0 pb A bs c W) (hg : W.grownBy W' row) (hr : ∀ k, row = some k → w0.heap.size ≤ k) : PW w0 pb A bs c W' := by
  obtain ⟨⟨n0, hp0⟩, _⟩ := h0
  have hl := hp0.lt
  obtain ⟨⟨nn, hp⟩, hg1⟩ := h
  have ne : ∀ k, k < w0.heap.size → some k ≠ row := fun k hk e => by have := hr k e.symm; omega
  have hg2 : w0.grownBy W' (some pb) :=
    ⟨hg.os.trans hg1.os, hg.tape.trans hg1.tape, hg.output.trans hg1.output, Nat.le_trans hg1.size hg.size, fun k hk hne => (hg.block k (Nat.lt_of_lt_of_le hk hg1.size) (ne k hk)).trans (hg1.block k hk hne)⟩
  exact ⟨⟨nn, (hg.block pb hp.lt (ne pb hl)).trans hp.blk, byt_grown hp0.byt hg2 hp.far, hp.far, hp.le⟩, hg2⟩
theorem PW.on {w0 w1 W : World} {pb : Nat} {A : Option Addr} {bs : List Int} {c : Nat} (h : PW w0 pb A bs c w1) (h1 : PW w1 pb A bs c W) : PW w0 pb A bs c W := ⟨h1.1, h.2.trans h1.2⟩
/-- What holds while the label is sought: the frame's k; the number of the draft's label; how many labels on one is free. -/
def Seek (wr : World) (pb : Nat) (A : Option Addr) (bs : List Int) (c r8 B : Nat) (v : Value) (cs : List Sh) (kk n d : Nat) (wx : World) (x : Sh) : Prop :=
  x.l = lvN n ∧ x.c = lcN n ∧ cs.any (isV (lvN (n + d)) (lcN (n + d))) = false ∧ (cs.take kk).any (isV x.l x.c) = false ∧ DraftAt wr pb A bs c wx r8 x ∧ wx.ownsRow B 35 5 v cs.length (cellsL cs)
theorem Seek.drewN {wr wx : World} {pb : Nat} {A : Option Addr} {bs : List Int} {c r8 B : Nat} {v : Value} {cs : List Sh} {kk n d : Nat} {x : Sh} (h : Seek wr pb A bs c r8 B v cs kk n d wx x) (q : Nat) : Seek wr pb A bs c r8 B v cs kk n d (wx.drewN q) x :=
  ⟨h.1, h.2.1, h.2.2.1, h.2.2.2.1, h.2.2.2.2.1.drewN q, h.2.2.2.2.2⟩
theorem Seek.next {wr wx : World} {pb : Nat} {A : Option Addr} {bs : List Int} {c r8 B : Nat} {v : Value} {cs : List Sh} {kk n d : Nat} {x s : Sh} (h : Seek wr pb A bs c r8 B v cs kk n d wx x) (hs : cs[kk]? = some s) (he : isV x.l x.c s = false) : Seek wr pb A bs c r8 B v cs (kk + 1) n d wx x :=
  ⟨h.1, h.2.1, h.2.2.1, by rw [take_snoc' hs, List.any_append, h.2.2.2.1]; simp [he], h.2.2.2.2⟩
theorem Seek.pos {wr wx : World} {pb : Nat} {A : Option Addr} {bs : List Int} {c r8 B : Nat} {v : Value} {cs : List Sh} {kk n d : Nat} {x s : Sh} (h : Seek wr pb A bs c r8 B v cs kk n d wx x) (hs : cs[kk]? = some s) (he : isV x.l x.c s = true) : 0 < d := by
  rcases Nat.eq_zero_or_pos d with e | e
  · subst e
    have h1 := h.2.2.1
    rw [Nat.add_zero, ← h.1, ← h.2.1] at h1
    have := List.any_eq_false.1 h1 s (List.mem_of_getElem? hs)
    rw [he] at this; exact absurd rfl this
  · exact e
/-- The draft's label is the next one. -/
theorem Seek.step {wr wx : World} {pb : Nat} {A : Option Addr} {bs : List Int} {c r8 B : Nat} {v : Value} {cs : List Sh} {kk n d : Nat} {x : Sh} (h0 : PW wr pb A bs c wr) (h : Seek wr pb A bs c r8 B v cs kk n d wx x) (hd : 0 < d) (hne : v.ownBlock ≠ some r8) :
    ((x.l + 1) % 4 = 0 → Seek wr pb A bs c r8 B v cs 0 (n + 1) (d - 1) ((wx.setCell ⟨r8, 0, none⟩ (.int .i64 ((x.l + 1) % 4))).setCell ⟨r8, 1, none⟩ (.int .i64 ((x.c + 1) % 16))) ⟨(x.l + 1) % 4, (x.c + 1) % 16, x.b, x.g, x.f⟩) ∧
    ((x.l + 1) % 4 ≠ 0 → Seek wr pb A bs c r8 B v cs 0 (n + 1) (d - 1) (wx.setCell ⟨r8, 0, none⟩ (.int .i64 ((x.l + 1) % 4))) ⟨(x.l + 1) % 4, x.c, x.b, x.g, x.f⟩) := by
  obtain ⟨h1, h2, h3, h4, ⟨hx, hb, hr, hpw⟩, hown⟩ := h
  obtain ⟨x1, x2, x3, x4, x5, x6, x7, x8, x9, x10⟩ := hx
  have e3 : n + 1 + (d - 1) = n + d := by omega
  have s1 : ((wx.setCell ⟨r8, 0, none⟩ (.int .i64 ((x.l + 1) % 4))).heap[r8]?) = some (.cells #[.int .i64 ((x.l + 1) % 4), .int .i64 x.c, .int .i64 x.b, .int .i64 x.g, .int .i64 x.f] 35 (0, 0)) := heap_setCell_same' hb _
  have p1 := PW.set h0 hpw hr 0 (.int .i64 ((x.l + 1) % 4))
  have o1 := ownSet hown (a := ⟨r8, 0, none⟩) (.int .i64 ((x.l + 1) % 4)) hne
  constructor
  · intro e
    refine ⟨by rw [lvN_succ, h1], by rw [lcN_succ, ← h1, ← h2, if_pos e], by rw [e3]; exact h3, rfl, ⟨⟨?_, ?_, ?_, ?_, x5, x6, x7, x8, x9, x10⟩, heap_setCell_same' s1 _, hr, PW.set h0 p1 hr 1 _⟩, ownSet o1 _ hne⟩ <;> dsimp only <;> omega
  · intro e
    refine ⟨by rw [lvN_succ, h1], by rw [lcN_succ, ← h1, ← h2, if_neg e], by rw [e3]; exact h3, rfl, ⟨⟨?_, ?_, x3, x4, x5, x6, x7, x8, x9, x10⟩, s1, hr, p1⟩, o1⟩ <;> dsimp only <;> omega
end Go.Proofs.Ytfmpbofhaoijpaa
