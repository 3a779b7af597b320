/- A vol that goes on, beside its device (for the laws with deeds); rows of Blocks among what is kept. -/
import Derived.Test.YtamnpblijdgdaaaOb
namespace Go.Proofs.Ytamnpblijdgdaaa
open Go.ChangeShapes Go.WideShapes Go.ChangeAt Go.RowKit
set_option linter.unusedVariables false
set_option maxRecDepth 100000
structure GoI (w wr : World) (s3 q hp rb gs n G k : Nat) (m : DM) (v : VM) : Prop where
  sv : SV w wr (fun k => k < s3 ∨ k = hp ∨ k = rb) q m hp rb v
  lv : Lv m v 0 n G
  ns : m.stops = false
  ep : v.ep ≤ 2 + k
  dn : m.done.length ≤ 80 + 60 * k
  sh : wr.heap[gs]? = some (.cells (shC n G 3) 30 (0, 0))
theorem GoI.below {w wr wr' : World} {s3 q hp rb gs n G k : Nat} {m : DM} {v : VM} (h : GoI w wr s3 q hp rb gs n G k m v) (hb : Below wr.heap.size wr wr') : GoI w wr' s3 q hp rb gs n G k m v := ⟨h.sv.below hb, h.lv, h.ns, h.ep, h.dn, kb hb h.sh⟩
theorem GoI.mono {w wr : World} {s3 q hp rb gs n G k k' : Nat} {m : DM} {v : VM} (h : GoI w wr s3 q hp rb gs n G k m v) (hk : k ≤ k') : GoI w wr s3 q hp rb gs n G k' m v := ⟨h.sv, h.lv, h.ns, by have := h.ep; omega, by have := h.dn; omega, h.sh⟩
theorem Lv.step {m : DM} {v : VM} {r n g : Nat} (h : Lv m v r n g) {l : List Wr} (hok : WrsOk l) (hg : 13 ≤ g) (he : v.ep + 1 < 65000) (hns : m.stops = false) : Lv (chM m v l) (chV v l) r n g ∧ (chV v l).ep ≤ v.ep + 1 ∧ (chM m v l).stops = false := by
  have h1 := h.change hok hg he hns
  exact ⟨h1.1, h1.2.2.1, h1.2.2.2⟩
theorem GoI.change {w wr : World} {s3 q hp rb gs n G k : Nat} {m : DM} {v : VM} (h : GoI w wr s3 q hp rb gs n G k m v) (hk : k ≤ 40) (hG : 13 ≤ G) (hn : n ≤ 40) (h1 : gs < s3 ∧ gs ≠ hp ∧ gs ≠ rb) (A : Option Addr) (l : List Wr) (c d : Nat) (hl : l.length = c) (hc : c ≤ d) (hd : d ≤ 9223372036854775807) (hok : WrsOk l) (hy : WrsR wr (Rst (fun k => k < s3 ∨ k = hp ∨ k = rb) hp rb) A l) :
    Calls Try.prog 22 #[.pointer (some ⟨hp, 0, none⟩), .slice A c d] wr fun e w' => e = .returned (.int .i64 (if ChOk v l then 0 else 1)) ∧ GoI w w' s3 q hp rb gs n G (k + 1) (chM m v l) (chV v l) := by
  obtain ⟨p1, p2, p3, p4, p5, p6⟩ := h.lv.parts
  have hus := h.lv.usg
  have hsq := h.lv.sqg
  have hep := h.ep
  have hdn := h.dn
  have hst := h.lv.step hok hG (by omega) h.ns
  have hd2 := chM_done m v l
  have hbl : v.B.length = n := by rw [p4.len, p2]
  refine (vchange_any h.sv A l c d hl hc hd hok hy (by omega) (by omega) (by omega) (by omega) (by omega)).mono ?_
  rintro e w' ⟨he, hs, hm⟩
  exact ⟨he, hs, hst.1, hst.2.2, by omega, by omega, (hm.blk gs ⟨Or.inl h1.1, h1.2.1, h1.2.2⟩).trans h.sh⟩
theorem stV_oks {v : VM} (h : v.Ok) : BksOk (stV v) := fun x hx => by
  unfold stV at hx
  obtain ⟨y, hy, rfl⟩ := List.mem_map.1 hx
  have := h.ok y hy
  exact ⟨this.k, this.len, this.b⟩
theorem stV_length {v : VM} (h : v.Ok) : (stV v).length = v.n := by unfold stV; rw [List.length_map, h.len]
/-- A row of Blocks behind a slice, of the blocks R. -/
def BksR (W : World) (R : Nat → Prop) (A : Option Addr) (l : List Bk) : Prop := ∀ i x, l[i]? = some x → ∃ g, A = some ⟨g, 0, none⟩ ∧ W.rangeAt g (i * 57) (blkL x.k x.bs) ∧ R g
theorem BksR.bks {W : World} {R : Nat → Prop} {A : Option Addr} {l : List Bk} (h : BksR W R A l) : Bks W A l := fun i x hi => let ⟨g, e, h1, _⟩ := h i x hi; ⟨g, e, h1⟩
theorem BksR.same {W W' : World} {R : Nat → Prop} {A : Option Addr} {l : List Bk} (h : BksR W R A l) (hs : Same R W W') : BksR W' R A l := fun i x hi => by
  obtain ⟨g, e, h1, h2⟩ := h i x hi
  refine ⟨g, e, fun j v hj => ?_, h2⟩
  have h3 := h1 j v hj
  rw [World.cell?_of_block (hs.blk _ h2)]
  exact h3
theorem BksR.below {W W' : World} {R : Nat → Prop} {A : Option Addr} {l : List Bk} (h : BksR W R A l) (hb : Below W.heap.size W W') : BksR W' R A l := fun i x hi => by
  obtain ⟨g, e, h1, h2⟩ := h i x hi
  exact ⟨g, e, fun j v hj => keepC hb (h1 j v hj), h2⟩
theorem OwnK.bksR {w : World} {base : Nat} {v : Value} {l : List Bk} {R : Nat → Prop} (h : OwnK w base v l) (hok : BksOk l) (hR : ∀ k, base ≤ k → k < w.heap.size → R k) : ∃ A d, v = .slice A l.length d ∧ l.length ≤ d ∧ d ≤ 9223372036854775807 ∧ BksR w R A l := by
  rcases h.2 with ⟨rfl, h0⟩ | ⟨g, cap, cur, rfl, hb, hg, hn', hm, hs, ht⟩
  · refine ⟨none, 0, by rw [h0], by omega, by omega, fun i x hi => ?_⟩
    rw [List.length_eq_zero_iff.1 h0] at hi; cases hi
  · refine ⟨some ⟨g, 0, none⟩, cap, rfl, hn', by simp only [maxLen] at hm; omega, fun i x hi => ⟨g, rfl, fun j v hj => ?_, hR g (h.lt g rfl).1 (h.lt g rfl).2⟩⟩
    have h5 := h.cells (g := g) rfl _ _ (bksL_at hok hi hj)
    rw [add_at] at h5; exact h5
/-- A region whose vol is mounted anew. -/
structure MoI (w wr : World) (P : Nat → Prop) (q gs n G k : Nat) (A : Option Addr) (S : List Bk) (m : DM) (v : VM) : Prop where
  ds : DS w wr P q m
  lv : Lv m v 0 n G
  ns : m.stops = false
  ep : v.ep ≤ 60 + k
  dn : m.done.length ≤ 3000 + 60 * k
  sh : wr.heap[gs]? = some (.cells (shC n G 3) 30 (0, 0))
  st : stV v = S
  bk : BksR wr P A S
theorem MoI.mount {w wr : World} {P : Nat → Prop} {q gs n G k : Nat} {A : Option Addr} {S : List Bk} {m : DM} {v : VM} (h : MoI w wr P q gs n G k A S m v) (hk : k ≤ 40) (hn : n ≤ 40) (hgs : P gs) :
    Calls Try.prog 16 #[.pointer (some ⟨q, 0, none⟩), .int .i64 0, shQ 0 0 n G 3] wr fun en w' => ∃ hp rb m' v', en = .returned (.tuple #[.pointer (some ⟨hp, 0, none⟩), .int .i64 0]) ∧ MoI w w' P q gs n G (k + 1) A S m' v' ∧ VolAt w' q hp rb v' ∧ v'.ep = v.ep + 1 ∧ v'.us = 0 ∧ v'.g = G := by
  have hep := h.ep
  have hdn := h.dn
  obtain ⟨S0, Rs, hmt, hrl, hlive, hsure, hst, hns2⟩ := h.lv.mount h.ns (by omega) (by omega : (0 : Nat) < 1000) 3
  obtain ⟨p1, p2, p3, p4, p5, p6⟩ := h.lv.parts
  have hdn2 := homeM_done' m 0 n G v.ep 3 Rs
  refine (mount_mtb h.ds hmt (by omega) p5 3 (by omega) (by omega)).mono ?_
  rintro en w' ⟨hp, rb, he, hsv, hsm, h1, h2⟩
  refine ⟨hp, rb, _, _, he, ⟨hsv.ds.mono (fun k hk => Or.inl hk), hlive.lv, hns2, ?_, by omega, (hsm.blk gs hgs).trans h.sh, hst.trans h.st, h.bk.same hsm⟩, hsv.at_, hlive.tied.ve, rfl, hlive.tied.vg⟩
  rw [hlive.tied.ve]; omega
theorem MoI.below {w wr wr' : World} {P : Nat → Prop} {q gs n G k : Nat} {A : Option Addr} {S : List Bk} {m : DM} {v : VM} (h : MoI w wr P q gs n G k A S m v) (hb : Below wr.heap.size wr wr') : MoI w wr' P q gs n G k A S m v := ⟨h.ds.below hb (fun k hk => Or.inl hk), h.lv, h.ns, h.ep, h.dn, kb hb h.sh, h.st, h.bk.below hb⟩
end Go.Proofs.Ytamnpblijdgdaaa
