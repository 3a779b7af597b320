/- For the laws with crashes: a region that may be mounted, a vol that goes on, one that is synced. -/
import Derived.Test.YtamnpblijdgdaaaOc
namespace Go.Proofs.Ytamnpblijdgdaaa
open Go.ChangeShapes Go.WideShapes Go.ChangeAt Go.RowKit
set_option linter.unusedVariables false
set_option maxRecDepth 100000
structure GoP (w wr : World) (P : Nat → Prop) (q hp rb gs n G k : Nat) (m : DM) (v : VM) : Prop where
  sv : SV w wr P q m hp rb v
  lv : Lv m v 0 n G
  ns : m.stops = false
  ep : v.ep ≤ 2 + k
  dn : m.done.length ≤ 80 + 60 * k
  sh : wr.heap[gs]? = some (.cells (shC n G 3) 30 (0, 0))
theorem GoP.below {w wr wr' : World} {P : Nat → Prop} {q hp rb gs n G k : Nat} {m : DM} {v : VM} (h : GoP w wr P q hp rb gs n G k m v) (hb : Below wr.heap.size wr wr') : GoP w wr' P q hp rb gs n G k m v := ⟨h.sv.below hb, h.lv, h.ns, h.ep, h.dn, kb hb h.sh⟩
theorem GoP.change {w wr : World} {P : Nat → Prop} {q hp rb gs n G k : Nat} {m : DM} {v : VM} (h : GoP w wr P q hp rb gs n G k m v) (hk : k ≤ 200) (hG : 13 ≤ G) (hn : n ≤ 40) (h1 : P gs ∧ gs ≠ hp ∧ gs ≠ rb) (A : Option Addr) (l : List Wr) (c d : Nat) (hl : l.length = c) (hc : c ≤ d) (hd : d ≤ 9223372036854775807) (hok : WrsOk l) (hy : WrsR wr (Rst P hp rb) A l) :
    Calls Try.prog 22 #[.pointer (some ⟨hp, 0, none⟩), .slice A c d] wr fun e w' => e = .returned (.int .i64 (if ChOk v l then 0 else 1)) ∧ GoP w w' P q hp rb gs n G (k + 1) (chM m v l) (chV v l) ∧ Same (Rst P hp rb) wr w' := by
  obtain ⟨p1, p2, p3, p4, p5, p6⟩ := h.lv.parts
  have hus := h.lv.usg
  have hsq := h.lv.sqg
  have hep := h.ep
  have hdn := h.dn
  have hst := h.lv.step hok hG (by omega) h.ns
  have hd2 := chM_done m v l
  have hbl : v.B.length = n := by rw [p4.len, p2]
  refine (vchange_any h.sv A l c d hl hc hd hok hy (by omega) (by omega) (by omega) (by omega) (by omega)).mono ?_
  rintro e w' ⟨he, hs, hm⟩
  exact ⟨he, ⟨hs, hst.1, hst.2.2, by omega, by omega, (hm.blk gs h1).trans h.sh⟩, hm⟩
/-- It may be mounted. -/
structure MtI (w wr : World) (P : Nat → Prop) (q gs n G k : Nat) (S : List Bk) (m : DM) : Prop where
  ds : DS w wr P q m
  mt : ∃ e S0 Rs, Mtb m 0 n G e S0 Rs ∧ applyW S0 Rs.flatten = S ∧ e ≤ 2 + k
  ns : m.stops = false
  dn : m.done.length ≤ 80 + 60 * k
  sh : wr.heap[gs]? = some (.cells (shC n G 3) 30 (0, 0))
theorem MtI.below {w wr wr' : World} {P : Nat → Prop} {q gs n G k : Nat} {S : List Bk} {m : DM} (h : MtI w wr P q gs n G k S m) (hb : Below wr.heap.size wr wr') : MtI w wr' P q gs n G k S m := ⟨h.ds.below hb (fun k hk => Or.inl hk), h.mt, h.ns, h.dn, kb hb h.sh⟩
theorem Mtb.few {m : DM} {r n g e : Nat} {S0 : List Bk} {Rs : List (List Wr)} (h : Mtb m r n g e S0 Rs) : Rs.length ≤ g := by
  obtain ⟨rest, h1, _⟩ := h.lg
  have h2 := congrArg List.length h1
  rw [List.length_append, List.length_take] at h2
  have := putsL_few e Rs 0
  omega
theorem MtI.mount {w wr : World} {P : Nat → Prop} {q gs n G k : Nat} {S : List Bk} {m : DM} (h : MtI w wr P q gs n G k S m) (hk : k ≤ 200) (hn : n ≤ 40) (hG : G ≤ 1000) (hgs : P gs) :
    Calls Try.prog 16 #[.pointer (some ⟨q, 0, none⟩), .int .i64 0, shQ 0 0 n G 3] wr fun en w' => ∃ hp rb m' v', en = .returned (.tuple #[.pointer (some ⟨hp, 0, none⟩), .int .i64 0]) ∧ GoP w w' (fun k => P k ∨ k = hp ∨ k = rb) q hp rb gs n G (k + 1) m' v' ∧ stV v' = S ∧ Same P wr w' ∧ wr.heap.size ≤ hp ∧ wr.heap.size ≤ rb := by
  have hdn := h.dn
  obtain ⟨e, S0, Rs, hmt, hS, he⟩ := h.mt
  have hfew := hmt.few
  have htd := hmt.tied 3 (by omega) hG
  have hns2 : (homeM m (mntV m 0 n G e 3 Rs)).stops = false := by rw [ns_home]; exact h.ns
  have hlv := hmt.live htd (by omega) (ns_of hns2)
  have hdn2 := homeM_done' m 0 n G e 3 Rs
  refine (mount_mtb h.ds hmt (by omega) hG 3 (by omega) (by omega)).mono ?_
  rintro en w' ⟨hp, rb, hen, hsv, hsm, h1, h2⟩
  refine ⟨hp, rb, _, _, hen, ⟨hsv, hlv.1.lv, hns2, ?_, by omega, (hsm.blk gs hgs).trans h.sh⟩, ?_, hsm, h1, h2⟩
  · rw [hlv.1.tied.ve]; omega
  · rw [hlv.1.st]; exact hS
/-- All that was changed is sure. -/
structure SyI (w wr : World) (P : Nat → Prop) (q hp rb gs n G k : Nat) (m : DM) (v : VM) : Prop where
  sv : SV w wr P q m hp rb v
  lv : ∃ S0 Rs, Live m v 0 n G v.ep S0 Rs Rs.length
  ns : m.stops = false
  ep : v.ep ≤ 2 + k
  dn : m.done.length ≤ 80 + 60 * k
  sh : wr.heap[gs]? = some (.cells (shC n G 3) 30 (0, 0))
theorem SyI.below {w wr wr' : World} {P : Nat → Prop} {q hp rb gs n G k : Nat} {m : DM} {v : VM} (h : SyI w wr P q hp rb gs n G k m v) (hb : Below wr.heap.size wr wr') : SyI w wr' P q hp rb gs n G k m v := ⟨h.sv.below hb, h.lv, h.ns, h.ep, h.dn, kb hb h.sh⟩
theorem SyI.grow {w wr wr' : World} {P : Nat → Prop} {q hp rb gs n G k : Nat} {m : DM} {v : VM} (h : SyI w wr P q hp rb gs n G k m v) (hb : Below wr.heap.size wr wr') {Q : Nat → Prop} (hQ : ∀ k, Q k → wr.heap.size ≤ k ∧ k < wr'.heap.size) : SyI w wr' (fun k => P k ∨ Q k) q hp rb gs n G k m v := ⟨h.sv.grow hb hQ, h.lv, h.ns, h.ep, h.dn, kb hb h.sh⟩
theorem GoP.sync {w wr : World} {P : Nat → Prop} {q hp rb gs n G k : Nat} {m : DM} {v : VM} (h : GoP w wr P q hp rb gs n G k m v) (hk : k ≤ 200) (hgs : P gs) :
    Calls Try.prog 20 #[.pointer (some ⟨hp, 0, none⟩)] wr fun e w' => e = .returned (.tuple #[]) ∧ SyI w w' P q hp rb gs n G (k + 1) (m.doBarrier ((0 : Nat) : Int)) v ∧ Same P wr w' := by
  have hdn := h.dn
  have hep := h.ep
  obtain ⟨S0, Rs, j, hl⟩ := h.lv
  have hr := hl.tied.vr
  have hs := (hl.sync (ns_of h.ns)).1
  have h2 := done_doBarrier m v.r
  have hns : (m.doBarrier v.r).stops = false := by rw [ns_barrier]; exact h.ns
  refine (vsync_any h.sv (by omega)).mono ?_
  rintro e w' ⟨he, hsv, hm⟩
  rw [hr] at hsv hns h2
  exact ⟨he, ⟨hsv, ⟨S0, Rs, hs⟩, hns, by omega, by omega, (hm.blk gs hgs).trans h.sh⟩, hm⟩
theorem SyI.crash {w wr : World} {P : Nat → Prop} {q hp rb gs n G k : Nat} {m : DM} {v : VM} (h : SyI w wr P q hp rb gs n G k m v) (hk : k ≤ 200) (hgs : P gs) :
    Calls Try.prog 23 #[.pointer (some ⟨q, 0, none⟩), .slice none 0 0] wr fun e w' => e = .returned (.tuple #[]) ∧ MtI w w' P q gs n G k (stV v) (m.crash []) ∧ Same P wr w' := by
  have hdn := h.dn
  obtain ⟨S0, Rs, hl⟩ := h.lv
  have hep := h.ep
  have hst := hl.st
  have hfz := hl.idle.fz (D := fun s => s = stV v) (E := v.ep) (fun k' h1 h2 => by
    rw [List.take_of_length_le h1]; exact hst.symm) (Nat.le_refl _)
  obtain ⟨hf, hp1, _⟩ := hl.idle.fit.crash []
  obtain ⟨e, S1, R1, h1, h2, h3⟩ := hfz.2 _ hf hp1
  refine (h.sv.ds.crash0 (by omega)).mono ?_
  rintro e' w' ⟨he, hd, hm⟩
  exact ⟨he, ⟨hd, ⟨e, S1, R1, h1, h2, by omega⟩, rfl, by rw [crash_done]; omega, (hm.blk gs hgs).trans h.sh⟩, hm⟩
end Go.Proofs.Ytamnpblijdgdaaa
