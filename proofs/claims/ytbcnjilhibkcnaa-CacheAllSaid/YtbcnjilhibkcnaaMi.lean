/- A cache and the document's, side by side: each step of both is the model's, and what is dirty is told alike. -/
import Derived.Test.YtbcnjilhibkcnaaMh
namespace Go.Proofs.Ytbcnjilhibkcnaa
open Go.ChangeShapes Go.WideShapes Go.ChangeAt Go.RowKit
set_option linter.unusedVariables false
theorem rput_m {w : World} {h m : Nat} {X : List Ent} {R : Nat → Prop} (H0 : RA w h (m + 1) X R) (hR : ∀ k, R k → k < w.heap.size) (y : Wr) (hy : y.Ok) (d : Bool) (hl : X.length ≤ m + 1) (hm49 : m ≤ 49) :
    Calls Try.prog 17 #[.pointer (some ⟨h, 0, none⟩), .int .i64 y.t, .agg (blkA y.k y.bs), .bool d] w fun e w' => e = .returned (toldE (outM m X y.t)) ∧ RA w' h (m + 1) (putM m X y d) (New R w w') ∧ Stp R w w' := by
  rcases hp : posL X y.t with _ | k
  · exact rput_new H0 hR y.t y.k y.bs d hy.t hy.k hy.len hy.b hp hl hm49
  · obtain ⟨x, hx, hxt⟩ := posL_is hp
    have e1 : outM m X y.t = zE := by unfold outM; rw [if_neg (by rw [hp]; simp)]
    have e2 : putM m X y d = ((⟨x.1.t, y.k, y.bs⟩ : Wr), x.2 || d) :: X.eraseIdx k := by
      unfold putM; rw [hp]; simp only; rw [getD_of hx, hxt]
    rw [e1, e2]
    exact rput_old H0 hR y.t y.k y.bs d hy.t hy.k hy.len hy.b hp hx
/-! What is dirty. -/
theorem dirty_perm {l : List Fr} {L : List Ent} (h : Abs l L) (hd : Dis L) : (dirtyF l).Perm (dirtyE L) := by
  have key : (l.map fun f => ((f.w, f.d) : Ent)).Perm L := by
    have hLn : L.Nodup := by
      unfold Dis at hd
      exact List.Pairwise.of_map (fun x : Ent => x.1.t) (fun a b hab e => hab (by rw [e])) hd
    have hln : (l.map fun f => ((f.w, f.d) : Ent)).Nodup := by
      unfold List.Nodup
      rw [List.pairwise_iff_getElem]
      intro i j hi hj hij e
      rw [List.getElem_map, List.getElem_map] at e
      rw [List.length_map] at hi hj
      have h1 := h.at_ i _ (List.getElem?_eq_getElem hi)
      have h2 := h.at_ j _ (List.getElem?_eq_getElem hj)
      rw [e] at h1
      have h3 := hd.uniq h1 h2 rfl
      have := h.inj i j _ _ (List.getElem?_eq_getElem hi) (List.getElem?_eq_getElem hj) h3
      omega
    rw [List.perm_ext_iff_of_nodup hln hLn]
    intro x
    constructor
    · intro hx
      obtain ⟨f, hf, rfl⟩ := List.mem_map.1 hx
      obtain ⟨i, hi⟩ := List.mem_iff_getElem?.1 hf
      exact List.mem_of_getElem? (h.at_ i f hi)
    · intro hx
      obtain ⟨a, ha⟩ := List.mem_iff_getElem?.1 hx
      have hlt := (List.getElem?_eq_some_iff.1 ha).1
      rw [h.len] at hlt
      obtain ⟨i, f, hf, hfa⟩ := h.sur a hlt
      have h1 := h.at_ i f hf
      rw [hfa, ha] at h1
      injection h1 with h1
      exact List.mem_map.2 ⟨f, List.mem_of_getElem? hf, h1.symm⟩
  have h2 := (key.filter (·.2)).map (·.1)
  have e : ((l.map fun f => ((f.w, f.d) : Ent)).filter (·.2)).map (·.1) = dirtyF l := by
    unfold dirtyF
    rw [List.filter_map, List.map_map]; rfl
  rw [e] at h2
  exact h2
theorem dirty_one {L : List Ent} (hd : Dis L) {D D' : List Wr} (h1 : D.Perm (dirtyE L)) (h2 : D'.Perm (dirtyE L)) (s1 : SortW D) (s2 : SortW D') : D = D' := by
  refine List.Perm.eq_of_pairwise (le := fun x y : Wr => x.t ≤ y.t) (fun a b ha hb hab hba => ?_) s1 s2 (h1.trans h2.symm)
  have ha' := h1.subset ha
  have hb' := h2.subset hb
  unfold dirtyE at ha' hb'
  obtain ⟨x, hx, rfl⟩ := List.mem_map.1 ha'
  obtain ⟨y, hy, rfl⟩ := List.mem_map.1 hb'
  obtain ⟨i, hi⟩ := List.mem_iff_getElem?.1 (List.mem_filter.1 hx).1
  obtain ⟨j, hj⟩ := List.mem_iff_getElem?.1 (List.mem_filter.1 hy).1
  have e := hd.uniq hi hj (by omega)
  subst e
  rw [hi] at hj; injection hj with hj; rw [hj]
theorem dirtyE_ok {L : List Ent} (h : ∀ x ∈ L, x.1.Ok) {D : List Wr} (hp : D.Perm (dirtyE L)) : ∀ y ∈ D, y.Ok := fun y hy => by
  have h1 := hp.subset hy
  unfold dirtyE at h1
  obtain ⟨x, hx, rfl⟩ := List.mem_map.1 h1
  exact h x (List.mem_filter.1 hx).1
theorem dirty_m {w : World} {g m : Nat} {L : List Ent} {R : Nat → Prop} (h : Cached w g m L R) :
    Calls Try.prog 18 #[.pointer (some ⟨g, 0, none⟩)] w fun e w' => ∃ v D, e = .returned v ∧ D.Perm (dirtyE L) ∧ SortW D ∧ OwnW w' w.heap.size v D ∧ Below w.heap.size w w' := by
  obtain ⟨l, h1, h2, h3, _⟩ := h
  refine (dirty_any h1).mono ?_
  rintro e w' ⟨v, D, rfl, hp, hs, hown, hb⟩
  exact ⟨v, D, rfl, hp.trans (dirty_perm h2 h3), hs, hown, hb⟩
/-! Both. -/
structure CR (B : Nat) (w : World) (g m : Nat) (L : List Ent) (R : Nat → Prop) (h : Nat) (R' : Nat → Prop) : Prop where
  a : St B w g m L R
  r : RA w h (m + 1) L R'
  rhi : ∀ k, R' k → k < w.heap.size
  rlo : ∀ k, R' k → B ≤ k
  dis : ∀ k, R k → ¬ R' k
  few : m ≤ 49
section
variable {B : Nat} {w w' : World} {g m h : Nat} {L L2 : List Ent} {R R' R2 : Nat → Prop}
theorem CR.below (H : CR B w g m L R h R') (hb : Below w.heap.size w w') : CR B w' g m L R h R' :=
  ⟨H.a.below hb, H.r.below hb, fun k hk => Nat.lt_of_lt_of_le (H.rhi k hk) hb.size, H.rlo, H.dis, H.few⟩
/-- One has stepped, the other one not yet. -/
structure CH (B : Nat) (w : World) (g m : Nat) (L L2 : List Ent) (R : Nat → Prop) (h : Nat) (R' : Nat → Prop) : Prop where
  a : St B w g m L2 R
  r : RA w h (m + 1) L R'
  rhi : ∀ k, R' k → k < w.heap.size
  rlo : ∀ k, R' k → B ≤ k
  dis : ∀ k, R k → ¬ R' k
  few : m ≤ 49
  len : L.length ≤ m + 1
theorem CR.fst (H : CR B w g m L R h R') (hs : St B w' g m L2 R2) (hl : Left R R2 w w') : CH B w' g m L L2 R2 h R' :=
  ⟨hs, H.r.kept hl.1 (fun k hk hn => H.dis k hn hk), fun k hk => Nat.lt_of_lt_of_le (H.rhi k hk) hl.1.size, H.rlo, fun k hk hn => hl.2 k (H.rhi k hn) (fun hr => H.dis k hr hn) hk, H.few, by have := H.a.c.len; exact this⟩
theorem CH.below (H : CH B w g m L L2 R h R') (hb : Below w.heap.size w w') : CH B w' g m L L2 R h R' :=
  ⟨H.a.below hb, H.r.below hb, fun k hk => Nat.lt_of_lt_of_le (H.rhi k hk) hb.size, H.rlo, H.dis, H.few, H.len⟩
theorem CH.snd (H : CH B w g m L L2 R h R') (hB : B ≤ w.heap.size) (hr : RA w' h (m + 1) L2 (New R' w w')) (hs : Stp R' w w') : CR B w' g m L2 R h (New R' w w') :=
  ⟨H.a.kept hs (fun k hk hn => H.dis k hk hn), hr, fun k hk => hk.elim (fun hk => Nat.lt_of_lt_of_le (H.rhi k hk) hs.size) (fun hk => hk.2), fun k hk => hk.elim (H.rlo k) (fun hk => Nat.le_trans hB hk.1), fun k hk hn => hn.elim (H.dis k hk) (fun hn => by have := H.a.hi k hk; omega), H.few⟩
theorem CH.snd0 (H : CH B w g m L L2 R h R') (hr : RA w' h (m + 1) L2 R') (hs : Stp R' w w') : CR B w' g m L2 R h R' :=
  ⟨H.a.kept hs (fun k hk hn => H.dis k hk hn), hr, fun k hk => Nat.lt_of_lt_of_le (H.rhi k hk) hs.size, H.rlo, H.dis, H.few⟩
theorem CH.bel (H : CH B w g m L L2 R h R') {w0 : World} (h0 : Below B w0 w) (hB : B ≤ w.heap.size) (hs : Stp R' w w') : Below B w0 w' := hs.below h0 hB H.rlo
end
end Go.Proofs.Ytbcnjilhibkcnaa
