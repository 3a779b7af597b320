/- A device and, maybe, its copy (for DevCopies). -/
import Derived.Test.YtocmjbfbjiinhaaV35
namespace Go.Proofs.Ytocmjbfbjiinhaa
open Go.ChangeShapes Go.WideShapes Go.ChangeAt Go.RowKit
set_option linter.unusedVariables false
theorem rowW_nobody : ∀ (l : List Wr) (r : Nat) (kept : Nat → Bool) (nth : Nat) (s : List (List Int)), (∀ x ∈ l, x.r ≠ r) → rowW l r kept nth s = s
  | [], _, _, _, _, _ => rfl
  | x :: l, r, kept, nth, s, h => by
    unfold rowW
    rw [if_neg (h x (by simp))]
    exact rowW_nobody l r kept nth s fun y hy => h y (by simp [hy])
/-- Where nothing of a region's own is unsure, a Crash leaves what is sure. -/
theorem crash_sure {m : DM} (h : m.Ok) (ks : List (List Int)) {r : Nat} (hr : r < m.now.length) (hs : ∀ x ∈ since m r, x.r ≠ r) : nowRow (m.crash ks) r = sureRow m r := by
  rw [crash_row h ks hr]
  exact rowW_nobody _ _ _ _ _ hs
/-- Behind a Barrier of each region, any Crash leaves all as it was. -/
theorem K2.both {m : DM} {n : Nat} (h : K2 m n) (h0 : (m.barrier 0).Ok) (h1 : ((m.barrier 0).barrier 1).Ok) (ks : List (List Int)) {r : Nat} (hr : r < 2) : nowRow (((m.barrier 0).barrier 1).crash ks) r = nowRow m r := by
  obtain ⟨_, k0, a1, a2, a3⟩ := h.barrier (r := 0) (by omega) h0
  obtain ⟨_, k1, b1, b2, b3⟩ := k0.barrier (r := 1) (by omega) h1
  obtain ⟨_, _, _, s0, s1⟩ := barrier_rows h.told h.ok (r := 0) (by rw [h.len]; omega)
  obtain ⟨_, _, _, t0, t1⟩ := barrier_rows k0.told k0.ok (r := 1) (by rw [k0.len]; omega)
  match r, hr with
  | 0, _ =>
    rw [crash_sure k1.ok ks (by rw [k1.len]; omega) (fun x hx => ?_), b2 0 (by omega), a1]
    rw [t1 0 (by rw [k0.len]; omega) (by omega), s0] at hx
    rw [List.mem_singleton.1 hx]; simp
  | 1, _ =>
    rw [crash_sure k1.ok ks (by rw [k1.len]; omega) (fun x hx => by rw [t0] at hx; cases hx), b1, a3]
def k6 : List Int := [255, 255, 255, 255, 255, 255]
theorem k6_bits : ∀ k, k < 48 → bitAt k6 k = true := by decide
theorem k6_ok : AllB k6 := fun x hx => by simp [k6] at hx; omega
theorem K2.all6 {m : DM} {n : Nat} (h : K2 m n) (hn : n ≤ 48) {r : Nat} (hr : r < 2) : nowRow (m.crash [k6, k6]) r = nowRow m r := by
  refine crash_all h.ok h.told _ (by rw [h.len]; exact hr) fun k hk => ?_
  have h1 := pend_le m r
  have h2 := h.done
  have e : ([k6, k6] : List (List Int)).getD r [] = k6 := by match r, hr with | 0, _ => rfl | 1, _ => rfl
  rw [e]
  exact k6_bits k (by omega)
/-- A device, and its copy, if there is one. -/
def DC (w0 W : World) (q : Nat) (m : DM) (c : Value) (m' : DM) : Prop := (c = .pointer none ∧ DS w0 W (fun _ => False) q m) ∨ ∃ q', c = .pointer (some ⟨q', 0, none⟩) ∧ D2 w0 W q m q' m'
section
variable {w0 W W' : World} {q : Nat} {m m' : DM} {c : Value}
theorem DC.bel (h : DC w0 W q m c m') : Below w0.heap.size w0 W := by
  rcases h with ⟨_, h⟩ | ⟨_, _, h⟩
  · exact h.bel
  · exact h.bel
theorem DC.ok (h : DC w0 W q m c m') : m.Ok := by
  rcases h with ⟨_, h⟩ | ⟨_, _, h⟩
  · exact h.ok
  · exact h.ok
theorem DC.below (h : DC w0 W q m c m') (hb : Below W.heap.size W W') : DC w0 W' q m c m' := by
  rcases h with ⟨e, h⟩ | ⟨q', e, h⟩
  · exact Or.inl ⟨e, h.below hb (fun k hk => hk.elim)⟩
  · exact Or.inr ⟨q', e, h.below hb⟩
theorem DC.write (h : DC w0 W q m c m') (r i : Int) (hr : i64 r) (hi : i64 i) (g : Nat) (bs : List Int) (hb : BlkOk bs) (hy : Blk64 W g bs) (hmax : m.done.length ≤ 1000000) :
    Calls Try.prog 21 #[.pointer (some ⟨q, 0, none⟩), .int .i64 r, .int .i64 i, .slice (some ⟨g, 0, none⟩) 64 64] W fun e w' => e = .returned (.bool (hasB m r i)) ∧ DC w0 w' q (m.doWrite r i bs) c m' ∧ ∀ x, x < w0.heap.size → w'.heap[x]? = W.heap[x]? := by
  rcases h with ⟨e, h⟩ | ⟨q', e, h⟩
  · exact (h.write64 r i hr hi g bs hb hy hmax).mono fun e' w' ⟨he, hd, _⟩ => ⟨he, Or.inl ⟨e, hd⟩, fun x hx => (hd.bel.block x hx).trans (h.bel.block x hx).symm⟩
  · exact (h.write r i hr hi g bs hb hy hmax).mono fun e' w' ⟨he, hd⟩ => ⟨he, Or.inr ⟨q', e, hd⟩, fun x hx => (hd.bel.block x hx).trans (h.bel.block x hx).symm⟩
end
end Go.Proofs.Ytocmjbfbjiinhaa
