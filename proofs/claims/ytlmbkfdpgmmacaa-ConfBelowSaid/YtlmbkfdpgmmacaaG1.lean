/- The law ConfBelow: plain facts on who is below; the table of who is seen, as it lies. -/
import Derived.Test.YtlmbkfdpgmmacaaB3
import Derived.Test.YtlmbkfdpgmmacaaE1
namespace Go.Proofs.Ytlmbkfdpgmmacaa
open Go.ChangeShapes Go.WideShapes Go.ChangeAt Go.RowKit
set_option linter.unusedVariables false
def inL (cs : List Sh) (a x : Nat) : Bool := decide ((x : Int) ∈ belowV cs (a : Int))
theorem lab_may {cs : List Sh} (hm : mayConfV cs = true) {x : Nat} (hx : x < cs.length) : ∃ s, cs[x]? = some s ∧ labL cs x = s.l ∧ labC cs x = s.c ∧ mayV s.l s.c = true := by
  have hs : cs[x]? = some cs[x] := List.getElem?_eq_getElem hx
  have h := lab_some (cs := cs) (x := (x : Int)) (s := cs[x]) hs
  exact ⟨_, hs, h.1, h.2, (may_nums (may_at hm hs)).1⟩
theorem sees_self {cs : List Sh} (hm : mayConfV cs = true) {x : Nat} (hx : x < cs.length) : sees cs x x = true := by
  obtain ⟨s, hs, h1, h2, h3⟩ := lab_may hm hx
  unfold sees aboveV aboveN
  rw [h1, h2, h3]
  simp
theorem sees_trans {cs : List Sh} {a b c : Nat} (h1 : sees cs a b = true) (h2 : sees cs b c = true) : sees cs a c = true := by
  unfold sees aboveV aboveN at *
  simp only [Bool.and_eq_true, decide_eq_true_eq, beq_iff_eq] at *
  obtain ⟨⟨m1, m2⟩, h3, h4⟩ := h1
  obtain ⟨⟨m3, m4⟩, h5, h6⟩ := h2
  exact ⟨⟨m1, m4⟩, by omega, by rw [← h4, Nat.or_assoc, h6]⟩
theorem mem_selTo {cs : List Sh} {me k x : Nat} : (x : Int) ∈ selTo cs me k ↔ x < k ∧ x ≠ me ∧ sees cs me x = true := by
  unfold selTo
  rw [List.mem_map]
  constructor
  · rintro ⟨i, hi, e⟩
    obtain rfl : i = x := by exact Int.ofNat.inj e
    obtain ⟨h1, h2⟩ := List.mem_filter.1 hi
    simp only [Bool.and_eq_true, decide_eq_true_eq] at h2
    exact ⟨List.mem_range.1 h1, h2.1, h2.2⟩
  · rintro ⟨h1, h2, h3⟩
    exact ⟨x, List.mem_filter.2 ⟨List.mem_range.2 h1, by simp [h2, h3]⟩, rfl⟩
theorem inL_sees {cs : List Sh} (hm : mayConfV cs = true) {a x : Nat} (ha : a < cs.length) (hx : x < cs.length) : inL cs a x = sees cs a x := by
  obtain ⟨t, ht, hp, _⟩ := belowV_R hm ha
  unfold inL
  rw [ht, Bool.eq_iff_iff, decide_eq_true_eq, List.mem_cons, hp.mem_iff, mem_selTo]
  by_cases e : x = a
  · subst e; simp [sees_self hm ha]
  · have e' : ¬ ((x : Int) = (a : Int)) := by omega
    simp [e, e', hx]
/-- What the law asks of each number that is told. -/
theorem told_facts {cs : List Sh} (hm : mayConfV cs = true) {a : Nat} (ha : a < cs.length) :
    (belowV cs a)[0]? = some (a : Int) ∧ 0 < (belowV cs a).length ∧ (∀ (k : Nat) (x : Int), (belowV cs a)[k]? = some x → 0 ≤ x ∧ x < cs.length ∧ x ∉ (belowV cs a).take k) ∧
      (∀ (k : Nat) (x y : Int), (belowV cs a)[k + 2]? = some x → (belowV cs a)[k + 1]? = some y → lessV (labL cs x) (labC cs x) (labL cs y) (labC cs y) = true) := by
  obtain ⟨t, ht, hp, hd⟩ := belowV_R hm ha
  have hr : ∀ x ∈ (a : Int) :: t, 0 ≤ x ∧ x < cs.length := by
    intro x hx
    rcases List.mem_cons.1 hx with rfl | hx
    · omega
    · obtain ⟨h1, h2, _⟩ := selTo_mem (hp.mem_iff.1 hx); exact ⟨h1, h2⟩
  have hnd : ((a : Int) :: t).Nodup := by
    refine List.nodup_cons.2 ⟨fun h => ?_, hp.nodup_iff.2 (selTo_nodup cs a _)⟩
    have := (selTo_mem (hp.mem_iff.1 h)).2.2.1
    simp at this
  rw [ht]
  refine ⟨rfl, by simp, fun k x hk => ⟨(hr x (List.mem_of_getElem? hk)).1, (hr x (List.mem_of_getElem? hk)).2, fun hmem => ?_⟩, fun k x y hx hy => ?_⟩
  · obtain ⟨i, hi⟩ := List.getElem?_of_mem hmem
    rw [List.getElem?_take] at hi
    split at hi
    · rename_i hik
      have h1 := (List.getElem?_eq_some_iff.1 hk)
      have h2 := (List.getElem?_eq_some_iff.1 hi)
      obtain ⟨h3, h4⟩ := h1
      obtain ⟨h5, h6⟩ := h2
      have := (List.getElem_inj (h₀ := h5) (h₁ := h3) hnd).1 (h6.trans h4.symm)
      omega
    · cases hi
  · simp only [List.getElem?_cons_succ] at hx hy
    obtain ⟨h1, e1⟩ := List.getElem?_eq_some_iff.1 hx
    obtain ⟨h2, e2⟩ := List.getElem?_eq_some_iff.1 hy
    have hlt := List.pairwise_iff_getElem.1 hd k (k + 1) h2 h1 (by omega)
    rw [e1, e2] at hlt
    have g1 := hr x (by rw [← e1]; exact List.mem_cons_of_mem _ (List.getElem_mem h1))
    have g2 := hr y (by rw [← e2]; exact List.mem_cons_of_mem _ (List.getElem_mem h2))
    obtain ⟨xn, rfl⟩ : ∃ n : Nat, x = n := ⟨x.toNat, by omega⟩
    obtain ⟨yn, rfl⟩ : ∃ n : Nat, y = n := ⟨y.toNat, by omega⟩
    obtain ⟨s, _, s1, s2, s3⟩ := lab_may hm (x := xn) (by omega)
    obtain ⟨u, _, u1, u2, u3⟩ := lab_may hm (x := yn) (by omega)
    unfold rk at hlt
    rw [s1, s2, u1, u2] at hlt
    rw [s1, s2, u1, u2, less_rank s3 u3]
    exact decide_eq_true hlt
/-- A table of eight by eight lies in a block. -/
def TabB (W : World) (b : Nat) (f : Nat → Nat → Bool) : Prop := ∃ C t, W.heap[b]? = some (.cells C t (0, 0)) ∧ C.size = 64 ∧ ∀ i j, i < 8 → j < 8 → C[i * 8 + j]? = some (.bool (f i j))
theorem TabB.at_ {W : World} {b : Nat} {f : Nat → Nat → Bool} (h : TabB W b f) {i j : Nat} (hi : i < 8) (hj : j < 8) : W.cell? ⟨b, i * 8 + j, none⟩ = some (.bool (f i j)) ∧ W.frozen? ⟨b, i * 8 + j, none⟩ = false := by
  obtain ⟨C, t, hb, hs, hc⟩ := h
  exact ⟨(blk_cell hb _).trans (hc i j hi hj), blk_free hb _⟩
theorem TabB.keep {W W' : World} {b : Nat} {f : Nat → Nat → Bool} (h : TabB W b f) (hb : Below W.heap.size W W') : TabB W' b f := by
  obtain ⟨C, t, h1, h2⟩ := h
  exact ⟨C, t, (hb.block b (room_lt h1)).trans h1, h2⟩
theorem TabB.set {W : World} {b : Nat} {f : Nat → Nat → Bool} (h : TabB W b f) {i j : Nat} (hi : i < 8) (hj : j < 8) (g : Nat → Nat → Bool) (hg : ∀ a x, a < 8 → x < 8 → g a x = if a = i ∧ x = j then true else f a x) : TabB (W.setCell ⟨b, i * 8 + j, none⟩ (.bool true)) b g := by
  obtain ⟨C, t, hb, hs, hc⟩ := h
  refine ⟨_, t, heap_setCell_same' hb _, by simp [hs], fun a x ha hx => ?_⟩
  rw [Array.getElem?_setIfInBounds, hg a x ha hx]
  by_cases e : a = i ∧ x = j
  · obtain ⟨rfl, rfl⟩ := e
    rw [if_pos rfl, if_pos (by omega), if_pos ⟨rfl, rfl⟩]
  · rw [if_neg (fun h => e (by omega)), if_neg e]; exact hc a x ha hx
theorem TabB.congr {W : World} {b : Nat} {f g : Nat → Nat → Bool} (h : TabB W b f) (hg : ∀ a x, a < 8 → x < 8 → g a x = f a x) : TabB W b g := by
  obtain ⟨C, t, hb, hs, hc⟩ := h
  exact ⟨C, t, hb, hs, fun a x ha hx => by rw [hg a x ha hx]; exact hc a x ha hx⟩
/-- Whole numbers lie elsewhere. -/
theorem TabB.far {W : World} {b : Nat} {f : Nat → Nat → Bool} (h : TabB W b f) {p : Addr} {k : IntKind} {v : Int} (hp : W.cell? p = some (.int k v)) : p.block ≠ b := by
  intro e
  obtain ⟨C, t, hb, hs, hc⟩ := h
  obtain ⟨pb, po, pp⟩ := p
  dsimp only at e
  subst e
  simp only [World.cell?, hb] at hp
  have hlt : po < 64 := by
    rcases Nat.lt_or_ge po 64 with h | h
    · exact h
    · simp [Array.getElem?_eq_none (show C.size ≤ po by omega)] at hp
  have := hc (po / 8) (po % 8) (by omega) (by omega)
  rw [show po / 8 * 8 + po % 8 = po by omega] at this
  simp [this] at hp
theorem Num.set {W : World} {b : Nat} {f : Nat → Nat → Bool} (h : TabB W b f) {A : Option Addr} {xs : List Int} (hn : Num W A xs) (i : Nat) (v : Value) : Num (W.setCell ⟨b, i, none⟩ v) A xs := fun k x hk => by
  obtain ⟨a, e, hc⟩ := hn k x hk
  have hne := h.far hc
  refine ⟨a, e, ?_⟩
  rw [World.cell?_of_block (w := W) (by rw [World.setCell]; simp only [Array.getElem?_modify]; rw [if_neg (fun e => hne e.symm)])]
  exact hc
end Go.Proofs.Ytlmbkfdpgmmacaa
