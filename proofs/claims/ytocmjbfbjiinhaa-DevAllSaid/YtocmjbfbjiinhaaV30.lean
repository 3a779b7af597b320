/- Arguments that are texts, or deeds, opened to cells. -/
import Derived.Test.YtocmjbfbjiinhaaV25
import Derived.Deep.Slices
import Derived.Deep.Fields
import Derived.ChangeSame
import Derived.ProofKit
import Derived.OpenShut
import Derived.Carry
namespace Go.Proofs.Ytocmjbfbjiinhaa
open Go.ChangeShapes Go.WideShapes Go.ChangeAt Go.RowKit Go.Deep
set_option linter.unusedVariables false
/-- From 'for every index there is one' to a list. -/
theorem list_of {α : Type} {p : Nat → α → Prop} (n : Nat) (h : ∀ k, k < n → ∃ x, p k x) : ∃ l : List α, l.length = n ∧ ∀ i x, l[i]? = some x → p i x := by
  induction n with
  | zero => exact ⟨[], rfl, fun i x hi => by cases hi⟩
  | succ n ih =>
    obtain ⟨l, h1, h2⟩ := ih (fun k hk => h k (by omega))
    obtain ⟨x, hx⟩ := h n (by omega)
    refine ⟨l ++ [x], by simp [h1], fun i y hi => ?_⟩
    by_cases hin : i < n
    · rw [List.getElem?_append_left (by omega)] at hi; exact h2 i y hi
    · have hlt := (List.getElem?_eq_some_iff.1 hi).1
      simp at hlt
      obtain rfl : i = n := by omega
      rw [List.getElem?_append_right (by omega), h1, Nat.sub_self] at hi
      injection hi with hi
      subst hi
      exact hx
/-- A deed as an argument has it. -/
structure Dd where
  (k r i n : Int) (A : Option Addr) (b : List Int) (c : Nat) (K : Option Addr) (ks : List (List Int)) (kc : Nat)
/-- A deed lies at p. -/
structure DdAt (w : World) (p : Addr) (d : Dd) : Prop where
  c0 : w.cell? p = some (.int .i64 d.k)
  c1 : w.cell? ⟨p.block, p.off + 1, none⟩ = some (.int .i64 d.r)
  c2 : w.cell? ⟨p.block, p.off + 2, none⟩ = some (.int .i64 d.i)
  c3 : w.cell? ⟨p.block, p.off + 3, none⟩ = some (.int .i64 d.n)
  c4 : w.cell? ⟨p.block, p.off + 4, none⟩ = some (.slice d.A d.b.length d.c)
  c5 : w.cell? ⟨p.block, p.off + 5, none⟩ = some (.slice d.K d.ks.length d.kc)
  b : Byt w d.A d.b
  ks : Txts w d.K d.ks
structure DdOk (d : Dd) : Prop where
  k : i64 d.k
  r : i64 d.r
  i : i64 d.i
  n : i64 d.n
  b : AllB d.b
  bl : d.b.length ≤ d.c
  bc : d.c ≤ 9223372036854775807
  kl : d.ks.length ≤ d.kc
  kc : d.kc ≤ 9223372036854775807
/-- Deeds lie behind a slice. -/
def Deeds (w : World) (A : Option Addr) (l : List Dd) : Prop := ∀ i d, l[i]? = some d → ∃ a, A = some a ∧ DdAt w (a.add (i * 6)) d
def DdsOk (l : List Dd) : Prop := ∀ d ∈ l, DdOk d
theorem DdAt.keep {w w' : World} {p : Addr} {d : Dd} (h : DdAt w p d) (hb : Below w.heap.size w w') : DdAt w' p d :=
  have k : ∀ {q : Addr} {v : Value}, w.cell? q = some v → w'.cell? q = some v := fun {q v} hq => by rw [hb.cell (World.block_lt_of_cell? w q hq)]; exact hq
  ⟨k h.c0, k h.c1, k h.c2, k h.c3, k h.c4, k h.c5, h.b.keep hb, h.ks.keep (fun q v hq => k hq)⟩
theorem Deeds.keep {w w' : World} {A : Option Addr} {l : List Dd} (h : Deeds w A l) (hb : Below w.heap.size w w') : Deeds w' A l := fun i d hi =>
  let ⟨a, e, hs⟩ := h i d hi; ⟨a, e, hs.keep hb⟩
theorem add_pos' (a : Addr) (k : Nat) (h : 0 < k) : a.add k = ⟨a.block, a.off + k, none⟩ := by unfold Addr.add; rw [if_neg (by omega)]
section
variable {H : Type} {enc : TypeId × Value → H} {w : World} {base : Nat} {spare : Nat → Bool} {held : Bool}
theorem cells_bytes : Try.prog.cellsOf 31 = 1 := by kernel_rfl
theorem cells_texts : Try.prog.cellsOf 32 = 1 := by kernel_rfl
theorem cells_deed : Try.prog.cellsOf 34 = 6 := by kernel_rfl
theorem cells_int : Try.prog.cellsOf 3 = 1 := by kernel_rfl
theorem open_txts {fuel : Nat} {cs : List Value} {x : DataW H × List MemPlace} (h : DataW.trod enc Try.prog w base spare held fuel 32 cs = some x) :
    ∃ (A : Option Addr) (ks : List (List Int)) (d : Nat), cs = [.slice A ks.length d] ∧ ks.length ≤ d ∧ d ≤ 9223372036854775807 ∧ Txts w A ks := by
  rcases open_slice1 Try.underlying32 cells_bytes h with ⟨rfl, _⟩ | ⟨a, len, cap, m, n, V, D, Pl, rfl, _, hl, hm, hmm, _, hi⟩
  · exact ⟨none, [], 0, rfl, Nat.le_refl _, by omega, fun i s hi => by cases hi⟩
  · have hml : len ≤ m := by rw [hmm]; split <;> omega
    obtain ⟨ks, h1, h2⟩ := list_of (p := fun i bs => ∃ A' c, w.cell? (a.add i) = some (.slice A' bs.length c) ∧ Byt w A' bs ∧ AllB bs ∧ bs.length ≤ c ∧ c ≤ 9223372036854775807) len (fun k hk => by
      obtain ⟨hc, ht⟩ := hi k (by omega)
      obtain ⟨A', bs, c, e, g1, g2, g3, g4⟩ := open_byt ht
      injection e with e _
      exact ⟨bs, A', c, by rw [hc, e], g3, g4, g1, g2⟩)
    refine ⟨some a, ks, cap, by rw [h1], by omega, by simp only [maxLen] at hm; omega, fun i bs hib => ?_⟩
    obtain ⟨A', c, g1, g2⟩ := h2 i bs hib
    exact ⟨a, A', c, rfl, g1, g2⟩
def TxOk (ks : List (List Int)) : Prop := ∀ bs ∈ ks, AllB bs
theorem open_texts {fuel : Nat} {cs : List Value} {x : DataW H × List MemPlace} (h : DataW.trod enc Try.prog w base spare held fuel 32 cs = some x) :
    ∃ (A : Option Addr) (ks : List (List Int)) (d : Nat), cs = [.slice A ks.length d] ∧ ks.length ≤ d ∧ d ≤ 9223372036854775807 ∧ Txts w A ks ∧ TxOk ks := by
  obtain ⟨A, ks, d, h1, h2, h3, h4⟩ := open_txts h
  refine ⟨A, ks, d, h1, h2, h3, h4, fun bs hb => ?_⟩
  obtain ⟨i, hi⟩ := List.mem_iff_getElem?.1 hb
  obtain ⟨_, _, _, _, _, _, g, _⟩ := h4 i bs hi
  exact g
theorem open_deed {fuel : Nat} {cs : List Value} {x : DataW H × List MemPlace} (h : DataW.trod enc Try.prog w base spare held fuel 34 cs = some x) :
    ∃ d : Dd, cs = [.int .i64 d.k, .int .i64 d.r, .int .i64 d.i, .int .i64 d.n, .slice d.A d.b.length d.c, .slice d.K d.ks.length d.kc] ∧ DdOk d ∧ Byt w d.A d.b ∧ Txts w d.K d.ks := by
  obtain ⟨xs, n, _, hx, hlen, hxl, hf⟩ := DataW.trod_struct Try.underlying34 h
  rw [cells_deed] at hlen
  match cs, hlen with
  | [c0, c1, c2, c3, c4, c5], _ =>
    have e0 : DataW.trod enc Try.prog w base spare held n 3 (([c0, c1, c2, c3, c4, c5].drop 0).take (Try.prog.cellsOf 3)) = xs[0]? := hf 0 _ rfl
    have e1 : DataW.trod enc Try.prog w base spare held n 3 (([c0, c1, c2, c3, c4, c5].drop 1).take (Try.prog.cellsOf 3)) = xs[1]? := hf 1 _ rfl
    have e2 : DataW.trod enc Try.prog w base spare held n 3 (([c0, c1, c2, c3, c4, c5].drop 2).take (Try.prog.cellsOf 3)) = xs[2]? := hf 2 _ rfl
    have e3 : DataW.trod enc Try.prog w base spare held n 3 (([c0, c1, c2, c3, c4, c5].drop 3).take (Try.prog.cellsOf 3)) = xs[3]? := hf 3 _ rfl
    have e4 : DataW.trod enc Try.prog w base spare held n 31 (([c0, c1, c2, c3, c4, c5].drop 4).take (Try.prog.cellsOf 31)) = xs[4]? := hf 4 _ rfl
    have e5 : DataW.trod enc Try.prog w base spare held n 32 (([c0, c1, c2, c3, c4, c5].drop 5).take (Try.prog.cellsOf 32)) = xs[5]? := hf 5 _ rfl
    rw [cells_int] at e0 e1 e2 e3
    rw [cells_bytes] at e4
    rw [cells_texts] at e5
    have hs : ∀ i, i < 6 → ∃ y, xs[i]? = some y := fun i hi => ⟨_, List.getElem?_eq_getElem (by rw [hxl]; exact hi)⟩
    obtain ⟨y0, h0⟩ := hs 0 (by omega)
    obtain ⟨y1, h1⟩ := hs 1 (by omega)
    obtain ⟨y2, h2⟩ := hs 2 (by omega)
    obtain ⟨y3, h3⟩ := hs 3 (by omega)
    obtain ⟨y4, h4⟩ := hs 4 (by omega)
    obtain ⟨y5, h5⟩ := hs 5 (by omega)
    rw [h0] at e0
    rw [h1] at e1
    rw [h2] at e2
    rw [h3] at e3
    rw [h4] at e4
    rw [h5] at e5
    obtain ⟨k, ek, _, wk⟩ := DataW.trod_int Try.underlying3 e0
    obtain ⟨r, er, _, wr⟩ := DataW.trod_int Try.underlying3 e1
    obtain ⟨i, ei, _, wi⟩ := DataW.trod_int Try.underlying3 e2
    obtain ⟨m, em, _, wm⟩ := DataW.trod_int Try.underlying3 e3
    obtain ⟨A, b, c, eb, b1, b2, b3, b4⟩ := open_byt e4
    obtain ⟨K, ks, kc, es, k1, k2, k3⟩ := open_txts e5
    injection ek with ek
    injection er with er
    injection ei with ei
    injection em with em
    injection eb with eb
    injection es with es
    exact ⟨⟨k, r, i, m, A, b, c, K, ks, kc⟩, by rw [ek, er, ei, em, eb, es], ⟨wf_i64 wk, wf_i64 wr, wf_i64 wi, wf_i64 wm, b4, b1, b2, k1, k2⟩, b3, k3⟩
theorem open_deeds {fuel : Nat} {cs : List Value} {x : DataW H × List MemPlace} (h : DataW.trod enc Try.prog w base spare held fuel 23 cs = some x) :
    ∃ (A : Option Addr) (l : List Dd) (d : Nat), cs = [.slice A l.length d] ∧ l.length ≤ d ∧ d ≤ 9223372036854775807 ∧ Deeds w A l ∧ DdsOk l := by
  rcases open_slice Try.underlying23 h with ⟨rfl, _⟩ | ⟨a, len, cap, m, n, D, Pl, rfl, _, hl, hm, hmm, _, hi⟩
  · exact ⟨none, [], 0, rfl, Nat.le_refl _, by omega, (fun i s hi => by cases hi), (fun s hs => by cases hs)⟩
  · have hml : len ≤ m := by rw [hmm]; split <;> omega
    obtain ⟨l, h1, h2⟩ := list_of (p := fun i d => DdAt w (a.add (i * 6)) d ∧ DdOk d) len (fun k hk => by
      obtain ⟨cs', hc, ht⟩ := hi k (by omega)
      rw [cells_deed] at hc
      obtain ⟨d, rfl, hd, hb, hks⟩ := open_deed ht
      obtain ⟨_, _, hat⟩ := World.cells?_some hc
      have at_ : ∀ j u, j < 6 → [Value.int .i64 d.k, .int .i64 d.r, .int .i64 d.i, .int .i64 d.n, .slice d.A d.b.length d.c, .slice d.K d.ks.length d.kc][j]? = some u → w.cell? ((a.add (k * 6)).add j) = some u := fun j u hj hu => by rw [hat j hj, hu]
      have c0 := at_ 0 _ (by omega) rfl
      have c1 := at_ 1 _ (by omega) rfl
      have c2 := at_ 2 _ (by omega) rfl
      have c3 := at_ 3 _ (by omega) rfl
      have c4 := at_ 4 _ (by omega) rfl
      have c5 := at_ 5 _ (by omega) rfl
      rw [add_pos' _ _ (by omega)] at c1 c2 c3 c4 c5
      exact ⟨d, ⟨c0, c1, c2, c3, c4, c5, hb, hks⟩, hd⟩)
    refine ⟨some a, l, cap, by rw [h1], by omega, by simp only [maxLen] at hm; omega, fun i d hid => ⟨a, rfl, (h2 i d hid).1⟩, fun d hd => ?_⟩
    obtain ⟨i, hi⟩ := List.mem_iff_getElem?.1 hd
    exact (h2 i d hi).2
end
end Go.Proofs.Ytocmjbfbjiinhaa
