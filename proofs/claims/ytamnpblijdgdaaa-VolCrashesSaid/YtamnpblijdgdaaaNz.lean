/- Writes and deeds of a vol as arguments, opened. -/
import Derived.Test.YtamnpblijdgdaaaNy
import Derived.Deep.Slices
import Derived.Deep.Fields
import Derived.ChangeSame
import Derived.OpenShut
namespace Go.Proofs.Ytamnpblijdgdaaa
open Go.ChangeShapes Go.WideShapes Go.ChangeAt Go.RowKit Go.Deep
set_option linter.unusedVariables false
/-- From 'for every index there is one' to a list. -/
theorem nlist_of {α : Type} {p : Nat → α → Prop} (n : Nat) (h : ∀ k, k < n → ∃ x, p k x) : ∃ l : List α, l.length = n ∧ ∀ i x, l[i]? = some x → p i x := by
  induction n with
  | zero => exact ⟨[], rfl, fun i x hi => by cases hi⟩
  | succ n ih =>
    obtain ⟨l, h1, h2⟩ := ih (fun k hk => h k (by omega))
    obtain ⟨x, hx⟩ := h n (by omega)
    refine ⟨l ++ [x], by simp [h1], fun i y hi => ?_⟩
    by_cases hin : i < n
    · rw [List.getElem?_append_left (by omega)] at hi; exact h2 i y hi
    · have hlt := (List.getElem?_eq_some_iff.1 hi).1
      simp at hlt
      obtain rfl : i = n := by omega
      rw [List.getElem?_append_right (by omega), h1, Nat.sub_self] at hi
      injection hi with hi
      subst hi
      exact hx
/-- A deed as an argument has it. -/
structure Wd where
  (k : Int) (A : Option Addr) (l : List Wr) (c : Nat) (K : Option Addr) (ks : List Int) (kc : Nat)
def wdL (d : Wd) : List Value := [.int .i64 d.k, .slice d.A d.l.length d.c, .slice d.K d.ks.length d.kc]
structure WdAt (w : World) (p : Addr) (d : Wd) : Prop where
  c0 : w.cell? p = some (.int .i64 d.k)
  c1 : w.cell? ⟨p.block, p.off + 1, none⟩ = some (.slice d.A d.l.length d.c)
  c2 : w.cell? ⟨p.block, p.off + 2, none⟩ = some (.slice d.K d.ks.length d.kc)
  wr : Wrs w d.A d.l
  by_ : Byt w d.K d.ks
structure WdOk (d : Wd) : Prop where
  k : i64 d.k
  ok : WrsOk d.l
  lc : d.l.length ≤ d.c
  cm : d.c ≤ 9223372036854775807
  kb : AllB d.ks
  kl : d.ks.length ≤ d.kc
  km : d.kc ≤ 9223372036854775807
def Wds (w : World) (A : Option Addr) (l : List Wd) : Prop := ∀ i d, l[i]? = some d → ∃ a, A = some a ∧ WdAt w (a.add (i * 3)) d
def WdsOk (l : List Wd) : Prop := ∀ d ∈ l, WdOk d
theorem WdAt.keep {w w' : World} {p : Addr} {d : Wd} (h : WdAt w p d) (hb : Below w.heap.size w w') : WdAt w' p d :=
  ⟨keepC hb h.c0, keepC hb h.c1, keepC hb h.c2, h.wr.keep hb, h.by_.keep hb⟩
theorem Wds.keep {w w' : World} {A : Option Addr} {l : List Wd} (h : Wds w A l) (hb : Below w.heap.size w w') : Wds w' A l := fun i d hi =>
  let ⟨a, e, hs⟩ := h i d hi; ⟨a, e, hs.keep hb⟩
/-- Rows that lay in a world are none that came later. -/
theorem Wrs.old {w W : World} {R : Nat → Prop} {A : Option Addr} {l : List Wr} (h : Wrs w A l) (h2 : Wrs W A l) (hR : ∀ k, k < w.heap.size → R k) : WrsR W R A l := fun i x hi => by
  obtain ⟨a, e, h1⟩ := h2 i x hi
  obtain ⟨a', e', h3⟩ := h i x hi
  rw [e] at e'
  injection e' with e'
  subst e'
  refine ⟨a, e, h1, hR _ ?_⟩
  have := World.block_lt_of_cell? w _ h3.c0
  rw [block_of_add'] at this
  exact this
section
variable {H : Type} {enc : TypeId × Value → H} {w : World} {base : Nat} {spare : Nat → Bool} {held : Bool}
theorem ncells_write : Try.prog.cellsOf 55 = 58 := by kernel_rfl
theorem ncells_wrs : Try.prog.cellsOf 50 = 1 := by kernel_rfl
theorem ncells_bytes : Try.prog.cellsOf 24 = 1 := by kernel_rfl
theorem ncells_int : Try.prog.cellsOf 3 = 1 := by kernel_rfl
theorem ncells_blk : Try.prog.cellsOf 46 = 57 := by kernel_rfl
theorem ncells_deed : Try.prog.cellsOf 52 = 3 := by kernel_rfl
theorem open_wr {fuel : Nat} {cs : List Value} {x : DataW H × List MemPlace} (h : DataW.trod enc Try.prog w base spare held fuel 55 cs = some x) :
    ∃ y : Wr, cs = wrL y ∧ y.Ok := by
  have hS : Try.prog.underlying 55 = some (.struct (Try.prog.fieldsOf 55)) := by kernel_rfl
  obtain ⟨ys, m, _, rfl, hl, hys, hel⟩ := DataW.trod_struct hS h
  rw [ncells_write] at hl
  have hf : (Try.prog.fieldsOf 55).toList.map (fun f => (f.type, f.offset)) = [(3, 0), (46, 1)] := by kernel_rfl
  have hsz : (Try.prog.fieldsOf 55).size = 2 := by kernel_rfl
  obtain ⟨f0, f1, hfs⟩ := two_of (show (Try.prog.fieldsOf 55).toList.length = 2 by simpa using hsz)
  rw [hfs] at hf
  simp only [List.map_cons, List.map_nil, List.cons.injEq, Prod.mk.injEq, and_true] at hf
  obtain ⟨⟨t0, o0⟩, ⟨t1, o1⟩⟩ := hf
  have h0 := hel 0 f0 (by rw [← Array.getElem?_toList, hfs]; rfl)
  have h1 := hel 1 f1 (by rw [← Array.getElem?_toList, hfs]; rfl)
  rw [t0, o0] at h0
  rw [t1, o1] at h1
  rw [hsz] at hys
  obtain ⟨y0, hy0⟩ : ∃ y, ys[0]? = some y := ⟨_, List.getElem?_eq_getElem (by omega)⟩
  obtain ⟨y1, hy1⟩ : ∃ y, ys[1]? = some y := ⟨_, List.getElem?_eq_getElem (by omega)⟩
  rw [hy0] at h0
  rw [hy1] at h1
  obtain ⟨t, e0, _, hwf⟩ := DataW.trod_int Try.underlying3 h0
  obtain ⟨k, bs, e1, h56, hk, hB⟩ := open_blk h1
  rw [show Try.prog.cellsOf (3) = 1 from ncells_int] at e0
  rw [show Try.prog.cellsOf (46) = 57 from ncells_blk] at e1
  have c0 := take_one e0
  refine ⟨⟨t, k, bs⟩, ?_, ⟨?_, hk, h56, hB⟩⟩
  · unfold wrL
    cases cs with
    | nil => cases c0
    | cons v l =>
      have hv : v = .int .i64 t := by simpa using c0
      have : (l.take 57) = blkL k bs := e1
      rw [hv, ← this, List.take_of_length_le (by simp at hl; omega)]
  · have := bounds_i64 hwf
    constructor <;> (simp only; omega)
theorem open_wrs {fuel : Nat} {cs : List Value} {x : DataW H × List MemPlace} (h : DataW.trod enc Try.prog w base spare held fuel 50 cs = some x) :
    ∃ (A : Option Addr) (l : List Wr) (d : Nat), cs = [.slice A l.length d] ∧ l.length ≤ d ∧ d ≤ 9223372036854775807 ∧ Wrs w A l ∧ WrsOk l := by
  rcases open_slice Try.underlying50 h with ⟨rfl, _⟩ | ⟨a, len, cap, m, n, D, Pl, rfl, _, hl, hm, hmm, _, hi⟩
  · exact ⟨none, [], 0, rfl, Nat.le_refl _, by omega, (fun i s hi => by cases hi), (fun s hs => by cases hs)⟩
  · have hml : len ≤ m := by rw [hmm]; split <;> omega
    obtain ⟨l, h1, h2⟩ := nlist_of (p := fun i y => WrAt w (a.add (i * 58)) y ∧ y.Ok) len (fun k hk => by
      obtain ⟨cs', hc, ht⟩ := hi k (by omega)
      rw [ncells_write] at hc
      obtain ⟨y, rfl, hy⟩ := open_wr ht
      obtain ⟨_, _, hat⟩ := World.cells?_some hc
      refine ⟨y, fun j u hu => ?_, hy⟩
      have hj : j < 58 := by have := (List.getElem?_eq_some_iff.1 hu).1; rw [wrL_length hy.len] at this; exact this
      rw [hat j hj, hu])
    refine ⟨some a, l, cap, by rw [h1], by omega, by simp only [maxLen] at hm; omega, fun i d hid => ⟨a, rfl, (h2 i d hid).1⟩, fun d hd => ?_⟩
    obtain ⟨i, hi⟩ := List.mem_iff_getElem?.1 hd
    exact (h2 i d hi).2
set_option maxRecDepth 100000 in
theorem open_wd {fuel : Nat} {cs : List Value} {x : DataW H × List MemPlace} (h : DataW.trod enc Try.prog w base spare held fuel 52 cs = some x) :
    ∃ d : Wd, cs = wdL d ∧ WdOk d ∧ Wrs w d.A d.l ∧ Byt w d.K d.ks := by
  obtain ⟨xs, n, _, hx, hlen, hxl, hf⟩ := DataW.trod_struct Try.underlying52 h
  rw [ncells_deed] at hlen
  match cs, hlen with
  | [c0, c1, c2], _ =>
    have e0 : DataW.trod enc Try.prog w base spare held n 3 (([c0, c1, c2].drop 0).take (Try.prog.cellsOf 3)) = xs[0]? := hf 0 _ rfl
    have e1 : DataW.trod enc Try.prog w base spare held n 50 (([c0, c1, c2].drop 1).take (Try.prog.cellsOf 50)) = xs[1]? := hf 1 _ rfl
    have e2 : DataW.trod enc Try.prog w base spare held n 24 (([c0, c1, c2].drop 2).take (Try.prog.cellsOf 24)) = xs[2]? := hf 2 _ rfl
    rw [ncells_int] at e0
    rw [ncells_wrs] at e1
    rw [ncells_bytes] at e2
    have hs : ∀ i, i < 3 → ∃ y, xs[i]? = some y := fun i hi => ⟨_, List.getElem?_eq_getElem (by rw [hxl]; exact hi)⟩
    obtain ⟨y0, h0⟩ := hs 0 (by omega)
    obtain ⟨y1, h1⟩ := hs 1 (by omega)
    obtain ⟨y2, h2⟩ := hs 2 (by omega)
    rw [h0] at e0
    rw [h1] at e1
    rw [h2] at e2
    obtain ⟨k, ek, _, wk⟩ := DataW.trod_int Try.underlying3 e0
    obtain ⟨A, l, c, el, l1, l2, l3, l4⟩ := open_wrs e1
    obtain ⟨K, b, kc, eb, b1, b2, b3, b4⟩ := open_byt e2
    injection ek with ek
    injection el with el
    injection eb with eb
    exact ⟨⟨k, A, l, c, K, b, kc⟩, by unfold wdL; rw [ek, el, eb], ⟨by have := bounds_i64 wk; constructor <;> (simp only; omega), l4, l1, l2, b4, b1, b2⟩, l3, b3⟩
set_option maxRecDepth 100000 in
theorem open_wds {fuel : Nat} {cs : List Value} {x : DataW H × List MemPlace} (h : DataW.trod enc Try.prog w base spare held fuel 22 cs = some x) :
    ∃ (A : Option Addr) (l : List Wd) (d : Nat), cs = [.slice A l.length d] ∧ l.length ≤ d ∧ d ≤ 9223372036854775807 ∧ Wds w A l ∧ WdsOk l := by
  rcases open_slice Try.underlying22 h with ⟨rfl, _⟩ | ⟨a, len, cap, m, n, D, Pl, rfl, _, hl, hm, hmm, _, hi⟩
  · exact ⟨none, [], 0, rfl, Nat.le_refl _, by omega, (fun i s hi => by cases hi), (fun s hs => by cases hs)⟩
  · have hml : len ≤ m := by rw [hmm]; split <;> omega
    obtain ⟨l, h1, h2⟩ := nlist_of (p := fun i d => WdAt w (a.add (i * 3)) d ∧ WdOk d) len (fun k hk => by
      obtain ⟨cs', hc, ht⟩ := hi k (by omega)
      rw [ncells_deed] at hc
      obtain ⟨d, rfl, hd, hw, hb⟩ := open_wd ht
      obtain ⟨_, _, hat⟩ := World.cells?_some hc
      have at_ : ∀ j u, j < 3 → (wdL d)[j]? = some u → w.cell? ((a.add (k * 3)).add j) = some u := fun j u hj hu => by rw [hat j hj, hu]
      have c0 := at_ 0 _ (by omega) rfl
      have c1 := at_ 1 _ (by omega) rfl
      have c2 := at_ 2 _ (by omega) rfl
      rw [add_pos' _ _ (by omega)] at c1 c2
      exact ⟨d, ⟨c0, c1, c2, hw, hb⟩, hd⟩)
    refine ⟨some a, l, cap, by rw [h1], by omega, by simp only [maxLen] at hm; omega, fun i d hid => ⟨a, rfl, (h2 i d hid).1⟩, fun d hd => ?_⟩
    obtain ⟨i, hi⟩ := List.mem_iff_getElem?.1 hd
    exact (h2 i d hi).2
end
end Go.Proofs.Ytamnpblijdgdaaa
