/- Writes, lists of writes, texts as arguments, opened. -/
import Derived.Test.YtflldlhfeiamnaaEa
import Derived.Deep.Slices
import Derived.Deep.Fields
import Derived.ChangeSame
namespace Go.Proofs.Ytflldlhfeiamnaa
open Go.ChangeShapes Go.WideShapes Go.ChangeAt Go.RowKit Go.Deep
set_option linter.unusedVariables false
/-- From 'for every index there is one' to a list. -/
theorem list_of {α : Type} {p : Nat → α → Prop} (n : Nat) (h : ∀ k, k < n → ∃ x, p k x) : ∃ l : List α, l.length = n ∧ ∀ i x, l[i]? = some x → p i x := by
  induction n with
  | zero => exact ⟨[], rfl, fun i x hi => by cases hi⟩
  | succ n ih =>
    obtain ⟨l, h1, h2⟩ := ih (fun k hk => h k (by omega))
    obtain ⟨x, hx⟩ := h n (by omega)
    refine ⟨l ++ [x], by simp [h1], fun i y hi => ?_⟩
    by_cases hin : i < n
    · rw [List.getElem?_append_left (by omega)] at hi; exact h2 i y hi
    · have hlt := (List.getElem?_eq_some_iff.1 hi).1
      simp at hlt
      obtain rfl : i = n := by omega
      rw [List.getElem?_append_right (by omega), h1, Nat.sub_self] at hi
      injection hi with hi
      subst hi
      exact hx
/-- Lists of writes lie behind a slice. -/
def Wss (w : World) (A : Option Addr) (ls : List (List Wr)) : Prop := ∀ i l, ls[i]? = some l → ∃ a B d, A = some a ∧ w.cell? (a.add i) = some (.slice B l.length d) ∧ l.length ≤ d ∧ d ≤ 9223372036854775807 ∧ Wrs w B l
def WssOk (ls : List (List Wr)) : Prop := ∀ l ∈ ls, WrsOk l
theorem Wss.keep {w w' : World} {A : Option Addr} {ls : List (List Wr)} (h : Wss w A ls) (hb : Below w.heap.size w w') : Wss w' A ls := fun i b hi =>
  let ⟨a, B, d, e, hc, h1, h2, hy⟩ := h i b hi; ⟨a, B, d, e, keepC hb hc, h1, h2, hy.keep hb⟩
section
variable {H : Type} {enc : TypeId × Value → H} {w : World} {base : Nat} {spare : Nat → Bool} {held : Bool}
theorem cells_bytes : Try.prog.cellsOf 25 = 1 := by kernel_rfl
theorem cells_wrs : Try.prog.cellsOf 23 = 1 := by kernel_rfl
theorem cells_write : Try.prog.cellsOf 46 = 58 := by kernel_rfl
theorem open_txs {fuel : Nat} {cs : List Value} {x : DataW H × List MemPlace} (h : DataW.trod enc Try.prog w base spare held fuel 24 cs = some x) :
    ∃ (A : Option Addr) (ks : List (List Int)) (d : Nat), cs = [.slice A ks.length d] ∧ ks.length ≤ d ∧ d ≤ 9223372036854775807 ∧ Tx w A ks ∧ TxOk ks := by
  rcases open_slice1 Try.underlying24 cells_bytes h with ⟨rfl, _⟩ | ⟨a, len, cap, m, n, V, D, Pl, rfl, _, hl, hm, hmm, _, hi⟩
  · exact ⟨none, [], 0, rfl, Nat.le_refl _, by omega, (fun i s hi => by cases hi), (fun b hb => by cases hb)⟩
  · have hml : len ≤ m := by rw [hmm]; split <;> omega
    obtain ⟨ks, h1, h2⟩ := list_of (p := fun i bs => ∃ A' c, w.cell? (a.add i) = some (.slice A' bs.length c) ∧ Byt w A' bs ∧ AllB bs ∧ bs.length ≤ c ∧ c ≤ 9223372036854775807) len (fun k hk => by
      obtain ⟨hc, ht⟩ := hi k (by omega)
      obtain ⟨A', bs, c, e, g1, g2, g3, g4⟩ := open_byt ht
      injection e with e _
      exact ⟨bs, A', c, by rw [hc, e], g3, g4, g1, g2⟩)
    refine ⟨some a, ks, cap, by rw [h1], by omega, by simp only [maxLen] at hm; omega, fun i bs hib => ?_, fun bs hb => ?_⟩
    · obtain ⟨A', c, g1, g2, g3, g4, g5⟩ := h2 i bs hib
      exact ⟨a, A', c, rfl, g1, g4, g5, g2⟩
    · obtain ⟨i, hi⟩ := List.mem_iff_getElem?.1 hb
      obtain ⟨_, _, _, _, g, _⟩ := h2 i bs hi
      exact g
theorem open_wr {fuel : Nat} {cs : List Value} {x : DataW H × List MemPlace} (h : DataW.trod enc Try.prog w base spare held fuel 46 cs = some x) :
    ∃ y : Wr, cs = wrL y ∧ y.Ok := by
  have hS : Try.prog.underlying 46 = some (.struct (Try.prog.fieldsOf 46)) := by kernel_rfl
  obtain ⟨ys, m, _, rfl, hl, hys, hel⟩ := DataW.trod_struct hS h
  rw [cells_write] at hl
  have hf : (Try.prog.fieldsOf 46).toList.map (fun f => (f.type, f.offset)) = [(3, 0), (44, 1)] := by kernel_rfl
  have hsz : (Try.prog.fieldsOf 46).size = 2 := by kernel_rfl
  obtain ⟨f0, f1, hfs⟩ := two_of (show (Try.prog.fieldsOf 46).toList.length = 2 by simpa using hsz)
  rw [hfs] at hf
  simp only [List.map_cons, List.map_nil, List.cons.injEq, Prod.mk.injEq, and_true] at hf
  obtain ⟨⟨t0, o0⟩, ⟨t1, o1⟩⟩ := hf
  have h0 := hel 0 f0 (by rw [← Array.getElem?_toList, hfs]; rfl)
  have h1 := hel 1 f1 (by rw [← Array.getElem?_toList, hfs]; rfl)
  rw [t0, o0] at h0
  rw [t1, o1] at h1
  rw [hsz] at hys
  obtain ⟨y0, hy0⟩ : ∃ y, ys[0]? = some y := ⟨_, List.getElem?_eq_getElem (by omega)⟩
  obtain ⟨y1, hy1⟩ : ∃ y, ys[1]? = some y := ⟨_, List.getElem?_eq_getElem (by omega)⟩
  rw [hy0] at h0
  rw [hy1] at h1
  obtain ⟨t, e0, _, hwf⟩ := DataW.trod_int Try.underlying3 h0
  obtain ⟨k, bs, e1, h56, hk, hB⟩ := open_blk h1
  rw [show Try.prog.cellsOf (3) = 1 from cells3b] at e0
  rw [show Try.prog.cellsOf (44) = 57 from cells24] at e1
  have c0 := take_one e0
  refine ⟨⟨t, k, bs⟩, ?_, ⟨?_, hk, h56, hB⟩⟩
  · unfold wrL
    cases cs with
    | nil => cases c0
    | cons v l =>
      have hv : v = .int .i64 t := by simpa using c0
      have : (l.take 57) = blkL k bs := e1
      rw [hv, ← this, List.take_of_length_le (by simp at hl; omega)]
  · have := bounds_i64 hwf
    constructor <;> (simp only; omega)
theorem open_wrs {fuel : Nat} {cs : List Value} {x : DataW H × List MemPlace} (h : DataW.trod enc Try.prog w base spare held fuel 23 cs = some x) :
    ∃ (A : Option Addr) (l : List Wr) (d : Nat), cs = [.slice A l.length d] ∧ l.length ≤ d ∧ d ≤ 9223372036854775807 ∧ Wrs w A l ∧ WrsOk l := by
  rcases open_slice Try.underlying23 h with ⟨rfl, _⟩ | ⟨a, len, cap, m, n, D, Pl, rfl, _, hl, hm, hmm, _, hi⟩
  · exact ⟨none, [], 0, rfl, Nat.le_refl _, by omega, (fun i s hi => by cases hi), (fun s hs => by cases hs)⟩
  · have hml : len ≤ m := by rw [hmm]; split <;> omega
    obtain ⟨l, h1, h2⟩ := list_of (p := fun i y => WrAt w (a.add (i * 58)) y ∧ y.Ok) len (fun k hk => by
      obtain ⟨cs', hc, ht⟩ := hi k (by omega)
      rw [cells_write] at hc
      obtain ⟨y, rfl, hy⟩ := open_wr ht
      obtain ⟨_, _, hat⟩ := World.cells?_some hc
      refine ⟨y, fun j u hu => ?_, hy⟩
      have hj : j < 58 := by have := (List.getElem?_eq_some_iff.1 hu).1; rw [wrL_length hy.len] at this; exact this
      rw [hat j hj, hu])
    refine ⟨some a, l, cap, by rw [h1], by omega, by simp only [maxLen] at hm; omega, fun i d hid => ⟨a, rfl, (h2 i d hid).1⟩, fun d hd => ?_⟩
    obtain ⟨i, hi⟩ := List.mem_iff_getElem?.1 hd
    exact (h2 i d hi).2
theorem open_wrss {fuel : Nat} {cs : List Value} {x : DataW H × List MemPlace} (h : DataW.trod enc Try.prog w base spare held fuel 47 cs = some x) :
    ∃ (A : Option Addr) (ks : List (List Wr)) (d : Nat), cs = [.slice A ks.length d] ∧ ks.length ≤ d ∧ d ≤ 9223372036854775807 ∧ Wss w A ks ∧ WssOk ks := by
  rcases open_slice1 Try.underlying47 cells_wrs h with ⟨rfl, _⟩ | ⟨a, len, cap, m, n, V, D, Pl, rfl, _, hl, hm, hmm, _, hi⟩
  · exact ⟨none, [], 0, rfl, Nat.le_refl _, by omega, (fun i s hi => by cases hi), (fun b hb => by cases hb)⟩
  · have hml : len ≤ m := by rw [hmm]; split <;> omega
    obtain ⟨ks, h1, h2⟩ := list_of (p := fun i bs => ∃ A' c, w.cell? (a.add i) = some (.slice A' bs.length c) ∧ Wrs w A' bs ∧ WrsOk bs ∧ bs.length ≤ c ∧ c ≤ 9223372036854775807) len (fun k hk => by
      obtain ⟨hc, ht⟩ := hi k (by omega)
      obtain ⟨A', bs, c, e, g1, g2, g3, g4⟩ := open_wrs ht
      injection e with e _
      exact ⟨bs, A', c, by rw [hc, e], g3, g4, g1, g2⟩)
    refine ⟨some a, ks, cap, by rw [h1], by omega, by simp only [maxLen] at hm; omega, fun i bs hib => ?_, fun bs hb => ?_⟩
    · obtain ⟨A', c, g1, g2, g3, g4, g5⟩ := h2 i bs hib
      exact ⟨a, A', c, rfl, g1, g4, g5, g2⟩
    · obtain ⟨i, hi⟩ := List.mem_iff_getElem?.1 hb
      obtain ⟨_, _, _, _, g, _⟩ := h2 i bs hi
      exact g
end
end Go.Proofs.Ytflldlhfeiamnaa
