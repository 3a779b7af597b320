/- The device of package dev: what it is, as lists; how it lies in memory. -/
import Derived.Test.YtocmjbfbjiinhaaH
import Derived.Test.YtocmjbfbjiinhaaFx
namespace Go.Proofs.Ytocmjbfbjiinhaa
open Go.ChangeShapes Go.WideShapes Go.ChangeAt Go.RowKit
set_option linter.unusedVariables false
/-- A Write that was done, or a Barrier (block 65535). -/
structure Wr where
  r : Nat
  i : Nat
  b : List Int
/-- A device. -/
structure DM where
  now : List (List (List Int))
  sure : List (List (List Int))
  done : List Wr
  uns : List Nat
  stops : Bool
  left : Nat
def encB (row : List (List Int)) : List Value := row.flatMap Bs
def Wr.cs (x : Wr) : List Value := .complex .f64 (Fx.fb x.r) (Fx.fb x.i) :: Bs x.b
def encW (l : List Wr) : List Value := l.flatMap Wr.cs
def encN (l : List Nat) : List Value := l.map fun (n : Nat) => .int .i64 n
def BlkOk (b : List Int) : Prop := b.length = 64 ∧ AllB b
/-- What is so of every device. -/
structure DM.Ok (m : DM) : Prop where
  pos : 0 < m.now.length
  few : m.now.length ≤ 8
  sureLen : m.sure.length = m.now.length
  unsLen : m.uns.length = m.now.length
  rows : ∀ (r : Nat) (row : List (List Int)), m.now[r]? = some row → row.length ≤ 1000 ∧ (∀ b ∈ row, BlkOk b)
  sures : ∀ (r : Nat) (row : List (List Int)), m.sure[r]? = some row → (∃ row' : List (List Int), m.now[r]? = some row' ∧ row.length = row'.length) ∧ (∀ b ∈ row, BlkOk b)
  dones : ∀ x ∈ m.done, (∃ row : List (List Int), m.now[x.r]? = some row ∧ (x.i < row.length ∨ x.i = 65535)) ∧ BlkOk x.b
  unss : ∀ (r u : Nat), m.uns[r]? = some u → u ≤ m.done.length
  left : m.left ≤ 9223372036854775807
inductive DRole | none | hd | nowT | sureT | done | uns | now (r : Nat) | sure (r : Nat)
/-- The values in the device's head. -/
structure DLay where
  sNow : Value
  sSure : Value
  sDone : Value
  sUns : Value
/-- How it lies, whatever its lists are. -/
structure DevRaw (w : World) (O : Nat → DRole) (hp : Nat) (L : DLay) (m : DM) : Prop where
  hd : w.heap[hp]? = some (.cells #[L.sNow, L.sSure, L.sDone, L.sUns, .bool m.stops, .int .i64 m.left] 63 (0, 0))
  ohd : O hp = .hd
  now : RowsAt w (fun k => O k = .nowT) (fun r k => O k = .now r) 64 73 64 encB L.sNow m.now
  sure : RowsAt w (fun k => O k = .sureT) (fun r k => O k = .sure r) 64 73 64 encB L.sSure m.sure
  done : RowAt w (fun k => O k = .done) 75 65 L.sDone m.done.length (encW m.done)
  uns : RowAt w (fun k => O k = .uns) 3 1 L.sUns m.uns.length (encN m.uns)
structure DevAt (w : World) (O : Nat → DRole) (hp : Nat) (L : DLay) (m : DM) : Prop extends DevRaw w O hp L m where
  ok : m.Ok
section
variable {w w' : World} {O : Nat → DRole} {hp : Nat} {L : DLay} {m : DM}
theorem DevRaw.lt (h : DevRaw w O hp L m) : hp < w.heap.size := room_lt h.hd
theorem DevRaw.keep (h : DevRaw w O hp L m) (hk : ∀ k, k < w.heap.size → O k ≠ .none → w'.heap[k]? = w.heap[k]?) : DevRaw w' O hp L m where
  hd := by rw [hk hp (room_lt h.hd) (by rw [h.ohd]; simp)]; exact h.hd
  ohd := h.ohd
  now := h.now.keep fun k hk' ho => hk k hk' (by rcases ho with ho | ⟨r, ho⟩ <;> rw [ho] <;> simp)
  sure := h.sure.keep fun k hk' ho => hk k hk' (by rcases ho with ho | ⟨r, ho⟩ <;> rw [ho] <;> simp)
  done := h.done.keep fun k hk' ho => hk k hk' (by rw [ho]; simp)
  uns := h.uns.keep fun k hk' ho => hk k hk' (by rw [ho]; simp)
theorem DevAt.keep (h : DevAt w O hp L m) (hk : ∀ k, k < w.heap.size → O k ≠ .none → w'.heap[k]? = w.heap[k]?) : DevAt w' O hp L m := ⟨h.toDevRaw.keep hk, h.ok⟩
theorem DevAt.below (h : DevAt w O hp L m) (hb : Below w.heap.size w w') : DevAt w' O hp L m := h.keep fun k hk _ => hb.block k hk
theorem DevAt.drewN (h : DevAt w O hp L m) (n : Nat) : DevAt (w.drewN n) O hp L m := h.keep fun _ _ _ => rfl
theorem DevAt.drew (h : DevAt w O hp L m) : DevAt w.drew O hp L m := h.keep fun _ _ _ => rfl
theorem DevAt.alloc (h : DevAt w O hp L m) (o : Obj) : DevAt (w.alloc o) O hp L m := h.keep fun k hk _ => Below.heap_alloc w o k hk
theorem DevRaw.c0 (h : DevRaw w O hp L m) : w.cell? ⟨hp, 0, none⟩ = some L.sNow := blk_cell h.hd 0
theorem DevRaw.c1 (h : DevRaw w O hp L m) : w.cell? ⟨hp, 1, none⟩ = some L.sSure := blk_cell h.hd 1
theorem DevRaw.c2 (h : DevRaw w O hp L m) : w.cell? ⟨hp, 2, none⟩ = some L.sDone := blk_cell h.hd 2
theorem DevRaw.c3 (h : DevRaw w O hp L m) : w.cell? ⟨hp, 3, none⟩ = some L.sUns := blk_cell h.hd 3
theorem DevRaw.c4 (h : DevRaw w O hp L m) : w.cell? ⟨hp, 4, none⟩ = some (.bool m.stops) := blk_cell h.hd 4
theorem DevRaw.c5 (h : DevRaw w O hp L m) : w.cell? ⟨hp, 5, none⟩ = some (.int .i64 m.left) := blk_cell h.hd 5
theorem DevRaw.f (h : DevRaw w O hp L m) (i : Nat) : w.frozen? ⟨hp, i, none⟩ = false := blk_free h.hd i
/-- The head alone has turned, and at its end. -/
theorem DevRaw.tail (h : DevRaw w O hp L m) (s : Bool) (l : Nat) (hw : w'.heap[hp]? = some (.cells #[L.sNow, L.sSure, L.sDone, L.sUns, .bool s, .int .i64 l] 63 (0, 0)))
    (ho : ∀ k, k < w.heap.size → k ≠ hp → w'.heap[k]? = w.heap[k]?) : DevRaw w' O hp L { m with stops := s, left := l } where
  hd := hw
  ohd := h.ohd
  now := h.now.keep fun k hk ho' => ho k hk (fun e => by subst e; have := h.ohd; rcases ho' with ho' | ⟨r, ho'⟩ <;> rw [ho'] at this <;> cases this)
  sure := h.sure.keep fun k hk ho' => ho k hk (fun e => by subst e; have := h.ohd; rcases ho' with ho' | ⟨r, ho'⟩ <;> rw [ho'] at this <;> cases this)
  done := h.done.keep fun k hk ho' => ho k hk (fun e => by subst e; have := h.ohd; rw [ho'] at this; cases this)
  uns := h.uns.keep fun k hk ho' => ho k hk (fun e => by subst e; have := h.ohd; rw [ho'] at this; cases this)
end
/-- A device whose blocks are just those of F. -/
def Dev (w : World) (F : Nat → Prop) (hp : Nat) (m : DM) : Prop := ∃ O L, DevAt w O hp L m ∧ (∀ k, F k ↔ O k ≠ DRole.none) ∧ ∀ k, F k → k < w.heap.size
theorem Dev.keep {w w' : World} {F : Nat → Prop} {hp : Nat} {m : DM} (h : Dev w F hp m) (hk : ∀ k, k < w.heap.size → F k → w'.heap[k]? = w.heap[k]?) (hs : w.heap.size ≤ w'.heap.size) : Dev w' F hp m := by
  obtain ⟨O, L, h1, h2, h3⟩ := h
  exact ⟨O, L, h1.keep fun k hk' ho => hk k hk' ((h2 k).2 ho), h2, fun k hk => Nat.lt_of_lt_of_le (h3 k hk) hs⟩
theorem Dev.below {w w' : World} {F : Nat → Prop} {hp : Nat} {m : DM} (h : Dev w F hp m) (hb : Below w.heap.size w w') : Dev w' F hp m := h.keep (fun k hk _ => hb.block k hk) hb.size
theorem Dev.touch {w w' : World} {F G : Nat → Prop} {hp : Nat} {m : DM} (h : Dev w F hp m) (ht : Touch G w w') (hd : ∀ k, F k → ¬ G k) : Dev w' F hp m := h.keep (fun k hk hf => ht.block k hk (hd k hf)) ht.size
theorem Dev.ok {w : World} {F : Nat → Prop} {hp : Nat} {m : DM} (h : Dev w F hp m) : m.Ok := by obtain ⟨O, L, h1, _⟩ := h; exact h1.ok
end Go.Proofs.Ytocmjbfbjiinhaa
