/- Contract: Barrier. -/
import Derived.Test.YtocmjbfbjiinhaaV12
namespace Go.Proofs.Ytocmjbfbjiinhaa
open Go.ChangeShapes Go.WideShapes Go.ChangeAt Go.RowKit
set_option linter.unusedVariables false
/-- A Barrier that is done. -/
def DM.barrier (m : DM) (r : Nat) : DM := ({ m with done := m.done ++ [⟨r, 65535, List.replicate 64 0⟩] } : DM).settle r (fun _ => true)
theorem zeroBlk : BlkOk (List.replicate 64 0) := ⟨by simp, fun x hx => by rw [(List.mem_replicate.1 hx).2]; omega⟩
theorem DM.Ok.tell {m : DM} (h : m.Ok) {r : Nat} (hr : r < m.now.length) : ({ m with done := m.done ++ [⟨r, 65535, List.replicate 64 0⟩] } : DM).Ok :=
  { pos := h.pos, few := h.few, sureLen := h.sureLen, unsLen := h.unsLen, rows := h.rows, sures := h.sures
    dones := fun x hx => by
      have hx' : x ∈ m.done ++ [⟨r, 65535, List.replicate 64 0⟩] := hx
      rcases List.mem_append.1 hx' with h1 | h1
      · exact h.dones x h1
      · rw [List.mem_singleton.1 h1]
        exact ⟨⟨_, List.getElem?_eq_getElem hr, Or.inr rfl⟩, zeroBlk⟩
    unss := fun k u hu => by
      have := h.unss k u hu
      show u ≤ (m.done ++ _).length
      rw [List.length_append]; omega
    left := h.left }
theorem run_enter {f : Nat} {fn : Func} {c : Code} (hf : Try.prog.funcs[f]? = some fn) (hname : (fn.name == "runtime.NumGoroutine") = false) (hb : fn.body = some c) (args : Array Value) (w : World) : (callFunc f args).run Try.prog w = .ok (.enter f args) w := by
  unfold callFunc
  have hn : ¬ fn.name = "runtime.NumGoroutine" := by simpa using hname
  simp [hf, hn, hb]
def VB5 (hp B : Nat) (Own : Nat → Prop) (sDone : Value) (n : Nat) (l : List Value) (x : Wr) (k : Nat) (v : Value) (w : World) : Prop :=
  match k with
  | 0 | 1 | 2 | 10 => v = .pointer (some ⟨hp, 0, none⟩)
  | 3 | 11 => v = .pointer (some ⟨hp, 2, none⟩)
  | 4 => v = sDone
  | 5 => v = .int .i64 x.r
  | 6 => v = .complex .f64 (Fx.fb x.r) (Fx.fb 65535)
  | 7 => v = .agg x.cs.toArray
  | 8 => ∃ p, v = .slice (some ⟨p, 0, none⟩) 1 1 ∧ B ≤ p ∧ w.heap[p]? = some (.cells x.cs.toArray 75 (0, 0))
  | 9 => RowAt w (fun k => Own k ∨ B ≤ k) 75 65 v (n + 1) (l ++ x.cs)
  | _ => True
def SB5 (sDone : Value) (i : Nat) (w w' : World) : Prop := if i = 9 then w.grownBy w' sDone.ownBlock else w.grownBy w' none
theorem VB5.on {hp B : Nat} {Own : Nat → Prop} {sDone : Value} {n : Nat} {l : List Value} {x : Wr} (hB : ∀ k, sDone.ownBlock = some k → k < B) {i k : Nat} {v : Value} {w w' : World} (hik : i ≠ k) (h : VB5 hp B Own sDone n l x k v w) (hg : SB5 sDone i w w') : VB5 hp B Own sDone n l x k v w' := by
  unfold SB5 at hg
  unfold VB5 at *
  split <;> try exact h
  · obtain ⟨p, e, h1, h2⟩ := h
    refine ⟨p, e, h1, ?_⟩
    split at hg
    · rw [hg.block p (room_lt h2) (fun e => by have := hB p e.symm; omega)]; exact h2
    · rw [hg.block p (room_lt h2) (by simp)]; exact h2
  · rw [if_neg hik] at hg
    exact h.keep fun k hk _ => hg.block k hk (by simp)
  · trivial
end Go.Proofs.Ytocmjbfbjiinhaa
