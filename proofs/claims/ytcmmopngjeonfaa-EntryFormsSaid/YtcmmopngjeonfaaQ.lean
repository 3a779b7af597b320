/- A region that draws its order, whose operations read what was there and whose callees at most lay new blocks: one walk in the text's order serves every order. -/
import Derived.WalkKit
import Derived.Deep.QuietTactic
import Derived.BigQuiet
namespace Go.Proofs.Ytcmmopngjeonfaa
open Go.RowKit
/-- A world that is W with at most new blocks behind it. -/
def Later (W : World) : Type := { g : World // Below W.heap.size W g }
instance {W : World} : Nonempty (Later W) := ⟨⟨W, Below.refl _ _⟩⟩
def Later.w {W : World} (g : Later W) : World := g.1
theorem Later.below {W : World} (g : Later W) : Below W.heap.size W g.w := g.2
theorem wp_region_later {P : Program} {id : Nat} {Q : Exit → Act → World → Prop} {a : Act} {w : World} {l : List Oper} (hm : P.follows .mixedOrders = true) (hB : Region.lexB .any l.toArray = true)
    (h : wpQuiet P l.toArray (fun w' => ∃ n : Later w, w' = n.w) (fun a' => ∀ w', (∃ n : Later w, w' = n.w) → Q .normal a' w') l a) : (Code.region id l.toArray true).wp P Q a w :=
  wp_region_quiet (C := fun w' => ∃ n : Later w, w' = n.w) hm hB ⟨⟨w.drew, (Below.refl _ _).drew⟩, rfl⟩ (by simpa using h)
theorem quiet_later {P : Program} {f : FuncId} {args : Array Value} {W : World} {n : Later W} {v : Value}
    (h : Calls P f args n.w fun e w' => e = .returned v ∧ Below n.w.heap.size n.w w') : Calls P f args n.w fun e w'' => e = .returned v ∧ ∃ m : Later W, w'' = m.w :=
  h.mono fun _ w' ⟨he, hb⟩ => ⟨he, ⟨w', n.below.trans (hb.mono n.below.size)⟩, rfl⟩
/-- .. of a callee that answers a bool of which something is known. -/
theorem quiet_laterB {P : Program} {f : FuncId} {args : Array Value} {W : World} {n : Later W} {x b : Bool}
    (h : Calls P f args n.w fun e w' => e = .returned (.bool x) ∧ Below n.w.heap.size n.w w') (e : x = b) : Calls P f args n.w fun e w'' => e = .returned (.bool b) ∧ ∃ m : Later W, w'' = m.w :=
  quiet_later (e ▸ h)
theorem quiet_later_same {P : Program} {f : FuncId} {args : Array Value} {W : World} {n : Later W} {v : Value}
    (h : Calls P f args n.w fun e w' => e = .returned v ∧ n.w = w') : Calls P f args n.w fun e w'' => e = .returned v ∧ ∃ m : Later W, w'' = m.w :=
  h.mono fun _ _ ⟨he, hb⟩ => ⟨he, n, hb.symm⟩
theorem Later.keep {W : World} (g : Later W) {b o : Nat} {v : Value} (h : W.cell? ⟨b, o, none⟩ = some v) : g.w.cell? ⟨b, o, none⟩ = some v := by
  rw [g.below.cell (World.block_lt_of_cell? W _ h)]; exact h
end Go.Proofs.Ytcmmopngjeonfaa
