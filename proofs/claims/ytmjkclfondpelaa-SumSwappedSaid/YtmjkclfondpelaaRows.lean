/-
  No cell of these rows narrows 'for every input' (looked for: loops, veiled, ifaces, maps, wideKeys, modest, calm, conditions, laid).
  DERIVED. THE GIVEN ROWS OF THIS SEAT. 4 by the template 'for every input the law returns true; each argument reads behind the call as it read before'; 0 by the template 'total and deterministic' (their statements: YtmjkclfondpelaaTotals.lean).
  GIVEN WITH THE SEED: the statements are not yours to turn. If you find one false, say at which input.
  Laid BY PROGRAM, IN A SANDBOX (cutbox-rows.mjs): the forced cells as the released guide's own fill.sh prints them over the translation 396087947212627f… (all of the seat's roots in one cut). By AI agents, Wed Nov 11 2026. No macro, syntax, notation, axiom, sorry.
-/
import Derived.Test.YtmjkclfondpelaaChecked
import GoSem.Claim
import GoSem.ClaimJoined
import GoSem.ClaimMapViews
import Derived.JoinedTies
import Derived.KernelRfl
namespace Go.Proofs.Ytmjkclfondpelaa
/- THE CELL 'sum', in the pinned program and in every row, IS THE sha256 OF THE DUMP (.gsa) THAT YtmjkclfondpelaaProg.lean LOADS. Nothing in Lean hashes anything: it is a label: what it is worth is what the hold of that sum in a sandbox is worth. -/
noncomputable def Try.pinned : Pinned := { name := "ytmjkclfondpelaa", sum := "396087947212627fe8eee27116675c927b37c73c2a73f8786a7eda8bb2d025ce", checked := Try.checked }
namespace Rows
def none {H : Type} : Left H := { results := [], args := [] }

/-- 'clathrilaw3.SumAll': WHATEVER THE INPUT: true; the input reads as it did. -/
def sumAllSpec : ChangeSpec := { name := "sumAll", fn := fun _ => fun
  | [d] => { results := [.lit (.bool true)], args := [d] }
  | _ => none }
def sumAllRow : OpenClaim := { program := "ytmjkclfondpelaa", sum := "396087947212627fe8eee27116675c927b37c73c2a73f8786a7eda8bb2d025ce", func := "clathri/clathrilaw3.SumAll", spec := "sumAll", apart := false }
def SumAllSaid : Prop := sumAllRow.holds Try.pinned (OpenSpec.ofChange sumAllSpec)

/-- ITS FALSE NEIGHBOUR: 'it returns false'. Refute it at one input. -/
def sumAllWrong : ChangeSpec := { name := "sumAll", fn := fun _ => fun
  | [d] => { results := [.lit (.bool false)], args := [d] }
  | _ => none }
def SumAllWrongFalsely : Prop := sumAllRow.holds Try.pinned (OpenSpec.ofChange sumAllWrong)

/-- 'clathrilaw3.SumTurned': WHATEVER THE INPUT: true; the input reads as it did. -/
def sumTurnedSpec : ChangeSpec := { name := "sumTurned", fn := fun _ => fun
  | [d1, d2, d3] => { results := [.lit (.bool true)], args := [d1, d2, d3] }
  | _ => none }
def sumTurnedRow : OpenClaim := { program := "ytmjkclfondpelaa", sum := "396087947212627fe8eee27116675c927b37c73c2a73f8786a7eda8bb2d025ce", func := "clathri/clathrilaw3.SumTurned", spec := "sumTurned", apart := false }
def SumTurnedSaid : Prop := sumTurnedRow.holds Try.pinned (OpenSpec.ofChange sumTurnedSpec)

/-- ITS FALSE NEIGHBOUR: 'it returns false'. Refute it at one input. -/
def sumTurnedWrong : ChangeSpec := { name := "sumTurned", fn := fun _ => fun
  | [d1, d2, d3] => { results := [.lit (.bool false)], args := [d1, d2, d3] }
  | _ => none }
def SumTurnedWrongFalsely : Prop := sumTurnedRow.holds Try.pinned (OpenSpec.ofChange sumTurnedWrong)

/-- 'clathrilaw3.SumForms': WHATEVER THE INPUT: true; the input reads as it did. -/
def sumFormsSpec : ChangeSpec := { name := "sumForms", fn := fun _ => fun
  | [] => { results := [.lit (.bool true)], args := [] }
  | _ => none }
def sumFormsRow : OpenClaim := { program := "ytmjkclfondpelaa", sum := "396087947212627fe8eee27116675c927b37c73c2a73f8786a7eda8bb2d025ce", func := "clathri/clathrilaw3.SumForms", spec := "sumForms", apart := false }
def SumFormsSaid : Prop := sumFormsRow.holds Try.pinned (OpenSpec.ofChange sumFormsSpec)

/-- ITS FALSE NEIGHBOUR: 'it returns false'. Refute it at one input. -/
def sumFormsWrong : ChangeSpec := { name := "sumForms", fn := fun _ => fun
  | [] => { results := [.lit (.bool false)], args := [] }
  | _ => none }
def SumFormsWrongFalsely : Prop := sumFormsRow.holds Try.pinned (OpenSpec.ofChange sumFormsWrong)

/-- 'clathrilaw3.SumSwapped': WHATEVER THE INPUT: true; the input reads as it did. -/
def sumSwappedSpec : ChangeSpec := { name := "sumSwapped", fn := fun _ => fun
  | [d1, d2] => { results := [.lit (.bool true)], args := [d1, d2] }
  | _ => none }
def sumSwappedRow : OpenClaim := { program := "ytmjkclfondpelaa", sum := "396087947212627fe8eee27116675c927b37c73c2a73f8786a7eda8bb2d025ce", func := "clathri/clathrilaw3.SumSwapped", spec := "sumSwapped", apart := false }
def SumSwappedSaid : Prop := sumSwappedRow.holds Try.pinned (OpenSpec.ofChange sumSwappedSpec)

/-- ITS FALSE NEIGHBOUR: 'it returns false'. Refute it at one input. -/
def sumSwappedWrong : ChangeSpec := { name := "sumSwapped", fn := fun _ => fun
  | [d1, d2] => { results := [.lit (.bool false)], args := [d1, d2] }
  | _ => none }
def SumSwappedWrongFalsely : Prop := sumSwappedRow.holds Try.pinned (OpenSpec.ofChange sumSwappedWrong)

/- THE SECOND FORM. 'bulk': how many values and letters a reading holds, each counted each time it is reached (what is shared counts as often as it is met; a slice's spare places count too). A statement '..UptoSaid' is the law's where the arguments, and the package variables that the reading takes, are together of bulk at most 1048576: NARROWER than '..Said'. Prove '..Said' where nothing that the law and all that it calls make is longer than what came in: it says more and counts as full. Else prove '..UptoSaid'. A law counts once. -/
mutual
def uptoBulk {H : Type} : DataW H → Nat
  | .lit (.string bytes) => bytes.length + 1
  | .lit _ => 1
  | .nil => 1
  | .ptr d => uptoBulk d + 1
  | .slice elems spare => uptoBulkAll elems + uptoBulkAll spare + 1
  | .agg parts => uptoBulkAll parts + 1
  | .iface _ d => uptoBulk d + 1
  | .map entries => uptoBulkEntries entries + 1
  | .held _ => 1
def uptoBulkAll {H : Type} : List (DataW H) → Nat
  | [] => 0
  | d :: r => uptoBulk d + uptoBulkAll r
def uptoBulkEntries {H : Type} : List (Lit × DataW H) → Nat
  | [] => 0
  | x :: r => uptoBulkEntry x + uptoBulkEntries r
def uptoBulkEntry {H : Type} : Lit × DataW H → Nat
  | (.string bytes, d) => bytes.length + uptoBulk d + 1
  | (_, d) => uptoBulk d + 1
 end
def uptoSmall : (H : Type) → List (DataW H) → Bool := fun _ ds => decide (uptoBulkAll ds ≤ 1048576)
def OpenSpec.upto (s : _root_.Go.ChangeSpec) : _root_.Go.OpenSpec := { _root_.Go.OpenSpec.ofChange s with cond := some uptoSmall }

/-- 'clathrilaw3.SumAll', WHERE WHAT IT READS IS OF BULK AT MOST 1048576: true; the input reads as it did. -/
def sumAllUptoRow : OpenClaim := { program := "ytmjkclfondpelaa", sum := "396087947212627fe8eee27116675c927b37c73c2a73f8786a7eda8bb2d025ce", func := "clathri/clathrilaw3.SumAll", spec := "sumAll", apart := false, narrowed := true }
def SumAllUptoSaid : Prop := sumAllUptoRow.holds Try.pinned (OpenSpec.upto sumAllSpec)

/-- 'clathrilaw3.SumTurned', WHERE WHAT IT READS IS OF BULK AT MOST 1048576: true; the input reads as it did. -/
def sumTurnedUptoRow : OpenClaim := { program := "ytmjkclfondpelaa", sum := "396087947212627fe8eee27116675c927b37c73c2a73f8786a7eda8bb2d025ce", func := "clathri/clathrilaw3.SumTurned", spec := "sumTurned", apart := false, narrowed := true }
def SumTurnedUptoSaid : Prop := sumTurnedUptoRow.holds Try.pinned (OpenSpec.upto sumTurnedSpec)

/-- 'clathrilaw3.SumForms', WHERE WHAT IT READS IS OF BULK AT MOST 1048576: true; the input reads as it did. -/
def sumFormsUptoRow : OpenClaim := { program := "ytmjkclfondpelaa", sum := "396087947212627fe8eee27116675c927b37c73c2a73f8786a7eda8bb2d025ce", func := "clathri/clathrilaw3.SumForms", spec := "sumForms", apart := false, narrowed := true }
def SumFormsUptoSaid : Prop := sumFormsUptoRow.holds Try.pinned (OpenSpec.upto sumFormsSpec)

/-- 'clathrilaw3.SumSwapped', WHERE WHAT IT READS IS OF BULK AT MOST 1048576: true; the input reads as it did. -/
def sumSwappedUptoRow : OpenClaim := { program := "ytmjkclfondpelaa", sum := "396087947212627fe8eee27116675c927b37c73c2a73f8786a7eda8bb2d025ce", func := "clathri/clathrilaw3.SumSwapped", spec := "sumSwapped", apart := false, narrowed := true }
def SumSwappedUptoSaid : Prop := sumSwappedUptoRow.holds Try.pinned (OpenSpec.upto sumSwappedSpec)

end Rows
end Go.Proofs.Ytmjkclfondpelaa
