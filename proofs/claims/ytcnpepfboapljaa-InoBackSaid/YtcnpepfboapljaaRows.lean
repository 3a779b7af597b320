/-
  No cell of these rows narrows 'for every input' (looked for: loops, veiled, ifaces, maps, wideKeys, modest, calm, conditions, laid).
  DERIVED. THE GIVEN ROWS OF THIS SEAT. 3 by the template 'for every input the law returns true; each argument reads behind the call as it read before'; 0 by the template 'total and deterministic' (their statements: YtcnpepfboapljaaTotals.lean).
  GIVEN WITH THE SEED: the statements are not yours to turn. If you find one false, say at which input.
  Laid BY PROGRAM, IN A SANDBOX (cutbox-rows.mjs): the forced cells as the released guide's own fill.sh prints them over the translation b8033c63256c2616… (all of the seat's roots in one cut). By AI agents, Wed Nov 11 2026. No macro, syntax, notation, axiom, sorry.
-/
import Derived.Test.YtcnpepfboapljaaChecked
import GoSem.Claim
import GoSem.ClaimJoined
import GoSem.ClaimMapViews
import Derived.JoinedTies
import Derived.KernelRfl
namespace Go.Proofs.Ytcnpepfboapljaa
/- THE CELL 'sum', in the pinned program and in every row, IS THE sha256 OF THE DUMP (.gsa) THAT YtcnpepfboapljaaProg.lean LOADS. Nothing in Lean hashes anything: it is a label: what it is worth is what the hold of that sum in a sandbox is worth. -/
noncomputable def Try.pinned : Pinned := { name := "ytcnpepfboapljaa", sum := "b8033c63256c261684dbf829b2b4ccb211901a0fba647d400188e1a7d06309a5", checked := Try.checked }
namespace Rows
def none {H : Type} : Left H := { results := [], args := [] }

/-- 'clathrilaw11.InoAll': WHATEVER THE INPUT: true; the input reads as it did. -/
def inoAllSpec : ChangeSpec := { name := "inoAll", fn := fun _ => fun
  | [d1, d2] => { results := [.lit (.bool true)], args := [d1, d2] }
  | _ => none }
def inoAllRow : OpenClaim := { program := "ytcnpepfboapljaa", sum := "b8033c63256c261684dbf829b2b4ccb211901a0fba647d400188e1a7d06309a5", func := "clathri/clathrilaw11.InoAll", spec := "inoAll", apart := false }
def InoAllSaid : Prop := inoAllRow.holds Try.pinned (OpenSpec.ofChange inoAllSpec)

/-- ITS FALSE NEIGHBOUR: 'it returns false'. Refute it at one input. -/
def inoAllWrong : ChangeSpec := { name := "inoAll", fn := fun _ => fun
  | [d1, d2] => { results := [.lit (.bool false)], args := [d1, d2] }
  | _ => none }
def InoAllWrongFalsely : Prop := inoAllRow.holds Try.pinned (OpenSpec.ofChange inoAllWrong)

/-- 'clathrilaw11.InoBack': WHATEVER THE INPUT: true; the input reads as it did. -/
def inoBackSpec : ChangeSpec := { name := "inoBack", fn := fun _ => fun
  | [d1, d2, d3, d4] => { results := [.lit (.bool true)], args := [d1, d2, d3, d4] }
  | _ => none }
def inoBackRow : OpenClaim := { program := "ytcnpepfboapljaa", sum := "b8033c63256c261684dbf829b2b4ccb211901a0fba647d400188e1a7d06309a5", func := "clathri/clathrilaw11.InoBack", spec := "inoBack", apart := false }
def InoBackSaid : Prop := inoBackRow.holds Try.pinned (OpenSpec.ofChange inoBackSpec)

/-- ITS FALSE NEIGHBOUR: 'it returns false'. Refute it at one input. -/
def inoBackWrong : ChangeSpec := { name := "inoBack", fn := fun _ => fun
  | [d1, d2, d3, d4] => { results := [.lit (.bool false)], args := [d1, d2, d3, d4] }
  | _ => none }
def InoBackWrongFalsely : Prop := inoBackRow.holds Try.pinned (OpenSpec.ofChange inoBackWrong)

/-- 'clathrilaw11.InoForms': WHATEVER THE INPUT: true; the input reads as it did. -/
def inoFormsSpec : ChangeSpec := { name := "inoForms", fn := fun _ => fun
  | [] => { results := [.lit (.bool true)], args := [] }
  | _ => none }
def inoFormsRow : OpenClaim := { program := "ytcnpepfboapljaa", sum := "b8033c63256c261684dbf829b2b4ccb211901a0fba647d400188e1a7d06309a5", func := "clathri/clathrilaw11.InoForms", spec := "inoForms", apart := false }
def InoFormsSaid : Prop := inoFormsRow.holds Try.pinned (OpenSpec.ofChange inoFormsSpec)

/-- ITS FALSE NEIGHBOUR: 'it returns false'. Refute it at one input. -/
def inoFormsWrong : ChangeSpec := { name := "inoForms", fn := fun _ => fun
  | [] => { results := [.lit (.bool false)], args := [] }
  | _ => none }
def InoFormsWrongFalsely : Prop := inoFormsRow.holds Try.pinned (OpenSpec.ofChange inoFormsWrong)

/- THE SECOND FORM. 'bulk': how many values and letters a reading holds, each counted each time it is reached (what is shared counts as often as it is met; a slice's spare places count too). A statement '..UptoSaid' is the law's where the arguments, and the package variables that the reading takes, are together of bulk at most 1048576: NARROWER than '..Said'. Prove '..Said' where nothing that the law and all that it calls make is longer than what came in: it says more and counts as full. Else prove '..UptoSaid'. A law counts once. -/
mutual
def uptoBulk {H : Type} : DataW H → Nat
  | .lit (.string bytes) => bytes.length + 1
  | .lit _ => 1
  | .nil => 1
  | .ptr d => uptoBulk d + 1
  | .slice elems spare => uptoBulkAll elems + uptoBulkAll spare + 1
  | .agg parts => uptoBulkAll parts + 1
  | .iface _ d => uptoBulk d + 1
  | .map entries => uptoBulkEntries entries + 1
  | .held _ => 1
def uptoBulkAll {H : Type} : List (DataW H) → Nat
  | [] => 0
  | d :: r => uptoBulk d + uptoBulkAll r
def uptoBulkEntries {H : Type} : List (Lit × DataW H) → Nat
  | [] => 0
  | x :: r => uptoBulkEntry x + uptoBulkEntries r
def uptoBulkEntry {H : Type} : Lit × DataW H → Nat
  | (.string bytes, d) => bytes.length + uptoBulk d + 1
  | (_, d) => uptoBulk d + 1
 end
def uptoSmall : (H : Type) → List (DataW H) → Bool := fun _ ds => decide (uptoBulkAll ds ≤ 1048576)
def OpenSpec.upto (s : _root_.Go.ChangeSpec) : _root_.Go.OpenSpec := { _root_.Go.OpenSpec.ofChange s with cond := some uptoSmall }

/-- 'clathrilaw11.InoAll', WHERE WHAT IT READS IS OF BULK AT MOST 1048576: true; the input reads as it did. -/
def inoAllUptoRow : OpenClaim := { program := "ytcnpepfboapljaa", sum := "b8033c63256c261684dbf829b2b4ccb211901a0fba647d400188e1a7d06309a5", func := "clathri/clathrilaw11.InoAll", spec := "inoAll", apart := false, narrowed := true }
def InoAllUptoSaid : Prop := inoAllUptoRow.holds Try.pinned (OpenSpec.upto inoAllSpec)

/-- 'clathrilaw11.InoBack', WHERE WHAT IT READS IS OF BULK AT MOST 1048576: true; the input reads as it did. -/
def inoBackUptoRow : OpenClaim := { program := "ytcnpepfboapljaa", sum := "b8033c63256c261684dbf829b2b4ccb211901a0fba647d400188e1a7d06309a5", func := "clathri/clathrilaw11.InoBack", spec := "inoBack", apart := false, narrowed := true }
def InoBackUptoSaid : Prop := inoBackUptoRow.holds Try.pinned (OpenSpec.upto inoBackSpec)

/-- 'clathrilaw11.InoForms', WHERE WHAT IT READS IS OF BULK AT MOST 1048576: true; the input reads as it did. -/
def inoFormsUptoRow : OpenClaim := { program := "ytcnpepfboapljaa", sum := "b8033c63256c261684dbf829b2b4ccb211901a0fba647d400188e1a7d06309a5", func := "clathri/clathrilaw11.InoForms", spec := "inoForms", apart := false, narrowed := true }
def InoFormsUptoSaid : Prop := inoFormsUptoRow.holds Try.pinned (OpenSpec.upto inoFormsSpec)

end Rows
end Go.Proofs.Ytcnpepfboapljaa
