/-
  No cell of these rows narrows 'for every input' (looked for: loops, veiled, ifaces, maps, wideKeys, modest, calm, conditions, laid).
  DERIVED. THE GIVEN ROWS OF THIS SEAT. 4 by the template 'for every input the law returns true; each argument reads behind the call as it read before'; 0 by the template 'total and deterministic' (their statements: YtlmbkfdpgmmacaaTotals.lean).
  GIVEN WITH THE SEED: the statements are not yours to turn. If you find one false, say at which input.
  Laid BY PROGRAM, IN A SANDBOX (cutbox-rows.mjs): the forced cells as the released guide's own fill.sh prints them over the translation a02e75feb4fd3f63… (all of the seat's roots in one cut). By AI agents, Wed Nov 11 2026. No macro, syntax, notation, axiom, sorry.
-/
import Derived.Test.YtlmbkfdpgmmacaaChecked
import GoSem.Claim
import GoSem.ClaimJoined
import GoSem.ClaimMapViews
import Derived.JoinedTies
import Derived.KernelRfl
namespace Go.Proofs.Ytlmbkfdpgmmacaa
/- THE CELL 'sum', in the pinned program and in every row, IS THE sha256 OF THE DUMP (.gsa) THAT YtlmbkfdpgmmacaaProg.lean LOADS. Nothing in Lean hashes anything: it is a label: what it is worth is what the hold of that sum in a sandbox is worth. -/
noncomputable def Try.pinned : Pinned := { name := "ytlmbkfdpgmmacaa", sum := "a02e75feb4fd3f63fb4e8039cb8a44b562d15a1a466caf78926fbac82fc5956a", checked := Try.checked }
namespace Rows
def none {H : Type} : Left H := { results := [], args := [] }

/-- 'clathrilaw2.ConfAll': WHATEVER THE INPUT: true; the input reads as it did. -/
def confAllSpec : ChangeSpec := { name := "confAll", fn := fun _ => fun
  | [d1, d2, d3] => { results := [.lit (.bool true)], args := [d1, d2, d3] }
  | _ => none }
def confAllRow : OpenClaim := { program := "ytlmbkfdpgmmacaa", sum := "a02e75feb4fd3f63fb4e8039cb8a44b562d15a1a466caf78926fbac82fc5956a", func := "clathri/clathrilaw2.ConfAll", spec := "confAll", unfollowed := true, recurses := true, apart := false }
def ConfAllSaid : Prop := confAllRow.holds Try.pinned (OpenSpec.ofChange confAllSpec)

/-- ITS FALSE NEIGHBOUR: 'it returns false'. Refute it at one input. -/
def confAllWrong : ChangeSpec := { name := "confAll", fn := fun _ => fun
  | [d1, d2, d3] => { results := [.lit (.bool false)], args := [d1, d2, d3] }
  | _ => none }
def ConfAllWrongFalsely : Prop := confAllRow.holds Try.pinned (OpenSpec.ofChange confAllWrong)

/-- 'clathrilaw2.ConfBack': WHATEVER THE INPUT: true; the input reads as it did. -/
def confBackSpec : ChangeSpec := { name := "confBack", fn := fun _ => fun
  | [d1, d2, d3] => { results := [.lit (.bool true)], args := [d1, d2, d3] }
  | _ => none }
def confBackRow : OpenClaim := { program := "ytlmbkfdpgmmacaa", sum := "a02e75feb4fd3f63fb4e8039cb8a44b562d15a1a466caf78926fbac82fc5956a", func := "clathri/clathrilaw2.ConfBack", spec := "confBack", unfollowed := true, recurses := true, apart := false }
def ConfBackSaid : Prop := confBackRow.holds Try.pinned (OpenSpec.ofChange confBackSpec)

/-- ITS FALSE NEIGHBOUR: 'it returns false'. Refute it at one input. -/
def confBackWrong : ChangeSpec := { name := "confBack", fn := fun _ => fun
  | [d1, d2, d3] => { results := [.lit (.bool false)], args := [d1, d2, d3] }
  | _ => none }
def ConfBackWrongFalsely : Prop := confBackRow.holds Try.pinned (OpenSpec.ofChange confBackWrong)

/-- 'clathrilaw2.ConfBelow': WHATEVER THE INPUT: true; the input reads as it did. -/
def confBelowSpec : ChangeSpec := { name := "confBelow", fn := fun _ => fun
  | [d] => { results := [.lit (.bool true)], args := [d] }
  | _ => none }
def confBelowRow : OpenClaim := { program := "ytlmbkfdpgmmacaa", sum := "a02e75feb4fd3f63fb4e8039cb8a44b562d15a1a466caf78926fbac82fc5956a", func := "clathri/clathrilaw2.ConfBelow", spec := "confBelow", unfollowed := true, recurses := true, apart := false }
def ConfBelowSaid : Prop := confBelowRow.holds Try.pinned (OpenSpec.ofChange confBelowSpec)

/-- ITS FALSE NEIGHBOUR: 'it returns false'. Refute it at one input. -/
def confBelowWrong : ChangeSpec := { name := "confBelow", fn := fun _ => fun
  | [d] => { results := [.lit (.bool false)], args := [d] }
  | _ => none }
def ConfBelowWrongFalsely : Prop := confBelowRow.holds Try.pinned (OpenSpec.ofChange confBelowWrong)

/-- 'clathrilaw2.ConfForms': WHATEVER THE INPUT: true; the input reads as it did. -/
def confFormsSpec : ChangeSpec := { name := "confForms", fn := fun _ => fun
  | [] => { results := [.lit (.bool true)], args := [] }
  | _ => none }
def confFormsRow : OpenClaim := { program := "ytlmbkfdpgmmacaa", sum := "a02e75feb4fd3f63fb4e8039cb8a44b562d15a1a466caf78926fbac82fc5956a", func := "clathri/clathrilaw2.ConfForms", spec := "confForms", unfollowed := true, recurses := true, apart := false }
def ConfFormsSaid : Prop := confFormsRow.holds Try.pinned (OpenSpec.ofChange confFormsSpec)

/-- ITS FALSE NEIGHBOUR: 'it returns false'. Refute it at one input. -/
def confFormsWrong : ChangeSpec := { name := "confForms", fn := fun _ => fun
  | [] => { results := [.lit (.bool false)], args := [] }
  | _ => none }
def ConfFormsWrongFalsely : Prop := confFormsRow.holds Try.pinned (OpenSpec.ofChange confFormsWrong)

/- THE SECOND FORM. 'bulk': how many values and letters a reading holds, each counted each time it is reached (what is shared counts as often as it is met; a slice's spare places count too). A statement '..UptoSaid' is the law's where the arguments, and the package variables that the reading takes, are together of bulk at most 1048576: NARROWER than '..Said'. Prove '..Said' where nothing that the law and all that it calls make is longer than what came in: it says more and counts as full. Else prove '..UptoSaid'. A law counts once. -/
mutual
def uptoBulk {H : Type} : DataW H → Nat
  | .lit (.string bytes) => bytes.length + 1
  | .lit _ => 1
  | .nil => 1
  | .ptr d => uptoBulk d + 1
  | .slice elems spare => uptoBulkAll elems + uptoBulkAll spare + 1
  | .agg parts => uptoBulkAll parts + 1
  | .iface _ d => uptoBulk d + 1
  | .map entries => uptoBulkEntries entries + 1
  | .held _ => 1
def uptoBulkAll {H : Type} : List (DataW H) → Nat
  | [] => 0
  | d :: r => uptoBulk d + uptoBulkAll r
def uptoBulkEntries {H : Type} : List (Lit × DataW H) → Nat
  | [] => 0
  | x :: r => uptoBulkEntry x + uptoBulkEntries r
def uptoBulkEntry {H : Type} : Lit × DataW H → Nat
  | (.string bytes, d) => bytes.length + uptoBulk d + 1
  | (_, d) => uptoBulk d + 1
 end
def uptoSmall : (H : Type) → List (DataW H) → Bool := fun _ ds => decide (uptoBulkAll ds ≤ 1048576)
def OpenSpec.upto (s : _root_.Go.ChangeSpec) : _root_.Go.OpenSpec := { _root_.Go.OpenSpec.ofChange s with cond := some uptoSmall }

/-- 'clathrilaw2.ConfAll', WHERE WHAT IT READS IS OF BULK AT MOST 1048576: true; the input reads as it did. -/
def confAllUptoRow : OpenClaim := { program := "ytlmbkfdpgmmacaa", sum := "a02e75feb4fd3f63fb4e8039cb8a44b562d15a1a466caf78926fbac82fc5956a", func := "clathri/clathrilaw2.ConfAll", spec := "confAll", unfollowed := true, recurses := true, apart := false, narrowed := true }
def ConfAllUptoSaid : Prop := confAllUptoRow.holds Try.pinned (OpenSpec.upto confAllSpec)

/-- 'clathrilaw2.ConfBack', WHERE WHAT IT READS IS OF BULK AT MOST 1048576: true; the input reads as it did. -/
def confBackUptoRow : OpenClaim := { program := "ytlmbkfdpgmmacaa", sum := "a02e75feb4fd3f63fb4e8039cb8a44b562d15a1a466caf78926fbac82fc5956a", func := "clathri/clathrilaw2.ConfBack", spec := "confBack", unfollowed := true, recurses := true, apart := false, narrowed := true }
def ConfBackUptoSaid : Prop := confBackUptoRow.holds Try.pinned (OpenSpec.upto confBackSpec)

/-- 'clathrilaw2.ConfBelow', WHERE WHAT IT READS IS OF BULK AT MOST 1048576: true; the input reads as it did. -/
def confBelowUptoRow : OpenClaim := { program := "ytlmbkfdpgmmacaa", sum := "a02e75feb4fd3f63fb4e8039cb8a44b562d15a1a466caf78926fbac82fc5956a", func := "clathri/clathrilaw2.ConfBelow", spec := "confBelow", unfollowed := true, recurses := true, apart := false, narrowed := true }
def ConfBelowUptoSaid : Prop := confBelowUptoRow.holds Try.pinned (OpenSpec.upto confBelowSpec)

/-- 'clathrilaw2.ConfForms', WHERE WHAT IT READS IS OF BULK AT MOST 1048576: true; the input reads as it did. -/
def confFormsUptoRow : OpenClaim := { program := "ytlmbkfdpgmmacaa", sum := "a02e75feb4fd3f63fb4e8039cb8a44b562d15a1a466caf78926fbac82fc5956a", func := "clathri/clathrilaw2.ConfForms", spec := "confForms", unfollowed := true, recurses := true, apart := false, narrowed := true }
def ConfFormsUptoSaid : Prop := confFormsUptoRow.holds Try.pinned (OpenSpec.upto confFormsSpec)

end Rows
end Go.Proofs.Ytlmbkfdpgmmacaa
