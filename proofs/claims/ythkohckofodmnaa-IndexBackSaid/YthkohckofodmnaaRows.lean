/-
  No cell of these rows narrows 'for every input' (looked for: loops, veiled, ifaces, maps, wideKeys, modest, calm, conditions, laid).
  DERIVED. THE GIVEN ROWS OF THIS SEAT. 4 by the template 'for every input the law returns true; each argument reads behind the call as it read before'; 0 by the template 'total and deterministic' (their statements: YthkohckofodmnaaTotals.lean).
  GIVEN WITH THE SEED: the statements are not yours to turn. If you find one false, say at which input.
  Laid BY PROGRAM, IN A SANDBOX (cutbox-rows.mjs): the forced cells as the released guide's own fill.sh prints them over the translation 826d9e94aa89112b… (all of the seat's roots in one cut). By AI agents, Wed Nov 11 2026. No macro, syntax, notation, axiom, sorry.
-/
import Derived.Test.YthkohckofodmnaaChecked
import GoSem.Claim
import GoSem.ClaimJoined
import GoSem.ClaimMapViews
import Derived.JoinedTies
import Derived.KernelRfl
namespace Go.Proofs.Ythkohckofodmnaa
/- THE CELL 'sum', in the pinned program and in every row, IS THE sha256 OF THE DUMP (.gsa) THAT YthkohckofodmnaaProg.lean LOADS. Nothing in Lean hashes anything: it is a label: what it is worth is what the hold of that sum in a sandbox is worth. -/
noncomputable def Try.pinned : Pinned := { name := "ythkohckofodmnaa", sum := "826d9e94aa89112ba42c67a2d5d054b4f012b3f692092345cdb2e59cde0ccbc0", checked := Try.checked }
namespace Rows
def none {H : Type} : Left H := { results := [], args := [] }

/-- 'clathrilaw13.IndexAll': WHATEVER THE INPUT: true; the input reads as it did. -/
def indexAllSpec : ChangeSpec := { name := "indexAll", fn := fun _ => fun
  | [d1, d2, d3, d4, d5] => { results := [.lit (.bool true)], args := [d1, d2, d3, d4, d5] }
  | _ => none }
def indexAllRow : OpenClaim := { program := "ythkohckofodmnaa", sum := "826d9e94aa89112ba42c67a2d5d054b4f012b3f692092345cdb2e59cde0ccbc0", func := "clathri/clathrilaw13.IndexAll", spec := "indexAll", apart := false }
def IndexAllSaid : Prop := indexAllRow.holds Try.pinned (OpenSpec.ofChange indexAllSpec)

/-- ITS FALSE NEIGHBOUR: 'it returns false'. Refute it at one input. -/
def indexAllWrong : ChangeSpec := { name := "indexAll", fn := fun _ => fun
  | [d1, d2, d3, d4, d5] => { results := [.lit (.bool false)], args := [d1, d2, d3, d4, d5] }
  | _ => none }
def IndexAllWrongFalsely : Prop := indexAllRow.holds Try.pinned (OpenSpec.ofChange indexAllWrong)

/-- 'clathrilaw13.IndexPieces': WHATEVER THE INPUT: true; the input reads as it did. -/
def indexPiecesSpec : ChangeSpec := { name := "indexPieces", fn := fun _ => fun
  | [d1, d2] => { results := [.lit (.bool true)], args := [d1, d2] }
  | _ => none }
def indexPiecesRow : OpenClaim := { program := "ythkohckofodmnaa", sum := "826d9e94aa89112ba42c67a2d5d054b4f012b3f692092345cdb2e59cde0ccbc0", func := "clathri/clathrilaw13.IndexPieces", spec := "indexPieces", apart := false }
def IndexPiecesSaid : Prop := indexPiecesRow.holds Try.pinned (OpenSpec.ofChange indexPiecesSpec)

/-- ITS FALSE NEIGHBOUR: 'it returns false'. Refute it at one input. -/
def indexPiecesWrong : ChangeSpec := { name := "indexPieces", fn := fun _ => fun
  | [d1, d2] => { results := [.lit (.bool false)], args := [d1, d2] }
  | _ => none }
def IndexPiecesWrongFalsely : Prop := indexPiecesRow.holds Try.pinned (OpenSpec.ofChange indexPiecesWrong)

/-- 'clathrilaw13.IndexBack': WHATEVER THE INPUT: true; the input reads as it did. -/
def indexBackSpec : ChangeSpec := { name := "indexBack", fn := fun _ => fun
  | [d] => { results := [.lit (.bool true)], args := [d] }
  | _ => none }
def indexBackRow : OpenClaim := { program := "ythkohckofodmnaa", sum := "826d9e94aa89112ba42c67a2d5d054b4f012b3f692092345cdb2e59cde0ccbc0", func := "clathri/clathrilaw13.IndexBack", spec := "indexBack", apart := false }
def IndexBackSaid : Prop := indexBackRow.holds Try.pinned (OpenSpec.ofChange indexBackSpec)

/-- ITS FALSE NEIGHBOUR: 'it returns false'. Refute it at one input. -/
def indexBackWrong : ChangeSpec := { name := "indexBack", fn := fun _ => fun
  | [d] => { results := [.lit (.bool false)], args := [d] }
  | _ => none }
def IndexBackWrongFalsely : Prop := indexBackRow.holds Try.pinned (OpenSpec.ofChange indexBackWrong)

/-- 'clathrilaw13.IndexForms': WHATEVER THE INPUT: true; the input reads as it did. -/
def indexFormsSpec : ChangeSpec := { name := "indexForms", fn := fun _ => fun
  | [] => { results := [.lit (.bool true)], args := [] }
  | _ => none }
def indexFormsRow : OpenClaim := { program := "ythkohckofodmnaa", sum := "826d9e94aa89112ba42c67a2d5d054b4f012b3f692092345cdb2e59cde0ccbc0", func := "clathri/clathrilaw13.IndexForms", spec := "indexForms", apart := false }
def IndexFormsSaid : Prop := indexFormsRow.holds Try.pinned (OpenSpec.ofChange indexFormsSpec)

/-- ITS FALSE NEIGHBOUR: 'it returns false'. Refute it at one input. -/
def indexFormsWrong : ChangeSpec := { name := "indexForms", fn := fun _ => fun
  | [] => { results := [.lit (.bool false)], args := [] }
  | _ => none }
def IndexFormsWrongFalsely : Prop := indexFormsRow.holds Try.pinned (OpenSpec.ofChange indexFormsWrong)

/- THE SECOND FORM. 'bulk': how many values and letters a reading holds, each counted each time it is reached (what is shared counts as often as it is met; a slice's spare places count too). A statement '..UptoSaid' is the law's where the arguments, and the package variables that the reading takes, are together of bulk at most 1048576: NARROWER than '..Said'. Prove '..Said' where nothing that the law and all that it calls make is longer than what came in: it says more and counts as full. Else prove '..UptoSaid'. A law counts once. -/
mutual
def uptoBulk {H : Type} : DataW H → Nat
  | .lit (.string bytes) => bytes.length + 1
  | .lit _ => 1
  | .nil => 1
  | .ptr d => uptoBulk d + 1
  | .slice elems spare => uptoBulkAll elems + uptoBulkAll spare + 1
  | .agg parts => uptoBulkAll parts + 1
  | .iface _ d => uptoBulk d + 1
  | .map entries => uptoBulkEntries entries + 1
  | .held _ => 1
def uptoBulkAll {H : Type} : List (DataW H) → Nat
  | [] => 0
  | d :: r => uptoBulk d + uptoBulkAll r
def uptoBulkEntries {H : Type} : List (Lit × DataW H) → Nat
  | [] => 0
  | x :: r => uptoBulkEntry x + uptoBulkEntries r
def uptoBulkEntry {H : Type} : Lit × DataW H → Nat
  | (.string bytes, d) => bytes.length + uptoBulk d + 1
  | (_, d) => uptoBulk d + 1
 end
def uptoSmall : (H : Type) → List (DataW H) → Bool := fun _ ds => decide (uptoBulkAll ds ≤ 1048576)
def OpenSpec.upto (s : _root_.Go.ChangeSpec) : _root_.Go.OpenSpec := { _root_.Go.OpenSpec.ofChange s with cond := some uptoSmall }

/-- 'clathrilaw13.IndexAll', WHERE WHAT IT READS IS OF BULK AT MOST 1048576: true; the input reads as it did. -/
def indexAllUptoRow : OpenClaim := { program := "ythkohckofodmnaa", sum := "826d9e94aa89112ba42c67a2d5d054b4f012b3f692092345cdb2e59cde0ccbc0", func := "clathri/clathrilaw13.IndexAll", spec := "indexAll", apart := false, narrowed := true }
def IndexAllUptoSaid : Prop := indexAllUptoRow.holds Try.pinned (OpenSpec.upto indexAllSpec)

/-- 'clathrilaw13.IndexPieces', WHERE WHAT IT READS IS OF BULK AT MOST 1048576: true; the input reads as it did. -/
def indexPiecesUptoRow : OpenClaim := { program := "ythkohckofodmnaa", sum := "826d9e94aa89112ba42c67a2d5d054b4f012b3f692092345cdb2e59cde0ccbc0", func := "clathri/clathrilaw13.IndexPieces", spec := "indexPieces", apart := false, narrowed := true }
def IndexPiecesUptoSaid : Prop := indexPiecesUptoRow.holds Try.pinned (OpenSpec.upto indexPiecesSpec)

/-- 'clathrilaw13.IndexBack', WHERE WHAT IT READS IS OF BULK AT MOST 1048576: true; the input reads as it did. -/
def indexBackUptoRow : OpenClaim := { program := "ythkohckofodmnaa", sum := "826d9e94aa89112ba42c67a2d5d054b4f012b3f692092345cdb2e59cde0ccbc0", func := "clathri/clathrilaw13.IndexBack", spec := "indexBack", apart := false, narrowed := true }
def IndexBackUptoSaid : Prop := indexBackUptoRow.holds Try.pinned (OpenSpec.upto indexBackSpec)

/-- 'clathrilaw13.IndexForms', WHERE WHAT IT READS IS OF BULK AT MOST 1048576: true; the input reads as it did. -/
def indexFormsUptoRow : OpenClaim := { program := "ythkohckofodmnaa", sum := "826d9e94aa89112ba42c67a2d5d054b4f012b3f692092345cdb2e59cde0ccbc0", func := "clathri/clathrilaw13.IndexForms", spec := "indexForms", apart := false, narrowed := true }
def IndexFormsUptoSaid : Prop := indexFormsUptoRow.holds Try.pinned (OpenSpec.upto indexFormsSpec)

end Rows
end Go.Proofs.Ythkohckofodmnaa
