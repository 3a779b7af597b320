/-
  No cell of these rows narrows 'for every input' (looked for: loops, veiled, ifaces, maps, wideKeys, modest, calm, conditions, laid).
  DERIVED. THE GIVEN ROWS OF THIS SEAT. 6 by the template 'for every input the law returns true; each argument reads behind the call as it read before'; 0 by the template 'total and deterministic' (their statements: YtflldlhfeiamnaaTotals.lean).
  GIVEN WITH THE SEED: the statements are not yours to turn. If you find one false, say at which input.
  Laid BY PROGRAM, IN A SANDBOX (cutbox-rows.mjs): the forced cells as the released guide's own fill.sh prints them over the translation 15133ef578c92e25… (all of the seat's roots in one cut). By AI agents, Wed Nov 11 2026. No macro, syntax, notation, axiom, sorry.
-/
import Derived.Test.YtflldlhfeiamnaaChecked
import GoSem.Claim
import GoSem.ClaimJoined
import GoSem.ClaimMapViews
import Derived.JoinedTies
import Derived.KernelRfl
namespace Go.Proofs.Ytflldlhfeiamnaa
/- THE CELL 'sum', in the pinned program and in every row, IS THE sha256 OF THE DUMP (.gsa) THAT YtflldlhfeiamnaaProg.lean LOADS. Nothing in Lean hashes anything: it is a label: what it is worth is what the hold of that sum in a sandbox is worth. -/
noncomputable def Try.pinned : Pinned := { name := "ytflldlhfeiamnaa", sum := "15133ef578c92e25367e7516194de888eb2771c2ebea52f6fdebec6485a896b2", checked := Try.checked }
namespace Rows
def none {H : Type} : Left H := { results := [], args := [] }

/-- 'clathrilaw7.RecAll': WHATEVER THE INPUT: true; the input reads as it did. -/
def recAllSpec : ChangeSpec := { name := "recAll", fn := fun _ => fun
  | [d1, d2, d3, d4, d5, d6] => { results := [.lit (.bool true)], args := [d1, d2, d3, d4, d5, d6] }
  | _ => none }
def recAllRow : OpenClaim := { program := "ytflldlhfeiamnaa", sum := "15133ef578c92e25367e7516194de888eb2771c2ebea52f6fdebec6485a896b2", func := "clathri/clathrilaw7.RecAll", spec := "recAll", unfollowed := true, recurses := true, apart := false }
def RecAllSaid : Prop := recAllRow.holds Try.pinned (OpenSpec.ofChange recAllSpec)

/-- ITS FALSE NEIGHBOUR: 'it returns false'. Refute it at one input. -/
def recAllWrong : ChangeSpec := { name := "recAll", fn := fun _ => fun
  | [d1, d2, d3, d4, d5, d6] => { results := [.lit (.bool false)], args := [d1, d2, d3, d4, d5, d6] }
  | _ => none }
def RecAllWrongFalsely : Prop := recAllRow.holds Try.pinned (OpenSpec.ofChange recAllWrong)

/-- 'clathrilaw7.RecBack': WHATEVER THE INPUT: true; the input reads as it did. -/
def recBackSpec : ChangeSpec := { name := "recBack", fn := fun _ => fun
  | [d1, d2, d3, d4, d5, d6, d7, d8, d9, d10] => { results := [.lit (.bool true)], args := [d1, d2, d3, d4, d5, d6, d7, d8, d9, d10] }
  | _ => none }
def recBackRow : OpenClaim := { program := "ytflldlhfeiamnaa", sum := "15133ef578c92e25367e7516194de888eb2771c2ebea52f6fdebec6485a896b2", func := "clathri/clathrilaw7.RecBack", spec := "recBack", unfollowed := true, recurses := true, apart := false }
def RecBackSaid : Prop := recBackRow.holds Try.pinned (OpenSpec.ofChange recBackSpec)

/-- ITS FALSE NEIGHBOUR: 'it returns false'. Refute it at one input. -/
def recBackWrong : ChangeSpec := { name := "recBack", fn := fun _ => fun
  | [d1, d2, d3, d4, d5, d6, d7, d8, d9, d10] => { results := [.lit (.bool false)], args := [d1, d2, d3, d4, d5, d6, d7, d8, d9, d10] }
  | _ => none }
def RecBackWrongFalsely : Prop := recBackRow.holds Try.pinned (OpenSpec.ofChange recBackWrong)

/-- 'clathrilaw7.RecOld': WHATEVER THE INPUT: true; the input reads as it did. -/
def recOldSpec : ChangeSpec := { name := "recOld", fn := fun _ => fun
  | [d1, d2, d3, d4, d5, d6] => { results := [.lit (.bool true)], args := [d1, d2, d3, d4, d5, d6] }
  | _ => none }
def recOldRow : OpenClaim := { program := "ytflldlhfeiamnaa", sum := "15133ef578c92e25367e7516194de888eb2771c2ebea52f6fdebec6485a896b2", func := "clathri/clathrilaw7.RecOld", spec := "recOld", unfollowed := true, recurses := true, apart := false }
def RecOldSaid : Prop := recOldRow.holds Try.pinned (OpenSpec.ofChange recOldSpec)

/-- ITS FALSE NEIGHBOUR: 'it returns false'. Refute it at one input. -/
def recOldWrong : ChangeSpec := { name := "recOld", fn := fun _ => fun
  | [d1, d2, d3, d4, d5, d6] => { results := [.lit (.bool false)], args := [d1, d2, d3, d4, d5, d6] }
  | _ => none }
def RecOldWrongFalsely : Prop := recOldRow.holds Try.pinned (OpenSpec.ofChange recOldWrong)

/-- 'clathrilaw7.RecAnchors': WHATEVER THE INPUT: true; the input reads as it did. -/
def recAnchorsSpec : ChangeSpec := { name := "recAnchors", fn := fun _ => fun
  | [d1, d2, d3, d4, d5] => { results := [.lit (.bool true)], args := [d1, d2, d3, d4, d5] }
  | _ => none }
def recAnchorsRow : OpenClaim := { program := "ytflldlhfeiamnaa", sum := "15133ef578c92e25367e7516194de888eb2771c2ebea52f6fdebec6485a896b2", func := "clathri/clathrilaw7.RecAnchors", spec := "recAnchors", unfollowed := true, recurses := true, apart := false }
def RecAnchorsSaid : Prop := recAnchorsRow.holds Try.pinned (OpenSpec.ofChange recAnchorsSpec)

/-- ITS FALSE NEIGHBOUR: 'it returns false'. Refute it at one input. -/
def recAnchorsWrong : ChangeSpec := { name := "recAnchors", fn := fun _ => fun
  | [d1, d2, d3, d4, d5] => { results := [.lit (.bool false)], args := [d1, d2, d3, d4, d5] }
  | _ => none }
def RecAnchorsWrongFalsely : Prop := recAnchorsRow.holds Try.pinned (OpenSpec.ofChange recAnchorsWrong)

/-- 'clathrilaw7.RecForms': WHATEVER THE INPUT: true; the input reads as it did. -/
def recFormsSpec : ChangeSpec := { name := "recForms", fn := fun _ => fun
  | [] => { results := [.lit (.bool true)], args := [] }
  | _ => none }
def recFormsRow : OpenClaim := { program := "ytflldlhfeiamnaa", sum := "15133ef578c92e25367e7516194de888eb2771c2ebea52f6fdebec6485a896b2", func := "clathri/clathrilaw7.RecForms", spec := "recForms", unfollowed := true, recurses := true, apart := false }
def RecFormsSaid : Prop := recFormsRow.holds Try.pinned (OpenSpec.ofChange recFormsSpec)

/-- ITS FALSE NEIGHBOUR: 'it returns false'. Refute it at one input. -/
def recFormsWrong : ChangeSpec := { name := "recForms", fn := fun _ => fun
  | [] => { results := [.lit (.bool false)], args := [] }
  | _ => none }
def RecFormsWrongFalsely : Prop := recFormsRow.holds Try.pinned (OpenSpec.ofChange recFormsWrong)

/-- 'clathrilaw7.RecRow': WHATEVER THE INPUT: true; the input reads as it did. -/
def recRowSpec : ChangeSpec := { name := "recRow", fn := fun _ => fun
  | [d1, d2, d3, d4, d5] => { results := [.lit (.bool true)], args := [d1, d2, d3, d4, d5] }
  | _ => none }
def recRowRow : OpenClaim := { program := "ytflldlhfeiamnaa", sum := "15133ef578c92e25367e7516194de888eb2771c2ebea52f6fdebec6485a896b2", func := "clathri/clathrilaw7.RecRow", spec := "recRow", unfollowed := true, recurses := true, apart := false }
def RecRowSaid : Prop := recRowRow.holds Try.pinned (OpenSpec.ofChange recRowSpec)

/-- ITS FALSE NEIGHBOUR: 'it returns false'. Refute it at one input. -/
def recRowWrong : ChangeSpec := { name := "recRow", fn := fun _ => fun
  | [d1, d2, d3, d4, d5] => { results := [.lit (.bool false)], args := [d1, d2, d3, d4, d5] }
  | _ => none }
def RecRowWrongFalsely : Prop := recRowRow.holds Try.pinned (OpenSpec.ofChange recRowWrong)

/- THE SECOND FORM. 'bulk': how many values and letters a reading holds, each counted each time it is reached (what is shared counts as often as it is met; a slice's spare places count too). A statement '..UptoSaid' is the law's where the arguments, and the package variables that the reading takes, are together of bulk at most 1048576: NARROWER than '..Said'. Prove '..Said' where nothing that the law and all that it calls make is longer than what came in: it says more and counts as full. Else prove '..UptoSaid'. A law counts once. -/
mutual
def uptoBulk {H : Type} : DataW H → Nat
  | .lit (.string bytes) => bytes.length + 1
  | .lit _ => 1
  | .nil => 1
  | .ptr d => uptoBulk d + 1
  | .slice elems spare => uptoBulkAll elems + uptoBulkAll spare + 1
  | .agg parts => uptoBulkAll parts + 1
  | .iface _ d => uptoBulk d + 1
  | .map entries => uptoBulkEntries entries + 1
  | .held _ => 1
def uptoBulkAll {H : Type} : List (DataW H) → Nat
  | [] => 0
  | d :: r => uptoBulk d + uptoBulkAll r
def uptoBulkEntries {H : Type} : List (Lit × DataW H) → Nat
  | [] => 0
  | x :: r => uptoBulkEntry x + uptoBulkEntries r
def uptoBulkEntry {H : Type} : Lit × DataW H → Nat
  | (.string bytes, d) => bytes.length + uptoBulk d + 1
  | (_, d) => uptoBulk d + 1
 end
def uptoSmall : (H : Type) → List (DataW H) → Bool := fun _ ds => decide (uptoBulkAll ds ≤ 1048576)
def OpenSpec.upto (s : _root_.Go.ChangeSpec) : _root_.Go.OpenSpec := { _root_.Go.OpenSpec.ofChange s with cond := some uptoSmall }

/-- 'clathrilaw7.RecAll', WHERE WHAT IT READS IS OF BULK AT MOST 1048576: true; the input reads as it did. -/
def recAllUptoRow : OpenClaim := { program := "ytflldlhfeiamnaa", sum := "15133ef578c92e25367e7516194de888eb2771c2ebea52f6fdebec6485a896b2", func := "clathri/clathrilaw7.RecAll", spec := "recAll", unfollowed := true, recurses := true, apart := false, narrowed := true }
def RecAllUptoSaid : Prop := recAllUptoRow.holds Try.pinned (OpenSpec.upto recAllSpec)

/-- 'clathrilaw7.RecBack', WHERE WHAT IT READS IS OF BULK AT MOST 1048576: true; the input reads as it did. -/
def recBackUptoRow : OpenClaim := { program := "ytflldlhfeiamnaa", sum := "15133ef578c92e25367e7516194de888eb2771c2ebea52f6fdebec6485a896b2", func := "clathri/clathrilaw7.RecBack", spec := "recBack", unfollowed := true, recurses := true, apart := false, narrowed := true }
def RecBackUptoSaid : Prop := recBackUptoRow.holds Try.pinned (OpenSpec.upto recBackSpec)

/-- 'clathrilaw7.RecOld', WHERE WHAT IT READS IS OF BULK AT MOST 1048576: true; the input reads as it did. -/
def recOldUptoRow : OpenClaim := { program := "ytflldlhfeiamnaa", sum := "15133ef578c92e25367e7516194de888eb2771c2ebea52f6fdebec6485a896b2", func := "clathri/clathrilaw7.RecOld", spec := "recOld", unfollowed := true, recurses := true, apart := false, narrowed := true }
def RecOldUptoSaid : Prop := recOldUptoRow.holds Try.pinned (OpenSpec.upto recOldSpec)

/-- 'clathrilaw7.RecAnchors', WHERE WHAT IT READS IS OF BULK AT MOST 1048576: true; the input reads as it did. -/
def recAnchorsUptoRow : OpenClaim := { program := "ytflldlhfeiamnaa", sum := "15133ef578c92e25367e7516194de888eb2771c2ebea52f6fdebec6485a896b2", func := "clathri/clathrilaw7.RecAnchors", spec := "recAnchors", unfollowed := true, recurses := true, apart := false, narrowed := true }
def RecAnchorsUptoSaid : Prop := recAnchorsUptoRow.holds Try.pinned (OpenSpec.upto recAnchorsSpec)

/-- 'clathrilaw7.RecForms', WHERE WHAT IT READS IS OF BULK AT MOST 1048576: true; the input reads as it did. -/
def recFormsUptoRow : OpenClaim := { program := "ytflldlhfeiamnaa", sum := "15133ef578c92e25367e7516194de888eb2771c2ebea52f6fdebec6485a896b2", func := "clathri/clathrilaw7.RecForms", spec := "recForms", unfollowed := true, recurses := true, apart := false, narrowed := true }
def RecFormsUptoSaid : Prop := recFormsUptoRow.holds Try.pinned (OpenSpec.upto recFormsSpec)

/-- 'clathrilaw7.RecRow', WHERE WHAT IT READS IS OF BULK AT MOST 1048576: true; the input reads as it did. -/
def recRowUptoRow : OpenClaim := { program := "ytflldlhfeiamnaa", sum := "15133ef578c92e25367e7516194de888eb2771c2ebea52f6fdebec6485a896b2", func := "clathri/clathrilaw7.RecRow", spec := "recRow", unfollowed := true, recurses := true, apart := false, narrowed := true }
def RecRowUptoSaid : Prop := recRowUptoRow.holds Try.pinned (OpenSpec.upto recRowSpec)

end Rows
end Go.Proofs.Ytflldlhfeiamnaa
