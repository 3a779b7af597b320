/-
  No cell of these rows narrows 'for every input' (looked for: loops, veiled, ifaces, maps, wideKeys, modest, calm, conditions, laid).
  DERIVED. THE GIVEN ROWS OF THIS SEAT. 4 by the template 'for every input the law returns true; each argument reads behind the call as it read before'; 0 by the template 'total and deterministic' (their statements: YtbcnjilhibkcnaaTotals.lean).
  GIVEN WITH THE SEED: the statements are not yours to turn. If you find one false, say at which input.
  Laid BY PROGRAM, IN A SANDBOX (cutbox-rows.mjs): the forced cells as the released guide's own fill.sh prints them over the translation fa847c296bb8241d… (all of the seat's roots in one cut). By AI agents, Wed Nov 11 2026. No macro, syntax, notation, axiom, sorry.
-/
import Derived.Test.YtbcnjilhibkcnaaChecked
import GoSem.Claim
import GoSem.ClaimJoined
import GoSem.ClaimMapViews
import Derived.JoinedTies
import Derived.KernelRfl
namespace Go.Proofs.Ytbcnjilhibkcnaa
/- THE CELL 'sum', in the pinned program and in every row, IS THE sha256 OF THE DUMP (.gsa) THAT YtbcnjilhibkcnaaProg.lean LOADS. Nothing in Lean hashes anything: it is a label: what it is worth is what the hold of that sum in a sandbox is worth. -/
noncomputable def Try.pinned : Pinned := { name := "ytbcnjilhibkcnaa", sum := "fa847c296bb8241d686bdacb36bf0a509d33acf6553fa22b0979bb5adc094048", checked := Try.checked }
namespace Rows
def none {H : Type} : Left H := { results := [], args := [] }

/-- 'clathrilaw8.CacheAll': WHATEVER THE INPUT: true; the input reads as it did. -/
def cacheAllSpec : ChangeSpec := { name := "cacheAll", fn := fun _ => fun
  | [d1, d2] => { results := [.lit (.bool true)], args := [d1, d2] }
  | _ => none }
def cacheAllRow : OpenClaim := { program := "ytbcnjilhibkcnaa", sum := "fa847c296bb8241d686bdacb36bf0a509d33acf6553fa22b0979bb5adc094048", func := "clathri/clathrilaw8.CacheAll", spec := "cacheAll", unfollowed := true, recurses := true, apart := false }
def CacheAllSaid : Prop := cacheAllRow.holds Try.pinned (OpenSpec.ofChange cacheAllSpec)

/-- ITS FALSE NEIGHBOUR: 'it returns false'. Refute it at one input. -/
def cacheAllWrong : ChangeSpec := { name := "cacheAll", fn := fun _ => fun
  | [d1, d2] => { results := [.lit (.bool false)], args := [d1, d2] }
  | _ => none }
def CacheAllWrongFalsely : Prop := cacheAllRow.holds Try.pinned (OpenSpec.ofChange cacheAllWrong)

/-- 'clathrilaw8.CachePeeks': WHATEVER THE INPUT: true; the input reads as it did. -/
def cachePeeksSpec : ChangeSpec := { name := "cachePeeks", fn := fun _ => fun
  | [d1, d2, d3] => { results := [.lit (.bool true)], args := [d1, d2, d3] }
  | _ => none }
def cachePeeksRow : OpenClaim := { program := "ytbcnjilhibkcnaa", sum := "fa847c296bb8241d686bdacb36bf0a509d33acf6553fa22b0979bb5adc094048", func := "clathri/clathrilaw8.CachePeeks", spec := "cachePeeks", unfollowed := true, recurses := true, apart := false }
def CachePeeksSaid : Prop := cachePeeksRow.holds Try.pinned (OpenSpec.ofChange cachePeeksSpec)

/-- ITS FALSE NEIGHBOUR: 'it returns false'. Refute it at one input. -/
def cachePeeksWrong : ChangeSpec := { name := "cachePeeks", fn := fun _ => fun
  | [d1, d2, d3] => { results := [.lit (.bool false)], args := [d1, d2, d3] }
  | _ => none }
def CachePeeksWrongFalsely : Prop := cachePeeksRow.holds Try.pinned (OpenSpec.ofChange cachePeeksWrong)

/-- 'clathrilaw8.CacheLoses': WHATEVER THE INPUT: true; the input reads as it did. -/
def cacheLosesSpec : ChangeSpec := { name := "cacheLoses", fn := fun _ => fun
  | [d1, d2] => { results := [.lit (.bool true)], args := [d1, d2] }
  | _ => none }
def cacheLosesRow : OpenClaim := { program := "ytbcnjilhibkcnaa", sum := "fa847c296bb8241d686bdacb36bf0a509d33acf6553fa22b0979bb5adc094048", func := "clathri/clathrilaw8.CacheLoses", spec := "cacheLoses", unfollowed := true, recurses := true, apart := false }
def CacheLosesSaid : Prop := cacheLosesRow.holds Try.pinned (OpenSpec.ofChange cacheLosesSpec)

/-- ITS FALSE NEIGHBOUR: 'it returns false'. Refute it at one input. -/
def cacheLosesWrong : ChangeSpec := { name := "cacheLoses", fn := fun _ => fun
  | [d1, d2] => { results := [.lit (.bool false)], args := [d1, d2] }
  | _ => none }
def CacheLosesWrongFalsely : Prop := cacheLosesRow.holds Try.pinned (OpenSpec.ofChange cacheLosesWrong)

/-- 'clathrilaw8.CacheFirst': WHATEVER THE INPUT: true; the input reads as it did. -/
def cacheFirstSpec : ChangeSpec := { name := "cacheFirst", fn := fun _ => fun
  | [d1, d2, d3] => { results := [.lit (.bool true)], args := [d1, d2, d3] }
  | _ => none }
def cacheFirstRow : OpenClaim := { program := "ytbcnjilhibkcnaa", sum := "fa847c296bb8241d686bdacb36bf0a509d33acf6553fa22b0979bb5adc094048", func := "clathri/clathrilaw8.CacheFirst", spec := "cacheFirst", unfollowed := true, recurses := true, apart := false }
def CacheFirstSaid : Prop := cacheFirstRow.holds Try.pinned (OpenSpec.ofChange cacheFirstSpec)

/-- ITS FALSE NEIGHBOUR: 'it returns false'. Refute it at one input. -/
def cacheFirstWrong : ChangeSpec := { name := "cacheFirst", fn := fun _ => fun
  | [d1, d2, d3] => { results := [.lit (.bool false)], args := [d1, d2, d3] }
  | _ => none }
def CacheFirstWrongFalsely : Prop := cacheFirstRow.holds Try.pinned (OpenSpec.ofChange cacheFirstWrong)

/- THE SECOND FORM. 'bulk': how many values and letters a reading holds, each counted each time it is reached (what is shared counts as often as it is met; a slice's spare places count too). A statement '..UptoSaid' is the law's where the arguments, and the package variables that the reading takes, are together of bulk at most 1048576: NARROWER than '..Said'. Prove '..Said' where nothing that the law and all that it calls make is longer than what came in: it says more and counts as full. Else prove '..UptoSaid'. A law counts once. -/
mutual
def uptoBulk {H : Type} : DataW H → Nat
  | .lit (.string bytes) => bytes.length + 1
  | .lit _ => 1
  | .nil => 1
  | .ptr d => uptoBulk d + 1
  | .slice elems spare => uptoBulkAll elems + uptoBulkAll spare + 1
  | .agg parts => uptoBulkAll parts + 1
  | .iface _ d => uptoBulk d + 1
  | .map entries => uptoBulkEntries entries + 1
  | .held _ => 1
def uptoBulkAll {H : Type} : List (DataW H) → Nat
  | [] => 0
  | d :: r => uptoBulk d + uptoBulkAll r
def uptoBulkEntries {H : Type} : List (Lit × DataW H) → Nat
  | [] => 0
  | x :: r => uptoBulkEntry x + uptoBulkEntries r
def uptoBulkEntry {H : Type} : Lit × DataW H → Nat
  | (.string bytes, d) => bytes.length + uptoBulk d + 1
  | (_, d) => uptoBulk d + 1
 end
def uptoSmall : (H : Type) → List (DataW H) → Bool := fun _ ds => decide (uptoBulkAll ds ≤ 1048576)
def OpenSpec.upto (s : _root_.Go.ChangeSpec) : _root_.Go.OpenSpec := { _root_.Go.OpenSpec.ofChange s with cond := some uptoSmall }

/-- 'clathrilaw8.CacheAll', WHERE WHAT IT READS IS OF BULK AT MOST 1048576: true; the input reads as it did. -/
def cacheAllUptoRow : OpenClaim := { program := "ytbcnjilhibkcnaa", sum := "fa847c296bb8241d686bdacb36bf0a509d33acf6553fa22b0979bb5adc094048", func := "clathri/clathrilaw8.CacheAll", spec := "cacheAll", unfollowed := true, recurses := true, apart := false, narrowed := true }
def CacheAllUptoSaid : Prop := cacheAllUptoRow.holds Try.pinned (OpenSpec.upto cacheAllSpec)

/-- 'clathrilaw8.CachePeeks', WHERE WHAT IT READS IS OF BULK AT MOST 1048576: true; the input reads as it did. -/
def cachePeeksUptoRow : OpenClaim := { program := "ytbcnjilhibkcnaa", sum := "fa847c296bb8241d686bdacb36bf0a509d33acf6553fa22b0979bb5adc094048", func := "clathri/clathrilaw8.CachePeeks", spec := "cachePeeks", unfollowed := true, recurses := true, apart := false, narrowed := true }
def CachePeeksUptoSaid : Prop := cachePeeksUptoRow.holds Try.pinned (OpenSpec.upto cachePeeksSpec)

/-- 'clathrilaw8.CacheLoses', WHERE WHAT IT READS IS OF BULK AT MOST 1048576: true; the input reads as it did. -/
def cacheLosesUptoRow : OpenClaim := { program := "ytbcnjilhibkcnaa", sum := "fa847c296bb8241d686bdacb36bf0a509d33acf6553fa22b0979bb5adc094048", func := "clathri/clathrilaw8.CacheLoses", spec := "cacheLoses", unfollowed := true, recurses := true, apart := false, narrowed := true }
def CacheLosesUptoSaid : Prop := cacheLosesUptoRow.holds Try.pinned (OpenSpec.upto cacheLosesSpec)

/-- 'clathrilaw8.CacheFirst', WHERE WHAT IT READS IS OF BULK AT MOST 1048576: true; the input reads as it did. -/
def cacheFirstUptoRow : OpenClaim := { program := "ytbcnjilhibkcnaa", sum := "fa847c296bb8241d686bdacb36bf0a509d33acf6553fa22b0979bb5adc094048", func := "clathri/clathrilaw8.CacheFirst", spec := "cacheFirst", unfollowed := true, recurses := true, apart := false, narrowed := true }
def CacheFirstUptoSaid : Prop := cacheFirstUptoRow.holds Try.pinned (OpenSpec.upto cacheFirstSpec)

end Rows
end Go.Proofs.Ytbcnjilhibkcnaa
