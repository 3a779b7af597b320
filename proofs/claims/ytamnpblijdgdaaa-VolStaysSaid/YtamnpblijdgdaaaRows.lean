/-
  No cell of these rows narrows 'for every input' (looked for: loops, veiled, ifaces, maps, wideKeys, modest, calm, conditions, laid).
  DERIVED. THE GIVEN ROWS OF THIS SEAT. 7 by the template 'for every input the law returns true; each argument reads behind the call as it read before'; 0 by the template 'total and deterministic' (their statements: YtamnpblijdgdaaaTotals.lean).
  GIVEN WITH THE SEED: the statements are not yours to turn. If you find one false, say at which input.
  Laid BY PROGRAM, IN A SANDBOX (cutbox-rows.mjs): the forced cells as the released guide's own fill.sh prints them over the translation 93a4cd9d50f6deb0… (all of the seat's roots in one cut). By AI agents, Wed Nov 11 2026. No macro, syntax, notation, axiom, sorry.
-/
import Derived.Test.YtamnpblijdgdaaaChecked
import GoSem.Claim
import GoSem.ClaimJoined
import GoSem.ClaimMapViews
import Derived.JoinedTies
import Derived.KernelRfl
namespace Go.Proofs.Ytamnpblijdgdaaa
/- THE CELL 'sum', in the pinned program and in every row, IS THE sha256 OF THE DUMP (.gsa) THAT YtamnpblijdgdaaaProg.lean LOADS. Nothing in Lean hashes anything: it is a label: what it is worth is what the hold of that sum in a sandbox is worth. -/
noncomputable def Try.pinned : Pinned := { name := "ytamnpblijdgdaaa", sum := "93a4cd9d50f6deb07a17a1efa4b772269c4dcf13d9f3df66cafedc12074539bc", checked := Try.checked }
namespace Rows
def none {H : Type} : Left H := { results := [], args := [] }

/-- 'clathrilaw9.VolCrashes': WHATEVER THE INPUT: true; the input reads as it did. -/
def volCrashesSpec : ChangeSpec := { name := "volCrashes", fn := fun _ => fun
  | [d1, d2, d3, d4, d5, d6, d7] => { results := [.lit (.bool true)], args := [d1, d2, d3, d4, d5, d6, d7] }
  | _ => none }
def volCrashesRow : OpenClaim := { program := "ytamnpblijdgdaaa", sum := "93a4cd9d50f6deb07a17a1efa4b772269c4dcf13d9f3df66cafedc12074539bc", func := "clathri/clathrilaw9.VolCrashes", spec := "volCrashes", unfollowed := true, recurses := true, apart := false }
def VolCrashesSaid : Prop := volCrashesRow.holds Try.pinned (OpenSpec.ofChange volCrashesSpec)

/-- ITS FALSE NEIGHBOUR: 'it returns false'. Refute it at one input. -/
def volCrashesWrong : ChangeSpec := { name := "volCrashes", fn := fun _ => fun
  | [d1, d2, d3, d4, d5, d6, d7] => { results := [.lit (.bool false)], args := [d1, d2, d3, d4, d5, d6, d7] }
  | _ => none }
def VolCrashesWrongFalsely : Prop := volCrashesRow.holds Try.pinned (OpenSpec.ofChange volCrashesWrong)

/-- 'clathrilaw9.VolStays': WHATEVER THE INPUT: true; the input reads as it did. -/
def volStaysSpec : ChangeSpec := { name := "volStays", fn := fun _ => fun
  | [d1, d2] => { results := [.lit (.bool true)], args := [d1, d2] }
  | _ => none }
def volStaysRow : OpenClaim := { program := "ytamnpblijdgdaaa", sum := "93a4cd9d50f6deb07a17a1efa4b772269c4dcf13d9f3df66cafedc12074539bc", func := "clathri/clathrilaw9.VolStays", spec := "volStays", unfollowed := true, recurses := true, apart := false }
def VolStaysSaid : Prop := volStaysRow.holds Try.pinned (OpenSpec.ofChange volStaysSpec)

/-- ITS FALSE NEIGHBOUR: 'it returns false'. Refute it at one input. -/
def volStaysWrong : ChangeSpec := { name := "volStays", fn := fun _ => fun
  | [d1, d2] => { results := [.lit (.bool false)], args := [d1, d2] }
  | _ => none }
def VolStaysWrongFalsely : Prop := volStaysRow.holds Try.pinned (OpenSpec.ofChange volStaysWrong)

/-- 'clathrilaw9.VolNone': WHATEVER THE INPUT: true; the input reads as it did. -/
def volNoneSpec : ChangeSpec := { name := "volNone", fn := fun _ => fun
  | [d1, d2] => { results := [.lit (.bool true)], args := [d1, d2] }
  | _ => none }
def volNoneRow : OpenClaim := { program := "ytamnpblijdgdaaa", sum := "93a4cd9d50f6deb07a17a1efa4b772269c4dcf13d9f3df66cafedc12074539bc", func := "clathri/clathrilaw9.VolNone", spec := "volNone", unfollowed := true, recurses := true, apart := false }
def VolNoneSaid : Prop := volNoneRow.holds Try.pinned (OpenSpec.ofChange volNoneSpec)

/-- ITS FALSE NEIGHBOUR: 'it returns false'. Refute it at one input. -/
def volNoneWrong : ChangeSpec := { name := "volNone", fn := fun _ => fun
  | [d1, d2] => { results := [.lit (.bool false)], args := [d1, d2] }
  | _ => none }
def VolNoneWrongFalsely : Prop := volNoneRow.holds Try.pinned (OpenSpec.ofChange volNoneWrong)

/-- 'clathrilaw9.VolSure': WHATEVER THE INPUT: true; the input reads as it did. -/
def volSureSpec : ChangeSpec := { name := "volSure", fn := fun _ => fun
  | [d1, d2, d3, d4] => { results := [.lit (.bool true)], args := [d1, d2, d3, d4] }
  | _ => none }
def volSureRow : OpenClaim := { program := "ytamnpblijdgdaaa", sum := "93a4cd9d50f6deb07a17a1efa4b772269c4dcf13d9f3df66cafedc12074539bc", func := "clathri/clathrilaw9.VolSure", spec := "volSure", unfollowed := true, recurses := true, apart := false }
def VolSureSaid : Prop := volSureRow.holds Try.pinned (OpenSpec.ofChange volSureSpec)

/-- ITS FALSE NEIGHBOUR: 'it returns false'. Refute it at one input. -/
def volSureWrong : ChangeSpec := { name := "volSure", fn := fun _ => fun
  | [d1, d2, d3, d4] => { results := [.lit (.bool false)], args := [d1, d2, d3, d4] }
  | _ => none }
def VolSureWrongFalsely : Prop := volSureRow.holds Try.pinned (OpenSpec.ofChange volSureWrong)

/-- 'clathrilaw9.VolRoom': WHATEVER THE INPUT: true; the input reads as it did. -/
def volRoomSpec : ChangeSpec := { name := "volRoom", fn := fun _ => fun
  | [d1, d2] => { results := [.lit (.bool true)], args := [d1, d2] }
  | _ => none }
def volRoomRow : OpenClaim := { program := "ytamnpblijdgdaaa", sum := "93a4cd9d50f6deb07a17a1efa4b772269c4dcf13d9f3df66cafedc12074539bc", func := "clathri/clathrilaw9.VolRoom", spec := "volRoom", unfollowed := true, recurses := true, apart := false }
def VolRoomSaid : Prop := volRoomRow.holds Try.pinned (OpenSpec.ofChange volRoomSpec)

/-- ITS FALSE NEIGHBOUR: 'it returns false'. Refute it at one input. -/
def volRoomWrong : ChangeSpec := { name := "volRoom", fn := fun _ => fun
  | [d1, d2] => { results := [.lit (.bool false)], args := [d1, d2] }
  | _ => none }
def VolRoomWrongFalsely : Prop := volRoomRow.holds Try.pinned (OpenSpec.ofChange volRoomWrong)

/-- 'clathrilaw9.VolWrong': WHATEVER THE INPUT: true; the input reads as it did. -/
def volWrongSpec : ChangeSpec := { name := "volWrong", fn := fun _ => fun
  | [d] => { results := [.lit (.bool true)], args := [d] }
  | _ => none }
def volWrongRow : OpenClaim := { program := "ytamnpblijdgdaaa", sum := "93a4cd9d50f6deb07a17a1efa4b772269c4dcf13d9f3df66cafedc12074539bc", func := "clathri/clathrilaw9.VolWrong", spec := "volWrong", unfollowed := true, recurses := true, apart := false }
def VolWrongSaid : Prop := volWrongRow.holds Try.pinned (OpenSpec.ofChange volWrongSpec)

/-- ITS FALSE NEIGHBOUR: 'it returns false'. Refute it at one input. -/
def volWrongWrong : ChangeSpec := { name := "volWrong", fn := fun _ => fun
  | [d] => { results := [.lit (.bool false)], args := [d] }
  | _ => none }
def VolWrongWrongFalsely : Prop := volWrongRow.holds Try.pinned (OpenSpec.ofChange volWrongWrong)

/-- 'clathrilaw9.VolEpochs': WHATEVER THE INPUT: true; the input reads as it did. -/
def volEpochsSpec : ChangeSpec := { name := "volEpochs", fn := fun _ => fun
  | [d1, d2, d3, d4] => { results := [.lit (.bool true)], args := [d1, d2, d3, d4] }
  | _ => none }
def volEpochsRow : OpenClaim := { program := "ytamnpblijdgdaaa", sum := "93a4cd9d50f6deb07a17a1efa4b772269c4dcf13d9f3df66cafedc12074539bc", func := "clathri/clathrilaw9.VolEpochs", spec := "volEpochs", unfollowed := true, recurses := true, apart := false }
def VolEpochsSaid : Prop := volEpochsRow.holds Try.pinned (OpenSpec.ofChange volEpochsSpec)

/-- ITS FALSE NEIGHBOUR: 'it returns false'. Refute it at one input. -/
def volEpochsWrong : ChangeSpec := { name := "volEpochs", fn := fun _ => fun
  | [d1, d2, d3, d4] => { results := [.lit (.bool false)], args := [d1, d2, d3, d4] }
  | _ => none }
def VolEpochsWrongFalsely : Prop := volEpochsRow.holds Try.pinned (OpenSpec.ofChange volEpochsWrong)

/- THE SECOND FORM. 'bulk': how many values and letters a reading holds, each counted each time it is reached (what is shared counts as often as it is met; a slice's spare places count too). A statement '..UptoSaid' is the law's where the arguments, and the package variables that the reading takes, are together of bulk at most 1048576: NARROWER than '..Said'. Prove '..Said' where nothing that the law and all that it calls make is longer than what came in: it says more and counts as full. Else prove '..UptoSaid'. A law counts once. -/
mutual
def uptoBulk {H : Type} : DataW H → Nat
  | .lit (.string bytes) => bytes.length + 1
  | .lit _ => 1
  | .nil => 1
  | .ptr d => uptoBulk d + 1
  | .slice elems spare => uptoBulkAll elems + uptoBulkAll spare + 1
  | .agg parts => uptoBulkAll parts + 1
  | .iface _ d => uptoBulk d + 1
  | .map entries => uptoBulkEntries entries + 1
  | .held _ => 1
def uptoBulkAll {H : Type} : List (DataW H) → Nat
  | [] => 0
  | d :: r => uptoBulk d + uptoBulkAll r
def uptoBulkEntries {H : Type} : List (Lit × DataW H) → Nat
  | [] => 0
  | x :: r => uptoBulkEntry x + uptoBulkEntries r
def uptoBulkEntry {H : Type} : Lit × DataW H → Nat
  | (.string bytes, d) => bytes.length + uptoBulk d + 1
  | (_, d) => uptoBulk d + 1
 end
def uptoSmall : (H : Type) → List (DataW H) → Bool := fun _ ds => decide (uptoBulkAll ds ≤ 1048576)
def OpenSpec.upto (s : _root_.Go.ChangeSpec) : _root_.Go.OpenSpec := { _root_.Go.OpenSpec.ofChange s with cond := some uptoSmall }

/-- 'clathrilaw9.VolCrashes', WHERE WHAT IT READS IS OF BULK AT MOST 1048576: true; the input reads as it did. -/
def volCrashesUptoRow : OpenClaim := { program := "ytamnpblijdgdaaa", sum := "93a4cd9d50f6deb07a17a1efa4b772269c4dcf13d9f3df66cafedc12074539bc", func := "clathri/clathrilaw9.VolCrashes", spec := "volCrashes", unfollowed := true, recurses := true, apart := false, narrowed := true }
def VolCrashesUptoSaid : Prop := volCrashesUptoRow.holds Try.pinned (OpenSpec.upto volCrashesSpec)

/-- 'clathrilaw9.VolStays', WHERE WHAT IT READS IS OF BULK AT MOST 1048576: true; the input reads as it did. -/
def volStaysUptoRow : OpenClaim := { program := "ytamnpblijdgdaaa", sum := "93a4cd9d50f6deb07a17a1efa4b772269c4dcf13d9f3df66cafedc12074539bc", func := "clathri/clathrilaw9.VolStays", spec := "volStays", unfollowed := true, recurses := true, apart := false, narrowed := true }
def VolStaysUptoSaid : Prop := volStaysUptoRow.holds Try.pinned (OpenSpec.upto volStaysSpec)

/-- 'clathrilaw9.VolNone', WHERE WHAT IT READS IS OF BULK AT MOST 1048576: true; the input reads as it did. -/
def volNoneUptoRow : OpenClaim := { program := "ytamnpblijdgdaaa", sum := "93a4cd9d50f6deb07a17a1efa4b772269c4dcf13d9f3df66cafedc12074539bc", func := "clathri/clathrilaw9.VolNone", spec := "volNone", unfollowed := true, recurses := true, apart := false, narrowed := true }
def VolNoneUptoSaid : Prop := volNoneUptoRow.holds Try.pinned (OpenSpec.upto volNoneSpec)

/-- 'clathrilaw9.VolSure', WHERE WHAT IT READS IS OF BULK AT MOST 1048576: true; the input reads as it did. -/
def volSureUptoRow : OpenClaim := { program := "ytamnpblijdgdaaa", sum := "93a4cd9d50f6deb07a17a1efa4b772269c4dcf13d9f3df66cafedc12074539bc", func := "clathri/clathrilaw9.VolSure", spec := "volSure", unfollowed := true, recurses := true, apart := false, narrowed := true }
def VolSureUptoSaid : Prop := volSureUptoRow.holds Try.pinned (OpenSpec.upto volSureSpec)

/-- 'clathrilaw9.VolRoom', WHERE WHAT IT READS IS OF BULK AT MOST 1048576: true; the input reads as it did. -/
def volRoomUptoRow : OpenClaim := { program := "ytamnpblijdgdaaa", sum := "93a4cd9d50f6deb07a17a1efa4b772269c4dcf13d9f3df66cafedc12074539bc", func := "clathri/clathrilaw9.VolRoom", spec := "volRoom", unfollowed := true, recurses := true, apart := false, narrowed := true }
def VolRoomUptoSaid : Prop := volRoomUptoRow.holds Try.pinned (OpenSpec.upto volRoomSpec)

/-- 'clathrilaw9.VolWrong', WHERE WHAT IT READS IS OF BULK AT MOST 1048576: true; the input reads as it did. -/
def volWrongUptoRow : OpenClaim := { program := "ytamnpblijdgdaaa", sum := "93a4cd9d50f6deb07a17a1efa4b772269c4dcf13d9f3df66cafedc12074539bc", func := "clathri/clathrilaw9.VolWrong", spec := "volWrong", unfollowed := true, recurses := true, apart := false, narrowed := true }
def VolWrongUptoSaid : Prop := volWrongUptoRow.holds Try.pinned (OpenSpec.upto volWrongSpec)

/-- 'clathrilaw9.VolEpochs', WHERE WHAT IT READS IS OF BULK AT MOST 1048576: true; the input reads as it did. -/
def volEpochsUptoRow : OpenClaim := { program := "ytamnpblijdgdaaa", sum := "93a4cd9d50f6deb07a17a1efa4b772269c4dcf13d9f3df66cafedc12074539bc", func := "clathri/clathrilaw9.VolEpochs", spec := "volEpochs", unfollowed := true, recurses := true, apart := false, narrowed := true }
def VolEpochsUptoSaid : Prop := volEpochsUptoRow.holds Try.pinned (OpenSpec.upto volEpochsSpec)

end Rows
end Go.Proofs.Ytamnpblijdgdaaa
