/-
  No cell of these rows narrows 'for every input' (looked for: loops, veiled, ifaces, maps, wideKeys, modest, calm, conditions, laid).
  DERIVED. THE GIVEN ROWS OF THIS SEAT. 8 by the template 'for every input the law returns true; each argument reads behind the call as it read before'; 0 by the template 'total and deterministic' (their statements: YtifbigmgiakakaaTotals.lean).
  GIVEN WITH THE SEED: the statements are not yours to turn. If you find one false, say at which input.
  Laid BY PROGRAM, IN A SANDBOX (cutbox-rows.mjs): the forced cells as the released guide's own fill.sh prints them over the translation 1bcbce827919e957… (all of the seat's roots in one cut). By AI agents, Wed Nov 11 2026. No macro, syntax, notation, axiom, sorry.
-/
import Derived.Test.YtifbigmgiakakaaChecked
import GoSem.Claim
import GoSem.ClaimJoined
import GoSem.ClaimMapViews
import Derived.JoinedTies
import Derived.KernelRfl
namespace Go.Proofs.Ytifbigmgiakakaa
/- THE CELL 'sum', in the pinned program and in every row, IS THE sha256 OF THE DUMP (.gsa) THAT YtifbigmgiakakaaProg.lean LOADS. Nothing in Lean hashes anything: it is a label: what it is worth is what the hold of that sum in a sandbox is worth. -/
noncomputable def Try.pinned : Pinned := { name := "ytifbigmgiakakaa", sum := "1bcbce827919e95797065a9e44bbb60e5b470f10513725edefb6276b451f7a8c", checked := Try.checked }
namespace Rows
def none {H : Type} : Left H := { results := [], args := [] }

/-- 'cadenzalaw09.CoderNames': WHATEVER THE INPUT: true; the input reads as it did. -/
def coderNamesSpec : ChangeSpec := { name := "coderNames", fn := fun _ => fun
  | [] => { results := [.lit (.bool true)], args := [] }
  | _ => none }
def coderNamesRow : OpenClaim := { program := "ytifbigmgiakakaa", sum := "1bcbce827919e95797065a9e44bbb60e5b470f10513725edefb6276b451f7a8c", func := "cadenza/cadenzalaw09.CoderNames", spec := "coderNames", unfollowed := true, recurses := true, apart := false }
def CoderNamesSaid : Prop := coderNamesRow.holds Try.pinned (OpenSpec.ofChange coderNamesSpec)

/-- ITS FALSE NEIGHBOUR: 'it returns false'. Refute it at one input. -/
def coderNamesWrong : ChangeSpec := { name := "coderNames", fn := fun _ => fun
  | [] => { results := [.lit (.bool false)], args := [] }
  | _ => none }
def CoderNamesWrongFalsely : Prop := coderNamesRow.holds Try.pinned (OpenSpec.ofChange coderNamesWrong)

/-- 'cadenzalaw09.CoderWrites': WHATEVER THE INPUT: true; the input reads as it did. -/
def coderWritesSpec : ChangeSpec := { name := "coderWrites", fn := fun _ => fun
  | [d] => { results := [.lit (.bool true)], args := [d] }
  | _ => none }
def coderWritesRow : OpenClaim := { program := "ytifbigmgiakakaa", sum := "1bcbce827919e95797065a9e44bbb60e5b470f10513725edefb6276b451f7a8c", func := "cadenza/cadenzalaw09.CoderWrites", spec := "coderWrites", unfollowed := true, recurses := true, apart := false }
def CoderWritesSaid : Prop := coderWritesRow.holds Try.pinned (OpenSpec.ofChange coderWritesSpec)

/-- ITS FALSE NEIGHBOUR: 'it returns false'. Refute it at one input. -/
def coderWritesWrong : ChangeSpec := { name := "coderWrites", fn := fun _ => fun
  | [d] => { results := [.lit (.bool false)], args := [d] }
  | _ => none }
def CoderWritesWrongFalsely : Prop := coderWritesRow.holds Try.pinned (OpenSpec.ofChange coderWritesWrong)

/-- 'cadenzalaw09.CoderReads': WHATEVER THE INPUT: true; the input reads as it did. -/
def coderReadsSpec : ChangeSpec := { name := "coderReads", fn := fun _ => fun
  | [d1, d2] => { results := [.lit (.bool true)], args := [d1, d2] }
  | _ => none }
def coderReadsRow : OpenClaim := { program := "ytifbigmgiakakaa", sum := "1bcbce827919e95797065a9e44bbb60e5b470f10513725edefb6276b451f7a8c", func := "cadenza/cadenzalaw09.CoderReads", spec := "coderReads", unfollowed := true, recurses := true, apart := false }
def CoderReadsSaid : Prop := coderReadsRow.holds Try.pinned (OpenSpec.ofChange coderReadsSpec)

/-- ITS FALSE NEIGHBOUR: 'it returns false'. Refute it at one input. -/
def coderReadsWrong : ChangeSpec := { name := "coderReads", fn := fun _ => fun
  | [d1, d2] => { results := [.lit (.bool false)], args := [d1, d2] }
  | _ => none }
def CoderReadsWrongFalsely : Prop := coderReadsRow.holds Try.pinned (OpenSpec.ofChange coderReadsWrong)

/-- 'cadenzalaw09.CoderBack': WHATEVER THE INPUT: true; the input reads as it did. -/
def coderBackSpec : ChangeSpec := { name := "coderBack", fn := fun _ => fun
  | [d1, d2] => { results := [.lit (.bool true)], args := [d1, d2] }
  | _ => none }
def coderBackRow : OpenClaim := { program := "ytifbigmgiakakaa", sum := "1bcbce827919e95797065a9e44bbb60e5b470f10513725edefb6276b451f7a8c", func := "cadenza/cadenzalaw09.CoderBack", spec := "coderBack", unfollowed := true, recurses := true, apart := false }
def CoderBackSaid : Prop := coderBackRow.holds Try.pinned (OpenSpec.ofChange coderBackSpec)

/-- ITS FALSE NEIGHBOUR: 'it returns false'. Refute it at one input. -/
def coderBackWrong : ChangeSpec := { name := "coderBack", fn := fun _ => fun
  | [d1, d2] => { results := [.lit (.bool false)], args := [d1, d2] }
  | _ => none }
def CoderBackWrongFalsely : Prop := coderBackRow.holds Try.pinned (OpenSpec.ofChange coderBackWrong)

/-- 'cadenzalaw09.CoderParts': WHATEVER THE INPUT: true; the input reads as it did. -/
def coderPartsSpec : ChangeSpec := { name := "coderParts", fn := fun _ => fun
  | [d1, d2] => { results := [.lit (.bool true)], args := [d1, d2] }
  | _ => none }
def coderPartsRow : OpenClaim := { program := "ytifbigmgiakakaa", sum := "1bcbce827919e95797065a9e44bbb60e5b470f10513725edefb6276b451f7a8c", func := "cadenza/cadenzalaw09.CoderParts", spec := "coderParts", unfollowed := true, recurses := true, apart := false }
def CoderPartsSaid : Prop := coderPartsRow.holds Try.pinned (OpenSpec.ofChange coderPartsSpec)

/-- ITS FALSE NEIGHBOUR: 'it returns false'. Refute it at one input. -/
def coderPartsWrong : ChangeSpec := { name := "coderParts", fn := fun _ => fun
  | [d1, d2] => { results := [.lit (.bool false)], args := [d1, d2] }
  | _ => none }
def CoderPartsWrongFalsely : Prop := coderPartsRow.holds Try.pinned (OpenSpec.ofChange coderPartsWrong)

/-- 'cadenzalaw09.CoderOnce': WHATEVER THE INPUT: true; the input reads as it did. -/
def coderOnceSpec : ChangeSpec := { name := "coderOnce", fn := fun _ => fun
  | [d1, d2] => { results := [.lit (.bool true)], args := [d1, d2] }
  | _ => none }
def coderOnceRow : OpenClaim := { program := "ytifbigmgiakakaa", sum := "1bcbce827919e95797065a9e44bbb60e5b470f10513725edefb6276b451f7a8c", func := "cadenza/cadenzalaw09.CoderOnce", spec := "coderOnce", unfollowed := true, recurses := true, apart := false }
def CoderOnceSaid : Prop := coderOnceRow.holds Try.pinned (OpenSpec.ofChange coderOnceSpec)

/-- ITS FALSE NEIGHBOUR: 'it returns false'. Refute it at one input. -/
def coderOnceWrong : ChangeSpec := { name := "coderOnce", fn := fun _ => fun
  | [d1, d2] => { results := [.lit (.bool false)], args := [d1, d2] }
  | _ => none }
def CoderOnceWrongFalsely : Prop := coderOnceRow.holds Try.pinned (OpenSpec.ofChange coderOnceWrong)

/-- 'cadenzalaw09.CoderCut': WHATEVER THE INPUT: true; the input reads as it did. -/
def coderCutSpec : ChangeSpec := { name := "coderCut", fn := fun _ => fun
  | [d1, d2] => { results := [.lit (.bool true)], args := [d1, d2] }
  | _ => none }
def coderCutRow : OpenClaim := { program := "ytifbigmgiakakaa", sum := "1bcbce827919e95797065a9e44bbb60e5b470f10513725edefb6276b451f7a8c", func := "cadenza/cadenzalaw09.CoderCut", spec := "coderCut", unfollowed := true, recurses := true, apart := false }
def CoderCutSaid : Prop := coderCutRow.holds Try.pinned (OpenSpec.ofChange coderCutSpec)

/-- ITS FALSE NEIGHBOUR: 'it returns false'. Refute it at one input. -/
def coderCutWrong : ChangeSpec := { name := "coderCut", fn := fun _ => fun
  | [d1, d2] => { results := [.lit (.bool false)], args := [d1, d2] }
  | _ => none }
def CoderCutWrongFalsely : Prop := coderCutRow.holds Try.pinned (OpenSpec.ofChange coderCutWrong)

/-- 'cadenzalaw09.CoderZeros': WHATEVER THE INPUT: true; the input reads as it did. -/
def coderZerosSpec : ChangeSpec := { name := "coderZeros", fn := fun _ => fun
  | [d1, d2] => { results := [.lit (.bool true)], args := [d1, d2] }
  | _ => none }
def coderZerosRow : OpenClaim := { program := "ytifbigmgiakakaa", sum := "1bcbce827919e95797065a9e44bbb60e5b470f10513725edefb6276b451f7a8c", func := "cadenza/cadenzalaw09.CoderZeros", spec := "coderZeros", unfollowed := true, recurses := true, apart := false }
def CoderZerosSaid : Prop := coderZerosRow.holds Try.pinned (OpenSpec.ofChange coderZerosSpec)

/-- ITS FALSE NEIGHBOUR: 'it returns false'. Refute it at one input. -/
def coderZerosWrong : ChangeSpec := { name := "coderZeros", fn := fun _ => fun
  | [d1, d2] => { results := [.lit (.bool false)], args := [d1, d2] }
  | _ => none }
def CoderZerosWrongFalsely : Prop := coderZerosRow.holds Try.pinned (OpenSpec.ofChange coderZerosWrong)

/- THE SECOND FORM. 'bulk': how many values and letters a reading holds, each counted each time it is reached (what is shared counts as often as it is met; a slice's spare places count too). A statement '..UptoSaid' is the law's where the arguments, and the package variables that the reading takes, are together of bulk at most 1048576: NARROWER than '..Said'. Prove '..Said' where nothing that the law and all that it calls make is longer than what came in: it says more and counts as full. Else prove '..UptoSaid'. A law counts once. -/
mutual
def uptoBulk {H : Type} : DataW H → Nat
  | .lit (.string bytes) => bytes.length + 1
  | .lit _ => 1
  | .nil => 1
  | .ptr d => uptoBulk d + 1
  | .slice elems spare => uptoBulkAll elems + uptoBulkAll spare + 1
  | .agg parts => uptoBulkAll parts + 1
  | .iface _ d => uptoBulk d + 1
  | .map entries => uptoBulkEntries entries + 1
  | .held _ => 1
def uptoBulkAll {H : Type} : List (DataW H) → Nat
  | [] => 0
  | d :: r => uptoBulk d + uptoBulkAll r
def uptoBulkEntries {H : Type} : List (Lit × DataW H) → Nat
  | [] => 0
  | x :: r => uptoBulkEntry x + uptoBulkEntries r
def uptoBulkEntry {H : Type} : Lit × DataW H → Nat
  | (.string bytes, d) => bytes.length + uptoBulk d + 1
  | (_, d) => uptoBulk d + 1
 end
def uptoSmall : (H : Type) → List (DataW H) → Bool := fun _ ds => decide (uptoBulkAll ds ≤ 1048576)
def OpenSpec.upto (s : _root_.Go.ChangeSpec) : _root_.Go.OpenSpec := { _root_.Go.OpenSpec.ofChange s with cond := some uptoSmall }

/-- 'cadenzalaw09.CoderNames', WHERE WHAT IT READS IS OF BULK AT MOST 1048576: true; the input reads as it did. -/
def coderNamesUptoRow : OpenClaim := { program := "ytifbigmgiakakaa", sum := "1bcbce827919e95797065a9e44bbb60e5b470f10513725edefb6276b451f7a8c", func := "cadenza/cadenzalaw09.CoderNames", spec := "coderNames", unfollowed := true, recurses := true, apart := false, narrowed := true }
def CoderNamesUptoSaid : Prop := coderNamesUptoRow.holds Try.pinned (OpenSpec.upto coderNamesSpec)

/-- 'cadenzalaw09.CoderWrites', WHERE WHAT IT READS IS OF BULK AT MOST 1048576: true; the input reads as it did. -/
def coderWritesUptoRow : OpenClaim := { program := "ytifbigmgiakakaa", sum := "1bcbce827919e95797065a9e44bbb60e5b470f10513725edefb6276b451f7a8c", func := "cadenza/cadenzalaw09.CoderWrites", spec := "coderWrites", unfollowed := true, recurses := true, apart := false, narrowed := true }
def CoderWritesUptoSaid : Prop := coderWritesUptoRow.holds Try.pinned (OpenSpec.upto coderWritesSpec)

/-- 'cadenzalaw09.CoderReads', WHERE WHAT IT READS IS OF BULK AT MOST 1048576: true; the input reads as it did. -/
def coderReadsUptoRow : OpenClaim := { program := "ytifbigmgiakakaa", sum := "1bcbce827919e95797065a9e44bbb60e5b470f10513725edefb6276b451f7a8c", func := "cadenza/cadenzalaw09.CoderReads", spec := "coderReads", unfollowed := true, recurses := true, apart := false, narrowed := true }
def CoderReadsUptoSaid : Prop := coderReadsUptoRow.holds Try.pinned (OpenSpec.upto coderReadsSpec)

/-- 'cadenzalaw09.CoderBack', WHERE WHAT IT READS IS OF BULK AT MOST 1048576: true; the input reads as it did. -/
def coderBackUptoRow : OpenClaim := { program := "ytifbigmgiakakaa", sum := "1bcbce827919e95797065a9e44bbb60e5b470f10513725edefb6276b451f7a8c", func := "cadenza/cadenzalaw09.CoderBack", spec := "coderBack", unfollowed := true, recurses := true, apart := false, narrowed := true }
def CoderBackUptoSaid : Prop := coderBackUptoRow.holds Try.pinned (OpenSpec.upto coderBackSpec)

/-- 'cadenzalaw09.CoderParts', WHERE WHAT IT READS IS OF BULK AT MOST 1048576: true; the input reads as it did. -/
def coderPartsUptoRow : OpenClaim := { program := "ytifbigmgiakakaa", sum := "1bcbce827919e95797065a9e44bbb60e5b470f10513725edefb6276b451f7a8c", func := "cadenza/cadenzalaw09.CoderParts", spec := "coderParts", unfollowed := true, recurses := true, apart := false, narrowed := true }
def CoderPartsUptoSaid : Prop := coderPartsUptoRow.holds Try.pinned (OpenSpec.upto coderPartsSpec)

/-- 'cadenzalaw09.CoderOnce', WHERE WHAT IT READS IS OF BULK AT MOST 1048576: true; the input reads as it did. -/
def coderOnceUptoRow : OpenClaim := { program := "ytifbigmgiakakaa", sum := "1bcbce827919e95797065a9e44bbb60e5b470f10513725edefb6276b451f7a8c", func := "cadenza/cadenzalaw09.CoderOnce", spec := "coderOnce", unfollowed := true, recurses := true, apart := false, narrowed := true }
def CoderOnceUptoSaid : Prop := coderOnceUptoRow.holds Try.pinned (OpenSpec.upto coderOnceSpec)

/-- 'cadenzalaw09.CoderCut', WHERE WHAT IT READS IS OF BULK AT MOST 1048576: true; the input reads as it did. -/
def coderCutUptoRow : OpenClaim := { program := "ytifbigmgiakakaa", sum := "1bcbce827919e95797065a9e44bbb60e5b470f10513725edefb6276b451f7a8c", func := "cadenza/cadenzalaw09.CoderCut", spec := "coderCut", unfollowed := true, recurses := true, apart := false, narrowed := true }
def CoderCutUptoSaid : Prop := coderCutUptoRow.holds Try.pinned (OpenSpec.upto coderCutSpec)

/-- 'cadenzalaw09.CoderZeros', WHERE WHAT IT READS IS OF BULK AT MOST 1048576: true; the input reads as it did. -/
def coderZerosUptoRow : OpenClaim := { program := "ytifbigmgiakakaa", sum := "1bcbce827919e95797065a9e44bbb60e5b470f10513725edefb6276b451f7a8c", func := "cadenza/cadenzalaw09.CoderZeros", spec := "coderZeros", unfollowed := true, recurses := true, apart := false, narrowed := true }
def CoderZerosUptoSaid : Prop := coderZerosUptoRow.holds Try.pinned (OpenSpec.upto coderZerosSpec)

end Rows
end Go.Proofs.Ytifbigmgiakakaa
