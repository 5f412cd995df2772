/-
  No cell of these rows narrows 'for every input' (looked for: loops, veiled, ifaces, maps, wideKeys, modest, calm, conditions, laid).
  DERIVED. THE GIVEN ROWS OF THIS SEAT. 7 by the template 'for every input the law returns true; each argument reads behind the call as it read before'; 0 by the template 'total and deterministic' (their statements: YtbegifpnbbpinaaTotals.lean).
  GIVEN WITH THE SEED: the statements are not yours to turn. If you find one false, say at which input.
  Laid BY PROGRAM, IN A SANDBOX (cutbox-rows.mjs): the forced cells as the released guide's own fill.sh prints them over the translation bb853db23f4bc144… (all of the seat's roots in one cut). By AI agents, Wed Nov 11 2026. No macro, syntax, notation, axiom, sorry.
-/
import Derived.Test.YtbegifpnbbpinaaChecked
import GoSem.Claim
import GoSem.ClaimJoined
import GoSem.ClaimMapViews
import Derived.JoinedTies
import Derived.KernelRfl
namespace Go.Proofs.Ytbegifpnbbpinaa
/- THE CELL 'sum', in the pinned program and in every row, IS THE sha256 OF THE DUMP (.gsa) THAT YtbegifpnbbpinaaProg.lean LOADS. Nothing in Lean hashes anything: it is a label: what it is worth is what the hold of that sum in a sandbox is worth. -/
noncomputable def Try.pinned : Pinned := { name := "ytbegifpnbbpinaa", sum := "bb853db23f4bc144106cf02bdd1651a20da8c105cbfb8fed3ca0d523bc73bbfc", checked := Try.checked }
namespace Rows
def none {H : Type} : Left H := { results := [], args := [] }

/-- 'cadenzalaw06.UnaryNames': WHATEVER THE INPUT: true; the input reads as it did. -/
def unaryNamesSpec : ChangeSpec := { name := "unaryNames", fn := fun _ => fun
  | [] => { results := [.lit (.bool true)], args := [] }
  | _ => none }
def unaryNamesRow : OpenClaim := { program := "ytbegifpnbbpinaa", sum := "bb853db23f4bc144106cf02bdd1651a20da8c105cbfb8fed3ca0d523bc73bbfc", func := "cadenza/cadenzalaw06.UnaryNames", spec := "unaryNames", unfollowed := true, recurses := true, apart := false }
def UnaryNamesSaid : Prop := unaryNamesRow.holds Try.pinned (OpenSpec.ofChange unaryNamesSpec)

/-- ITS FALSE NEIGHBOUR: 'it returns false'. Refute it at one input. -/
def unaryNamesWrong : ChangeSpec := { name := "unaryNames", fn := fun _ => fun
  | [] => { results := [.lit (.bool false)], args := [] }
  | _ => none }
def UnaryNamesWrongFalsely : Prop := unaryNamesRow.holds Try.pinned (OpenSpec.ofChange unaryNamesWrong)

/-- 'cadenzalaw06.UnaryRuns': WHATEVER THE INPUT: true; the input reads as it did. -/
def unaryRunsSpec : ChangeSpec := { name := "unaryRuns", fn := fun _ => fun
  | [d1, d2, d3] => { results := [.lit (.bool true)], args := [d1, d2, d3] }
  | _ => none }
def unaryRunsRow : OpenClaim := { program := "ytbegifpnbbpinaa", sum := "bb853db23f4bc144106cf02bdd1651a20da8c105cbfb8fed3ca0d523bc73bbfc", func := "cadenza/cadenzalaw06.UnaryRuns", spec := "unaryRuns", unfollowed := true, recurses := true, apart := false }
def UnaryRunsSaid : Prop := unaryRunsRow.holds Try.pinned (OpenSpec.ofChange unaryRunsSpec)

/-- ITS FALSE NEIGHBOUR: 'it returns false'. Refute it at one input. -/
def unaryRunsWrong : ChangeSpec := { name := "unaryRuns", fn := fun _ => fun
  | [d1, d2, d3] => { results := [.lit (.bool false)], args := [d1, d2, d3] }
  | _ => none }
def UnaryRunsWrongFalsely : Prop := unaryRunsRow.holds Try.pinned (OpenSpec.ofChange unaryRunsWrong)

/-- 'cadenzalaw06.UnaryBack': WHATEVER THE INPUT: true; the input reads as it did. -/
def unaryBackSpec : ChangeSpec := { name := "unaryBack", fn := fun _ => fun
  | [d1, d2] => { results := [.lit (.bool true)], args := [d1, d2] }
  | _ => none }
def unaryBackRow : OpenClaim := { program := "ytbegifpnbbpinaa", sum := "bb853db23f4bc144106cf02bdd1651a20da8c105cbfb8fed3ca0d523bc73bbfc", func := "cadenza/cadenzalaw06.UnaryBack", spec := "unaryBack", unfollowed := true, recurses := true, apart := false }
def UnaryBackSaid : Prop := unaryBackRow.holds Try.pinned (OpenSpec.ofChange unaryBackSpec)

/-- ITS FALSE NEIGHBOUR: 'it returns false'. Refute it at one input. -/
def unaryBackWrong : ChangeSpec := { name := "unaryBack", fn := fun _ => fun
  | [d1, d2] => { results := [.lit (.bool false)], args := [d1, d2] }
  | _ => none }
def UnaryBackWrongFalsely : Prop := unaryBackRow.holds Try.pinned (OpenSpec.ofChange unaryBackWrong)

/-- 'cadenzalaw06.UnaryShort': WHATEVER THE INPUT: true; the input reads as it did. -/
def unaryShortSpec : ChangeSpec := { name := "unaryShort", fn := fun _ => fun
  | [d1, d2] => { results := [.lit (.bool true)], args := [d1, d2] }
  | _ => none }
def unaryShortRow : OpenClaim := { program := "ytbegifpnbbpinaa", sum := "bb853db23f4bc144106cf02bdd1651a20da8c105cbfb8fed3ca0d523bc73bbfc", func := "cadenza/cadenzalaw06.UnaryShort", spec := "unaryShort", unfollowed := true, recurses := true, apart := false }
def UnaryShortSaid : Prop := unaryShortRow.holds Try.pinned (OpenSpec.ofChange unaryShortSpec)

/-- ITS FALSE NEIGHBOUR: 'it returns false'. Refute it at one input. -/
def unaryShortWrong : ChangeSpec := { name := "unaryShort", fn := fun _ => fun
  | [d1, d2] => { results := [.lit (.bool false)], args := [d1, d2] }
  | _ => none }
def UnaryShortWrongFalsely : Prop := unaryShortRow.holds Try.pinned (OpenSpec.ofChange unaryShortWrong)

/-- 'cadenzalaw06.UnaryOrder': WHATEVER THE INPUT: true; the input reads as it did. -/
def unaryOrderSpec : ChangeSpec := { name := "unaryOrder", fn := fun _ => fun
  | [d1, d2] => { results := [.lit (.bool true)], args := [d1, d2] }
  | _ => none }
def unaryOrderRow : OpenClaim := { program := "ytbegifpnbbpinaa", sum := "bb853db23f4bc144106cf02bdd1651a20da8c105cbfb8fed3ca0d523bc73bbfc", func := "cadenza/cadenzalaw06.UnaryOrder", spec := "unaryOrder", unfollowed := true, recurses := true, apart := false }
def UnaryOrderSaid : Prop := unaryOrderRow.holds Try.pinned (OpenSpec.ofChange unaryOrderSpec)

/-- ITS FALSE NEIGHBOUR: 'it returns false'. Refute it at one input. -/
def unaryOrderWrong : ChangeSpec := { name := "unaryOrder", fn := fun _ => fun
  | [d1, d2] => { results := [.lit (.bool false)], args := [d1, d2] }
  | _ => none }
def UnaryOrderWrongFalsely : Prop := unaryOrderRow.holds Try.pinned (OpenSpec.ofChange unaryOrderWrong)

/-- 'cadenzalaw06.UnaryCut': WHATEVER THE INPUT: true; the input reads as it did. -/
def unaryCutSpec : ChangeSpec := { name := "unaryCut", fn := fun _ => fun
  | [d1, d2, d3] => { results := [.lit (.bool true)], args := [d1, d2, d3] }
  | _ => none }
def unaryCutRow : OpenClaim := { program := "ytbegifpnbbpinaa", sum := "bb853db23f4bc144106cf02bdd1651a20da8c105cbfb8fed3ca0d523bc73bbfc", func := "cadenza/cadenzalaw06.UnaryCut", spec := "unaryCut", unfollowed := true, recurses := true, apart := false }
def UnaryCutSaid : Prop := unaryCutRow.holds Try.pinned (OpenSpec.ofChange unaryCutSpec)

/-- ITS FALSE NEIGHBOUR: 'it returns false'. Refute it at one input. -/
def unaryCutWrong : ChangeSpec := { name := "unaryCut", fn := fun _ => fun
  | [d1, d2, d3] => { results := [.lit (.bool false)], args := [d1, d2, d3] }
  | _ => none }
def UnaryCutWrongFalsely : Prop := unaryCutRow.holds Try.pinned (OpenSpec.ofChange unaryCutWrong)

/-- 'cadenzatop.TopBits': WHATEVER THE INPUT: true; the input reads as it did. -/
def topBitsSpec : ChangeSpec := { name := "topBits", fn := fun _ => fun
  | [d] => { results := [.lit (.bool true)], args := [d] }
  | _ => none }
def topBitsRow : OpenClaim := { program := "ytbegifpnbbpinaa", sum := "bb853db23f4bc144106cf02bdd1651a20da8c105cbfb8fed3ca0d523bc73bbfc", func := "cadenza/cadenzatop.TopBits", spec := "topBits", unfollowed := true, recurses := true, apart := false }
def TopBitsSaid : Prop := topBitsRow.holds Try.pinned (OpenSpec.ofChange topBitsSpec)

/-- ITS FALSE NEIGHBOUR: 'it returns false'. Refute it at one input. -/
def topBitsWrong : ChangeSpec := { name := "topBits", fn := fun _ => fun
  | [d] => { results := [.lit (.bool false)], args := [d] }
  | _ => none }
def TopBitsWrongFalsely : Prop := topBitsRow.holds Try.pinned (OpenSpec.ofChange topBitsWrong)

/- THE SECOND FORM. 'bulk': how many values and letters a reading holds, each counted each time it is reached (what is shared counts as often as it is met; a slice's spare places count too). A statement '..UptoSaid' is the law's where the arguments, and the package variables that the reading takes, are together of bulk at most 1048576: NARROWER than '..Said'. Prove '..Said' where nothing that the law and all that it calls make is longer than what came in: it says more and counts as full. Else prove '..UptoSaid'. A law counts once. -/
mutual
def uptoBulk {H : Type} : DataW H → Nat
  | .lit (.string bytes) => bytes.length + 1
  | .lit _ => 1
  | .nil => 1
  | .ptr d => uptoBulk d + 1
  | .slice elems spare => uptoBulkAll elems + uptoBulkAll spare + 1
  | .agg parts => uptoBulkAll parts + 1
  | .iface _ d => uptoBulk d + 1
  | .map entries => uptoBulkEntries entries + 1
  | .held _ => 1
def uptoBulkAll {H : Type} : List (DataW H) → Nat
  | [] => 0
  | d :: r => uptoBulk d + uptoBulkAll r
def uptoBulkEntries {H : Type} : List (Lit × DataW H) → Nat
  | [] => 0
  | x :: r => uptoBulkEntry x + uptoBulkEntries r
def uptoBulkEntry {H : Type} : Lit × DataW H → Nat
  | (.string bytes, d) => bytes.length + uptoBulk d + 1
  | (_, d) => uptoBulk d + 1
 end
def uptoSmall : (H : Type) → List (DataW H) → Bool := fun _ ds => decide (uptoBulkAll ds ≤ 1048576)
def OpenSpec.upto (s : _root_.Go.ChangeSpec) : _root_.Go.OpenSpec := { _root_.Go.OpenSpec.ofChange s with cond := some uptoSmall }

/-- 'cadenzalaw06.UnaryNames', WHERE WHAT IT READS IS OF BULK AT MOST 1048576: true; the input reads as it did. -/
def unaryNamesUptoRow : OpenClaim := { program := "ytbegifpnbbpinaa", sum := "bb853db23f4bc144106cf02bdd1651a20da8c105cbfb8fed3ca0d523bc73bbfc", func := "cadenza/cadenzalaw06.UnaryNames", spec := "unaryNames", unfollowed := true, recurses := true, apart := false, narrowed := true }
def UnaryNamesUptoSaid : Prop := unaryNamesUptoRow.holds Try.pinned (OpenSpec.upto unaryNamesSpec)

/-- 'cadenzalaw06.UnaryRuns', WHERE WHAT IT READS IS OF BULK AT MOST 1048576: true; the input reads as it did. -/
def unaryRunsUptoRow : OpenClaim := { program := "ytbegifpnbbpinaa", sum := "bb853db23f4bc144106cf02bdd1651a20da8c105cbfb8fed3ca0d523bc73bbfc", func := "cadenza/cadenzalaw06.UnaryRuns", spec := "unaryRuns", unfollowed := true, recurses := true, apart := false, narrowed := true }
def UnaryRunsUptoSaid : Prop := unaryRunsUptoRow.holds Try.pinned (OpenSpec.upto unaryRunsSpec)

/-- 'cadenzalaw06.UnaryBack', WHERE WHAT IT READS IS OF BULK AT MOST 1048576: true; the input reads as it did. -/
def unaryBackUptoRow : OpenClaim := { program := "ytbegifpnbbpinaa", sum := "bb853db23f4bc144106cf02bdd1651a20da8c105cbfb8fed3ca0d523bc73bbfc", func := "cadenza/cadenzalaw06.UnaryBack", spec := "unaryBack", unfollowed := true, recurses := true, apart := false, narrowed := true }
def UnaryBackUptoSaid : Prop := unaryBackUptoRow.holds Try.pinned (OpenSpec.upto unaryBackSpec)

/-- 'cadenzalaw06.UnaryShort', WHERE WHAT IT READS IS OF BULK AT MOST 1048576: true; the input reads as it did. -/
def unaryShortUptoRow : OpenClaim := { program := "ytbegifpnbbpinaa", sum := "bb853db23f4bc144106cf02bdd1651a20da8c105cbfb8fed3ca0d523bc73bbfc", func := "cadenza/cadenzalaw06.UnaryShort", spec := "unaryShort", unfollowed := true, recurses := true, apart := false, narrowed := true }
def UnaryShortUptoSaid : Prop := unaryShortUptoRow.holds Try.pinned (OpenSpec.upto unaryShortSpec)

/-- 'cadenzalaw06.UnaryOrder', WHERE WHAT IT READS IS OF BULK AT MOST 1048576: true; the input reads as it did. -/
def unaryOrderUptoRow : OpenClaim := { program := "ytbegifpnbbpinaa", sum := "bb853db23f4bc144106cf02bdd1651a20da8c105cbfb8fed3ca0d523bc73bbfc", func := "cadenza/cadenzalaw06.UnaryOrder", spec := "unaryOrder", unfollowed := true, recurses := true, apart := false, narrowed := true }
def UnaryOrderUptoSaid : Prop := unaryOrderUptoRow.holds Try.pinned (OpenSpec.upto unaryOrderSpec)

/-- 'cadenzalaw06.UnaryCut', WHERE WHAT IT READS IS OF BULK AT MOST 1048576: true; the input reads as it did. -/
def unaryCutUptoRow : OpenClaim := { program := "ytbegifpnbbpinaa", sum := "bb853db23f4bc144106cf02bdd1651a20da8c105cbfb8fed3ca0d523bc73bbfc", func := "cadenza/cadenzalaw06.UnaryCut", spec := "unaryCut", unfollowed := true, recurses := true, apart := false, narrowed := true }
def UnaryCutUptoSaid : Prop := unaryCutUptoRow.holds Try.pinned (OpenSpec.upto unaryCutSpec)

/-- 'cadenzatop.TopBits', WHERE WHAT IT READS IS OF BULK AT MOST 1048576: true; the input reads as it did. -/
def topBitsUptoRow : OpenClaim := { program := "ytbegifpnbbpinaa", sum := "bb853db23f4bc144106cf02bdd1651a20da8c105cbfb8fed3ca0d523bc73bbfc", func := "cadenza/cadenzatop.TopBits", spec := "topBits", unfollowed := true, recurses := true, apart := false, narrowed := true }
def TopBitsUptoSaid : Prop := topBitsUptoRow.holds Try.pinned (OpenSpec.upto topBitsSpec)

end Rows
end Go.Proofs.Ytbegifpnbbpinaa
