/-
  No cell of these rows narrows 'for every input' (looked for: loops, veiled, ifaces, maps, wideKeys, modest, calm, conditions, laid).
  DERIVED. THE GIVEN ROWS OF THIS SEAT. 6 by the template 'for every input the law returns true; each argument reads behind the call as it read before'; 0 by the template 'total and deterministic' (their statements: YtgffegcflibclaaTotals.lean).
  GIVEN WITH THE SEED: the statements are not yours to turn. If you find one false, say at which input.
  Laid BY PROGRAM, IN A SANDBOX (cutbox-rows.mjs): the forced cells as the released guide's own fill.sh prints them over the translation a0fc8e333ea6e23e… (all of the seat's roots in one cut). By AI agents, Wed Nov 11 2026. No macro, syntax, notation, axiom, sorry.
-/
import Derived.Test.YtgffegcflibclaaChecked
import GoSem.Claim
import GoSem.ClaimJoined
import GoSem.ClaimMapViews
import Derived.JoinedTies
import Derived.KernelRfl
namespace Go.Proofs.Ytgffegcflibclaa
/- THE CELL 'sum', in the pinned program and in every row, IS THE sha256 OF THE DUMP (.gsa) THAT YtgffegcflibclaaProg.lean LOADS. Nothing in Lean hashes anything: it is a label: what it is worth is what the hold of that sum in a sandbox is worth. -/
noncomputable def Try.pinned : Pinned := { name := "ytgffegcflibclaa", sum := "a0fc8e333ea6e23e8650c185ef8bf57540dca54a296b1584794ea77c142d8fe7", checked := Try.checked }
namespace Rows
def none {H : Type} : Left H := { results := [], args := [] }

/-- 'cadenzalaw04.Crc64Names': WHATEVER THE INPUT: true; the input reads as it did. -/
def crc64NamesSpec : ChangeSpec := { name := "crc64Names", fn := fun _ => fun
  | [] => { results := [.lit (.bool true)], args := [] }
  | _ => none }
def crc64NamesRow : OpenClaim := { program := "ytgffegcflibclaa", sum := "a0fc8e333ea6e23e8650c185ef8bf57540dca54a296b1584794ea77c142d8fe7", func := "cadenza/cadenzalaw04.Crc64Names", spec := "crc64Names", apart := false }
def Crc64NamesSaid : Prop := crc64NamesRow.holds Try.pinned (OpenSpec.ofChange crc64NamesSpec)

/-- ITS FALSE NEIGHBOUR: 'it returns false'. Refute it at one input. -/
def crc64NamesWrong : ChangeSpec := { name := "crc64Names", fn := fun _ => fun
  | [] => { results := [.lit (.bool false)], args := [] }
  | _ => none }
def Crc64NamesWrongFalsely : Prop := crc64NamesRow.holds Try.pinned (OpenSpec.ofChange crc64NamesWrong)

/-- 'cadenzalaw04.Crc64Sums': WHATEVER THE INPUT: true; the input reads as it did. -/
def crc64SumsSpec : ChangeSpec := { name := "crc64Sums", fn := fun _ => fun
  | [d1, d2] => { results := [.lit (.bool true)], args := [d1, d2] }
  | _ => none }
def crc64SumsRow : OpenClaim := { program := "ytgffegcflibclaa", sum := "a0fc8e333ea6e23e8650c185ef8bf57540dca54a296b1584794ea77c142d8fe7", func := "cadenza/cadenzalaw04.Crc64Sums", spec := "crc64Sums", apart := false }
def Crc64SumsSaid : Prop := crc64SumsRow.holds Try.pinned (OpenSpec.ofChange crc64SumsSpec)

/-- ITS FALSE NEIGHBOUR: 'it returns false'. Refute it at one input. -/
def crc64SumsWrong : ChangeSpec := { name := "crc64Sums", fn := fun _ => fun
  | [d1, d2] => { results := [.lit (.bool false)], args := [d1, d2] }
  | _ => none }
def Crc64SumsWrongFalsely : Prop := crc64SumsRow.holds Try.pinned (OpenSpec.ofChange crc64SumsWrong)

/-- 'cadenzalaw04.Crc64Linear': WHATEVER THE INPUT: true; the input reads as it did. -/
def crc64LinearSpec : ChangeSpec := { name := "crc64Linear", fn := fun _ => fun
  | [d1, d2, d3] => { results := [.lit (.bool true)], args := [d1, d2, d3] }
  | _ => none }
def crc64LinearRow : OpenClaim := { program := "ytgffegcflibclaa", sum := "a0fc8e333ea6e23e8650c185ef8bf57540dca54a296b1584794ea77c142d8fe7", func := "cadenza/cadenzalaw04.Crc64Linear", spec := "crc64Linear", apart := false }
def Crc64LinearSaid : Prop := crc64LinearRow.holds Try.pinned (OpenSpec.ofChange crc64LinearSpec)

/-- ITS FALSE NEIGHBOUR: 'it returns false'. Refute it at one input. -/
def crc64LinearWrong : ChangeSpec := { name := "crc64Linear", fn := fun _ => fun
  | [d1, d2, d3] => { results := [.lit (.bool false)], args := [d1, d2, d3] }
  | _ => none }
def Crc64LinearWrongFalsely : Prop := crc64LinearRow.holds Try.pinned (OpenSpec.ofChange crc64LinearWrong)

/-- 'cadenzalaw04.Crc64Parts': WHATEVER THE INPUT: true; the input reads as it did. -/
def crc64PartsSpec : ChangeSpec := { name := "crc64Parts", fn := fun _ => fun
  | [d1, d2, d3, d4] => { results := [.lit (.bool true)], args := [d1, d2, d3, d4] }
  | _ => none }
def crc64PartsRow : OpenClaim := { program := "ytgffegcflibclaa", sum := "a0fc8e333ea6e23e8650c185ef8bf57540dca54a296b1584794ea77c142d8fe7", func := "cadenza/cadenzalaw04.Crc64Parts", spec := "crc64Parts", apart := false }
def Crc64PartsSaid : Prop := crc64PartsRow.holds Try.pinned (OpenSpec.ofChange crc64PartsSpec)

/-- ITS FALSE NEIGHBOUR: 'it returns false'. Refute it at one input. -/
def crc64PartsWrong : ChangeSpec := { name := "crc64Parts", fn := fun _ => fun
  | [d1, d2, d3, d4] => { results := [.lit (.bool false)], args := [d1, d2, d3, d4] }
  | _ => none }
def Crc64PartsWrongFalsely : Prop := crc64PartsRow.holds Try.pinned (OpenSpec.ofChange crc64PartsWrong)

/-- 'cadenzalaw04.Crc64Burst': WHATEVER THE INPUT: true; the input reads as it did. -/
def crc64BurstSpec : ChangeSpec := { name := "crc64Burst", fn := fun _ => fun
  | [d1, d2, d3] => { results := [.lit (.bool true)], args := [d1, d2, d3] }
  | _ => none }
def crc64BurstRow : OpenClaim := { program := "ytgffegcflibclaa", sum := "a0fc8e333ea6e23e8650c185ef8bf57540dca54a296b1584794ea77c142d8fe7", func := "cadenza/cadenzalaw04.Crc64Burst", spec := "crc64Burst", apart := false }
def Crc64BurstSaid : Prop := crc64BurstRow.holds Try.pinned (OpenSpec.ofChange crc64BurstSpec)

/-- ITS FALSE NEIGHBOUR: 'it returns false'. Refute it at one input. -/
def crc64BurstWrong : ChangeSpec := { name := "crc64Burst", fn := fun _ => fun
  | [d1, d2, d3] => { results := [.lit (.bool false)], args := [d1, d2, d3] }
  | _ => none }
def Crc64BurstWrongFalsely : Prop := crc64BurstRow.holds Try.pinned (OpenSpec.ofChange crc64BurstWrong)

/-- 'cadenzalaw04.Crc64Table': WHATEVER THE INPUT: true; the input reads as it did. -/
def crc64TableSpec : ChangeSpec := { name := "crc64Table", fn := fun _ => fun
  | [d1, d2] => { results := [.lit (.bool true)], args := [d1, d2] }
  | _ => none }
def crc64TableRow : OpenClaim := { program := "ytgffegcflibclaa", sum := "a0fc8e333ea6e23e8650c185ef8bf57540dca54a296b1584794ea77c142d8fe7", func := "cadenza/cadenzalaw04.Crc64Table", spec := "crc64Table", apart := false }
def Crc64TableSaid : Prop := crc64TableRow.holds Try.pinned (OpenSpec.ofChange crc64TableSpec)

/-- ITS FALSE NEIGHBOUR: 'it returns false'. Refute it at one input. -/
def crc64TableWrong : ChangeSpec := { name := "crc64Table", fn := fun _ => fun
  | [d1, d2] => { results := [.lit (.bool false)], args := [d1, d2] }
  | _ => none }
def Crc64TableWrongFalsely : Prop := crc64TableRow.holds Try.pinned (OpenSpec.ofChange crc64TableWrong)

/- THE SECOND FORM. 'bulk': how many values and letters a reading holds, each counted each time it is reached (what is shared counts as often as it is met; a slice's spare places count too). A statement '..UptoSaid' is the law's where the arguments, and the package variables that the reading takes, are together of bulk at most 1048576: NARROWER than '..Said'. Prove '..Said' where nothing that the law and all that it calls make is longer than what came in: it says more and counts as full. Else prove '..UptoSaid'. A law counts once. -/
mutual
def uptoBulk {H : Type} : DataW H → Nat
  | .lit (.string bytes) => bytes.length + 1
  | .lit _ => 1
  | .nil => 1
  | .ptr d => uptoBulk d + 1
  | .slice elems spare => uptoBulkAll elems + uptoBulkAll spare + 1
  | .agg parts => uptoBulkAll parts + 1
  | .iface _ d => uptoBulk d + 1
  | .map entries => uptoBulkEntries entries + 1
  | .held _ => 1
def uptoBulkAll {H : Type} : List (DataW H) → Nat
  | [] => 0
  | d :: r => uptoBulk d + uptoBulkAll r
def uptoBulkEntries {H : Type} : List (Lit × DataW H) → Nat
  | [] => 0
  | x :: r => uptoBulkEntry x + uptoBulkEntries r
def uptoBulkEntry {H : Type} : Lit × DataW H → Nat
  | (.string bytes, d) => bytes.length + uptoBulk d + 1
  | (_, d) => uptoBulk d + 1
 end
def uptoSmall : (H : Type) → List (DataW H) → Bool := fun _ ds => decide (uptoBulkAll ds ≤ 1048576)
def OpenSpec.upto (s : _root_.Go.ChangeSpec) : _root_.Go.OpenSpec := { _root_.Go.OpenSpec.ofChange s with cond := some uptoSmall }

/-- 'cadenzalaw04.Crc64Names', WHERE WHAT IT READS IS OF BULK AT MOST 1048576: true; the input reads as it did. -/
def crc64NamesUptoRow : OpenClaim := { program := "ytgffegcflibclaa", sum := "a0fc8e333ea6e23e8650c185ef8bf57540dca54a296b1584794ea77c142d8fe7", func := "cadenza/cadenzalaw04.Crc64Names", spec := "crc64Names", apart := false, narrowed := true }
def Crc64NamesUptoSaid : Prop := crc64NamesUptoRow.holds Try.pinned (OpenSpec.upto crc64NamesSpec)

/-- 'cadenzalaw04.Crc64Sums', WHERE WHAT IT READS IS OF BULK AT MOST 1048576: true; the input reads as it did. -/
def crc64SumsUptoRow : OpenClaim := { program := "ytgffegcflibclaa", sum := "a0fc8e333ea6e23e8650c185ef8bf57540dca54a296b1584794ea77c142d8fe7", func := "cadenza/cadenzalaw04.Crc64Sums", spec := "crc64Sums", apart := false, narrowed := true }
def Crc64SumsUptoSaid : Prop := crc64SumsUptoRow.holds Try.pinned (OpenSpec.upto crc64SumsSpec)

/-- 'cadenzalaw04.Crc64Linear', WHERE WHAT IT READS IS OF BULK AT MOST 1048576: true; the input reads as it did. -/
def crc64LinearUptoRow : OpenClaim := { program := "ytgffegcflibclaa", sum := "a0fc8e333ea6e23e8650c185ef8bf57540dca54a296b1584794ea77c142d8fe7", func := "cadenza/cadenzalaw04.Crc64Linear", spec := "crc64Linear", apart := false, narrowed := true }
def Crc64LinearUptoSaid : Prop := crc64LinearUptoRow.holds Try.pinned (OpenSpec.upto crc64LinearSpec)

/-- 'cadenzalaw04.Crc64Parts', WHERE WHAT IT READS IS OF BULK AT MOST 1048576: true; the input reads as it did. -/
def crc64PartsUptoRow : OpenClaim := { program := "ytgffegcflibclaa", sum := "a0fc8e333ea6e23e8650c185ef8bf57540dca54a296b1584794ea77c142d8fe7", func := "cadenza/cadenzalaw04.Crc64Parts", spec := "crc64Parts", apart := false, narrowed := true }
def Crc64PartsUptoSaid : Prop := crc64PartsUptoRow.holds Try.pinned (OpenSpec.upto crc64PartsSpec)

/-- 'cadenzalaw04.Crc64Burst', WHERE WHAT IT READS IS OF BULK AT MOST 1048576: true; the input reads as it did. -/
def crc64BurstUptoRow : OpenClaim := { program := "ytgffegcflibclaa", sum := "a0fc8e333ea6e23e8650c185ef8bf57540dca54a296b1584794ea77c142d8fe7", func := "cadenza/cadenzalaw04.Crc64Burst", spec := "crc64Burst", apart := false, narrowed := true }
def Crc64BurstUptoSaid : Prop := crc64BurstUptoRow.holds Try.pinned (OpenSpec.upto crc64BurstSpec)

/-- 'cadenzalaw04.Crc64Table', WHERE WHAT IT READS IS OF BULK AT MOST 1048576: true; the input reads as it did. -/
def crc64TableUptoRow : OpenClaim := { program := "ytgffegcflibclaa", sum := "a0fc8e333ea6e23e8650c185ef8bf57540dca54a296b1584794ea77c142d8fe7", func := "cadenza/cadenzalaw04.Crc64Table", spec := "crc64Table", apart := false, narrowed := true }
def Crc64TableUptoSaid : Prop := crc64TableUptoRow.holds Try.pinned (OpenSpec.upto crc64TableSpec)

end Rows
end Go.Proofs.Ytgffegcflibclaa
