/-
  No cell of these rows narrows 'for every input' (looked for: loops, veiled, ifaces, maps, wideKeys, modest, calm, conditions, laid).
  DERIVED. THE GIVEN ROWS OF THIS SEAT. 6 by the template 'for every input the law returns true; each argument reads behind the call as it read before'; 0 by the template 'total and deterministic' (their statements: YtcodofmghbgoeaaTotals.lean).
  GIVEN WITH THE SEED: the statements are not yours to turn. If you find one false, say at which input.
  Laid BY PROGRAM, IN A SANDBOX (cutbox-rows.mjs): the forced cells as the released guide's own fill.sh prints them over the translation cbc017c64b978717… (all of the seat's roots in one cut). By AI agents, Wed Nov 11 2026. No macro, syntax, notation, axiom, sorry.
-/
import Derived.Test.YtcodofmghbgoeaaChecked
import GoSem.Claim
import GoSem.ClaimJoined
import GoSem.ClaimMapViews
import Derived.JoinedTies
import Derived.KernelRfl
namespace Go.Proofs.Ytcodofmghbgoeaa
/- THE CELL 'sum', in the pinned program and in every row, IS THE sha256 OF THE DUMP (.gsa) THAT YtcodofmghbgoeaaProg.lean LOADS. Nothing in Lean hashes anything: it is a label: what it is worth is what the hold of that sum in a sandbox is worth. -/
noncomputable def Try.pinned : Pinned := { name := "ytcodofmghbgoeaa", sum := "cbc017c64b978717f4bad36a678cb42194469e78cba639a3494f1212cd035192", checked := Try.checked }
namespace Rows
def none {H : Type} : Left H := { results := [], args := [] }

/-- 'cadenzalaw10.ResumeNames': WHATEVER THE INPUT: true; the input reads as it did. -/
def resumeNamesSpec : ChangeSpec := { name := "resumeNames", fn := fun _ => fun
  | [] => { results := [.lit (.bool true)], args := [] }
  | _ => none }
def resumeNamesRow : OpenClaim := { program := "ytcodofmghbgoeaa", sum := "cbc017c64b978717f4bad36a678cb42194469e78cba639a3494f1212cd035192", func := "cadenza/cadenzalaw10.ResumeNames", spec := "resumeNames", unfollowed := true, recurses := true, apart := false }
def ResumeNamesSaid : Prop := resumeNamesRow.holds Try.pinned (OpenSpec.ofChange resumeNamesSpec)

/-- ITS FALSE NEIGHBOUR: 'it returns false'. Refute it at one input. -/
def resumeNamesWrong : ChangeSpec := { name := "resumeNames", fn := fun _ => fun
  | [] => { results := [.lit (.bool false)], args := [] }
  | _ => none }
def ResumeNamesWrongFalsely : Prop := resumeNamesRow.holds Try.pinned (OpenSpec.ofChange resumeNamesWrong)

/-- 'cadenzalaw10.ResumeFeeds': WHATEVER THE INPUT: true; the input reads as it did. -/
def resumeFeedsSpec : ChangeSpec := { name := "resumeFeeds", fn := fun _ => fun
  | [d1, d2] => { results := [.lit (.bool true)], args := [d1, d2] }
  | _ => none }
def resumeFeedsRow : OpenClaim := { program := "ytcodofmghbgoeaa", sum := "cbc017c64b978717f4bad36a678cb42194469e78cba639a3494f1212cd035192", func := "cadenza/cadenzalaw10.ResumeFeeds", spec := "resumeFeeds", unfollowed := true, recurses := true, apart := false }
def ResumeFeedsSaid : Prop := resumeFeedsRow.holds Try.pinned (OpenSpec.ofChange resumeFeedsSpec)

/-- ITS FALSE NEIGHBOUR: 'it returns false'. Refute it at one input. -/
def resumeFeedsWrong : ChangeSpec := { name := "resumeFeeds", fn := fun _ => fun
  | [d1, d2] => { results := [.lit (.bool false)], args := [d1, d2] }
  | _ => none }
def ResumeFeedsWrongFalsely : Prop := resumeFeedsRow.holds Try.pinned (OpenSpec.ofChange resumeFeedsWrong)

/-- 'cadenzalaw10.ResumePieces': WHATEVER THE INPUT: true; the input reads as it did. -/
def resumePiecesSpec : ChangeSpec := { name := "resumePieces", fn := fun _ => fun
  | [d1, d2, d3] => { results := [.lit (.bool true)], args := [d1, d2, d3] }
  | _ => none }
def resumePiecesRow : OpenClaim := { program := "ytcodofmghbgoeaa", sum := "cbc017c64b978717f4bad36a678cb42194469e78cba639a3494f1212cd035192", func := "cadenza/cadenzalaw10.ResumePieces", spec := "resumePieces", unfollowed := true, recurses := true, apart := false }
def ResumePiecesSaid : Prop := resumePiecesRow.holds Try.pinned (OpenSpec.ofChange resumePiecesSpec)

/-- ITS FALSE NEIGHBOUR: 'it returns false'. Refute it at one input. -/
def resumePiecesWrong : ChangeSpec := { name := "resumePieces", fn := fun _ => fun
  | [d1, d2, d3] => { results := [.lit (.bool false)], args := [d1, d2, d3] }
  | _ => none }
def ResumePiecesWrongFalsely : Prop := resumePiecesRow.holds Try.pinned (OpenSpec.ofChange resumePiecesWrong)

/-- 'cadenzalaw10.ResumeBytes': WHATEVER THE INPUT: true; the input reads as it did. -/
def resumeBytesSpec : ChangeSpec := { name := "resumeBytes", fn := fun _ => fun
  | [d1, d2] => { results := [.lit (.bool true)], args := [d1, d2] }
  | _ => none }
def resumeBytesRow : OpenClaim := { program := "ytcodofmghbgoeaa", sum := "cbc017c64b978717f4bad36a678cb42194469e78cba639a3494f1212cd035192", func := "cadenza/cadenzalaw10.ResumeBytes", spec := "resumeBytes", unfollowed := true, recurses := true, apart := false }
def ResumeBytesSaid : Prop := resumeBytesRow.holds Try.pinned (OpenSpec.ofChange resumeBytesSpec)

/-- ITS FALSE NEIGHBOUR: 'it returns false'. Refute it at one input. -/
def resumeBytesWrong : ChangeSpec := { name := "resumeBytes", fn := fun _ => fun
  | [d1, d2] => { results := [.lit (.bool false)], args := [d1, d2] }
  | _ => none }
def ResumeBytesWrongFalsely : Prop := resumeBytesRow.holds Try.pinned (OpenSpec.ofChange resumeBytesWrong)

/-- 'cadenzalaw10.ResumeCoder': WHATEVER THE INPUT: true; the input reads as it did. -/
def resumeCoderSpec : ChangeSpec := { name := "resumeCoder", fn := fun _ => fun
  | [d1, d2] => { results := [.lit (.bool true)], args := [d1, d2] }
  | _ => none }
def resumeCoderRow : OpenClaim := { program := "ytcodofmghbgoeaa", sum := "cbc017c64b978717f4bad36a678cb42194469e78cba639a3494f1212cd035192", func := "cadenza/cadenzalaw10.ResumeCoder", spec := "resumeCoder", unfollowed := true, recurses := true, apart := false }
def ResumeCoderSaid : Prop := resumeCoderRow.holds Try.pinned (OpenSpec.ofChange resumeCoderSpec)

/-- ITS FALSE NEIGHBOUR: 'it returns false'. Refute it at one input. -/
def resumeCoderWrong : ChangeSpec := { name := "resumeCoder", fn := fun _ => fun
  | [d1, d2] => { results := [.lit (.bool false)], args := [d1, d2] }
  | _ => none }
def ResumeCoderWrongFalsely : Prop := resumeCoderRow.holds Try.pinned (OpenSpec.ofChange resumeCoderWrong)

/-- 'cadenzalaw10.ResumeWaits': WHATEVER THE INPUT: true; the input reads as it did. -/
def resumeWaitsSpec : ChangeSpec := { name := "resumeWaits", fn := fun _ => fun
  | [d1, d2] => { results := [.lit (.bool true)], args := [d1, d2] }
  | _ => none }
def resumeWaitsRow : OpenClaim := { program := "ytcodofmghbgoeaa", sum := "cbc017c64b978717f4bad36a678cb42194469e78cba639a3494f1212cd035192", func := "cadenza/cadenzalaw10.ResumeWaits", spec := "resumeWaits", unfollowed := true, recurses := true, apart := false }
def ResumeWaitsSaid : Prop := resumeWaitsRow.holds Try.pinned (OpenSpec.ofChange resumeWaitsSpec)

/-- ITS FALSE NEIGHBOUR: 'it returns false'. Refute it at one input. -/
def resumeWaitsWrong : ChangeSpec := { name := "resumeWaits", fn := fun _ => fun
  | [d1, d2] => { results := [.lit (.bool false)], args := [d1, d2] }
  | _ => none }
def ResumeWaitsWrongFalsely : Prop := resumeWaitsRow.holds Try.pinned (OpenSpec.ofChange resumeWaitsWrong)

/- THE SECOND FORM. 'bulk': how many values and letters a reading holds, each counted each time it is reached (what is shared counts as often as it is met; a slice's spare places count too). A statement '..UptoSaid' is the law's where the arguments, and the package variables that the reading takes, are together of bulk at most 1048576: NARROWER than '..Said'. Prove '..Said' where nothing that the law and all that it calls make is longer than what came in: it says more and counts as full. Else prove '..UptoSaid'. A law counts once. -/
mutual
def uptoBulk {H : Type} : DataW H → Nat
  | .lit (.string bytes) => bytes.length + 1
  | .lit _ => 1
  | .nil => 1
  | .ptr d => uptoBulk d + 1
  | .slice elems spare => uptoBulkAll elems + uptoBulkAll spare + 1
  | .agg parts => uptoBulkAll parts + 1
  | .iface _ d => uptoBulk d + 1
  | .map entries => uptoBulkEntries entries + 1
  | .held _ => 1
def uptoBulkAll {H : Type} : List (DataW H) → Nat
  | [] => 0
  | d :: r => uptoBulk d + uptoBulkAll r
def uptoBulkEntries {H : Type} : List (Lit × DataW H) → Nat
  | [] => 0
  | x :: r => uptoBulkEntry x + uptoBulkEntries r
def uptoBulkEntry {H : Type} : Lit × DataW H → Nat
  | (.string bytes, d) => bytes.length + uptoBulk d + 1
  | (_, d) => uptoBulk d + 1
 end
def uptoSmall : (H : Type) → List (DataW H) → Bool := fun _ ds => decide (uptoBulkAll ds ≤ 1048576)
def OpenSpec.upto (s : _root_.Go.ChangeSpec) : _root_.Go.OpenSpec := { _root_.Go.OpenSpec.ofChange s with cond := some uptoSmall }

/-- 'cadenzalaw10.ResumeNames', WHERE WHAT IT READS IS OF BULK AT MOST 1048576: true; the input reads as it did. -/
def resumeNamesUptoRow : OpenClaim := { program := "ytcodofmghbgoeaa", sum := "cbc017c64b978717f4bad36a678cb42194469e78cba639a3494f1212cd035192", func := "cadenza/cadenzalaw10.ResumeNames", spec := "resumeNames", unfollowed := true, recurses := true, apart := false, narrowed := true }
def ResumeNamesUptoSaid : Prop := resumeNamesUptoRow.holds Try.pinned (OpenSpec.upto resumeNamesSpec)

/-- 'cadenzalaw10.ResumeFeeds', WHERE WHAT IT READS IS OF BULK AT MOST 1048576: true; the input reads as it did. -/
def resumeFeedsUptoRow : OpenClaim := { program := "ytcodofmghbgoeaa", sum := "cbc017c64b978717f4bad36a678cb42194469e78cba639a3494f1212cd035192", func := "cadenza/cadenzalaw10.ResumeFeeds", spec := "resumeFeeds", unfollowed := true, recurses := true, apart := false, narrowed := true }
def ResumeFeedsUptoSaid : Prop := resumeFeedsUptoRow.holds Try.pinned (OpenSpec.upto resumeFeedsSpec)

/-- 'cadenzalaw10.ResumePieces', WHERE WHAT IT READS IS OF BULK AT MOST 1048576: true; the input reads as it did. -/
def resumePiecesUptoRow : OpenClaim := { program := "ytcodofmghbgoeaa", sum := "cbc017c64b978717f4bad36a678cb42194469e78cba639a3494f1212cd035192", func := "cadenza/cadenzalaw10.ResumePieces", spec := "resumePieces", unfollowed := true, recurses := true, apart := false, narrowed := true }
def ResumePiecesUptoSaid : Prop := resumePiecesUptoRow.holds Try.pinned (OpenSpec.upto resumePiecesSpec)

/-- 'cadenzalaw10.ResumeBytes', WHERE WHAT IT READS IS OF BULK AT MOST 1048576: true; the input reads as it did. -/
def resumeBytesUptoRow : OpenClaim := { program := "ytcodofmghbgoeaa", sum := "cbc017c64b978717f4bad36a678cb42194469e78cba639a3494f1212cd035192", func := "cadenza/cadenzalaw10.ResumeBytes", spec := "resumeBytes", unfollowed := true, recurses := true, apart := false, narrowed := true }
def ResumeBytesUptoSaid : Prop := resumeBytesUptoRow.holds Try.pinned (OpenSpec.upto resumeBytesSpec)

/-- 'cadenzalaw10.ResumeCoder', WHERE WHAT IT READS IS OF BULK AT MOST 1048576: true; the input reads as it did. -/
def resumeCoderUptoRow : OpenClaim := { program := "ytcodofmghbgoeaa", sum := "cbc017c64b978717f4bad36a678cb42194469e78cba639a3494f1212cd035192", func := "cadenza/cadenzalaw10.ResumeCoder", spec := "resumeCoder", unfollowed := true, recurses := true, apart := false, narrowed := true }
def ResumeCoderUptoSaid : Prop := resumeCoderUptoRow.holds Try.pinned (OpenSpec.upto resumeCoderSpec)

/-- 'cadenzalaw10.ResumeWaits', WHERE WHAT IT READS IS OF BULK AT MOST 1048576: true; the input reads as it did. -/
def resumeWaitsUptoRow : OpenClaim := { program := "ytcodofmghbgoeaa", sum := "cbc017c64b978717f4bad36a678cb42194469e78cba639a3494f1212cd035192", func := "cadenza/cadenzalaw10.ResumeWaits", spec := "resumeWaits", unfollowed := true, recurses := true, apart := false, narrowed := true }
def ResumeWaitsUptoSaid : Prop := resumeWaitsUptoRow.holds Try.pinned (OpenSpec.upto resumeWaitsSpec)

end Rows
end Go.Proofs.Ytcodofmghbgoeaa
