/-
  No cell of these rows narrows 'for every input' (looked for: loops, veiled, ifaces, maps, wideKeys, modest, calm, conditions, laid).
  DERIVED. THE GIVEN ROWS OF THIS SEAT. 10 by the template 'for every input the law returns true; each argument reads behind the call as it read before'; 0 by the template 'total and deterministic' (their statements: YtbhgibpocbmipaaTotals.lean).
  GIVEN WITH THE SEED: the statements are not yours to turn. If you find one false, say at which input.
  Laid BY PROGRAM, IN A SANDBOX (cutbox-rows.mjs): the forced cells as the released guide's own fill.sh prints them over the translation 98a930974baa419b… (all of the seat's roots in one cut). By AI agents, Wed Nov 11 2026. No macro, syntax, notation, axiom, sorry.
-/
import Derived.Test.YtbhgibpocbmipaaChecked
import GoSem.Claim
import GoSem.ClaimJoined
import GoSem.ClaimMapViews
import Derived.JoinedTies
import Derived.KernelRfl
namespace Go.Proofs.Ytbhgibpocbmipaa
/- THE CELL 'sum', in the pinned program and in every row, IS THE sha256 OF THE DUMP (.gsa) THAT YtbhgibpocbmipaaProg.lean LOADS. Nothing in Lean hashes anything: it is a label: what it is worth is what the hold of that sum in a sandbox is worth. -/
noncomputable def Try.pinned : Pinned := { name := "ytbhgibpocbmipaa", sum := "98a930974baa419b9e1945b189d7135411e6ad3fa32d727801f3c2d6892b06f9", checked := Try.checked }
namespace Rows
def none {H : Type} : Left H := { results := [], args := [] }

/-- 'horologelaw01.WideSums': WHATEVER THE INPUT: true; the input reads as it did. -/
def wideSumsSpec : ChangeSpec := { name := "wideSums", fn := fun _ => fun
  | [d1, d2, d3] => { results := [.lit (.bool true)], args := [d1, d2, d3] }
  | _ => none }
def wideSumsRow : OpenClaim := { program := "ytbhgibpocbmipaa", sum := "98a930974baa419b9e1945b189d7135411e6ad3fa32d727801f3c2d6892b06f9", func := "horologe/horologelaw01.WideSums", spec := "wideSums", inPlace := ["math/bits.Sub64", "math/bits.Add64"], unfollowed := true, recurses := true, named := ["math/bits.divideError", "math/bits.overflowError"], apart := false }
def WideSumsSaid : Prop := wideSumsRow.holds Try.pinned (OpenSpec.ofChange wideSumsSpec)

/-- ITS FALSE NEIGHBOUR: 'it returns false'. Refute it at one input. -/
def wideSumsWrong : ChangeSpec := { name := "wideSums", fn := fun _ => fun
  | [d1, d2, d3] => { results := [.lit (.bool false)], args := [d1, d2, d3] }
  | _ => none }
def WideSumsWrongFalsely : Prop := wideSumsRow.holds Try.pinned (OpenSpec.ofChange wideSumsWrong)

/-- 'horologelaw01.WideTimes': WHATEVER THE INPUT: true; the input reads as it did. -/
def wideTimesSpec : ChangeSpec := { name := "wideTimes", fn := fun _ => fun
  | [d1, d2, d3, d4] => { results := [.lit (.bool true)], args := [d1, d2, d3, d4] }
  | _ => none }
def wideTimesRow : OpenClaim := { program := "ytbhgibpocbmipaa", sum := "98a930974baa419b9e1945b189d7135411e6ad3fa32d727801f3c2d6892b06f9", func := "horologe/horologelaw01.WideTimes", spec := "wideTimes", inPlace := ["math/bits.Sub64", "math/bits.Add64"], unfollowed := true, recurses := true, named := ["math/bits.divideError", "math/bits.overflowError"], apart := false }
def WideTimesSaid : Prop := wideTimesRow.holds Try.pinned (OpenSpec.ofChange wideTimesSpec)

/-- ITS FALSE NEIGHBOUR: 'it returns false'. Refute it at one input. -/
def wideTimesWrong : ChangeSpec := { name := "wideTimes", fn := fun _ => fun
  | [d1, d2, d3, d4] => { results := [.lit (.bool false)], args := [d1, d2, d3, d4] }
  | _ => none }
def WideTimesWrongFalsely : Prop := wideTimesRow.holds Try.pinned (OpenSpec.ofChange wideTimesWrong)

/-- 'horologelaw01.WideParts': WHATEVER THE INPUT: true; the input reads as it did. -/
def widePartsSpec : ChangeSpec := { name := "wideParts", fn := fun _ => fun
  | [d1, d2] => { results := [.lit (.bool true)], args := [d1, d2] }
  | _ => none }
def widePartsRow : OpenClaim := { program := "ytbhgibpocbmipaa", sum := "98a930974baa419b9e1945b189d7135411e6ad3fa32d727801f3c2d6892b06f9", func := "horologe/horologelaw01.WideParts", spec := "wideParts", inPlace := ["math/bits.Sub64", "math/bits.Add64"], unfollowed := true, recurses := true, named := ["math/bits.divideError", "math/bits.overflowError"], apart := false }
def WidePartsSaid : Prop := widePartsRow.holds Try.pinned (OpenSpec.ofChange widePartsSpec)

/-- ITS FALSE NEIGHBOUR: 'it returns false'. Refute it at one input. -/
def widePartsWrong : ChangeSpec := { name := "wideParts", fn := fun _ => fun
  | [d1, d2] => { results := [.lit (.bool false)], args := [d1, d2] }
  | _ => none }
def WidePartsWrongFalsely : Prop := widePartsRow.holds Try.pinned (OpenSpec.ofChange widePartsWrong)

/-- 'horologelaw01.WideRoots': WHATEVER THE INPUT: true; the input reads as it did. -/
def wideRootsSpec : ChangeSpec := { name := "wideRoots", fn := fun _ => fun
  | [d1, d2, d3] => { results := [.lit (.bool true)], args := [d1, d2, d3] }
  | _ => none }
def wideRootsRow : OpenClaim := { program := "ytbhgibpocbmipaa", sum := "98a930974baa419b9e1945b189d7135411e6ad3fa32d727801f3c2d6892b06f9", func := "horologe/horologelaw01.WideRoots", spec := "wideRoots", inPlace := ["math/bits.Sub64", "math/bits.Add64"], unfollowed := true, recurses := true, named := ["math/bits.divideError", "math/bits.overflowError"], apart := false }
def WideRootsSaid : Prop := wideRootsRow.holds Try.pinned (OpenSpec.ofChange wideRootsSpec)

/-- ITS FALSE NEIGHBOUR: 'it returns false'. Refute it at one input. -/
def wideRootsWrong : ChangeSpec := { name := "wideRoots", fn := fun _ => fun
  | [d1, d2, d3] => { results := [.lit (.bool false)], args := [d1, d2, d3] }
  | _ => none }
def WideRootsWrongFalsely : Prop := wideRootsRow.holds Try.pinned (OpenSpec.ofChange wideRootsWrong)

/-- 'horologelaw02.FixMoments': WHATEVER THE INPUT: true; the input reads as it did. -/
def fixMomentsSpec : ChangeSpec := { name := "fixMoments", fn := fun _ => fun
  | [d1, d2, d3, d4] => { results := [.lit (.bool true)], args := [d1, d2, d3, d4] }
  | _ => none }
def fixMomentsRow : OpenClaim := { program := "ytbhgibpocbmipaa", sum := "98a930974baa419b9e1945b189d7135411e6ad3fa32d727801f3c2d6892b06f9", func := "horologe/horologelaw02.FixMoments", spec := "fixMoments", inPlace := ["math/bits.Sub64", "math/bits.Add64"], unfollowed := true, recurses := true, named := ["math/bits.divideError", "math/bits.overflowError"], apart := false }
def FixMomentsSaid : Prop := fixMomentsRow.holds Try.pinned (OpenSpec.ofChange fixMomentsSpec)

/-- ITS FALSE NEIGHBOUR: 'it returns false'. Refute it at one input. -/
def fixMomentsWrong : ChangeSpec := { name := "fixMoments", fn := fun _ => fun
  | [d1, d2, d3, d4] => { results := [.lit (.bool false)], args := [d1, d2, d3, d4] }
  | _ => none }
def FixMomentsWrongFalsely : Prop := fixMomentsRow.holds Try.pinned (OpenSpec.ofChange fixMomentsWrong)

/-- 'horologelaw02.FixParts': WHATEVER THE INPUT: true; the input reads as it did. -/
def fixPartsSpec : ChangeSpec := { name := "fixParts", fn := fun _ => fun
  | [d1, d2, d3] => { results := [.lit (.bool true)], args := [d1, d2, d3] }
  | _ => none }
def fixPartsRow : OpenClaim := { program := "ytbhgibpocbmipaa", sum := "98a930974baa419b9e1945b189d7135411e6ad3fa32d727801f3c2d6892b06f9", func := "horologe/horologelaw02.FixParts", spec := "fixParts", inPlace := ["math/bits.Sub64", "math/bits.Add64"], unfollowed := true, recurses := true, named := ["math/bits.divideError", "math/bits.overflowError"], apart := false }
def FixPartsSaid : Prop := fixPartsRow.holds Try.pinned (OpenSpec.ofChange fixPartsSpec)

/-- ITS FALSE NEIGHBOUR: 'it returns false'. Refute it at one input. -/
def fixPartsWrong : ChangeSpec := { name := "fixParts", fn := fun _ => fun
  | [d1, d2, d3] => { results := [.lit (.bool false)], args := [d1, d2, d3] }
  | _ => none }
def FixPartsWrongFalsely : Prop := fixPartsRow.holds Try.pinned (OpenSpec.ofChange fixPartsWrong)

/-- 'horologelaw02.FixExchanges': WHATEVER THE INPUT: true; the input reads as it did. -/
def fixExchangesSpec : ChangeSpec := { name := "fixExchanges", fn := fun _ => fun
  | [d1, d2, d3, d4] => { results := [.lit (.bool true)], args := [d1, d2, d3, d4] }
  | _ => none }
def fixExchangesRow : OpenClaim := { program := "ytbhgibpocbmipaa", sum := "98a930974baa419b9e1945b189d7135411e6ad3fa32d727801f3c2d6892b06f9", func := "horologe/horologelaw02.FixExchanges", spec := "fixExchanges", inPlace := ["math/bits.Sub64", "math/bits.Add64"], unfollowed := true, recurses := true, named := ["math/bits.divideError", "math/bits.overflowError"], apart := false }
def FixExchangesSaid : Prop := fixExchangesRow.holds Try.pinned (OpenSpec.ofChange fixExchangesSpec)

/-- ITS FALSE NEIGHBOUR: 'it returns false'. Refute it at one input. -/
def fixExchangesWrong : ChangeSpec := { name := "fixExchanges", fn := fun _ => fun
  | [d1, d2, d3, d4] => { results := [.lit (.bool false)], args := [d1, d2, d3, d4] }
  | _ => none }
def FixExchangesWrongFalsely : Prop := fixExchangesRow.holds Try.pinned (OpenSpec.ofChange fixExchangesWrong)

/-- 'horologelaw03.EraUnix': WHATEVER THE INPUT: true; the input reads as it did. -/
def eraUnixSpec : ChangeSpec := { name := "eraUnix", fn := fun _ => fun
  | [d1, d2, d3] => { results := [.lit (.bool true)], args := [d1, d2, d3] }
  | _ => none }
def eraUnixRow : OpenClaim := { program := "ytbhgibpocbmipaa", sum := "98a930974baa419b9e1945b189d7135411e6ad3fa32d727801f3c2d6892b06f9", func := "horologe/horologelaw03.EraUnix", spec := "eraUnix", inPlace := ["math/bits.Sub64", "math/bits.Add64"], unfollowed := true, recurses := true, named := ["math/bits.divideError", "math/bits.overflowError"], apart := false }
def EraUnixSaid : Prop := eraUnixRow.holds Try.pinned (OpenSpec.ofChange eraUnixSpec)

/-- ITS FALSE NEIGHBOUR: 'it returns false'. Refute it at one input. -/
def eraUnixWrong : ChangeSpec := { name := "eraUnix", fn := fun _ => fun
  | [d1, d2, d3] => { results := [.lit (.bool false)], args := [d1, d2, d3] }
  | _ => none }
def EraUnixWrongFalsely : Prop := eraUnixRow.holds Try.pinned (OpenSpec.ofChange eraUnixWrong)

/-- 'horologelaw03.EraBack': WHATEVER THE INPUT: true; the input reads as it did. -/
def eraBackSpec : ChangeSpec := { name := "eraBack", fn := fun _ => fun
  | [d1, d2, d3] => { results := [.lit (.bool true)], args := [d1, d2, d3] }
  | _ => none }
def eraBackRow : OpenClaim := { program := "ytbhgibpocbmipaa", sum := "98a930974baa419b9e1945b189d7135411e6ad3fa32d727801f3c2d6892b06f9", func := "horologe/horologelaw03.EraBack", spec := "eraBack", inPlace := ["math/bits.Sub64", "math/bits.Add64"], unfollowed := true, recurses := true, apart := false }
def EraBackSaid : Prop := eraBackRow.holds Try.pinned (OpenSpec.ofChange eraBackSpec)

/-- ITS FALSE NEIGHBOUR: 'it returns false'. Refute it at one input. -/
def eraBackWrong : ChangeSpec := { name := "eraBack", fn := fun _ => fun
  | [d1, d2, d3] => { results := [.lit (.bool false)], args := [d1, d2, d3] }
  | _ => none }
def EraBackWrongFalsely : Prop := eraBackRow.holds Try.pinned (OpenSpec.ofChange eraBackWrong)

/-- 'horologelaw03.EraOrder': WHATEVER THE INPUT: true; the input reads as it did. -/
def eraOrderSpec : ChangeSpec := { name := "eraOrder", fn := fun _ => fun
  | [d1, d2, d3, d4, d5, d6, d7] => { results := [.lit (.bool true)], args := [d1, d2, d3, d4, d5, d6, d7] }
  | _ => none }
def eraOrderRow : OpenClaim := { program := "ytbhgibpocbmipaa", sum := "98a930974baa419b9e1945b189d7135411e6ad3fa32d727801f3c2d6892b06f9", func := "horologe/horologelaw03.EraOrder", spec := "eraOrder", inPlace := ["math/bits.Sub64", "math/bits.Add64"], unfollowed := true, recurses := true, named := ["math/bits.divideError", "math/bits.overflowError"], apart := false }
def EraOrderSaid : Prop := eraOrderRow.holds Try.pinned (OpenSpec.ofChange eraOrderSpec)

/-- ITS FALSE NEIGHBOUR: 'it returns false'. Refute it at one input. -/
def eraOrderWrong : ChangeSpec := { name := "eraOrder", fn := fun _ => fun
  | [d1, d2, d3, d4, d5, d6, d7] => { results := [.lit (.bool false)], args := [d1, d2, d3, d4, d5, d6, d7] }
  | _ => none }
def EraOrderWrongFalsely : Prop := eraOrderRow.holds Try.pinned (OpenSpec.ofChange eraOrderWrong)

/- THE SECOND FORM. 'bulk': how many values and letters a reading holds, each counted each time it is reached (what is shared counts as often as it is met; a slice's spare places count too). A statement '..UptoSaid' is the law's where the arguments, and the package variables that the reading takes, are together of bulk at most 1048576: NARROWER than '..Said'. Prove '..Said' where nothing that the law and all that it calls make is longer than what came in: it says more and counts as full. Else prove '..UptoSaid'. A law counts once. -/
mutual
def uptoBulk {H : Type} : DataW H → Nat
  | .lit (.string bytes) => bytes.length + 1
  | .lit _ => 1
  | .nil => 1
  | .ptr d => uptoBulk d + 1
  | .slice elems spare => uptoBulkAll elems + uptoBulkAll spare + 1
  | .agg parts => uptoBulkAll parts + 1
  | .iface _ d => uptoBulk d + 1
  | .map entries => uptoBulkEntries entries + 1
  | .held _ => 1
def uptoBulkAll {H : Type} : List (DataW H) → Nat
  | [] => 0
  | d :: r => uptoBulk d + uptoBulkAll r
def uptoBulkEntries {H : Type} : List (Lit × DataW H) → Nat
  | [] => 0
  | x :: r => uptoBulkEntry x + uptoBulkEntries r
def uptoBulkEntry {H : Type} : Lit × DataW H → Nat
  | (.string bytes, d) => bytes.length + uptoBulk d + 1
  | (_, d) => uptoBulk d + 1
 end
def uptoSmall : (H : Type) → List (DataW H) → Bool := fun _ ds => decide (uptoBulkAll ds ≤ 1048576)
def OpenSpec.upto (s : _root_.Go.ChangeSpec) : _root_.Go.OpenSpec := { _root_.Go.OpenSpec.ofChange s with cond := some uptoSmall }

/-- 'horologelaw01.WideSums', WHERE WHAT IT READS IS OF BULK AT MOST 1048576: true; the input reads as it did. -/
def wideSumsUptoRow : OpenClaim := { program := "ytbhgibpocbmipaa", sum := "98a930974baa419b9e1945b189d7135411e6ad3fa32d727801f3c2d6892b06f9", func := "horologe/horologelaw01.WideSums", spec := "wideSums", inPlace := ["math/bits.Sub64", "math/bits.Add64"], unfollowed := true, recurses := true, named := ["math/bits.divideError", "math/bits.overflowError"], apart := false, narrowed := true }
def WideSumsUptoSaid : Prop := wideSumsUptoRow.holds Try.pinned (OpenSpec.upto wideSumsSpec)

/-- 'horologelaw01.WideTimes', WHERE WHAT IT READS IS OF BULK AT MOST 1048576: true; the input reads as it did. -/
def wideTimesUptoRow : OpenClaim := { program := "ytbhgibpocbmipaa", sum := "98a930974baa419b9e1945b189d7135411e6ad3fa32d727801f3c2d6892b06f9", func := "horologe/horologelaw01.WideTimes", spec := "wideTimes", inPlace := ["math/bits.Sub64", "math/bits.Add64"], unfollowed := true, recurses := true, named := ["math/bits.divideError", "math/bits.overflowError"], apart := false, narrowed := true }
def WideTimesUptoSaid : Prop := wideTimesUptoRow.holds Try.pinned (OpenSpec.upto wideTimesSpec)

/-- 'horologelaw01.WideParts', WHERE WHAT IT READS IS OF BULK AT MOST 1048576: true; the input reads as it did. -/
def widePartsUptoRow : OpenClaim := { program := "ytbhgibpocbmipaa", sum := "98a930974baa419b9e1945b189d7135411e6ad3fa32d727801f3c2d6892b06f9", func := "horologe/horologelaw01.WideParts", spec := "wideParts", inPlace := ["math/bits.Sub64", "math/bits.Add64"], unfollowed := true, recurses := true, named := ["math/bits.divideError", "math/bits.overflowError"], apart := false, narrowed := true }
def WidePartsUptoSaid : Prop := widePartsUptoRow.holds Try.pinned (OpenSpec.upto widePartsSpec)

/-- 'horologelaw01.WideRoots', WHERE WHAT IT READS IS OF BULK AT MOST 1048576: true; the input reads as it did. -/
def wideRootsUptoRow : OpenClaim := { program := "ytbhgibpocbmipaa", sum := "98a930974baa419b9e1945b189d7135411e6ad3fa32d727801f3c2d6892b06f9", func := "horologe/horologelaw01.WideRoots", spec := "wideRoots", inPlace := ["math/bits.Sub64", "math/bits.Add64"], unfollowed := true, recurses := true, named := ["math/bits.divideError", "math/bits.overflowError"], apart := false, narrowed := true }
def WideRootsUptoSaid : Prop := wideRootsUptoRow.holds Try.pinned (OpenSpec.upto wideRootsSpec)

/-- 'horologelaw02.FixMoments', WHERE WHAT IT READS IS OF BULK AT MOST 1048576: true; the input reads as it did. -/
def fixMomentsUptoRow : OpenClaim := { program := "ytbhgibpocbmipaa", sum := "98a930974baa419b9e1945b189d7135411e6ad3fa32d727801f3c2d6892b06f9", func := "horologe/horologelaw02.FixMoments", spec := "fixMoments", inPlace := ["math/bits.Sub64", "math/bits.Add64"], unfollowed := true, recurses := true, named := ["math/bits.divideError", "math/bits.overflowError"], apart := false, narrowed := true }
def FixMomentsUptoSaid : Prop := fixMomentsUptoRow.holds Try.pinned (OpenSpec.upto fixMomentsSpec)

/-- 'horologelaw02.FixParts', WHERE WHAT IT READS IS OF BULK AT MOST 1048576: true; the input reads as it did. -/
def fixPartsUptoRow : OpenClaim := { program := "ytbhgibpocbmipaa", sum := "98a930974baa419b9e1945b189d7135411e6ad3fa32d727801f3c2d6892b06f9", func := "horologe/horologelaw02.FixParts", spec := "fixParts", inPlace := ["math/bits.Sub64", "math/bits.Add64"], unfollowed := true, recurses := true, named := ["math/bits.divideError", "math/bits.overflowError"], apart := false, narrowed := true }
def FixPartsUptoSaid : Prop := fixPartsUptoRow.holds Try.pinned (OpenSpec.upto fixPartsSpec)

/-- 'horologelaw02.FixExchanges', WHERE WHAT IT READS IS OF BULK AT MOST 1048576: true; the input reads as it did. -/
def fixExchangesUptoRow : OpenClaim := { program := "ytbhgibpocbmipaa", sum := "98a930974baa419b9e1945b189d7135411e6ad3fa32d727801f3c2d6892b06f9", func := "horologe/horologelaw02.FixExchanges", spec := "fixExchanges", inPlace := ["math/bits.Sub64", "math/bits.Add64"], unfollowed := true, recurses := true, named := ["math/bits.divideError", "math/bits.overflowError"], apart := false, narrowed := true }
def FixExchangesUptoSaid : Prop := fixExchangesUptoRow.holds Try.pinned (OpenSpec.upto fixExchangesSpec)

/-- 'horologelaw03.EraUnix', WHERE WHAT IT READS IS OF BULK AT MOST 1048576: true; the input reads as it did. -/
def eraUnixUptoRow : OpenClaim := { program := "ytbhgibpocbmipaa", sum := "98a930974baa419b9e1945b189d7135411e6ad3fa32d727801f3c2d6892b06f9", func := "horologe/horologelaw03.EraUnix", spec := "eraUnix", inPlace := ["math/bits.Sub64", "math/bits.Add64"], unfollowed := true, recurses := true, named := ["math/bits.divideError", "math/bits.overflowError"], apart := false, narrowed := true }
def EraUnixUptoSaid : Prop := eraUnixUptoRow.holds Try.pinned (OpenSpec.upto eraUnixSpec)

/-- 'horologelaw03.EraBack', WHERE WHAT IT READS IS OF BULK AT MOST 1048576: true; the input reads as it did. -/
def eraBackUptoRow : OpenClaim := { program := "ytbhgibpocbmipaa", sum := "98a930974baa419b9e1945b189d7135411e6ad3fa32d727801f3c2d6892b06f9", func := "horologe/horologelaw03.EraBack", spec := "eraBack", inPlace := ["math/bits.Sub64", "math/bits.Add64"], unfollowed := true, recurses := true, apart := false, narrowed := true }
def EraBackUptoSaid : Prop := eraBackUptoRow.holds Try.pinned (OpenSpec.upto eraBackSpec)

/-- 'horologelaw03.EraOrder', WHERE WHAT IT READS IS OF BULK AT MOST 1048576: true; the input reads as it did. -/
def eraOrderUptoRow : OpenClaim := { program := "ytbhgibpocbmipaa", sum := "98a930974baa419b9e1945b189d7135411e6ad3fa32d727801f3c2d6892b06f9", func := "horologe/horologelaw03.EraOrder", spec := "eraOrder", inPlace := ["math/bits.Sub64", "math/bits.Add64"], unfollowed := true, recurses := true, named := ["math/bits.divideError", "math/bits.overflowError"], apart := false, narrowed := true }
def EraOrderUptoSaid : Prop := eraOrderUptoRow.holds Try.pinned (OpenSpec.upto eraOrderSpec)

end Rows
end Go.Proofs.Ytbhgibpocbmipaa
