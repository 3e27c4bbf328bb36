/-
  DERIVED. GIVEN WITH THE SEED: THE CARDS: each row of YtfjfmcnnakfjnaaDoorRows.lean that lists a variable, with what it lists TIED to the program's text (the seventh form; the later family's looks); each row that meets fmt, with fmt's text TOLD by the authors' own Lean function (tested against real Go, not proved from fmt's source: count such statements apart). THE CARD IS WHAT COUNTS. Prove the row's statement (the work); the ties are given (YtfjfmcnnakfjnaaDoorTie.lean); close each card by the builder's one call (the guide's Derived/Test/ToyasCard.lean, 'card_holds'). Laid BY PROGRAM, IN A SANDBOX (cutbox-door.mjs). By AI agents, Wed Nov 11 2026. No macro, syntax, notation, axiom, sorry.
-/
import Derived.Test.YtfjfmcnnakfjnaaDoorRows
import GoSem.ClaimSeven
namespace Go.Proofs.YtfjfmcnnakfjnaaDoor
namespace Rows

/-- THE TIED CARD OF 'horologelaw04.TextNumbers'. -/
def textNumbersCard : Claim7 := { stood := { row := textNumbersRow, standIns := [], harness := (true, "f1dfc1e6747098907b5b5e20fae960b401d03fcd2de0122b838e1f4ff0b5396a"), looks := false }, kinds := [], alts := [], laidByText := true, laidKinds := [.data, .data, .data, .data, .pinned], laidTests := true, laidLooks := .later }
def TextNumbersCardSaid : Prop := Claim7.holds Tryd.pinned (.plain (OpenSpec.ofChange textNumbersSpec)) textNumbersCard

/-- THE TIED CARD OF 'horologelaw04.TextWides'. -/
def textWidesCard : Claim7 := { stood := { row := textWidesRow, standIns := [], harness := (true, "f1dfc1e6747098907b5b5e20fae960b401d03fcd2de0122b838e1f4ff0b5396a"), looks := false }, kinds := [], alts := [], laidByText := true, laidKinds := [.data, .data, .data, .data, .pinned], laidTests := true, laidLooks := .later }
def TextWidesCardSaid : Prop := Claim7.holds Tryd.pinned (.plain (OpenSpec.ofChange textWidesSpec)) textWidesCard

/-- THE TIED CARD OF 'horologelaw04.TextBytes'. -/
def textBytesCard : Claim7 := { stood := { row := textBytesRow, standIns := [], harness := (true, "f1dfc1e6747098907b5b5e20fae960b401d03fcd2de0122b838e1f4ff0b5396a"), looks := false }, kinds := [], alts := [], laidByText := true, laidKinds := [.data, .data, .data, .data, .pinned], laidTests := true, laidLooks := .later }
def TextBytesCardSaid : Prop := Claim7.holds Tryd.pinned (.plain (OpenSpec.ofChange textBytesSpec)) textBytesCard

/-- THE TIED CARD OF 'horologelaw04.TextBack'. -/
def textBackCard : Claim7 := { stood := { row := textBackRow, standIns := [], harness := (true, "f1dfc1e6747098907b5b5e20fae960b401d03fcd2de0122b838e1f4ff0b5396a"), looks := false }, kinds := [], alts := [], laidByText := true, laidKinds := [.data, .data, .data, .data, .pinned], laidTests := true, laidLooks := .later }
def TextBackCardSaid : Prop := Claim7.holds Tryd.pinned (.plain (OpenSpec.ofChange textBackSpec)) textBackCard

/-- THE SECOND FORM's CARD OF 'horologelaw04.TextNumbers'. -/
def textNumbersUptoCard : Claim7 := { stood := { row := textNumbersUptoRow, standIns := [], harness := (true, "f1dfc1e6747098907b5b5e20fae960b401d03fcd2de0122b838e1f4ff0b5396a"), looks := false }, kinds := [], alts := [], laidByText := true, laidKinds := [.data, .data, .data, .data, .pinned], laidTests := true, laidLooks := .later }
def TextNumbersUptoCardSaid : Prop := Claim7.holds Tryd.pinned (.plain (OpenSpec.upto textNumbersSpec)) textNumbersUptoCard

/-- THE SECOND FORM's CARD OF 'horologelaw04.TextWides'. -/
def textWidesUptoCard : Claim7 := { stood := { row := textWidesUptoRow, standIns := [], harness := (true, "f1dfc1e6747098907b5b5e20fae960b401d03fcd2de0122b838e1f4ff0b5396a"), looks := false }, kinds := [], alts := [], laidByText := true, laidKinds := [.data, .data, .data, .data, .pinned], laidTests := true, laidLooks := .later }
def TextWidesUptoCardSaid : Prop := Claim7.holds Tryd.pinned (.plain (OpenSpec.upto textWidesSpec)) textWidesUptoCard

/-- THE SECOND FORM's CARD OF 'horologelaw04.TextBytes'. -/
def textBytesUptoCard : Claim7 := { stood := { row := textBytesUptoRow, standIns := [], harness := (true, "f1dfc1e6747098907b5b5e20fae960b401d03fcd2de0122b838e1f4ff0b5396a"), looks := false }, kinds := [], alts := [], laidByText := true, laidKinds := [.data, .data, .data, .data, .pinned], laidTests := true, laidLooks := .later }
def TextBytesUptoCardSaid : Prop := Claim7.holds Tryd.pinned (.plain (OpenSpec.upto textBytesSpec)) textBytesUptoCard

/-- THE SECOND FORM's CARD OF 'horologelaw04.TextBack'. -/
def textBackUptoCard : Claim7 := { stood := { row := textBackUptoRow, standIns := [], harness := (true, "f1dfc1e6747098907b5b5e20fae960b401d03fcd2de0122b838e1f4ff0b5396a"), looks := false }, kinds := [], alts := [], laidByText := true, laidKinds := [.data, .data, .data, .data, .pinned], laidTests := true, laidLooks := .later }
def TextBackUptoCardSaid : Prop := Claim7.holds Tryd.pinned (.plain (OpenSpec.upto textBackSpec)) textBackUptoCard
end Rows
end Go.Proofs.YtfjfmcnnakfjnaaDoor
