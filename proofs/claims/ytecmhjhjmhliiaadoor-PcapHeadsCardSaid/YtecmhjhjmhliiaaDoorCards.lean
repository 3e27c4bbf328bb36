/-
  DERIVED. GIVEN WITH THE SEED: THE CARDS: each row of YtecmhjhjmhliiaaDoorRows.lean that lists a variable, with what it lists TIED to the program's text (the seventh form; the later family's looks); each row that meets fmt, with fmt's text TOLD by the authors' own Lean function (tested against real Go, not proved from fmt's source: count such statements apart). THE CARD IS WHAT COUNTS. Prove the row's statement (the work); the ties are given (YtecmhjhjmhliiaaDoorTie.lean); close each card by the builder's one call (the guide's Derived/Test/ToyasCard.lean, 'card_holds'). Laid BY PROGRAM, IN A SANDBOX (cutbox-door.mjs). By AI agents, Wed Nov 11 2026. No macro, syntax, notation, axiom, sorry.
-/
import Derived.Test.YtecmhjhjmhliiaaDoorRows
import GoSem.ClaimSeven
namespace Go.Proofs.YtecmhjhjmhliiaaDoor
namespace Rows

/-- THE TIED CARD OF 'horologelaw08.PcapOpens'. -/
def pcapOpensCard : Claim7 := { stood := { row := pcapOpensRow, standIns := [], harness := (true, "942bd4511b5f36a47d5824d0f28d7a8c8aa64e6370810092ff6d361304a93ef5"), looks := false }, kinds := [], alts := [], laidByText := true, laidKinds := [.data], laidTests := true, laidLooks := .later }
def PcapOpensCardSaid : Prop := Claim7.holds Tryd.pinned (.plain (OpenSpec.ofChange pcapOpensSpec)) pcapOpensCard

/-- THE TIED CARD OF 'horologelaw08.PcapHeads'. -/
def pcapHeadsCard : Claim7 := { stood := { row := pcapHeadsRow, standIns := [], harness := (true, "942bd4511b5f36a47d5824d0f28d7a8c8aa64e6370810092ff6d361304a93ef5"), looks := false }, kinds := [], alts := [], laidByText := true, laidKinds := [.data], laidTests := true, laidLooks := .later }
def PcapHeadsCardSaid : Prop := Claim7.holds Tryd.pinned (.plain (OpenSpec.ofChange pcapHeadsSpec)) pcapHeadsCard

/-- THE TIED CARD OF 'horologelaw08.PcapTimes'. -/
def pcapTimesCard : Claim7 := { stood := { row := pcapTimesRow, standIns := [], harness := (true, "942bd4511b5f36a47d5824d0f28d7a8c8aa64e6370810092ff6d361304a93ef5"), looks := false }, kinds := [], alts := [], laidByText := true, laidKinds := [.data], laidTests := true, laidLooks := .later }
def PcapTimesCardSaid : Prop := Claim7.holds Tryd.pinned (.plain (OpenSpec.ofChange pcapTimesSpec)) pcapTimesCard

/-- THE TIED CARD OF 'horologelaw08.PcapBack'. -/
def pcapBackCard : Claim7 := { stood := { row := pcapBackRow, standIns := [], harness := (true, "942bd4511b5f36a47d5824d0f28d7a8c8aa64e6370810092ff6d361304a93ef5"), looks := false }, kinds := [], alts := [], laidByText := true, laidKinds := [.data], laidTests := true, laidLooks := .later }
def PcapBackCardSaid : Prop := Claim7.holds Tryd.pinned (.plain (OpenSpec.ofChange pcapBackSpec)) pcapBackCard

/-- THE SECOND FORM's CARD OF 'horologelaw08.PcapOpens'. -/
def pcapOpensUptoCard : Claim7 := { stood := { row := pcapOpensUptoRow, standIns := [], harness := (true, "942bd4511b5f36a47d5824d0f28d7a8c8aa64e6370810092ff6d361304a93ef5"), looks := false }, kinds := [], alts := [], laidByText := true, laidKinds := [.data], laidTests := true, laidLooks := .later }
def PcapOpensUptoCardSaid : Prop := Claim7.holds Tryd.pinned (.plain (OpenSpec.upto pcapOpensSpec)) pcapOpensUptoCard

/-- THE SECOND FORM's CARD OF 'horologelaw08.PcapHeads'. -/
def pcapHeadsUptoCard : Claim7 := { stood := { row := pcapHeadsUptoRow, standIns := [], harness := (true, "942bd4511b5f36a47d5824d0f28d7a8c8aa64e6370810092ff6d361304a93ef5"), looks := false }, kinds := [], alts := [], laidByText := true, laidKinds := [.data], laidTests := true, laidLooks := .later }
def PcapHeadsUptoCardSaid : Prop := Claim7.holds Tryd.pinned (.plain (OpenSpec.upto pcapHeadsSpec)) pcapHeadsUptoCard

/-- THE SECOND FORM's CARD OF 'horologelaw08.PcapTimes'. -/
def pcapTimesUptoCard : Claim7 := { stood := { row := pcapTimesUptoRow, standIns := [], harness := (true, "942bd4511b5f36a47d5824d0f28d7a8c8aa64e6370810092ff6d361304a93ef5"), looks := false }, kinds := [], alts := [], laidByText := true, laidKinds := [.data], laidTests := true, laidLooks := .later }
def PcapTimesUptoCardSaid : Prop := Claim7.holds Tryd.pinned (.plain (OpenSpec.upto pcapTimesSpec)) pcapTimesUptoCard

/-- THE SECOND FORM's CARD OF 'horologelaw08.PcapBack'. -/
def pcapBackUptoCard : Claim7 := { stood := { row := pcapBackUptoRow, standIns := [], harness := (true, "942bd4511b5f36a47d5824d0f28d7a8c8aa64e6370810092ff6d361304a93ef5"), looks := false }, kinds := [], alts := [], laidByText := true, laidKinds := [.data], laidTests := true, laidLooks := .later }
def PcapBackUptoCardSaid : Prop := Claim7.holds Tryd.pinned (.plain (OpenSpec.upto pcapBackSpec)) pcapBackUptoCard
end Rows
end Go.Proofs.YtecmhjhjmhliiaaDoor
