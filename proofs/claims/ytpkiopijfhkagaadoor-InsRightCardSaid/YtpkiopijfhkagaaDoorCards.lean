/-
  DERIVED. GIVEN WITH THE SEED: THE CARDS: each row of YtpkiopijfhkagaaDoorRows.lean that lists a variable, with what it lists TIED to the program's text (the seventh form; the later family's looks); each row that meets fmt, with fmt's text TOLD by the authors' own Lean function (tested against real Go, not proved from fmt's source: count such statements apart). THE CARD IS WHAT COUNTS. Prove the row's statement (the work); the ties are given (YtpkiopijfhkagaaDoorTie.lean); close each card by the builder's one call (the guide's Derived/Test/ToyasCard.lean, 'card_holds'). Laid BY PROGRAM, IN A SANDBOX (cutbox-door.mjs). By AI agents, Wed Nov 11 2026. No macro, syntax, notation, axiom, sorry.
-/
import Derived.Test.YtpkiopijfhkagaaDoorRows
import GoSem.ClaimSeven
namespace Go.Proofs.YtpkiopijfhkagaaDoor
namespace Rows

/-- THE TIED CARD OF 'barbicanlaw02.WireReads'. -/
def wireReadsCard : Claim7 := { stood := { row := wireReadsRow, standIns := [], harness := (true, "33ce0eae8a041ce9dce83ac9e9ea4aa165c32d7cbffc5f99baee67a5e4fe0751"), looks := false }, kinds := [], alts := [], laidByText := true, laidKinds := [.sentinel], laidTests := true, laidLooks := .later }
def WireReadsCardSaid : Prop := Claim7.holds Tryd.pinned (.plain (OpenSpec.ofChange wireReadsSpec)) wireReadsCard

/-- THE TIED CARD OF 'barbicanlaw06.InsRight'. -/
def insRightCard : Claim7 := { stood := { row := insRightRow, standIns := [], harness := (true, "33ce0eae8a041ce9dce83ac9e9ea4aa165c32d7cbffc5f99baee67a5e4fe0751"), looks := false }, kinds := [], alts := [], laidByText := true, laidKinds := [.data, .data], laidTests := true, laidLooks := .later }
def InsRightCardSaid : Prop := Claim7.holds Tryd.pinned (.plain (OpenSpec.ofChange insRightSpec)) insRightCard

/-- THE TIED CARD OF 'barbicanlaw06.InsBytes'. -/
def insBytesCard : Claim7 := { stood := { row := insBytesRow, standIns := [], harness := (true, "33ce0eae8a041ce9dce83ac9e9ea4aa165c32d7cbffc5f99baee67a5e4fe0751"), looks := false }, kinds := [], alts := [], laidByText := true, laidKinds := [.data, .data], laidTests := true, laidLooks := .later }
def InsBytesCardSaid : Prop := Claim7.holds Tryd.pinned (.plain (OpenSpec.ofChange insBytesSpec)) insBytesCard

/-- THE TIED CARD OF 'barbicanlaw06.InsLong'. -/
def insLongCard : Claim7 := { stood := { row := insLongRow, standIns := [], harness := (true, "33ce0eae8a041ce9dce83ac9e9ea4aa165c32d7cbffc5f99baee67a5e4fe0751"), looks := false }, kinds := [], alts := [], laidByText := true, laidKinds := [.data, .data], laidTests := true, laidLooks := .later }
def InsLongCardSaid : Prop := Claim7.holds Tryd.pinned (.plain (OpenSpec.ofChange insLongSpec)) insLongCard

/-- THE TIED CARD OF 'barbicanlaw06.InsBack'. -/
def insBackCard : Claim7 := { stood := { row := insBackRow, standIns := [], harness := (true, "33ce0eae8a041ce9dce83ac9e9ea4aa165c32d7cbffc5f99baee67a5e4fe0751"), looks := false }, kinds := [], alts := [], laidByText := true, laidKinds := [.data, .data], laidTests := true, laidLooks := .later }
def InsBackCardSaid : Prop := Claim7.holds Tryd.pinned (.plain (OpenSpec.ofChange insBackSpec)) insBackCard

/-- THE TIED CARD OF 'barbicanlaw06.InsEach'. -/
def insEachCard : Claim7 := { stood := { row := insEachRow, standIns := [], harness := (true, "33ce0eae8a041ce9dce83ac9e9ea4aa165c32d7cbffc5f99baee67a5e4fe0751"), looks := false }, kinds := [], alts := [], laidByText := true, laidKinds := [.data, .data], laidTests := true, laidLooks := .later }
def InsEachCardSaid : Prop := Claim7.holds Tryd.pinned (.plain (OpenSpec.ofChange insEachSpec)) insEachCard

/-- THE SECOND FORM's CARD OF 'barbicanlaw02.WireReads'. -/
def wireReadsUptoCard : Claim7 := { stood := { row := wireReadsUptoRow, standIns := [], harness := (true, "33ce0eae8a041ce9dce83ac9e9ea4aa165c32d7cbffc5f99baee67a5e4fe0751"), looks := false }, kinds := [], alts := [], laidByText := true, laidKinds := [.sentinel], laidTests := true, laidLooks := .later }
def WireReadsUptoCardSaid : Prop := Claim7.holds Tryd.pinned (.plain (OpenSpec.upto wireReadsSpec)) wireReadsUptoCard

/-- THE SECOND FORM's CARD OF 'barbicanlaw06.InsRight'. -/
def insRightUptoCard : Claim7 := { stood := { row := insRightUptoRow, standIns := [], harness := (true, "33ce0eae8a041ce9dce83ac9e9ea4aa165c32d7cbffc5f99baee67a5e4fe0751"), looks := false }, kinds := [], alts := [], laidByText := true, laidKinds := [.data, .data], laidTests := true, laidLooks := .later }
def InsRightUptoCardSaid : Prop := Claim7.holds Tryd.pinned (.plain (OpenSpec.upto insRightSpec)) insRightUptoCard

/-- THE SECOND FORM's CARD OF 'barbicanlaw06.InsBytes'. -/
def insBytesUptoCard : Claim7 := { stood := { row := insBytesUptoRow, standIns := [], harness := (true, "33ce0eae8a041ce9dce83ac9e9ea4aa165c32d7cbffc5f99baee67a5e4fe0751"), looks := false }, kinds := [], alts := [], laidByText := true, laidKinds := [.data, .data], laidTests := true, laidLooks := .later }
def InsBytesUptoCardSaid : Prop := Claim7.holds Tryd.pinned (.plain (OpenSpec.upto insBytesSpec)) insBytesUptoCard

/-- THE SECOND FORM's CARD OF 'barbicanlaw06.InsLong'. -/
def insLongUptoCard : Claim7 := { stood := { row := insLongUptoRow, standIns := [], harness := (true, "33ce0eae8a041ce9dce83ac9e9ea4aa165c32d7cbffc5f99baee67a5e4fe0751"), looks := false }, kinds := [], alts := [], laidByText := true, laidKinds := [.data, .data], laidTests := true, laidLooks := .later }
def InsLongUptoCardSaid : Prop := Claim7.holds Tryd.pinned (.plain (OpenSpec.upto insLongSpec)) insLongUptoCard

/-- THE SECOND FORM's CARD OF 'barbicanlaw06.InsBack'. -/
def insBackUptoCard : Claim7 := { stood := { row := insBackUptoRow, standIns := [], harness := (true, "33ce0eae8a041ce9dce83ac9e9ea4aa165c32d7cbffc5f99baee67a5e4fe0751"), looks := false }, kinds := [], alts := [], laidByText := true, laidKinds := [.data, .data], laidTests := true, laidLooks := .later }
def InsBackUptoCardSaid : Prop := Claim7.holds Tryd.pinned (.plain (OpenSpec.upto insBackSpec)) insBackUptoCard

/-- THE SECOND FORM's CARD OF 'barbicanlaw06.InsEach'. -/
def insEachUptoCard : Claim7 := { stood := { row := insEachUptoRow, standIns := [], harness := (true, "33ce0eae8a041ce9dce83ac9e9ea4aa165c32d7cbffc5f99baee67a5e4fe0751"), looks := false }, kinds := [], alts := [], laidByText := true, laidKinds := [.data, .data], laidTests := true, laidLooks := .later }
def InsEachUptoCardSaid : Prop := Claim7.holds Tryd.pinned (.plain (OpenSpec.upto insEachSpec)) insEachUptoCard
end Rows
end Go.Proofs.YtpkiopijfhkagaaDoor
