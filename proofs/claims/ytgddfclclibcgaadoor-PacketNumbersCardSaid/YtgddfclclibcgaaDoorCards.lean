/-
  DERIVED. GIVEN WITH THE SEED: THE CARDS: each row of YtgddfclclibcgaaDoorRows.lean that lists a variable, with what it lists TIED to the program's text (the seventh form; the later family's looks); each row that meets fmt, with fmt's text TOLD by the authors' own Lean function (tested against real Go, not proved from fmt's source: count such statements apart). THE CARD IS WHAT COUNTS. Prove the row's statement (the work); the ties are given (YtgddfclclibcgaaDoorTie.lean); close each card by the builder's one call (the guide's Derived/Test/ToyasCard.lean, 'card_holds'). Laid BY PROGRAM, IN A SANDBOX (cutbox-door.mjs). By AI agents, Wed Nov 11 2026. No macro, syntax, notation, axiom, sorry.
-/
import Derived.Test.YtgddfclclibcgaaDoorRows
import GoSem.ClaimSeven
namespace Go.Proofs.YtgddfclclibcgaaDoor
namespace Rows

/-- THE TIED CARD OF 'barbicanlaw09.PacketGets'. -/
def packetGetsCard : Claim7 := { stood := { row := packetGetsRow, standIns := [], harness := (true, "9cc52681b1f70956c7d2b8982334e70b6f94fc03e7674bb567e52711baf0b441"), looks := true }, kinds := [], alts := [], laidByText := true, laidKinds := [.data], laidTests := true, laidLooks := .later }
def PacketGetsCardSaid : Prop := Claim7.holds Tryd.pinned (.plain (OpenSpec.ofChange packetGetsSpec)) packetGetsCard

/-- THE TIED CARD OF 'barbicanlaw09.PacketSets'. -/
def packetSetsCard : Claim7 := { stood := { row := packetSetsRow, standIns := [], harness := (true, "9cc52681b1f70956c7d2b8982334e70b6f94fc03e7674bb567e52711baf0b441"), looks := true }, kinds := [], alts := [], laidByText := true, laidKinds := [.data], laidTests := true, laidLooks := .later }
def PacketSetsCardSaid : Prop := Claim7.holds Tryd.pinned (.plain (OpenSpec.ofChange packetSetsSpec)) packetSetsCard

/-- THE TIED CARD OF 'barbicanlaw09.PacketNumbers'. -/
def packetNumbersCard : Claim7 := { stood := { row := packetNumbersRow, standIns := [], harness := (true, "9cc52681b1f70956c7d2b8982334e70b6f94fc03e7674bb567e52711baf0b441"), looks := true }, kinds := [], alts := [], laidByText := true, laidKinds := [.data], laidTests := true, laidLooks := .later }
def PacketNumbersCardSaid : Prop := Claim7.holds Tryd.pinned (.plain (OpenSpec.ofChange packetNumbersSpec)) packetNumbersCard

/-- THE TIED CARD OF 'barbicanlaw09.PacketBack'. -/
def packetBackCard : Claim7 := { stood := { row := packetBackRow, standIns := [], harness := (true, "9cc52681b1f70956c7d2b8982334e70b6f94fc03e7674bb567e52711baf0b441"), looks := true }, kinds := [], alts := [], laidByText := true, laidKinds := [.data], laidTests := true, laidLooks := .later }
def PacketBackCardSaid : Prop := Claim7.holds Tryd.pinned (.plain (OpenSpec.ofChange packetBackSpec)) packetBackCard

/-- THE SECOND FORM's CARD OF 'barbicanlaw09.PacketGets'. -/
def packetGetsUptoCard : Claim7 := { stood := { row := packetGetsUptoRow, standIns := [], harness := (true, "9cc52681b1f70956c7d2b8982334e70b6f94fc03e7674bb567e52711baf0b441"), looks := true }, kinds := [], alts := [], laidByText := true, laidKinds := [.data], laidTests := true, laidLooks := .later }
def PacketGetsUptoCardSaid : Prop := Claim7.holds Tryd.pinned (.plain (OpenSpec.upto packetGetsSpec)) packetGetsUptoCard

/-- THE SECOND FORM's CARD OF 'barbicanlaw09.PacketSets'. -/
def packetSetsUptoCard : Claim7 := { stood := { row := packetSetsUptoRow, standIns := [], harness := (true, "9cc52681b1f70956c7d2b8982334e70b6f94fc03e7674bb567e52711baf0b441"), looks := true }, kinds := [], alts := [], laidByText := true, laidKinds := [.data], laidTests := true, laidLooks := .later }
def PacketSetsUptoCardSaid : Prop := Claim7.holds Tryd.pinned (.plain (OpenSpec.upto packetSetsSpec)) packetSetsUptoCard

/-- THE SECOND FORM's CARD OF 'barbicanlaw09.PacketNumbers'. -/
def packetNumbersUptoCard : Claim7 := { stood := { row := packetNumbersUptoRow, standIns := [], harness := (true, "9cc52681b1f70956c7d2b8982334e70b6f94fc03e7674bb567e52711baf0b441"), looks := true }, kinds := [], alts := [], laidByText := true, laidKinds := [.data], laidTests := true, laidLooks := .later }
def PacketNumbersUptoCardSaid : Prop := Claim7.holds Tryd.pinned (.plain (OpenSpec.upto packetNumbersSpec)) packetNumbersUptoCard

/-- THE SECOND FORM's CARD OF 'barbicanlaw09.PacketBack'. -/
def packetBackUptoCard : Claim7 := { stood := { row := packetBackUptoRow, standIns := [], harness := (true, "9cc52681b1f70956c7d2b8982334e70b6f94fc03e7674bb567e52711baf0b441"), looks := true }, kinds := [], alts := [], laidByText := true, laidKinds := [.data], laidTests := true, laidLooks := .later }
def PacketBackUptoCardSaid : Prop := Claim7.holds Tryd.pinned (.plain (OpenSpec.upto packetBackSpec)) packetBackUptoCard
end Rows
end Go.Proofs.YtgddfclclibcgaaDoor
