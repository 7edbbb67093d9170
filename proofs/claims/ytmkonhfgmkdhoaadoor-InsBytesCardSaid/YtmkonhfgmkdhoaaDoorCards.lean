/-
  DERIVED. GIVEN WITH THE SEED: THE CARDS: each row of YtmkonhfgmkdhoaaDoorRows.lean that lists a variable, with what it lists TIED to the program's text (the seventh form; the later family's looks); each row that meets fmt, with fmt's text TOLD by the authors' own Lean function (tested against real Go, not proved from fmt's source: count such statements apart). THE CARD IS WHAT COUNTS. Prove the row's statement (the work); the ties are given (YtmkonhfgmkdhoaaDoorTie.lean); close each card by the builder's one call (the guide's Derived/Test/ToyasCard.lean, 'card_holds'). Laid BY PROGRAM, IN A SANDBOX (cutbox-door.mjs). By AI agents, Wed Nov 11 2026. No macro, syntax, notation, axiom, sorry.
-/
import Derived.Test.YtmkonhfgmkdhoaaDoorRows
import GoSem.ClaimSeven
namespace Go.Proofs.YtmkonhfgmkdhoaaDoor
namespace Rows

/-- THE TIED CARD OF 'barbicanlaw06.InsBytes'. -/
def insBytesCard : Claim7 := { stood := { row := insBytesRow, standIns := [], harness := (true, "a9e9d985ab0b762ad9e59611901b31ce2846c49faa583b8bae5c3395897ec403"), looks := false }, kinds := [], alts := [], laidByText := true, laidKinds := [.data, .data], laidTests := true, laidLooks := .later }
def InsBytesCardSaid : Prop := Claim7.holds Tryd.pinned (.plain (OpenSpec.ofChange insBytesSpec)) insBytesCard

/-- THE TIED CARD OF 'barbicanlaw06.InsEach'. -/
def insEachCard : Claim7 := { stood := { row := insEachRow, standIns := [], harness := (true, "a9e9d985ab0b762ad9e59611901b31ce2846c49faa583b8bae5c3395897ec403"), looks := false }, kinds := [], alts := [], laidByText := true, laidKinds := [.data, .data], laidTests := true, laidLooks := .later }
def InsEachCardSaid : Prop := Claim7.holds Tryd.pinned (.plain (OpenSpec.ofChange insEachSpec)) insEachCard

/-- THE SECOND FORM's CARD OF 'barbicanlaw06.InsBytes'. -/
def insBytesUptoCard : Claim7 := { stood := { row := insBytesUptoRow, standIns := [], harness := (true, "a9e9d985ab0b762ad9e59611901b31ce2846c49faa583b8bae5c3395897ec403"), looks := false }, kinds := [], alts := [], laidByText := true, laidKinds := [.data, .data], laidTests := true, laidLooks := .later }
def InsBytesUptoCardSaid : Prop := Claim7.holds Tryd.pinned (.plain (OpenSpec.upto insBytesSpec)) insBytesUptoCard

/-- THE SECOND FORM's CARD OF 'barbicanlaw06.InsEach'. -/
def insEachUptoCard : Claim7 := { stood := { row := insEachUptoRow, standIns := [], harness := (true, "a9e9d985ab0b762ad9e59611901b31ce2846c49faa583b8bae5c3395897ec403"), looks := false }, kinds := [], alts := [], laidByText := true, laidKinds := [.data, .data], laidTests := true, laidLooks := .later }
def InsEachUptoCardSaid : Prop := Claim7.holds Tryd.pinned (.plain (OpenSpec.upto insEachSpec)) insEachUptoCard
end Rows
end Go.Proofs.YtmkonhfgmkdhoaaDoor
