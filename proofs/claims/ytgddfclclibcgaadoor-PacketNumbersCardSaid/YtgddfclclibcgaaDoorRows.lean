/-
  NARROWER THAN 'FOR EVERY INPUT', by the rows' own cells (each row's printed sentence says how): PacketGets: laid · PacketSets: laid · PacketNumbers: laid · PacketBack: laid.
  DERIVED. THE GIVEN ROWS OF THIS SEAT. 4 by the template 'for every input the law returns true; each argument reads behind the call as it read before'; 0 by the template 'total and deterministic' (their statements: YtgddfclclibcgaaDoorTotals.lean).
  GIVEN WITH THE SEED: the statements are not yours to turn. If you find one false, say at which input.
  Laid BY PROGRAM, IN A SANDBOX (cutbox-rows.mjs): the forced cells as the released guide's own fill.sh prints them over the translation 450b1fb04177bed0… (all of the seat's roots in one cut). By AI agents, Wed Nov 11 2026. No macro, syntax, notation, axiom, sorry.
-/
import Derived.Test.YtgddfclclibcgaaDoorChecked
import GoSem.Claim
import GoSem.ClaimJoined
import GoSem.ClaimMapViews
import Derived.JoinedTies
import Derived.KernelRfl
namespace Go.Proofs.YtgddfclclibcgaaDoor
/- THE CELL 'sum', in the pinned program and in every row, IS THE sha256 OF THE DUMP (.gsa) THAT YtgddfclclibcgaaDoorProg.lean LOADS. Nothing in Lean hashes anything: it is a label: what it is worth is what the hold of that sum in a sandbox is worth. -/
noncomputable def Tryd.pinned : Pinned := { name := "ytgddfclclibcgaadoor", sum := "450b1fb04177bed0b4b2b12f24c75a4f6d0cdf22a949f0c3db3ebcf782d21d05", checked := Tryd.checked }
namespace Rows
def none {H : Type} : Left H := { results := [], args := [] }

/- WHAT THE LISTED PACKAGE-LEVEL VARIABLES READ AS WHEN THE CALL BEGINS. Each datum BY PROGRAM (the guide's laid-datum.mjs) off the statement by which the dump's own 'gosem.cut.vars' lays the variable. In a bare row this is a premise. The card (YtgddfclclibcgaaDoorCards.lean) ties it to the program's text. -/
def laid_barbican_packet_sizes {H : Type} : DataW H := .agg [.lit (.int .i64 1), .lit (.int .i64 2), .lit (.int .i64 4), .lit (.int .i64 8)]

/-- 'barbicanlaw09.PacketGets': WHATEVER THE INPUT: true; the input reads as it did. -/
def packetGetsSpec : ChangeSpec := { name := "packetGets", fn := fun _ => fun
  | [d1, d2, d3] => { results := [.lit (.bool true)], args := [d1, d2, d3] }
  | _ => none }
def packetGetsRow : OpenClaim := { program := "ytgddfclclibcgaadoor", sum := "450b1fb04177bed0b4b2b12f24c75a4f6d0cdf22a949f0c3db3ebcf782d21d05", func := "barbican/barbicanlaw09.PacketGets", spec := "packetGets", unfollowed := true, recurses := true, named := ["barbican/packet.sizes"], apart := false, laid := [("barbican/packet.sizes", laid_barbican_packet_sizes)] }
def PacketGetsSaid : Prop := packetGetsRow.holds Tryd.pinned (OpenSpec.ofChange packetGetsSpec)

/-- ITS FALSE NEIGHBOUR: 'it returns false'. Refute it at one input. -/
def packetGetsWrong : ChangeSpec := { name := "packetGets", fn := fun _ => fun
  | [d1, d2, d3] => { results := [.lit (.bool false)], args := [d1, d2, d3] }
  | _ => none }
def PacketGetsWrongFalsely : Prop := packetGetsRow.holds Tryd.pinned (OpenSpec.ofChange packetGetsWrong)

/-- 'barbicanlaw09.PacketSets': WHATEVER THE INPUT: true; the input reads as it did. -/
def packetSetsSpec : ChangeSpec := { name := "packetSets", fn := fun _ => fun
  | [d1, d2, d3, d4] => { results := [.lit (.bool true)], args := [d1, d2, d3, d4] }
  | _ => none }
def packetSetsRow : OpenClaim := { program := "ytgddfclclibcgaadoor", sum := "450b1fb04177bed0b4b2b12f24c75a4f6d0cdf22a949f0c3db3ebcf782d21d05", func := "barbican/barbicanlaw09.PacketSets", spec := "packetSets", unfollowed := true, recurses := true, named := ["barbican/packet.sizes"], apart := false, laid := [("barbican/packet.sizes", laid_barbican_packet_sizes)] }
def PacketSetsSaid : Prop := packetSetsRow.holds Tryd.pinned (OpenSpec.ofChange packetSetsSpec)

/-- ITS FALSE NEIGHBOUR: 'it returns false'. Refute it at one input. -/
def packetSetsWrong : ChangeSpec := { name := "packetSets", fn := fun _ => fun
  | [d1, d2, d3, d4] => { results := [.lit (.bool false)], args := [d1, d2, d3, d4] }
  | _ => none }
def PacketSetsWrongFalsely : Prop := packetSetsRow.holds Tryd.pinned (OpenSpec.ofChange packetSetsWrong)

/-- 'barbicanlaw09.PacketNumbers': WHATEVER THE INPUT: true; the input reads as it did. -/
def packetNumbersSpec : ChangeSpec := { name := "packetNumbers", fn := fun _ => fun
  | [] => { results := [.lit (.bool true)], args := [] }
  | _ => none }
def packetNumbersRow : OpenClaim := { program := "ytgddfclclibcgaadoor", sum := "450b1fb04177bed0b4b2b12f24c75a4f6d0cdf22a949f0c3db3ebcf782d21d05", func := "barbican/barbicanlaw09.PacketNumbers", spec := "packetNumbers", unfollowed := true, recurses := true, named := ["barbican/packet.sizes"], apart := false, laid := [("barbican/packet.sizes", laid_barbican_packet_sizes)] }
def PacketNumbersSaid : Prop := packetNumbersRow.holds Tryd.pinned (OpenSpec.ofChange packetNumbersSpec)

/-- ITS FALSE NEIGHBOUR: 'it returns false'. Refute it at one input. -/
def packetNumbersWrong : ChangeSpec := { name := "packetNumbers", fn := fun _ => fun
  | [] => { results := [.lit (.bool false)], args := [] }
  | _ => none }
def PacketNumbersWrongFalsely : Prop := packetNumbersRow.holds Tryd.pinned (OpenSpec.ofChange packetNumbersWrong)

/-- 'barbicanlaw09.PacketBack': WHATEVER THE INPUT: true; the input reads as it did. -/
def packetBackSpec : ChangeSpec := { name := "packetBack", fn := fun _ => fun
  | [d1, d2, d3, d4] => { results := [.lit (.bool true)], args := [d1, d2, d3, d4] }
  | _ => none }
def packetBackRow : OpenClaim := { program := "ytgddfclclibcgaadoor", sum := "450b1fb04177bed0b4b2b12f24c75a4f6d0cdf22a949f0c3db3ebcf782d21d05", func := "barbican/barbicanlaw09.PacketBack", spec := "packetBack", unfollowed := true, recurses := true, named := ["barbican/packet.sizes"], apart := false, laid := [("barbican/packet.sizes", laid_barbican_packet_sizes)] }
def PacketBackSaid : Prop := packetBackRow.holds Tryd.pinned (OpenSpec.ofChange packetBackSpec)

/-- ITS FALSE NEIGHBOUR: 'it returns false'. Refute it at one input. -/
def packetBackWrong : ChangeSpec := { name := "packetBack", fn := fun _ => fun
  | [d1, d2, d3, d4] => { results := [.lit (.bool false)], args := [d1, d2, d3, d4] }
  | _ => none }
def PacketBackWrongFalsely : Prop := packetBackRow.holds Tryd.pinned (OpenSpec.ofChange packetBackWrong)

/- THE SECOND FORM. 'bulk': how many values and letters a reading holds, each counted each time it is reached (what is shared counts as often as it is met; a slice's spare places count too). A statement '..UptoSaid' is the law's where the arguments, and the package variables that the reading takes, are together of bulk at most 1048576: NARROWER than '..Said'. Prove '..Said' where nothing that the law and all that it calls make is longer than what came in: it says more and counts as full. Else prove '..UptoSaid'. A law counts once. -/
mutual
def uptoBulk {H : Type} : DataW H → Nat
  | .lit (.string bytes) => bytes.length + 1
  | .lit _ => 1
  | .nil => 1
  | .ptr d => uptoBulk d + 1
  | .slice elems spare => uptoBulkAll elems + uptoBulkAll spare + 1
  | .agg parts => uptoBulkAll parts + 1
  | .iface _ d => uptoBulk d + 1
  | .map entries => uptoBulkEntries entries + 1
  | .held _ => 1
def uptoBulkAll {H : Type} : List (DataW H) → Nat
  | [] => 0
  | d :: r => uptoBulk d + uptoBulkAll r
def uptoBulkEntries {H : Type} : List (Lit × DataW H) → Nat
  | [] => 0
  | x :: r => uptoBulkEntry x + uptoBulkEntries r
def uptoBulkEntry {H : Type} : Lit × DataW H → Nat
  | (.string bytes, d) => bytes.length + uptoBulk d + 1
  | (_, d) => uptoBulk d + 1
 end
def uptoSmall : (H : Type) → List (DataW H) → Bool := fun _ ds => decide (uptoBulkAll ds ≤ 1048576)
def OpenSpec.upto (s : _root_.Go.ChangeSpec) : _root_.Go.OpenSpec := { _root_.Go.OpenSpec.ofChange s with cond := some uptoSmall }

/-- 'barbicanlaw09.PacketGets', WHERE WHAT IT READS IS OF BULK AT MOST 1048576: true; the input reads as it did. -/
def packetGetsUptoRow : OpenClaim := { program := "ytgddfclclibcgaadoor", sum := "450b1fb04177bed0b4b2b12f24c75a4f6d0cdf22a949f0c3db3ebcf782d21d05", func := "barbican/barbicanlaw09.PacketGets", spec := "packetGets", unfollowed := true, recurses := true, named := ["barbican/packet.sizes"], apart := false, laid := [("barbican/packet.sizes", laid_barbican_packet_sizes)], narrowed := true }
def PacketGetsUptoSaid : Prop := packetGetsUptoRow.holds Tryd.pinned (OpenSpec.upto packetGetsSpec)

/-- 'barbicanlaw09.PacketSets', WHERE WHAT IT READS IS OF BULK AT MOST 1048576: true; the input reads as it did. -/
def packetSetsUptoRow : OpenClaim := { program := "ytgddfclclibcgaadoor", sum := "450b1fb04177bed0b4b2b12f24c75a4f6d0cdf22a949f0c3db3ebcf782d21d05", func := "barbican/barbicanlaw09.PacketSets", spec := "packetSets", unfollowed := true, recurses := true, named := ["barbican/packet.sizes"], apart := false, laid := [("barbican/packet.sizes", laid_barbican_packet_sizes)], narrowed := true }
def PacketSetsUptoSaid : Prop := packetSetsUptoRow.holds Tryd.pinned (OpenSpec.upto packetSetsSpec)

/-- 'barbicanlaw09.PacketNumbers', WHERE WHAT IT READS IS OF BULK AT MOST 1048576: true; the input reads as it did. -/
def packetNumbersUptoRow : OpenClaim := { program := "ytgddfclclibcgaadoor", sum := "450b1fb04177bed0b4b2b12f24c75a4f6d0cdf22a949f0c3db3ebcf782d21d05", func := "barbican/barbicanlaw09.PacketNumbers", spec := "packetNumbers", unfollowed := true, recurses := true, named := ["barbican/packet.sizes"], apart := false, laid := [("barbican/packet.sizes", laid_barbican_packet_sizes)], narrowed := true }
def PacketNumbersUptoSaid : Prop := packetNumbersUptoRow.holds Tryd.pinned (OpenSpec.upto packetNumbersSpec)

/-- 'barbicanlaw09.PacketBack', WHERE WHAT IT READS IS OF BULK AT MOST 1048576: true; the input reads as it did. -/
def packetBackUptoRow : OpenClaim := { program := "ytgddfclclibcgaadoor", sum := "450b1fb04177bed0b4b2b12f24c75a4f6d0cdf22a949f0c3db3ebcf782d21d05", func := "barbican/barbicanlaw09.PacketBack", spec := "packetBack", unfollowed := true, recurses := true, named := ["barbican/packet.sizes"], apart := false, laid := [("barbican/packet.sizes", laid_barbican_packet_sizes)], narrowed := true }
def PacketBackUptoSaid : Prop := packetBackUptoRow.holds Tryd.pinned (OpenSpec.upto packetBackSpec)

end Rows
end Go.Proofs.YtgddfclclibcgaaDoor
