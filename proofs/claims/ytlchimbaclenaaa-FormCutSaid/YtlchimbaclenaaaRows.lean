/-
  No cell of these rows narrows 'for every input' (looked for: loops, veiled, ifaces, maps, wideKeys, modest, calm, conditions, laid).
  DERIVED. THE GIVEN ROWS OF THIS SEAT. 4 by the template 'for every input the law returns true; each argument reads behind the call as it read before'; 0 by the template 'total and deterministic' (their statements: YtlchimbaclenaaaTotals.lean).
  GIVEN WITH THE SEED: the statements are not yours to turn. If you find one false, say at which input.
  Laid BY PROGRAM, IN A SANDBOX (cutbox-rows.mjs): the forced cells as the released guide's own fill.sh prints them over the translation 9b3d99d1e35a1ed9… (all of the seat's roots in one cut). By AI agents, Wed Nov 11 2026. No macro, syntax, notation, axiom, sorry.
-/
import Derived.Test.YtlchimbaclenaaaChecked
import GoSem.Claim
import GoSem.ClaimJoined
import GoSem.ClaimMapViews
import Derived.JoinedTies
import Derived.KernelRfl
namespace Go.Proofs.Ytlchimbaclenaaa
/- THE CELL 'sum', in the pinned program and in every row, IS THE sha256 OF THE DUMP (.gsa) THAT YtlchimbaclenaaaProg.lean LOADS. Nothing in Lean hashes anything: it is a label: what it is worth is what the hold of that sum in a sandbox is worth. -/
noncomputable def Try.pinned : Pinned := { name := "ytlchimbaclenaaa", sum := "9b3d99d1e35a1ed9255b4ca385e0b88fec0fd9904b147b2bd9493f565e31e8db", checked := Try.checked }
namespace Rows
def none {H : Type} : Left H := { results := [], args := [] }

/-- 'barbicanlaw08.FormChecks': WHATEVER THE INPUT: true; the input reads as it did. -/
def formChecksSpec : ChangeSpec := { name := "formChecks", fn := fun _ => fun
  | [d] => { results := [.lit (.bool true)], args := [d] }
  | _ => none }
def formChecksRow : OpenClaim := { program := "ytlchimbaclenaaa", sum := "9b3d99d1e35a1ed9255b4ca385e0b88fec0fd9904b147b2bd9493f565e31e8db", func := "barbican/barbicanlaw08.FormChecks", spec := "formChecks", unfollowed := true, recurses := true, apart := false }
def FormChecksSaid : Prop := formChecksRow.holds Try.pinned (OpenSpec.ofChange formChecksSpec)

/-- ITS FALSE NEIGHBOUR: 'it returns false'. Refute it at one input. -/
def formChecksWrong : ChangeSpec := { name := "formChecks", fn := fun _ => fun
  | [d] => { results := [.lit (.bool false)], args := [d] }
  | _ => none }
def FormChecksWrongFalsely : Prop := formChecksRow.holds Try.pinned (OpenSpec.ofChange formChecksWrong)

/-- 'barbicanlaw08.FormLong': WHATEVER THE INPUT: true; the input reads as it did. -/
def formLongSpec : ChangeSpec := { name := "formLong", fn := fun _ => fun
  | [d1, d2] => { results := [.lit (.bool true)], args := [d1, d2] }
  | _ => none }
def formLongRow : OpenClaim := { program := "ytlchimbaclenaaa", sum := "9b3d99d1e35a1ed9255b4ca385e0b88fec0fd9904b147b2bd9493f565e31e8db", func := "barbican/barbicanlaw08.FormLong", spec := "formLong", unfollowed := true, recurses := true, apart := false }
def FormLongSaid : Prop := formLongRow.holds Try.pinned (OpenSpec.ofChange formLongSpec)

/-- ITS FALSE NEIGHBOUR: 'it returns false'. Refute it at one input. -/
def formLongWrong : ChangeSpec := { name := "formLong", fn := fun _ => fun
  | [d1, d2] => { results := [.lit (.bool false)], args := [d1, d2] }
  | _ => none }
def FormLongWrongFalsely : Prop := formLongRow.holds Try.pinned (OpenSpec.ofChange formLongWrong)

/-- 'barbicanlaw08.FormEnds': WHATEVER THE INPUT: true; the input reads as it did. -/
def formEndsSpec : ChangeSpec := { name := "formEnds", fn := fun _ => fun
  | [d1, d2, d3] => { results := [.lit (.bool true)], args := [d1, d2, d3] }
  | _ => none }
def formEndsRow : OpenClaim := { program := "ytlchimbaclenaaa", sum := "9b3d99d1e35a1ed9255b4ca385e0b88fec0fd9904b147b2bd9493f565e31e8db", func := "barbican/barbicanlaw08.FormEnds", spec := "formEnds", unfollowed := true, recurses := true, apart := false }
def FormEndsSaid : Prop := formEndsRow.holds Try.pinned (OpenSpec.ofChange formEndsSpec)

/-- ITS FALSE NEIGHBOUR: 'it returns false'. Refute it at one input. -/
def formEndsWrong : ChangeSpec := { name := "formEnds", fn := fun _ => fun
  | [d1, d2, d3] => { results := [.lit (.bool false)], args := [d1, d2, d3] }
  | _ => none }
def FormEndsWrongFalsely : Prop := formEndsRow.holds Try.pinned (OpenSpec.ofChange formEndsWrong)

/-- 'barbicanlaw08.FormCut': WHATEVER THE INPUT: true; the input reads as it did. -/
def formCutSpec : ChangeSpec := { name := "formCut", fn := fun _ => fun
  | [d1, d2] => { results := [.lit (.bool true)], args := [d1, d2] }
  | _ => none }
def formCutRow : OpenClaim := { program := "ytlchimbaclenaaa", sum := "9b3d99d1e35a1ed9255b4ca385e0b88fec0fd9904b147b2bd9493f565e31e8db", func := "barbican/barbicanlaw08.FormCut", spec := "formCut", unfollowed := true, recurses := true, apart := false }
def FormCutSaid : Prop := formCutRow.holds Try.pinned (OpenSpec.ofChange formCutSpec)

/-- ITS FALSE NEIGHBOUR: 'it returns false'. Refute it at one input. -/
def formCutWrong : ChangeSpec := { name := "formCut", fn := fun _ => fun
  | [d1, d2] => { results := [.lit (.bool false)], args := [d1, d2] }
  | _ => none }
def FormCutWrongFalsely : Prop := formCutRow.holds Try.pinned (OpenSpec.ofChange formCutWrong)

/- THE SECOND FORM. 'bulk': how many values and letters a reading holds, each counted each time it is reached (what is shared counts as often as it is met; a slice's spare places count too). A statement '..UptoSaid' is the law's where the arguments, and the package variables that the reading takes, are together of bulk at most 1048576: NARROWER than '..Said'. Prove '..Said' where nothing that the law and all that it calls make is longer than what came in: it says more and counts as full. Else prove '..UptoSaid'. A law counts once. -/
mutual
def uptoBulk {H : Type} : DataW H → Nat
  | .lit (.string bytes) => bytes.length + 1
  | .lit _ => 1
  | .nil => 1
  | .ptr d => uptoBulk d + 1
  | .slice elems spare => uptoBulkAll elems + uptoBulkAll spare + 1
  | .agg parts => uptoBulkAll parts + 1
  | .iface _ d => uptoBulk d + 1
  | .map entries => uptoBulkEntries entries + 1
  | .held _ => 1
def uptoBulkAll {H : Type} : List (DataW H) → Nat
  | [] => 0
  | d :: r => uptoBulk d + uptoBulkAll r
def uptoBulkEntries {H : Type} : List (Lit × DataW H) → Nat
  | [] => 0
  | x :: r => uptoBulkEntry x + uptoBulkEntries r
def uptoBulkEntry {H : Type} : Lit × DataW H → Nat
  | (.string bytes, d) => bytes.length + uptoBulk d + 1
  | (_, d) => uptoBulk d + 1
 end
def uptoSmall : (H : Type) → List (DataW H) → Bool := fun _ ds => decide (uptoBulkAll ds ≤ 1048576)
def OpenSpec.upto (s : _root_.Go.ChangeSpec) : _root_.Go.OpenSpec := { _root_.Go.OpenSpec.ofChange s with cond := some uptoSmall }

/-- 'barbicanlaw08.FormChecks', WHERE WHAT IT READS IS OF BULK AT MOST 1048576: true; the input reads as it did. -/
def formChecksUptoRow : OpenClaim := { program := "ytlchimbaclenaaa", sum := "9b3d99d1e35a1ed9255b4ca385e0b88fec0fd9904b147b2bd9493f565e31e8db", func := "barbican/barbicanlaw08.FormChecks", spec := "formChecks", unfollowed := true, recurses := true, apart := false, narrowed := true }
def FormChecksUptoSaid : Prop := formChecksUptoRow.holds Try.pinned (OpenSpec.upto formChecksSpec)

/-- 'barbicanlaw08.FormLong', WHERE WHAT IT READS IS OF BULK AT MOST 1048576: true; the input reads as it did. -/
def formLongUptoRow : OpenClaim := { program := "ytlchimbaclenaaa", sum := "9b3d99d1e35a1ed9255b4ca385e0b88fec0fd9904b147b2bd9493f565e31e8db", func := "barbican/barbicanlaw08.FormLong", spec := "formLong", unfollowed := true, recurses := true, apart := false, narrowed := true }
def FormLongUptoSaid : Prop := formLongUptoRow.holds Try.pinned (OpenSpec.upto formLongSpec)

/-- 'barbicanlaw08.FormEnds', WHERE WHAT IT READS IS OF BULK AT MOST 1048576: true; the input reads as it did. -/
def formEndsUptoRow : OpenClaim := { program := "ytlchimbaclenaaa", sum := "9b3d99d1e35a1ed9255b4ca385e0b88fec0fd9904b147b2bd9493f565e31e8db", func := "barbican/barbicanlaw08.FormEnds", spec := "formEnds", unfollowed := true, recurses := true, apart := false, narrowed := true }
def FormEndsUptoSaid : Prop := formEndsUptoRow.holds Try.pinned (OpenSpec.upto formEndsSpec)

/-- 'barbicanlaw08.FormCut', WHERE WHAT IT READS IS OF BULK AT MOST 1048576: true; the input reads as it did. -/
def formCutUptoRow : OpenClaim := { program := "ytlchimbaclenaaa", sum := "9b3d99d1e35a1ed9255b4ca385e0b88fec0fd9904b147b2bd9493f565e31e8db", func := "barbican/barbicanlaw08.FormCut", spec := "formCut", unfollowed := true, recurses := true, apart := false, narrowed := true }
def FormCutUptoSaid : Prop := formCutUptoRow.holds Try.pinned (OpenSpec.upto formCutSpec)

end Rows
end Go.Proofs.Ytlchimbaclenaaa
