/-
  Contracts of the document's reader: Bytes.
-/
import Derived.Test.YtpkiopijfhkagaaGreatDoorRefR
import Derived.Test.YtpkiopijfhkagaaGreatDoorReadB
namespace Go.Proofs.YtpkiopijfhkagaaGreatDoor.rread
open Go.RowKit Go.Proofs.YtpkiopijfhkagaaGreatDoor.mem Go.Proofs.YtpkiopijfhkagaaGreatDoor.kit Go.Proofs.YtpkiopijfhkagaaGreatDoor.wire Go.Proofs.YtpkiopijfhkagaaGreatDoor.rd
set_option linter.unusedVariables false

/-- What a read that fails leaves: a bad reader, somewhere. -/
def FallR (w : World) (g : Nat) (l : List UInt8) (v : Value) (e : Ending) (w' : World) : Prop :=
  e = .returned v ∧ (∃ a', DR w' g l a' true) ∧ Ch (fun j => j = g) w w'

theorem DR.cells {w : World} {g : Nat} {l : List UInt8} {a : Nat} {b : Bool} (h : DR w g l a b) :
    ∃ A c, w.cell? ⟨g, 0, none⟩ = some (.slice A l.length c) ∧ w.cell? ⟨g, 1, none⟩ = some (.int .i64 (a : Int)) ∧ w.cell? ⟨g, 2, none⟩ = some (.bool b) ∧ w.frozen? ⟨g, 1, none⟩ = false ∧ w.frozen? ⟨g, 2, none⟩ = false ∧ a ≤ l.length := by
  obtain ⟨h1, A, c, hb, hr, hcc, ht⟩ := h
  exact ⟨A, c, (hb.cell 0).trans rfl, (hb.cell 1).trans rfl, (hb.cell 2).trans rfl, hb.frozen 1, hb.frozen 2, h1⟩

set_option maxRecDepth 100000 in
theorem bytes_bad (g : Nat) (l : List UInt8) (a : Nat) (b : Bool) (w : World) (hl : l.length ≤ 1099511627776) (hb : b = true ∨ l.length < a + 8) (h : DR w g l a b) :
    Calls Tryz.prog 27 #[.pointer (some ⟨g, 0, none⟩)] w (FallR w g l (.slice none 0 0)) := by
  have HN := Lib.hid (number_no g l a b w hl hb h)
  clear h
  go_enter Tryz.func27, Tryz.ntmps27
  go_wp2_with (go_at_call 25; refine HN.out.mono ?_; rintro e w1 ⟨rfl, hD, hch⟩; obtain ⟨A, c, c0, c1, c2, z1, z2, hle⟩ := hD.cells; have HD := Lib.hid hD; clear hD)
  go_quiet (fail)
  go_wp2
  go_ret
  exact ⟨rfl, ⟨a, (HD.out.new ((new_refl w1).drewN _)).fall⟩, (hch.drewN _).setCell (p := ⟨g, 2, none⟩) (fun _ => rfl) _⟩

set_option maxRecDepth 100000 in
theorem bytes_over (g : Nat) (l : List UInt8) (a : Nat) (w : World) (hl : l.length ≤ 1099511627776) (h8 : a + 8 ≤ l.length) (hv : numV (l.drop a) < 0 ∨ (l.length : Int) - ((a : Int) + 8) < numV (l.drop a)) (h : DR w g l a false) :
    Calls Tryz.prog 27 #[.pointer (some ⟨g, 0, none⟩)] w (FallR w g l (.slice none 0 0)) := by
  have HN := Lib.hid (number_ok g l a w hl h8 h)
  obtain ⟨n0, n1⟩ := numV_bd (l.drop a)
  clear h
  unfold NumR at HN
  generalize numV (l.drop a) = n at *
  by_cases hneg : n < 0
  · have hd : decide (n < 0) = true := by simpa using hneg
    go_enter Tryz.func27, Tryz.ntmps27
    go_wp2_with (go_at_call 25; refine HN.out.mono ?_; rintro e w1 ⟨rfl, hD, hch⟩; obtain ⟨A, c, c0, c1, c2, z1, z2, hle⟩ := hD.cells; have HD := Lib.hid hD; clear hD)
    go_quiet (fail)
    go_wp2
    go_ret
    exact ⟨rfl, ⟨a + 8, (HD.out.new ((new_refl w1).drewN _)).fall⟩, (hch.drewN _).setCell (p := ⟨g, 2, none⟩) (fun _ => rfl) _⟩
  · have hd : decide (n < 0) = false := by simpa using hneg
    have hd2 : decide ((l.length : Int) - ((a : Int) + 8) < n) = true := by simp; omega
    go_enter Tryz.func27, Tryz.ntmps27
    go_wp2_with (go_at_call 25; refine HN.out.mono ?_; rintro e w1 ⟨rfl, hD, hch⟩; obtain ⟨A, c, c0, c1, c2, z1, z2, hle⟩ := hD.cells; rw [Int.natCast_add] at c1; have HD := Lib.hid hD; clear hD)
    go_quiet (fail)
    go_wp2
    go_ret
    exact ⟨rfl, ⟨a + 8, (HD.out.new ((new_refl w1).drewN _)).fall⟩, (hch.drewN _).setCell (p := ⟨g, 2, none⟩) (fun _ => rfl) _⟩
end Go.Proofs.YtpkiopijfhkagaaGreatDoor.rread
