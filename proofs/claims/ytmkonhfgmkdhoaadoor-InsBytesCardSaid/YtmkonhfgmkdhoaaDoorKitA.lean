/-
  Contracts of the kit's functions on lists of bytes, read alone.
-/
import Derived.Test.YtmkonhfgmkdhoaaDoorProg
import Derived.Test.YtmkonhfgmkdhoaaDoorMem
import Derived.BigQuiet
import Derived.Deep.QuietTactic
import Derived.IntWalk
namespace Go.Proofs.YtmkonhfgmkdhoaaDoor.kit
open Go.RowKit Go.Proofs.YtmkonhfgmkdhoaaDoor.mem
set_option linter.unusedVariables false

theorem same_any (A B : Option Addr) (c d : Nat) (l : List UInt8) (w : World) (hl : l.length ≤ 1099511627776) (hA : Reads w w.heap.size 1 A l.length (vb l)) (hB : Reads w w.heap.size 1 B l.length (vb l)) :
    Calls Tryd.prog 12 #[.slice A l.length c, .slice B l.length d] w fun e w' => e = .returned (.bool true) ∧ New w w' := by
  go_enter Tryd.func12, Tryd.ntmps12
  go_wp2
  go_loopw [5] (fun i wr => ∃ k : Nat, k ≤ l.length ∧ i = .int .i64 k ∧ New w wr) (fun i _ => l.length - (intOf i).toNat)
  case atStart => exact ⟨0, Nat.zero_le _, rfl, new_refl _⟩
  case round =>
    obtain ⟨k, hk, rfl, hn⟩ := hrel
    by_cases hlt : k < l.length
    · obtain ⟨a, u, rfl, ha, hx, hc⟩ := hA.at_ hlt
      obtain ⟨b, u', rfl, hb, hx', hc'⟩ := hB.at_ hlt
      have hu : u' = u := by rw [hx] at hx'; injection hx' with h; exact h.symm
      subst hu
      rw [vb_get l k hlt] at hx
      injection hx with hx
      subst hx
      have h1 := (hn.cell (p := a.add k) (by rw [block_of_add]; exact ha)).trans hc
      have h2 := (hn.cell (p := b.add k) (by rw [block_of_add]; exact hb)).trans hc'
      clear hx' hc hc'
      go_wp2
      go_quiet (fail)
      go_wp2
      go_roundw
      case rel => exact ⟨k + 1, by omega, by go_num, hn.drewN _⟩
      case measure => simp [intOf]; omega
    · go_wp2
      go_ret
      exact ⟨rfl, hn⟩

end Go.Proofs.YtmkonhfgmkdhoaaDoor.kit
