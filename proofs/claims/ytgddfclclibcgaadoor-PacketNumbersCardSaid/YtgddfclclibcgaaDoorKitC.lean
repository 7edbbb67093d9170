/-
  Contracts of the kit's functions on lists of bytes: kept lists, lists that are written over; entries.
-/
import Derived.Test.YtgddfclclibcgaaDoorKitB
namespace Go.Proofs.YtgddfclclibcgaaDoor.kit
open Go.RowKit Go.Proofs.YtgddfclclibcgaaDoor.mem
set_option linter.unusedVariables false

theorem vb_cell (l : List UInt8) (k : Nat) (h : k < l.length) : (vb l).toArray[k]? = some (.int .u8 (l[k].toNat : Int)) := by simp [vb, h]
theorem lm_left (l m : List UInt8) (k : Nat) (h : k < l.length) : (vb (l ++ m)).toArray[k]? = some (.int .u8 (l[k].toNat : Int)) := by
  rw [vb_cell (l ++ m) k (by simp; omega), List.getElem_append_left h]
theorem lm_right (l : List UInt8) (k : Nat) (h : l.length ≤ k) (h2 : k < l.length + 12) : (vb (l ++ marks 1 12)).toArray[k]? = some (.int .u8 ((mkB 1 ((k - l.length : Nat) : Int)).toNat : Int)) := by
  rw [vb_cell (l ++ marks 1 12) k (by simp [marks_length]; omega), List.getElem_append_right h, marks_get]

set_option maxRecDepth 100000 in
theorem kept_any (g : Nat) (B : Option Addr) (d : Nat) (l : List UInt8) (w : World) (hl : l.length ≤ 1099511627776) (hg : Blk w g 5 (vb (l ++ marks 1 12)).toArray) (hB : Reads w w.heap.size 1 B l.length (vb l)) :
    Calls Tryd.prog 10 #[.slice (some ⟨g, 0, none⟩) l.length (l.length + 12), .slice B l.length d] w fun e w' => e = .returned (.bool true) ∧ New w w' := by
  go_enter Tryd.func10, Tryd.ntmps10
  go_wp2
  go_loopw [6] (fun i wr => ∃ k : Nat, k ≤ l.length + 12 ∧ i = .int .i64 k ∧ New w wr) (fun i _ => l.length + 12 - (intOf i).toNat)
  case atStart => exact ⟨0, Nat.zero_le _, rfl, new_refl _⟩
  case round =>
    obtain ⟨k, hk, rfl, hn⟩ := hrel
    have hgk := (hg.below hn hg.lt).cell k
    by_cases hlt : k < l.length
    · obtain ⟨b, u', rfl, hb, hx', hc'⟩ := hB.at_ hlt
      rw [vb_get l k hlt] at hx'
      injection hx' with hx'
      subst hx'
      have h2 := (hn.cell (p := b.add k) (by rw [block_of_add]; exact hb)).trans hc'
      rw [lm_left l _ k hlt] at hgk
      have hd : decide (k < l.length) = true := by simpa using hlt
      have hd2 : decide (l.length ≤ k) = false := by simpa using hlt
      clear hc' hg hB
      go_wp2
      go_quiet (fail)
      go_wp2
      go_roundw
      case rel => exact ⟨k + 1, by omega, by go_num, hn.drewN _⟩
      case measure => simp [intOf]; omega
    · by_cases hlt2 : k < l.length + 12
      · rw [lm_right l k (by omega) hlt2] at hgk
        have hd : decide (k < l.length) = false := by simpa using hlt
        have hd2 : decide (l.length ≤ k) = true := by simp; omega
        have hs : ((k : Int) - (l.length : Int)) = ((k - l.length : Nat) : Int) := by omega
        have hm := fun W => markByte_any 1 ((k - l.length : Nat) : Int) W
        rw [← hs] at hm hgk
        clear hs hg hB
        have HM := Lib.hid hm
        clear hm
        go_wp2
        go_quiet ((go_at_call 17; exact Calls.quiet_of_same ((HM.out _).mono (fun _ _ h => ⟨h.1, h.2.symm⟩))))
        go_wp2
        go_roundw
        case rel => exact ⟨k + 1, by omega, by go_num, hn.drewN _⟩
        case measure => simp [intOf]; omega
      · obtain rfl : k = l.length + 12 := by omega
        go_wp2
        go_ret
        exact ⟨rfl, hn⟩

end Go.Proofs.YtgddfclclibcgaaDoor.kit
