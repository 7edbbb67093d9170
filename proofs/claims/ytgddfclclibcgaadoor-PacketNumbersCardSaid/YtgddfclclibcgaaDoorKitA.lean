/-
  Contracts of the kit's functions on lists of bytes, read alone.
-/
import Derived.Test.YtgddfclclibcgaaDoorProg
import Derived.Test.YtgddfclclibcgaaDoorMem
import Derived.BigQuiet
import Derived.Deep.QuietTactic
import Derived.IntWalk
namespace Go.Proofs.YtgddfclclibcgaaDoor.kit
open Go.RowKit Go.Proofs.YtgddfclclibcgaaDoor.mem
set_option linter.unusedVariables false

theorem pick_any (x n : Int) (w : World) (n1 : 1 ≤ n) (n2 : n ≤ 9223372036854775807) (x1 : -9223372036854775808 ≤ x) (x2 : x ≤ 9223372036854775807) :
    Calls Tryd.prog 12 #[.int .i64 x, .int .i64 n] w fun e w' => e = .returned (.int .i64 (x % n)) ∧ w = w' := by
  have h0 : ¬ n = 0 := by omega
  have h1 : ¬ n < 1 := by omega
  have ht : x.tmod n = if 0 ≤ x ∨ x % n = 0 then x % n else x % n - n := by
    rw [Int.tmod_eq_emod]
    by_cases hc : 0 ≤ x ∨ n ∣ x
    · rw [if_pos hc, if_pos (by rcases hc with h | h; exact Or.inl h; exact Or.inr (Int.emod_eq_zero_of_dvd h))]; simp
    · rw [if_neg hc, if_neg (by rintro (h | h); exact hc (Or.inl h); exact hc (Or.inr (Int.dvd_of_emod_eq_zero h)))]
      have : (n.natAbs : Int) = n := by omega
      omega
  have hm0 := Int.emod_nonneg x h0
  have hm1 := Int.emod_lt_of_pos x (show 0 < n by omega)
  by_cases hc : 0 ≤ x ∨ x % n = 0
  · rw [if_pos hc] at ht
    have ht0 : ¬ x.tmod n < 0 := by omega
    have H := Lib.hid ht
    clear ht hc
    go_enter Tryd.func12, Tryd.ntmps12
    go_wp2
    go_ret
    exact ⟨by simp [H.out], rfl⟩
  · rw [if_neg hc] at ht
    have ht0 : x.tmod n < 0 := by omega
    have ht1 : -9223372036854775808 ≤ x.tmod n + n := by omega
    have ht2 : x.tmod n + n ≤ 9223372036854775807 := by omega
    have H := Lib.hid ht
    clear ht hc
    go_enter Tryd.func12, Tryd.ntmps12
    go_wp2
    go_ret
    exact ⟨by simp [H.out], rfl⟩

theorem same_any (A B : Option Addr) (c d : Nat) (l : List UInt8) (w : World) (hl : l.length ≤ 1099511627776) (hA : Reads w w.heap.size 1 A l.length (vb l)) (hB : Reads w w.heap.size 1 B l.length (vb l)) :
    Calls Tryd.prog 16 #[.slice A l.length c, .slice B l.length d] w fun e w' => e = .returned (.bool true) ∧ New w w' := by
  go_enter Tryd.func16, Tryd.ntmps16
  go_wp2
  go_loopw [5] (fun i wr => ∃ k : Nat, k ≤ l.length ∧ i = .int .i64 k ∧ New w wr) (fun i _ => l.length - (intOf i).toNat)
  case atStart => exact ⟨0, Nat.zero_le _, rfl, new_refl _⟩
  case round =>
    obtain ⟨k, hk, rfl, hn⟩ := hrel
    by_cases hlt : k < l.length
    · obtain ⟨a, u, rfl, ha, hx, hc⟩ := hA.at_ hlt
      obtain ⟨b, u', rfl, hb, hx', hc'⟩ := hB.at_ hlt
      have hu : u' = u := by rw [hx] at hx'; injection hx' with h; exact h.symm
      subst hu
      rw [vb_get l k hlt] at hx
      injection hx with hx
      subst hx
      have h1 := (hn.cell (p := a.add k) (by rw [block_of_add]; exact ha)).trans hc
      have h2 := (hn.cell (p := b.add k) (by rw [block_of_add]; exact hb)).trans hc'
      clear hx' hc hc'
      go_wp2
      go_quiet (fail)
      go_wp2
      go_roundw
      case rel => exact ⟨k + 1, by omega, by go_num, hn.drewN _⟩
      case measure => simp [intOf]; omega
    · go_wp2
      go_ret
      exact ⟨rfl, hn⟩

end Go.Proofs.YtgddfclclibcgaaDoor.kit
