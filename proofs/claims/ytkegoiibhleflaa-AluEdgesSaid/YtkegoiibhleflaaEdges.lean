/-
  AluEdges, walked.
-/
import Derived.Test.YtkegoiibhleflaaLaws
namespace Go.Proofs.Ytkegoiibhleflaa.laws
open Go.ChangeShapes Go.WideShapes Go.ChangeAt Go.RowKit Go.Proofs.Ytkegoiibhleflaa.alu Go.Proofs.Ytkegoiibhleflaa.ends
set_option linter.unusedVariables false

def ECells (B : Nat) (wr : World) : Prop := B < wr.heap.size ∧ ∀ j, j < 20 → ∃ x : Int, 0 ≤ x ∧ x ≤ 18446744073709551615 ∧ wr.cell? ⟨B, j, none⟩ = some (.int .u64 x)
theorem ECells.new {B : Nat} {w w' : World} (h : ECells B w) (k : New w w') : ECells B w' :=
  ⟨Nat.lt_of_lt_of_le h.1 k.size, fun j hj => by obtain ⟨x, h0, h1, h2⟩ := h.2 j hj; exact ⟨x, h0, h1, (k.cell (p := ⟨B, j, none⟩) h.1).trans h2⟩⟩
theorem ECells.made (w : World) (t : TypeId) : ECells w.heap.size (w.alloc (.cells #[.int .u64 0, .int .u64 1, .int .u64 2, .int .u64 31, .int .u64 32, .int .u64 33, .int .u64 63, .int .u64 64, .int .u64 65, .int .u64 2147483647, .int .u64 2147483648, .int .u64 2147483649, .int .u64 4294967295, .int .u64 4294967296, .int .u64 4294967297, .int .u64 9223372036854775807, .int .u64 9223372036854775808, .int .u64 9223372036854775809, .int .u64 18446744073709551614, .int .u64 18446744073709551615] t)) := by
  refine ⟨by simp, fun j hj => ?_⟩
  have h : j = 0 ∨ j = 1 ∨ j = 2 ∨ j = 3 ∨ j = 4 ∨ j = 5 ∨ j = 6 ∨ j = 7 ∨ j = 8 ∨ j = 9 ∨ j = 10 ∨ j = 11 ∨ j = 12 ∨ j = 13 ∨ j = 14 ∨ j = 15 ∨ j = 16 ∨ j = 17 ∨ j = 18 ∨ j = 19 := by omega
  rcases h with rfl | rfl | rfl | rfl | rfl | rfl | rfl | rfl | rfl | rfl | rfl | rfl | rfl | rfl | rfl | rfl | rfl | rfl | rfl | rfl
  · exact ⟨0, by decide, by decide, by simp [go_sem]⟩
  · exact ⟨1, by decide, by decide, by simp [go_sem]⟩
  · exact ⟨2, by decide, by decide, by simp [go_sem]⟩
  · exact ⟨31, by decide, by decide, by simp [go_sem]⟩
  · exact ⟨32, by decide, by decide, by simp [go_sem]⟩
  · exact ⟨33, by decide, by decide, by simp [go_sem]⟩
  · exact ⟨63, by decide, by decide, by simp [go_sem]⟩
  · exact ⟨64, by decide, by decide, by simp [go_sem]⟩
  · exact ⟨65, by decide, by decide, by simp [go_sem]⟩
  · exact ⟨2147483647, by decide, by decide, by simp [go_sem]⟩
  · exact ⟨2147483648, by decide, by decide, by simp [go_sem]⟩
  · exact ⟨2147483649, by decide, by decide, by simp [go_sem]⟩
  · exact ⟨4294967295, by decide, by decide, by simp [go_sem]⟩
  · exact ⟨4294967296, by decide, by decide, by simp [go_sem]⟩
  · exact ⟨4294967297, by decide, by decide, by simp [go_sem]⟩
  · exact ⟨9223372036854775807, by decide, by decide, by simp [go_sem]⟩
  · exact ⟨9223372036854775808, by decide, by decide, by simp [go_sem]⟩
  · exact ⟨9223372036854775809, by decide, by decide, by simp [go_sem]⟩
  · exact ⟨18446744073709551614, by decide, by decide, by simp [go_sem]⟩
  · exact ⟨18446744073709551615, by decide, by decide, by simp [go_sem]⟩

theorem AluEdges_walk (w : World) :
    Calls Try.prog 4 #[] w fun e w' => e = .returned (.bool true) ∧ New w w' := by
  go_enter Try.func4, Try.ntmps4
  go_wp2_with (first
    | (go_at_call 8; refine (awake_any _).mono ?_; rintro e w1 ⟨rfl, hb1⟩; have hn := New.then (a := w) (by go_grown) hb1))
  have hcells := ECells.made w1 23
  have hn1 := Below.alloc hn hn.size (.cells #[.int .u64 0, .int .u64 1, .int .u64 2, .int .u64 31, .int .u64 32, .int .u64 33, .int .u64 63, .int .u64 64, .int .u64 65, .int .u64 2147483647, .int .u64 2147483648, .int .u64 2147483649, .int .u64 4294967295, .int .u64 4294967296, .int .u64 4294967297, .int .u64 9223372036854775807, .int .u64 9223372036854775808, .int .u64 9223372036854775809, .int .u64 18446744073709551614, .int .u64 18446744073709551615] 23)
  revert hcells hn1
  generalize w1.heap.size = Bk
  generalize w1.alloc _ = wA
  intro hcells hn1
  clear hn hb1
  go_loopw [2] (fun o wr => ∃ k : Nat, k ≤ 32 ∧ o = .int .i64 k ∧ New w wr ∧ ECells Bk wr) (fun o _ => 32 - (intOf o).toNat)
  case atStart => exact ⟨0, Nat.zero_le _, rfl, hn1, hcells⟩
  case round =>
    clear hn1 hcells
    obtain ⟨o, ho, rfl, hn, hcells⟩ := hrel
    by_cases hlt : o < 32
    · have bo : decide ((o : Int) < 32) = true := by simp; omega
      go_wp2_with fail
      obtain ⟨wo, rfl⟩ : ∃ wo : World, wo = wr := ⟨_, rfl⟩
      go_loopw [3] (fun i wr => ∃ k : Nat, k ≤ 20 ∧ i = .int .i64 k ∧ New w wr ∧ ECells Bk wr) (fun i _ => 20 - (intOf i).toNat)
      case atStart => exact ⟨0, Nat.zero_le _, rfl, hn, hcells⟩
      case round =>
        clear hn hcells
        obtain ⟨i, hi, rfl, hn, hcells⟩ := hrel
        by_cases hlti : i < 20
        · have bi : decide ((i : Int) < 20) = true := by simp; omega
          go_wp2_with fail
          obtain ⟨wp, rfl⟩ : ∃ wp : World, wp = wr := ⟨_, rfl⟩
          go_loopw [4] (fun i wr => ∃ k : Nat, k ≤ 20 ∧ i = .int .i64 k ∧ New w wr ∧ ECells Bk wr) (fun i _ => 20 - (intOf i).toNat)
          case atStart => exact ⟨0, Nat.zero_le _, rfl, hn, hcells⟩
          case round =>
            clear hn hcells
            obtain ⟨k, hk, rfl, hn, hcells⟩ := hrel
            by_cases hltk : k < 20
            · obtain ⟨x, x0, x1, hx⟩ := hcells.2 i hlti
              obtain ⟨y, y0, y1, hy⟩ := hcells.2 k hltk
              have hlt2 := hcells.1
              have bk : decide ((k : Int) < 20) = true := by simp; omega
              have i0 : (0 : Int) ≤ (i : Int) := by omega
              have i1 : (i : Int) < 20 := by omega
              have k0 : (0 : Int) ≤ (k : Int) := by omega
              have k1 : (k : Int) < 20 := by omega
              have HC := Lib.hid hcells
              clear hcells
              go_wp2_with fail
              go_region_held3 (fun w' => w'.cell? ⟨Bk, i, none⟩ = some (.int .u64 x) ∧ w'.cell? ⟨Bk, k, none⟩ = some (.int .u64 y))
                (go_keep)
                (first | (go_at_call 5; refine (AluSame_any _ _ _ x0 x1 y0 y1 _).mono ?_; rintro e w2 ⟨rfl, hb2⟩; have hx2 := ((bcell hb2).1 Bk i hlt2).trans hx; have hy2 := ((bcell hb2).1 Bk k hlt2).trans hy; have hn := New.then (a := w) (by go_grown) hb2; have HC2 := Lib.hid (ECells.new (show ECells Bk wr.drew from HC.out) hb2)))
              go_wp2
              go_roundw
              case rel => exact ⟨k + 1, by omega, by go_num, hn, HC2.out⟩
              case measure => simp [intOf]; omega
            · go_wp2
              go_roundw
              case rel => exact ⟨i + 1, by omega, by go_num, hn, hcells⟩
              case measure => simp [intOf]; omega
        · go_wp2
          go_roundw
          case rel => exact ⟨o + 1, by omega, by go_num, hn, hcells⟩
          case measure => simp [intOf]; omega
    · go_wp2
      go_ret
      exact ⟨rfl, hn⟩

end Go.Proofs.Ytkegoiibhleflaa.laws
