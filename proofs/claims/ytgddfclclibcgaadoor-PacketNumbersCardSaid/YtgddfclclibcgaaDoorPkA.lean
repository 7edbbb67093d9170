/-
  Contracts of packet: sizes, places; what is caught.
-/
import Derived.Test.YtgddfclclibcgaaDoorKitC
import Derived.Defers
import Derived.Recover
import Derived.Lib.Builder
namespace Go.Proofs.YtgddfclclibcgaaDoor.pk
open Go.RowKit Go.Proofs.YtgddfclclibcgaaDoor.mem Go.Proofs.YtgddfclclibcgaaDoor.kit
set_option linter.unusedVariables false

/-! ### numbers at places, as mathematics -/
def isz (k : Int) : Bool := decide (k = 1) || decide (k = 2) || decide (k = 4) || decide (k = 8)
/-- What a place and a size are told. -/
def errM (n : Nat) (p k : Int) : Int := if isz k = false then 2 else if p < 0 ∨ (n : Int) - k < p then 112 else 0
theorem isz_cases {k : Int} (h : isz k = true) : k = 1 ∨ k = 2 ∨ k = 4 ∨ k = 8 := by simpa [isz, or_assoc] using h
theorem isz_rng {k : Int} (h : isz k = true) : 1 ≤ k ∧ k ≤ 8 := by rcases isz_cases h with rfl | rfl | rfl | rfl <;> decide

/-! ### the table -/
/-- The table of sizes, as it lies. -/
def SzT (w : World) : Prop := ∃ t fr, w.heap[0]? = some (.cells #[.int .i64 1, .int .i64 2, .int .i64 4, .int .i64 8] t fr)
theorem SzT.lt {w : World} (h : SzT w) : 0 < w.heap.size := by
  obtain ⟨t, fr, h⟩ := h
  exact (Array.getElem?_eq_some_iff.1 h).1
theorem SzT.new {w w' : World} (h : SzT w) (hn : New w w') : SzT w' := by
  have hlt := h.lt
  obtain ⟨t, fr, h⟩ := h
  exact ⟨t, fr, (hn.block _ hlt).trans h⟩
theorem alloc_new (w : World) (o : Obj) : New w (w.alloc o) := (new_refl w).alloc (Nat.le_refl _) o
theorem sizes_size : (Tryd.prog.info? 49).map (·.size) = some 4 := by kernel_rfl

def szs (i : Nat) : Int := [1, 2, 4, 8].getD i 0
theorem isz_szs {k : Int} : isz k = true ↔ ∃ i, i < 4 ∧ szs i = k := by
  constructor
  · intro h
    rcases isz_cases h with rfl | rfl | rfl | rfl
    · exact ⟨0, by decide, rfl⟩
    · exact ⟨1, by decide, rfl⟩
    · exact ⟨2, by decide, rfl⟩
    · exact ⟨3, by decide, rfl⟩
  · rintro ⟨i, hi, rfl⟩
    match i, hi with
    | 0, _ => decide
    | 1, _ => decide
    | 2, _ => decide
    | 3, _ => decide

theorem cells64 : (Tryd.prog.info? 3).map (·.size) = some 1 := by kernel_rfl
theorem plain64 : Tryd.prog.plainKey 3 = true := by kernel_rfl
theorem index_run (VS : Array Value) (k : Nat) (v : Value) (hk : k < 4) (hv : VS[k]? = some v) (W : World) : (Instr.index 49 (.agg VS) (.int .i64 (k : Int))).run Tryd.prog W = .ok v W := by
  have h1 : (0 : Int) ≤ (k : Int) ∧ (k : Int) < ((4 : Nat) : Int) := by omega
  cases hq : Tryd.prog.info? 3 with
  | none => have := cells64; rw [hq] at this; cases this
  | some i =>
    have hs : i.size = 1 := by have := cells64; rw [hq] at this; simpa using this
    have hz : (sizeOf 3).run Tryd.prog W = .ok 1 W := by simp [sizeOf, typeInfo, hq, hs]
    have hp := run_part_plain (P := Tryd.prog) plain64 hv (w := W)
    unfold Instr.index
    simp only [Sem.run_bind, asIntOf, Sem.run_pure, Result.andThen_ok, run_underlying Tryd.underlying49, if_pos h1, hz, Int.toNat_natCast, Nat.mul_one, hp]

set_option maxRecDepth 100000 in
set_option maxHeartbeats 1000000 in
theorem isSize_any (k : Int) (w : World) (h : SzT w) : Calls Tryd.prog 28 #[.int .i64 k] w fun e w' => e = .returned (.bool (isz k)) ∧ w = w' := by
  obtain ⟨t, fr, hb⟩ := h
  go_enter Tryd.func28, Tryd.ntmps28
  go_wp2_with (refine wpList_load_row rfl 49 _ rfl 0 rfl t #[.int .i64 1, .int .i64 2, .int .i64 4, .int .i64 8] fr _ hb Tryd.underlying49 rfl sizes_size ?_)
  go_loopw [6] (fun i wr => ∃ j : Nat, j ≤ 4 ∧ i = .int .i64 j ∧ (∀ m, m < j → szs m ≠ k) ∧ w = wr) (fun i _ => 4 - (intOf i).toNat)
  case atStart => exact ⟨0, Nat.zero_le _, rfl, fun m h => by omega, rfl⟩
  case round =>
    obtain ⟨j, hj, rfl, hno, rfl⟩ := hrel
    have HNO := Lib.hid hno
    clear hno
    by_cases hlt : j < 4
    · have t3 : (j : Int) < 4 := by omega
      have hidx := index_run #[.int .i64 1, .int .i64 2, .int .i64 4, .int .i64 8] j (.int .i64 (szs j)) hlt (by match j, hlt with | 0, _ => rfl | 1, _ => rfl | 2, _ => rfl | 3, _ => rfl)
      have HJ := Lib.hid hlt
      obtain ⟨x, hx⟩ : ∃ x, szs j = x := ⟨_, rfl⟩
      rw [hx] at hidx
      have HX := Lib.hid hx
      clear hx
      by_cases he : x = k
      · have HR : Hid (isz k = true) := Lib.hid (isz_szs.2 ⟨j, HJ.out, HX.out.trans he⟩)
        have he2 : (x == k) = true := by simpa using he
        clear he
        go_wp2
        go_ret
        exact ⟨by rw [HR.out]; rfl, rfl⟩
      · have HE : Hid (szs j ≠ k) := Lib.hid (by rw [HX.out]; exact he)
        go_wp2
        go_roundw
        case rel =>
          refine ⟨j + 1, by omega, by go_num, fun m hm => ?_, trivial⟩
          by_cases hmj : m = j
          · rw [hmj]; exact HE.out
          · exact HNO.out m (by omega)
        case measure => simp [intOf]; omega
    · obtain rfl : j = 4 := by omega
      have HR : Hid (isz k = false) := Lib.hid (by
        cases hz : isz k with
        | false => rfl
        | true =>
          obtain ⟨m, hm, e⟩ := isz_szs.1 hz
          exact absurd e (HNO.out m hm))
      go_wp2
      go_ret
      exact ⟨by rw [HR.out]; rfl, rfl⟩

/-! ### places -/
/-- A panic with an error. -/
def Fault (w : World) (x : Int) (e : Ending) (w' : World) : Prop := e = .panicked [{ v := .iface 32 (.int .i64 x), recovered := false }] ∧ w = w'

set_option maxRecDepth 100000 in
theorem number_arg (A : Option Addr) (n c : Nat) (p k : Int) (w : World) (h : SzT w) (hk : isz k = false) : Calls Tryd.prog 22 #[.slice A n c, .int .i64 p, .int .i64 k] w (Fault w 2) := by
  have HS := Lib.hid (hk ▸ isSize_any k w h)
  clear h hk
  go_enter Tryd.func22, Tryd.ntmps22
  go_wp2_with (go_at_call 28; (with_reducible refine HS.out.mono ?_); rintro e w1 ⟨rfl, rfl⟩)
  exact ⟨rfl, rfl, rfl⟩
set_option maxRecDepth 100000 in
theorem number_bounds (A : Option Addr) (n c : Nat) (p k : Int) (w : World) (h : SzT w) (hk : isz k = true) (hn : n ≤ maxLen) (hp : p < 0 ∨ (n : Int) - k < p) : Calls Tryd.prog 22 #[.slice A n c, .int .i64 p, .int .i64 k] w (Fault w 112) := by
  have HS := Lib.hid (hk ▸ isSize_any k w h)
  have hr := isz_rng hk
  unfold maxLen at hn
  have HR := Lib.hid hr
  clear h hk
  by_cases h0 : p < 0
  · have d0 : decide (p < 0) = true := by simpa using h0
    clear hp
    go_enter Tryd.func22, Tryd.ntmps22
    go_wp2_with (go_at_call 28; (with_reducible refine HS.out.mono ?_); rintro e w1 ⟨rfl, rfl⟩)
    exact ⟨rfl, rfl, rfl⟩
  · have d0 : decide (p < 0) = false := by simpa using h0
    have h1 : (n : Int) - k < p := by omega
    have d1 : decide ((n : Int) - k < p) = true := by simpa using h1
    clear hp
    go_enter Tryd.func22, Tryd.ntmps22
    go_wp2_with (go_at_call 28; (with_reducible refine HS.out.mono ?_); rintro e w1 ⟨rfl, rfl⟩)
    exact ⟨rfl, rfl, rfl⟩
set_option maxRecDepth 100000 in
theorem number_ok (g o n c p k : Nat) (w : World) (h : SzT w) (hk : isz (k : Int) = true) (hn : n ≤ c) (hc : c ≤ maxLen) (hp : p + k ≤ n) : Calls Tryd.prog 22 #[.slice (some ⟨g, o, none⟩) n c, .int .i64 (p : Int), .int .i64 (k : Int)] w fun e w' => e = .returned (.slice (some ⟨g, o + p, none⟩) k (c - p)) ∧ w = w' := by
  have HS := Lib.hid (hk ▸ isSize_any (k : Int) w h)
  have hr := isz_rng hk
  unfold maxLen at hc
  have d0 : decide ((p : Int) < 0) = false := by simp
  have h1 : ¬ ((n : Int) - (k : Int) < (p : Int)) := by omega
  have d1 : decide ((n : Int) - (k : Int) < (p : Int)) = false := by simpa using h1
  have hci : ¬ c = p := by omega
  have hb1 : p ≤ p + k := by omega
  have hb2 : p + k ≤ c := by omega
  have HR := Lib.hid hr
  clear h hk hr
  go_enter Tryd.func22, Tryd.ntmps22
  go_wp2_with (go_at_call 28; (with_reducible refine HS.out.mono ?_); rintro e w1 ⟨rfl, rfl⟩)
  go_ret
  have e : p + k - p = k := by omega
  exact ⟨by rw [e]; rfl, rfl⟩
end Go.Proofs.YtgddfclclibcgaaDoor.pk
