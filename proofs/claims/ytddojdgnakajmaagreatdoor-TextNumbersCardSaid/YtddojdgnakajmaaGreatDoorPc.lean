/-
  The document's Parse: a register, by its name.
-/
import Derived.Test.YtddojdgnakajmaaGreatDoorPb
namespace Go.Proofs.YtddojdgnakajmaaGreatDoor.txt
open Go.RowKit Go.Proofs.YtddojdgnakajmaaGreatDoor.mem Go.Proofs.YtddojdgnakajmaaGreatDoor.kit Go.Proofs.YtddojdgnakajmaaGreatDoor.ins
set_option linter.unusedVariables false
set_option linter.unusedSimpArgs false

def RegD (t : Bs) (w : World) (e : Ending) (w' : World) : Prop := ∃ n, e = .returned (.tuple #[.int .i64 n, .bool (regOf t).isSome]) ∧ I64 n ∧ (∀ m, regOf t = some m → n = m) ∧ New w w'
theorem RegD.no {t : Bs} {w w' : World} (h : regOf t = none) (n : Int) (hn : I64 n) (hw : New w w') : RegD t w (.returned (.tuple #[.int .i64 n, .bool false])) w' :=
  ⟨n, by rw [h]; rfl, hn, (fun m e => by rw [h] at e; cases e), hw⟩
theorem RegD.yes {t : Bs} {w w' : World} {m : Int} (h : regOf t = some m) (n : Int) (hn : n = m) (hi : I64 n) (hw : New w w') : RegD t w (.returned (.tuple #[.int .i64 n, .bool true])) w' :=
  ⟨n, by rw [h]; rfl, hi, (fun k e => by rw [h] at e; cases e; exact hn), hw⟩
theorem reg_none {t : Bs} (h : ∀ j : Nat, j < 11 → t ≠ regB (j : Int)) : regOf t = none := by
  cases hr : regOf t with
  | none => rfl
  | some n =>
    obtain ⟨h0, h1, h2⟩ := reg_back hr
    exact absurd (by rw [Int.toNat_of_nonneg h0]; exact h2) (h n.toNat (by omega))
set_option maxRecDepth 100000 in
set_option maxHeartbeats 1000000 in
theorem rreg_any (t : Bs) (w : World) (hP : PowT w) : Calls Tryz.prog 176 #[.string ⟨t.toArray⟩] w (RegD t w) := by
  have HP := Lib.hid hP
  clear hP
  go_enter Tryz.func176, Tryz.ntmps176
  go_wp2
  go_loopw [4] (fun i wr => ∃ k : Nat, k ≤ 11 ∧ i = .int .i64 k ∧ (∀ j : Nat, j < k → t ≠ regB (j : Int)) ∧ New w wr) (fun i _ => 11 - (intOf i).toNat)
  case atStart => exact ⟨0, Nat.zero_le _, rfl, fun j h => by omega, new_refl _⟩
  case round =>
    obtain ⟨k, hk, rfl, hno, hnw⟩ := hrel
    have HNO := Lib.hid hno
    have HNW := Lib.hid hnw
    clear hno hnw
    by_cases hlt : k ≤ 10
    · have t3 : (k : Int) ≤ 10 := by omega
      have HI := Lib.hid (fun W hW => itoa_any (k : Int) W ⟨by omega, by omega⟩ hW)
      have hl := itoa_le (k : Int) ⟨by omega, by omega⟩
      obtain ⟨x, hx⟩ : ∃ x, Lib.itoa (k : Int) = x := ⟨_, rfl⟩
      have hrx : regB (k : Int) = [114] ++ x := by rw [← hx]; rfl
      have HRX := Lib.hid hrx
      rw [hx] at hl HI
      have a1 := fun W => add_str [114] x (by simp; omega) W
      clear hx hrx
      by_cases he : t = [114] ++ x
      · have HE := Lib.hid he
        have hq : (t == 114 :: x) = true := beq_iff_eq.2 he
        clear he
        go_wp2_with (go_at_call 93; refine (HI.out _ (HP.out.new HNW.out)).mono ?_; rintro e w1 ⟨rfl, hn1⟩; have HN1 := Lib.hid (New.then HNW.out hn1); clear hn1)
        refine bodyPost_ret (v := .tuple #[.int .i64 (k : Int), .bool true]) (by simp [results, Tryz.results176, go_sem]) rfl ?_
        exact RegD.yes (m := (k : Int)) (by rw [HE.out, ← HRX.out]; exact reg_of (by omega) (by omega)) _ rfl ⟨by omega, by omega⟩ HN1.out
      · have HE := Lib.hid he
        have hq : (t == 114 :: x) = false := beq_eq_false_iff_ne.2 he
        clear he
        go_wp2_with (go_at_call 93; refine (HI.out _ (HP.out.new HNW.out)).mono ?_; rintro e w1 ⟨rfl, hn1⟩; have HN1 := Lib.hid (New.then HNW.out hn1); clear hn1)
        go_roundw
        case rel =>
          refine ⟨k + 1, by omega, by go_num, fun j hj => ?_, HN1.out⟩
          by_cases hjk : j = k
          · rw [hjk, HRX.out]; exact HE.out
          · exact HNO.out j (by omega)
        case measure => simp [intOf]; omega
    · obtain rfl : k = 11 := by omega
      go_wp2
      refine bodyPost_ret (v := .tuple #[.int .i64 0, .bool false]) (by simp [results, Tryz.results176, go_sem]) rfl ?_
      exact RegD.no (reg_none HNO.out) 0 i0 HNW.out
end Go.Proofs.YtddojdgnakajmaaGreatDoor.txt
