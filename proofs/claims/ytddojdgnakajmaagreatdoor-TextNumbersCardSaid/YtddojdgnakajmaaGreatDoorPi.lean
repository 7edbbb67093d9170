/-
  The document's Parse: operators.
-/
import Derived.Test.YtddojdgnakajmaaGreatDoorPh
namespace Go.Proofs.YtddojdgnakajmaaGreatDoor.txt
open Go.RowKit Go.Proofs.YtddojdgnakajmaaGreatDoor.mem Go.Proofs.YtddojdgnakajmaaGreatDoor.kit Go.Proofs.YtddojdgnakajmaaGreatDoor.ins
set_option linter.unusedVariables false
set_option linter.unusedSimpArgs false

/-- Does a word of the list, or it with 32 behind it, say so? -/
def opHit (t : Bs) (k : Nat) : Option Bool := if rws.getD k [] = [] then none else if t = rws.getD k [] then some false else if t = rws.getD k [] ++ [51, 50] then some true else none
def OpIs (t : Bs) (o : Int) (n : Bool) : Prop := (∃ k : Nat, k < 27 ∧ opHit t k = some n ∧ (∀ j, j < k → opHit t j = none) ∧ o = (k : Int) + 1) ∨ ((∀ j, j < 27 → opHit t j = none) ∧ o = 0 ∧ n = false)
def ROpD (t : Bs) (w : World) (e : Ending) (w' : World) : Prop := ∃ o n, e = .returned (.tuple #[.int .u8 o, .bool n]) ∧ OpIs t o n ∧ New w w'
theorem rws_len : ∀ k : Fin 27, (rws.getD k.val []).length ≤ 4 := by decide +kernel

set_option maxRecDepth 100000 in
set_option maxHeartbeats 2000000 in
theorem rop_any (t : Bs) (w : World) : Calls Tryz.prog 109 #[.string ⟨t.toArray⟩] w (ROpD t w) := by
  have HW := Lib.hid (rwords_any w)
  go_enter Tryz.func109, Tryz.ntmps109
  go_wp2_with (go_at_call 175; (with_reducible refine HW.out.mono ?_); rintro e w1 ⟨b, rfl, hb, hn1⟩; have HB := Lib.hid hb; have HN1 := Lib.hid hn1; have hbl : b < w1.heap.size := block_lt_of_cell (a := ⟨b, 0, none⟩) (hb 0 (by omega)); clear hb hn1)
  go_loopw [5] (fun i wr => ∃ k : Nat, k ≤ 27 ∧ i = .int .i64 k ∧ (∀ j : Nat, j < k → opHit t j = none) ∧ New w1 wr) (fun i _ => 27 - (intOf i).toNat)
  case atStart => exact ⟨0, Nat.zero_le _, rfl, fun j h => by omega, new_refl w1⟩
  case round =>
    obtain ⟨k, hk, rfl, hno, hnw⟩ := hrel
    have HNO := Lib.hid hno
    have HNW := Lib.hid hnw
    by_cases hlt : k < 27
    · have t3 : (k : Int) < 27 := by omega
      have t3b : (0 : Int) ≤ (k : Int) := by omega
      have hx : wr.cell? ⟨b, k, none⟩ = some (sv (rws.getD k [])) := (hnw.cell hbl).trans (HB.out k hlt)
      have hl := rws_len ⟨k, hlt⟩
      obtain ⟨x, hxx⟩ : ∃ x, rws.getD k [] = x := ⟨_, rfl⟩
      have HXX := Lib.hid hxx
      simp only at hl
      rw [hxx] at hx hl
      clear hno hnw hxx
      have a1 := fun W => add_str x [51, 50] (by simp; omega) W
      have hu : IntKind.u8.wrap ((k : Int) + 1) = (k : Int) + 1 := IntWalk.u8_in _ (by omega)
      cases x with
      | nil =>
        have HH : Hid (opHit t k = none) := Lib.hid (by unfold opHit; rw [HXX.out, if_pos rfl])
        go_wp2
        go_roundw
        case rel =>
          refine ⟨k + 1, by omega, by go_num, fun j hj => ?_, HNW.out⟩
          by_cases hjk : j = k
          · rw [hjk]; exact HH.out
          · exact HNO.out j (by omega)
        case measure => simp [intOf]; omega
      | cons c r =>
        have hne : ((⟨(c :: r).toArray⟩ : ByteArray) != ⟨#[]⟩) = true := ba_cons c r
        cases h1 : t == c :: r with
        | true =>
          have HH : Hid (opHit t k = some false) := Lib.hid (by unfold opHit; rw [HXX.out, if_neg (by simp), if_pos (eq_of_beq h1)])
          go_wp2
          go_ret2
          exact ⟨(k : Int) + 1, false, rfl, .inl ⟨k, hlt, HH.out, HNO.out, rfl⟩, New.then HN1.out HNW.out⟩
        | false =>
          have h1n : t ≠ c :: r := fun e => by rw [e] at h1; simp at h1
          cases h2 : t == (c :: r) ++ [51, 50] with
          | true =>
            have HH : Hid (opHit t k = some true) := Lib.hid (by unfold opHit; rw [HXX.out, if_neg (by simp), if_neg h1n, if_pos (eq_of_beq h2)])
            have h2' : (t == c :: (r ++ [51, 50])) = true := h2
            clear h1n
            go_wp2
            go_ret2
            exact ⟨(k : Int) + 1, true, rfl, .inl ⟨k, hlt, HH.out, HNO.out, rfl⟩, New.then HN1.out HNW.out⟩
          | false =>
            have h2n : t ≠ (c :: r) ++ [51, 50] := fun e => by rw [e] at h2; simp at h2
            have HH : Hid (opHit t k = none) := Lib.hid (by unfold opHit; rw [HXX.out, if_neg (by simp), if_neg h1n, if_neg h2n])
            have h2' : (t == c :: (r ++ [51, 50])) = false := h2
            clear h1n h2n
            go_wp2
            go_roundw
            case rel =>
              refine ⟨k + 1, by omega, by go_num, fun j hj => ?_, HNW.out⟩
              by_cases hjk : j = k
              · rw [hjk]; exact HH.out
              · exact HNO.out j (by omega)
            case measure => simp [intOf]; omega
    · obtain rfl : k = 27 := by omega
      have hall := HNO.out
      go_wp2
      refine bodyPost_ret (v := .tuple #[.int .u8 0, .bool false]) (by simp [results, Tryz.results109, go_sem]) rfl ?_
      exact ⟨0, false, rfl, .inr ⟨HNO.out, rfl, rfl⟩, New.then HN1.out HNW.out⟩
end Go.Proofs.YtddojdgnakajmaaGreatDoor.txt
