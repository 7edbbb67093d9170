/-
  sha's laws: digests known of old.
-/
import Derived.Test.YtdbolkmhmgbgfabDoorShaG
namespace Go.Proofs.YtdbolkmhmgbgfabDoor.sha
open Go.RowKit Go.Proofs.YtdbolkmhmgbgfabDoor.mem Go.Proofs.YtdbolkmhmgbgfabDoor.kit
set_option linter.unusedVariables false

def known : List UInt8 := [65, 237, 236, 228, 45, 99, 232, 217, 191, 81, 90, 155, 166, 147, 46, 28, 32, 203, 201, 245, 165, 209, 52, 100, 90, 219, 93, 177, 185, 115, 126, 163]
theorem sum_known : sum (List.replicate 1000 97) = known := by decide +kernel
theorem known_vb : vb known = #[.int .u8 65, .int .u8 237, .int .u8 236, .int .u8 228, .int .u8 45, .int .u8 99, .int .u8 232, .int .u8 217, .int .u8 191, .int .u8 81, .int .u8 90, .int .u8 155, .int .u8 166, .int .u8 147, .int .u8 46, .int .u8 28, .int .u8 32, .int .u8 203, .int .u8 201, .int .u8 245, .int .u8 165, .int .u8 209, .int .u8 52, .int .u8 100, .int .u8 90, .int .u8 219, .int .u8 93, .int .u8 177, .int .u8 185, .int .u8 115, .int .u8 126, .int .u8 163].toList := rfl

set_option maxRecDepth 100000 in
set_option maxHeartbeats 4000000 in
theorem ShaKnown_any (w : World) (h : GAt w) : Calls Tryd.prog 4 #[] w fun e w' => e = .returned (.bool true) ∧ New w w' := by
  obtain ⟨i0, hi, hz0, hz1, hz2⟩ := info_parts byte_inf
  have HAW := Lib.hid (awake_any w h)
  have HG := Lib.hid h
  clear h
  go_enter Tryd.func4, Tryd.ntmps4
  go_wp2_with (first
    | (go_at_call 5; (with_reducible refine HAW.out.mono ?_); rintro e w1 ⟨rfl, hn1⟩; have HN1 := Lib.hid hn1; clear hn1))
  go_loopw [1, 2] (fun v i wr => ∃ k : Nat, k ≤ 1000 ∧ i = .int .i64 k ∧ wr.ownsRow w.heap.size 5 1 v k (vb (List.replicate k 97)) ∧ New w wr) (fun _ i _ => 1000 - (intOf i).toNat)
  case atStart => exact ⟨0, Nat.zero_le _, rfl, World.ownsRow_nil _ _ _ _, HN1.out⟩
  case round =>
    clear HN1
    obtain ⟨k, hk, rfl, ho, hn⟩ := hrel
    have HO := Lib.hid ho
    have HN := Lib.hid hn
    clear ho hn
    by_cases hlt : k < 1000
    · have hlt' : (k : Int) < 1000 := by omega
      have HBB : Hid (New wr (wr.alloc (.cells #[.int .u8 97] 5))) := Lib.hid (alloc_new wr _)
      have HB1 : Hid (k + 1 ≤ maxLen) := Lib.hid (by unfold maxLen; omega)
      have HB2 : Hid ((k + 1) * 1 ≤ 140737488355328) := Lib.hid (by omega)
      go_wp2_with
        (at_builtin; refine wpList_append_any _ rfl (.tmp 11) (.tmp 12) 22 rfl w.heap.size 5 i0 _ 1 1 Tryd.underlying22 hi hz0 hz1 hz2 rfl (by omega) _ k (vb (List.replicate k 97)) rfl (own_new HO.out HBB.out) _ (some ⟨wr.heap.size, 0, none⟩) 1 1 [.int .u8 97] rfl (reads_new wr _ _) (by simp [Value.oneCell']) HB1.out HB2.out (Nat.le_trans HN.out.size HBB.out.size) ?_; intro v9 w9 hown9 hg9 hat9)
      have HN9 := Lib.hid ((New.then HN.out HBB.out).grown hg9 (Nat.le_trans HN.out.size HBB.out.size) (fun j hj => own_above HO.out hj))
      have e9 : vb (List.replicate k 97) ++ [.int .u8 97] = vb (List.replicate (k + 1) 97) := by rw [List.replicate_succ', vb_append]; rfl
      rw [e9] at hown9
      go_roundw
      case rel => exact ⟨k + 1, by omega, by go_num, hown9, HN9.out⟩
      case measure => simp [intOf]; omega
    · obtain rfl : k = 1000 := by omega
      obtain ⟨A, c, rfl, hc1, hc2, hr⟩ := own_len HO.out
      have hS := sum_any A 1000 c (List.replicate 1000 97) wr (by simp) (by omega) ⟨hc1, hc2⟩ (HG.out.new HN.out).s (HG.out.new HN.out).k hr
      rw [sum_known] at hS
      have HS : Hid (Calls Tryd.prog 6 #[.slice A 1000 c] wr fun e w' => ∃ A5 c5, e = .returned (.slice A5 32 c5) ∧ Reads w' w'.heap.size 1 A5 32 (vb known) ∧ New wr w') := Lib.hid (hS.mono fun e w' k => by
        obtain ⟨A5, c5, rfl, ho, hn⟩ := k
        exact ⟨A5, c5, rfl, Reads.of_own ho, hn⟩)
      clear hS hr HO
      have HSM : Hid (∀ (w5 : World) (A5 : Option Addr) (c5 : Nat), Reads w5 w5.heap.size 1 A5 32 (vb known) → Calls Tryd.prog 7 #[.slice A5 32 c5, .slice (some ⟨w5.heap.size, 0, none⟩) 32 32] (w5.alloc (.cells #[.int .u8 65, .int .u8 237, .int .u8 236, .int .u8 228, .int .u8 45, .int .u8 99, .int .u8 232, .int .u8 217, .int .u8 191, .int .u8 81, .int .u8 90, .int .u8 155, .int .u8 166, .int .u8 147, .int .u8 46, .int .u8 28, .int .u8 32, .int .u8 203, .int .u8 201, .int .u8 245, .int .u8 165, .int .u8 209, .int .u8 52, .int .u8 100, .int .u8 90, .int .u8 219, .int .u8 93, .int .u8 177, .int .u8 185, .int .u8 115, .int .u8 126, .int .u8 163] 5)) fun e w' => e = .returned (.bool true) ∧ New w5 w') := Lib.hid (fun w5 A5 c5 hr => by
        have h2 := same_any A5 (some ⟨w5.heap.size, 0, none⟩) c5 32 known (w5.alloc (.cells #[.int .u8 65, .int .u8 237, .int .u8 236, .int .u8 228, .int .u8 45, .int .u8 99, .int .u8 232, .int .u8 217, .int .u8 191, .int .u8 81, .int .u8 90, .int .u8 155, .int .u8 166, .int .u8 147, .int .u8 46, .int .u8 28, .int .u8 32, .int .u8 203, .int .u8 201, .int .u8 245, .int .u8 165, .int .u8 209, .int .u8 52, .int .u8 100, .int .u8 90, .int .u8 219, .int .u8 93, .int .u8 177, .int .u8 185, .int .u8 115, .int .u8 126, .int .u8 163] 5)) (by decide) (hr.new (alloc_new w5 _)) (reads_mark w5 _ (0, 0))
        exact h2.mono fun e w' k => ⟨k.1, New.then (alloc_new w5 _) k.2⟩)
      go_wp2_with (first
        | (go_at_call 6; (with_reducible refine HS.out.mono ?_); rintro e w5 ⟨A5, c5, rfl, ho5, hn5⟩; have HN5 := Lib.hid (New.then HN.out hn5); have HSM5 := Lib.hid (HSM.out w5 A5 c5 ho5); clear ho5 hn5)
        | (go_at_call 7; (with_reducible refine HSM5.out.mono ?_); rintro e w6 ⟨rfl, hn6⟩; have HN6 := Lib.hid (New.then HN5.out hn6); clear hn6))
      go_ret
      exact ⟨rfl, HN6.out⟩
end Go.Proofs.YtdbolkmhmgbgfabDoor.sha
