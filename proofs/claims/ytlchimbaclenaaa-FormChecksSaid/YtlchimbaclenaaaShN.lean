/-
  The law: any instructions have just the fault that the document tells.
-/
import Derived.Test.YtlchimbaclenaaaShL
namespace Go.Proofs.Ytlchimbaclenaaa.sh
open Go.RowKit Go.Proofs.Ytlchimbaclenaaa.mem Go.Proofs.Ytlchimbaclenaaa.kit Go.Proofs.Ytlchimbaclenaaa.ins
set_option linter.unusedVariables false

theorem rcheck_x (A : Option Addr) (n c : Nat) (l : List In) (x : Int) (a : Nat) (w : World) (hn : n = l.length) (hl : n ≤ 1099511627776) (hA : RI w A l) (h : chk l = (x, a)) :
    Calls Try.prog 10 #[.slice A n c] w fun e w' => e = .returned (.agg #[.int .i64 x, .int .i64 (a : Int)]) ∧ New w w' := by
  refine (rcheck_any A n c l w hn hl hA).mono fun e w' ⟨h1, h2⟩ => ⟨?_, h2⟩
  rw [h1, h]

set_option maxRecDepth 100000 in
set_option maxHeartbeats 4000000 in
theorem FormChecks_any (A : Option Addr) (n c : Nat) (l : List In) (w : World) (hn : n = l.length) (hA : RI w A l) :
    Calls Try.prog 3 #[.slice A n c] w fun e w' => e = .returned (.bool true) ∧ New w w' := by
  by_cases h3 : 300 < n
  · have t1 : (300 : Int) < (n : Int) := by omega
    clear hn hA
    go_enter Try.func3, Try.ntmps3
    go_wp2_with (go_at_call 7; refine (awake_any _).mono ?_; rintro e w1 ⟨rfl, hn1⟩)
    go_ret
    exact ⟨rfl, hn1⟩
  · have hl : n ≤ 1099511627776 := by omega
    obtain ⟨x, hx⟩ : ∃ x, chk l = x := ⟨_, rfl⟩
    obtain ⟨xe, xa⟩ := x
    have HX := Lib.hid hx
    have HN := Lib.hid hn
    have HA := Lib.hid hA
    have t1 : ¬ (300 : Int) < (n : Int) := by omega
    clear hn hA hx
    go_enter Try.func3, Try.ntmps3
    go_wp2_with (first
      | (go_at_call 7; refine (awake_any _).mono ?_; rintro e w1 ⟨rfl, hn1⟩)
      | (go_at_call 8; (with_reducible refine (lentIns_any A n c l w1 hl HN.out (HA.out.new hn1)).mono ?_); rintro e w2 ⟨⟨rfl, hb⟩, hn2⟩; have HB := Lib.hid hb; have hlt := hb.lt; have HL : Hid (RI w2 (some ⟨w1.heap.size, 0, none⟩) l) := Lib.hid (lent_ri hb); clear hb)
      | (go_at_call 9; (with_reducible refine (check_x (some ⟨w1.heap.size, 0, none⟩) n (n + 12) l xe xa w2 HN.out hl HL.out HX.out).mono ?_); rintro e w3 ⟨rfl, hn3⟩)
      | (go_at_call 10; (with_reducible refine (rcheck_x A n c l xe xa w3 HN.out hl (HA.out.new (New.then (New.then hn1 hn2) hn3)) HX.out).mono ?_); rintro e w4 ⟨rfl, hn4⟩)
      | (go_at_call 11; (with_reducible refine (keptIns_any w1.heap.size A n c l w4 hl HN.out (HB.out.below (New.then hn3 hn4) hlt) (HA.out.new (New.then (New.then (New.then hn1 hn2) hn3) hn4))).mono ?_); rintro e w5 ⟨rfl, hn5⟩))
    go_ret
    exact ⟨rfl, New.then (New.then (New.then (New.then hn1 hn2) hn3) hn4) hn5⟩
end Go.Proofs.Ytlchimbaclenaaa.sh
