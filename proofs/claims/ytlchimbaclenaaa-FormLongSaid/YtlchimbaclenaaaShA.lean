/-
  Contracts of shape: its first three questions.
-/
import Derived.Test.YtlchimbaclenaaaShM
import Derived.Test.YtlchimbaclenaaaInsU
namespace Go.Proofs.Ytlchimbaclenaaa.sh
open Go.RowKit Go.Proofs.Ytlchimbaclenaaa.mem Go.Proofs.Ytlchimbaclenaaa.kit Go.Proofs.Ytlchimbaclenaaa.ins
set_option linter.unusedVariables false

theorem ret_i64 {x y : Int} (h : x = y) : Ending.returned (.int .i64 x) = .returned (.int .i64 y) := by rw [h]
theorem unless_any (b : Bool) (e : Int) (w : World) : Calls Try.prog 29 #[.bool b, .int .i64 e] w fun r w' => r = .returned (.int .i64 (if b then 0 else e)) ∧ w = w' := by
  rcases b with _ | _
  · go_enter Try.func29, Try.ntmps29
    go_wp2
    go_ret
    exact ⟨rfl, rfl⟩
  · go_enter Try.func29, Try.ntmps29
    go_wp2
    go_ret
    exact ⟨rfl, rfl⟩

theorem unless_q (b : Bool) (e : Int) (w : World) : Calls Try.prog 29 #[.bool b, .int .i64 e] w fun r w' => r = .returned (.int .i64 (if b then 0 else e)) ∧ w' = w := (unless_any b e w).mono fun _ _ h => ⟨h.1, h.2.symm⟩

set_option maxRecDepth 100000 in
theorem right1_any (b : Nat) (A : Option Addr) (n c k : Nat) (l : List In) (w : World) (hn : n = l.length) (hl : n ≤ 1099511627776) (hk : k < n) (hA : RI w A l) (hb : w.cell? ⟨b, 0, none⟩ = some (.slice A n c)) :
    Calls Try.prog 28 #[.int .i64 (k : Int), .pointer (some ⟨b, 0, none⟩)] w fun e w' => e = .returned (.int .i64 (qR l k)) ∧ New w w' := by
  have hkl : k < l.length := by omega
  obtain ⟨g, a, rfl, hg, hat⟩ := hA.at_ hkl
  obtain ⟨x, hx⟩ : ∃ x, ig l k = x := ⟨_, rfl⟩
  rw [← ig_at hkl, hx] at hat
  obtain ⟨o, nn, d, s, u, f, m, z⟩ := x
  obtain ⟨B, hB⟩ : ∃ B, ok ⟨o, nn, d, s, u, f, m, z⟩ = B := ⟨_, rfl⟩
  have HQ := Lib.hid (show qR l k = if B then 0 else 4 by unfold qR; rw [hx, hB])
  have HB := Lib.hid hB
  obtain ⟨a0, a1, a2, a3, a4, a5, a6, a7⟩ := hat
  simp only at a0 a1 a2 a3 a4 a5 a6 a7
  have t1 : (k : Int) < (n : Int) := by omega
  clear hx hB hn hA hkl
  rcases B with _ | _
  · go_enter Try.func28, Try.ntmps28
    go_wp2_with (first
      | (go_at_call 25; refine (right_x _ _ _ _ _ _ _ _ false HB.out _).mono ?_; rintro e w2 ⟨rfl, hn2⟩)
      | (go_at_call 29; refine (unless_any false 4 _).mono ?_; rintro e w3 ⟨rfl, rfl⟩))
    go_ret
    exact ⟨ret_i64 HQ.out.symm, hn2⟩
  · go_enter Try.func28, Try.ntmps28
    go_wp2_with (first
      | (go_at_call 25; refine (right_x _ _ _ _ _ _ _ _ true HB.out _).mono ?_; rintro e w2 ⟨rfl, hn2⟩)
      | (go_at_call 29; refine (unless_any true 4 _).mono ?_; rintro e w3 ⟨rfl, rfl⟩))
    go_ret
    exact ⟨ret_i64 HQ.out.symm, hn2⟩

theorem fore_not {n k : Int} {i : In} (h : jumps i = false) : fore n k i = 0 := by unfold fore; rw [h]; rfl
theorem fore_back {n k : Int} {i : In} (h : jumps i = true) (h1 : i.off < 0) : fore n k i = 100 := by unfold fore; rw [if_pos h, if_pos h1]
theorem fore_to {n k : Int} {i : In} (h : jumps i = true) (h1 : ¬ i.off < 0) : fore n k i = if k + 1 + i.off < n then 0 else 101 := by unfold fore; rw [if_pos h, if_neg h1]

set_option maxRecDepth 100000 in
set_option maxHeartbeats 1000000 in
theorem forward1_any (b : Nat) (A : Option Addr) (n c k : Nat) (l : List In) (w : World) (hn : n = l.length) (hl : n ≤ 1099511627776) (hk : k < n) (hA : RI w A l) (hb : w.cell? ⟨b, 0, none⟩ = some (.slice A n c)) (hlt : b < w.heap.size) (hok : ok (ig l k) = true) :
    Calls Try.prog 30 #[.int .i64 (k : Int), .pointer (some ⟨b, 0, none⟩)] w fun e w' => e = .returned (.int .i64 (qF l k)) ∧ New w w' := by
  have hkl : k < l.length := by omega
  obtain ⟨g, a, rfl, hg, hat⟩ := hA.at_ hkl
  obtain ⟨x, hx⟩ : ∃ x, ig l k = x := ⟨_, rfl⟩
  rw [← ig_at hkl, hx] at hat
  rw [hx] at hok
  have hf := (ok_facts _ hok).2.2.2.2.1
  have hq : qF l k = fore (n : Int) (k : Int) x := by unfold qF; rw [hx, hn]
  obtain ⟨o, nn, d, s, u, f, m, z⟩ := x
  simp [far] at hf
  obtain ⟨f0, f1⟩ := hf
  have HAT := Lib.hid hat
  have HBC := Lib.hid hb
  obtain ⟨a0, a1, a2, a3, a4, a5, a6, a7⟩ := hat
  simp only at a0 a1 a2 a3 a4 a5 a6 a7
  have t1 : (k : Int) < (n : Int) := by omega
  have e1 : IntKind.i64.wrap ((k : Int) + 1) = (k : Int) + 1 := IntWalk.i64_in _ (by omega)
  have e2 : IntKind.i64.wrap ((k : Int) + 1 + f) = (k : Int) + 1 + f := IntWalk.i64_in _ (by omega)
  clear hx hn hA hkl hok
  rcases hj : jumps ⟨o, nn, d, s, u, f, m, z⟩ with _ | _
  · have HQ := Lib.hid (hq.trans (fore_not hj))
    have HJ := Lib.hid hj
    clear hq hj
    go_enter Try.func30, Try.ntmps30
    go_wp2_with (go_at_call 26; refine (jumps_x _ _ _ _ _ _ _ _ false HJ.out _).mono ?_; rintro e w2 ⟨rfl, hn2⟩)
    go_ret
    exact ⟨ret_i64 HQ.out.symm, hn2⟩
  · have HJ := Lib.hid hj
    by_cases h0 : f < 0
    · have HQ := Lib.hid (hq.trans (fore_back hj h0))
      clear hq hj
      go_enter Try.func30, Try.ntmps30
      go_wp2_with (go_at_call 26; refine (jumps_x _ _ _ _ _ _ _ _ true HJ.out _).mono ?_; rintro e w2 ⟨rfl, hn2⟩; obtain ⟨b0, b1, b2, b3, b4, b5, b6, b7⟩ := HAT.out.new hg hn2; have hb2 := (hn2.cell (p := ⟨b, 0, none⟩) hlt).trans HBC.out)
      go_ret
      exact ⟨ret_i64 HQ.out.symm, hn2⟩
    · obtain ⟨B, hB⟩ : ∃ B, decide ((k : Int) + 1 + f < (n : Int)) = B := ⟨_, rfl⟩
      have HQ : Hid (qF l k = if B then 0 else 101) := Lib.hid (by rw [hq, fore_to hj h0, ← hB]; simp)
      clear hq hj
      rcases B with _ | _
      all_goals
        go_enter Try.func30, Try.ntmps30
        go_wp2_with (go_at_call 26; refine (jumps_x _ _ _ _ _ _ _ _ true HJ.out _).mono ?_; rintro e w2 ⟨rfl, hn2⟩; obtain ⟨b0, b1, b2, b3, b4, b5, b6, b7⟩ := HAT.out.new hg hn2; have hb2 := (hn2.cell (p := ⟨b, 0, none⟩) hlt).trans HBC.out)
        go_quiet ((go_at_call 29; refine Calls.quiet_of_same (unless_q _ _ _)))
        go_wp2
        go_ret
        exact ⟨ret_i64 HQ.out.symm, by first | exact hn2 | exact hn2.drewN _⟩

theorem ende_no {n k : Int} {i : In} (h : ¬ k + 1 = n) : ende n k i = 0 := by unfold ende; rw [if_neg (fun e => h e.1)]
theorem ende_28 {n k : Int} {i : In} (h : i.op = 28) : ende n k i = 0 := by unfold ende; rw [if_neg (fun e => e.2.1 h)]
theorem ende_16 {n k : Int} {i : In} (h : i.op = 16) : ende n k i = 0 := by unfold ende; rw [if_neg (fun e => e.2.2 h)]
theorem ende_yes {n k : Int} {i : In} (h : k + 1 = n) (h1 : i.op ≠ 28) (h2 : i.op ≠ 16) : ende n k i = 102 := by unfold ende; rw [if_pos ⟨h, h1, h2⟩]

set_option maxRecDepth 100000 in
set_option maxHeartbeats 1000000 in
theorem ended1_any (b : Nat) (A : Option Addr) (n c k : Nat) (l : List In) (w : World) (hn : n = l.length) (hl : n ≤ 1099511627776) (hk : k < n) (hA : RI w A l) (hb : w.cell? ⟨b, 0, none⟩ = some (.slice A n c)) :
    Calls Try.prog 31 #[.int .i64 (k : Int), .pointer (some ⟨b, 0, none⟩)] w fun e w' => e = .returned (.int .i64 (qE l k)) ∧ New w w' := by
  have hkl : k < l.length := by omega
  obtain ⟨g, a, rfl, hg, hat⟩ := hA.at_ hkl
  obtain ⟨x, hx⟩ : ∃ x, ig l k = x := ⟨_, rfl⟩
  rw [← ig_at hkl, hx] at hat
  have hq : qE l k = ende (n : Int) (k : Int) x := by unfold qE; rw [hx, hn]
  obtain ⟨o, nn, d, s, u, f, m, z⟩ := x
  obtain ⟨a0, a1, a2, a3, a4, a5, a6, a7⟩ := hat
  simp only at a0 a1 a2 a3 a4 a5 a6 a7
  have t1 : (k : Int) < (n : Int) := by omega
  have e1 : IntKind.i64.wrap ((n : Int) - 1) = (n : Int) - 1 := IntWalk.i64_in _ (by omega)
  clear hx hn hA hkl
  by_cases hk1 : (k : Int) + 1 = n
  · have t2 : ((k : Int) == (n : Int) - 1) = true := by simp; omega
    by_cases h28 : o = 28
    · have HQ := Lib.hid (hq.trans (ende_28 h28))
      have t3 : (o == 28) = true := by simpa using h28
      clear hq hk1 h28
      go_enter Try.func31, Try.ntmps31
      go_wp2_with (go_at_call 29; refine (unless_any _ _ _).mono ?_; rintro e w3 ⟨rfl, rfl⟩)
      go_ret
      exact ⟨ret_i64 (HQ.out.symm ▸ by simp), new_refl _⟩
    · by_cases h16 : o = 16
      · have HQ := Lib.hid (hq.trans (ende_16 h16))
        have t3 : (o == 28) = false := by simpa using h28
        have t4 : (o == 16) = true := by simpa using h16
        clear hq hk1 h28 h16
        go_enter Try.func31, Try.ntmps31
        go_wp2_with (go_at_call 29; refine (unless_any _ _ _).mono ?_; rintro e w3 ⟨rfl, rfl⟩)
        go_ret
        exact ⟨ret_i64 (HQ.out.symm ▸ by simp), new_refl _⟩
      · have HQ := Lib.hid (hq.trans (ende_yes hk1 h28 h16))
        have t3 : (o == 28) = false := by simpa using h28
        have t4 : (o == 16) = false := by simpa using h16
        clear hq hk1 h28 h16
        go_enter Try.func31, Try.ntmps31
        go_wp2_with (go_at_call 29; refine (unless_any _ _ _).mono ?_; rintro e w3 ⟨rfl, rfl⟩)
        go_ret
        exact ⟨ret_i64 (HQ.out.symm ▸ by simp), new_refl _⟩
  · have t2 : ((k : Int) == (n : Int) - 1) = false := by simp; omega
    have HQ := Lib.hid (hq.trans (ende_no hk1))
    clear hq hk1
    go_enter Try.func31, Try.ntmps31
    go_wp2_with (go_at_call 29; refine (unless_any _ _ _).mono ?_; rintro e w3 ⟨rfl, rfl⟩)
    go_ret
    exact ⟨ret_i64 (HQ.out.symm ▸ by simp), new_refl _⟩
end Go.Proofs.Ytlchimbaclenaaa.sh
