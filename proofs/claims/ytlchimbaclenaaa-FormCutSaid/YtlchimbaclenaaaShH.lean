/-
  The stage's law: an end is come to.
-/
import Derived.Test.YtlchimbaclenaaaShG
namespace Go.Proofs.Ytlchimbaclenaaa.sh
open Go.RowKit Go.Proofs.Ytlchimbaclenaaa.mem Go.Proofs.Ytlchimbaclenaaa.kit Go.Proofs.Ytlchimbaclenaaa.ins
set_option linter.unusedVariables false

theorem next_one {A : Option Addr} {n c k : Nat} {l : List In} {w : World} {v : Int} (hn : n = l.length) (hl : n ≤ 1099511627776) (hA : RI w A l) (h : nx l (k : Int) = [v]) :
    Calls Try.prog 14 #[.slice A n c, .int .i64 (k : Int)] w fun e w' => ∃ g o c2, e = .returned (.slice (some ⟨g, o, none⟩) 1 c2) ∧ w'.cell? ⟨g, o, none⟩ = some (.int .i64 v) ∧ New w w' := by
  refine (next_any A n c l k w hn hl hA).mono fun e w' ⟨A2, c2, he, hr, hw⟩ => ?_
  rw [h] at he hr
  obtain ⟨ad, u, rfl, ha, hx, hc⟩ := hr.at_ (k := 0) (by simp)
  have hu : u = .int .i64 v := by simpa [vn] using hx.symm
  subst hu
  have hs := spot_of hc
  obtain ⟨g, o, sp⟩ := ad
  have : sp = none := by simpa [Addr.add] using hs
  subst this
  exact ⟨g, o, c2, he, hc, hw⟩
theorem next_two {A : Option Addr} {n c k : Nat} {l : List In} {w : World} {v1 v2 : Int} (hn : n = l.length) (hl : n ≤ 1099511627776) (hA : RI w A l) (h : nx l (k : Int) = [v1, v2]) :
    Calls Try.prog 14 #[.slice A n c, .int .i64 (k : Int)] w fun e w' => ∃ g o c2, e = .returned (.slice (some ⟨g, o, none⟩) 2 c2) ∧ w'.cell? ⟨g, o, none⟩ = some (.int .i64 v1) ∧ w'.cell? ⟨g, o + 1, none⟩ = some (.int .i64 v2) ∧ New w w' := by
  refine (next_any A n c l k w hn hl hA).mono fun e w' ⟨A2, c2, he, hr, hw⟩ => ?_
  rw [h] at he hr
  obtain ⟨ad, u, rfl, ha, hx, hc⟩ := hr.at_ (k := 0) (by simp)
  have hu : u = .int .i64 v1 := by simpa [vn] using hx.symm
  subst hu
  obtain ⟨ad', u', e', ha', hx', hc'⟩ := hr.at_ (k := 1) (by simp)
  have hu' : u' = .int .i64 v2 := by simpa [vn] using hx'.symm
  subst hu'
  injection e' with e'
  subst e'
  have hs := spot_of hc
  obtain ⟨g, o, sp⟩ := ad
  have : sp = none := by simpa [Addr.add] using hs
  subst this
  rw [Addr.add_lit] at hc'
  exact ⟨g, o, c2, he, hc, hc', hw⟩

theorem Well.last {l : List In} (h : Well l) (h28 : (ig l (l.length - 1)).op ≠ 28) : False := by
  have n0 := h.n0
  have hk : l.length - 1 < l.length := by omega
  have hne := h.nx_some hk h28
  rcases e : ins.nx l ((l.length - 1 : Nat) : Int) with _ | ⟨v, r⟩
  · exact hne e
  · have := h.nx hk (j := v) (by rw [e]; exact List.mem_cons_self ..)
    omega
theorem nx_shape {l : List In} (h : Well l) {k : Nat} (hk : k < l.length) (h28 : (ig l k).op ≠ 28) : (∃ v : Nat, nx l (k : Int) = [(v : Int)] ∧ k < v ∧ v < l.length) ∨ (∃ v1 v2 : Nat, nx l (k : Int) = [(v1 : Int), (v2 : Int)] ∧ (k < v1 ∧ v1 < l.length) ∧ (k < v2 ∧ v2 < l.length)) := by
  have hne := h.nx_some hk h28
  have hle := nx_len l (k : Int)
  have hall : ∀ j ∈ nx l (k : Int), (k : Int) < j ∧ j < l.length := fun j hj => h.nx hk hj
  rcases e : nx l (k : Int) with _ | ⟨a, _ | ⟨b, _ | ⟨c, r⟩⟩⟩
  · exact absurd e hne
  · rw [e] at hall
    have := hall a (by simp)
    exact .inl ⟨a.toNat, by rw [show ((a.toNat : Nat) : Int) = a by omega], by omega, by omega⟩
  · rw [e] at hall
    have h1 := hall a (by simp)
    have h2 := hall b (by simp)
    exact .inr ⟨a.toNat, b.toNat, by rw [show ((a.toNat : Nat) : Int) = a by omega, show ((b.toNat : Nat) : Int) = b by omega], ⟨by omega, by omega⟩, by omega, by omega⟩
  · rw [e] at hle; simp at hle

/-- Truths as cells. -/
def vbo (l : List Bool) : List Value := l.map .bool
theorem vbo_get (l : List Bool) (k : Nat) (h : k < l.length) : (vbo l)[k]? = some (.bool l[k]) := by simp [vbo, h]

theorem run_err (a b : Value) (w : World) : (Instr.field 27 (.agg #[a, b]) 0).run Try.prog w = .ok a w := by rfl

set_option maxRecDepth 100000 in
set_option maxHeartbeats 8000000 in
theorem FormEnds_any (A : Option Addr) (n c : Nat) (at0 : Int) (Aw : Option Addr) (m cw : Nat) (l : List In) (ws : List Bool) (w : World) (hn : n = l.length) (hm : m = ws.length) (hA : RI w A l) (hW : Reads w w.heap.size 1 Aw m (vbo ws)) (a0 : -9223372036854775808 ≤ at0) (a1 : at0 ≤ 9223372036854775807) :
    Calls Try.prog 5 #[.slice A n c, .int .i64 at0, .slice Aw m cw] w fun e w' => e = .returned (.bool true) ∧ New w w' := by
  by_cases h3 : 300 < n
  · have t1 : (300 : Int) < (n : Int) := by omega
    clear hn hA hW
    go_enter Try.func5, Try.ntmps5
    go_wp2_with (go_at_call 7; refine (awake_any _).mono ?_; rintro e w1 ⟨rfl, hn1⟩)
    go_ret
    exact ⟨rfl, hn1⟩
  · have hl : n ≤ 1099511627776 := by omega
    obtain ⟨x, hx⟩ : ∃ x, chk l = x := ⟨_, rfl⟩
    obtain ⟨xe, xa⟩ := x
    have HX := Lib.hid hx
    have HN := Lib.hid hn
    have HA := Lib.hid hA
    have HW := Lib.hid hW
    have HM := Lib.hid hm
    have t1 : ¬ (300 : Int) < (n : Int) := by omega
    have hfe := run_err
    clear hn hA hW hx hm
    by_cases h0 : xe = 0
    · subst h0
      have hw : Well l := chk_0 (by rw [HX.out])
      have HWE := Lib.hid hw
      clear hw
      rcases (show at0 < 0 ∨ (n : Int) ≤ at0 ∨ ∃ k : Nat, at0 = (k : Int) ∧ k < n by
        rcases Int.lt_or_le at0 0 with h | h
        · exact .inl h
        · rcases Int.lt_or_le at0 n with h' | h'
          · exact .inr (.inr ⟨at0.toNat, by omega, by omega⟩)
          · exact .inr (.inl h')) with h | h | ⟨k0, rfl, hk0⟩
      · go_enter Try.func5, Try.ntmps5
        go_wp2_with (first
          | (go_at_call 7; refine (awake_any _).mono ?_; rintro e w1 ⟨rfl, hn1⟩)
          | (go_at_call 9; refine (check_x A n c l 0 xa _ HN.out hl (HA.out.new hn1) HX.out).mono ?_; rintro e w2 ⟨rfl, hn2⟩))
        go_ret
        exact ⟨rfl, hn1.then hn2⟩
      · have t2 : ¬ at0 < 0 := by omega
        go_enter Try.func5, Try.ntmps5
        go_wp2_with (first
          | (go_at_call 7; refine (awake_any _).mono ?_; rintro e w1 ⟨rfl, hn1⟩)
          | (go_at_call 9; refine (check_x A n c l 0 xa _ HN.out hl (HA.out.new hn1) HX.out).mono ?_; rintro e w2 ⟨rfl, hn2⟩))
        go_ret
        exact ⟨rfl, hn1.then hn2⟩
      · have t2 : ¬ (k0 : Int) < 0 := by omega
        have t3 : ¬ (n : Int) ≤ (k0 : Int) := by omega
        have t3a : ¬ n ≤ k0 := by omega
        have t3b : decide (n ≤ k0) = false := decide_eq_false t3a
        have t3c : decide ((n : Int) ≤ (k0 : Int)) = false := decide_eq_false t3
        go_enter Try.func5, Try.ntmps5
        go_wp2_with (first
          | (go_at_call 7; refine (awake_any _).mono ?_; rintro e w1 ⟨rfl, hn1⟩)
          | (go_at_call 9; refine (check_x A n c l 0 xa _ HN.out hl (HA.out.new hn1) HX.out).mono ?_; rintro e w2 ⟨rfl, hn2⟩))
        go_loopw [1, 8] (fun i st wr => ∃ k s : Nat, k < n ∧ i = .int .i64 k ∧ st = .int .i64 ((s : Int) + 1) ∧ k0 + s ≤ k ∧ New w wr) (fun i _ _ => n - (intOf i).toNat)
        case atStart => exact ⟨k0, 0, hk0, rfl, rfl, by omega, hn1.then hn2⟩
        case round =>
          obtain ⟨k, s, hk, rfl, rfl, hks, hnw⟩ := hrel
          have HNW := Lib.hid hnw
          clear hnw
          have t4 : (s : Int) + 1 ≤ (n : Int) - (k0 : Int) := by omega
          have t5 : (k : Int) < (n : Int) := by omega
          have hkl : k < l.length := by rw [← HN.out]; exact hk
          obtain ⟨g, a, rfl, hg, hat⟩ := HA.out.at_ hkl
          obtain ⟨y, hy⟩ : ∃ y, ig l k = y := ⟨_, rfl⟩
          rw [← ig_at hkl, hy] at hat
          obtain ⟨b0, b1, b2, b3, b4, b5, b6, b7⟩ := hat.new hg HNW.out
          obtain ⟨o, nn, d, ss, u, f, mm, z⟩ := y
          simp only at b0 b1 b2 b3 b4 b5 b6 b7
          by_cases h28 : o = 28
          · have t6 : (o == 28) = true := by simpa using h28
            clear h28 hat
            go_wp2
            go_ret
            exact ⟨rfl, HNW.out⟩
          · have t6 : (o == 28) = false := by simpa using h28
            have hsh := nx_shape HWE.out hkl (by rw [hy]; exact h28)
            clear h28 hat hy
            rcases hsh with ⟨v, hsh, hv1, hv2⟩ | ⟨v1, v2, hsh, ⟨hv1, hv2⟩, hv3, hv4⟩
            · have x1 : ¬ (v : Int) ≤ (k : Int) := by omega
              have x2 : ¬ (n : Int) ≤ (v : Int) := by have := HN.out; omega
              have x3 : v < n := by have := HN.out; omega
              have HSH := Lib.hid hsh
              clear hsh
              by_cases hsm : s < m
              · have t7 : (s : Int) + 1 ≤ (m : Int) := by omega
                have t8 : (s : Int) < (m : Int) := by omega
                obtain ⟨adw, uw, rfl, haw, hxw, hcw⟩ := HW.out.at_ hsm
                rw [vbo_get ws s (by rw [← HM.out]; exact hsm)] at hxw
                injection hxw with hxw
                subst hxw
                obtain ⟨B, hB⟩ : ∃ B, ws[s]'(by rw [← HM.out]; exact hsm) = B := ⟨_, rfl⟩
                rw [hB] at hcw
                have HCW := Lib.hid hcw
                clear hcw hB
                rcases B with _ | _
                · go_wp2_with (go_at_call 14; refine (next_one HN.out hl (HA.out.new HNW.out) HSH.out).mono ?_; rintro e w3 ⟨g3, o3, c3, rfl, d1, hn3⟩; have d4 := (New.then HNW.out hn3).cell (p := adw.add s) (by rw [block_of_add]; exact haw) |>.trans HCW.out)
                  go_roundw
                  case rel => exact ⟨v, s + 1, by omega, rfl, by go_num, by omega, New.then HNW.out hn3⟩
                  case measure => simp [intOf]; omega
                · go_wp2_with (go_at_call 14; refine (next_one HN.out hl (HA.out.new HNW.out) HSH.out).mono ?_; rintro e w3 ⟨g3, o3, c3, rfl, d1, hn3⟩; have d4 := (New.then HNW.out hn3).cell (p := adw.add s) (by rw [block_of_add]; exact haw) |>.trans HCW.out)
                  go_roundw
                  case rel => exact ⟨v, s + 1, by omega, rfl, by go_num, by omega, New.then HNW.out hn3⟩
                  case measure => simp [intOf]; omega
              · have t7 : ¬ (s : Int) + 1 ≤ (m : Int) := by omega
                have t8 : decide ((s : Int) + 1 ≤ (m : Int)) = false := decide_eq_false t7
                go_wp2_with (go_at_call 14; refine (next_one HN.out hl (HA.out.new HNW.out) HSH.out).mono ?_; rintro e w3 ⟨g3, o3, c3, rfl, d1, hn3⟩)
                go_roundw
                case rel => exact ⟨v, s + 1, by omega, rfl, by go_num, by omega, New.then HNW.out hn3⟩
                case measure => simp [intOf]; omega
            · have x1 : ¬ (v1 : Int) ≤ (k : Int) := by omega
              have x2 : ¬ (n : Int) ≤ (v1 : Int) := by have := HN.out; omega
              have x3 : v1 < n := by have := HN.out; omega
              have y1 : ¬ (v2 : Int) ≤ (k : Int) := by omega
              have y2 : ¬ (n : Int) ≤ (v2 : Int) := by have := HN.out; omega
              have y3 : v2 < n := by have := HN.out; omega
              have HSH := Lib.hid hsh
              clear hsh
              by_cases hsm : s < m
              · have t7 : (s : Int) + 1 ≤ (m : Int) := by omega
                have t8 : (s : Int) < (m : Int) := by omega
                obtain ⟨adw, uw, rfl, haw, hxw, hcw⟩ := HW.out.at_ hsm
                rw [vbo_get ws s (by rw [← HM.out]; exact hsm)] at hxw
                injection hxw with hxw
                subst hxw
                obtain ⟨B, hB⟩ : ∃ B, ws[s]'(by rw [← HM.out]; exact hsm) = B := ⟨_, rfl⟩
                rw [hB] at hcw
                have HCW := Lib.hid hcw
                clear hcw hB
                rcases B with _ | _
                · go_wp2_with (go_at_call 14; refine (next_two HN.out hl (HA.out.new HNW.out) HSH.out).mono ?_; rintro e w3 ⟨g3, o3, c3, rfl, d1, d2, hn3⟩; have d4 := (New.then HNW.out hn3).cell (p := adw.add s) (by rw [block_of_add]; exact haw) |>.trans HCW.out)
                  go_roundw
                  case rel => exact ⟨v1, s + 1, by omega, rfl, by go_num, by omega, New.then HNW.out hn3⟩
                  case measure => simp [intOf]; omega
                · go_wp2_with (go_at_call 14; refine (next_two HN.out hl (HA.out.new HNW.out) HSH.out).mono ?_; rintro e w3 ⟨g3, o3, c3, rfl, d1, d2, hn3⟩; have d4 := (New.then HNW.out hn3).cell (p := adw.add s) (by rw [block_of_add]; exact haw) |>.trans HCW.out)
                  go_roundw
                  case rel => exact ⟨v2, s + 1, by omega, rfl, by go_num, by omega, New.then HNW.out hn3⟩
                  case measure => simp [intOf]; omega
              · have t7 : ¬ (s : Int) + 1 ≤ (m : Int) := by omega
                have t8 : decide ((s : Int) + 1 ≤ (m : Int)) = false := decide_eq_false t7
                go_wp2_with (go_at_call 14; refine (next_two HN.out hl (HA.out.new HNW.out) HSH.out).mono ?_; rintro e w3 ⟨g3, o3, c3, rfl, d1, d2, hn3⟩)
                go_roundw
                case rel => exact ⟨v1, s + 1, by omega, rfl, by go_num, by omega, New.then HNW.out hn3⟩
                case measure => simp [intOf]; omega
    · have t2 : (xe == 0) = false := by simpa using h0
      have t3 : (xe != 0) = true := by simpa using h0
      clear h0
      go_enter Try.func5, Try.ntmps5
      go_wp2_with (first
        | (go_at_call 7; refine (awake_any _).mono ?_; rintro e w1 ⟨rfl, hn1⟩)
        | (go_at_call 9; refine (check_x A n c l xe xa _ HN.out hl (HA.out.new hn1) HX.out).mono ?_; rintro e w2 ⟨rfl, hn2⟩))
      go_ret
      exact ⟨rfl, hn1.then hn2⟩
end Go.Proofs.Ytlchimbaclenaaa.sh
