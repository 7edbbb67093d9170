/-
  The laws of layer 1, walked.
-/
import Derived.Test.YtkegoiibhleflaaRefIs
import Derived.Test.YtkegoiibhleflaaEnds
namespace Go.Proofs.Ytkegoiibhleflaa.laws
open Go.ChangeShapes Go.WideShapes Go.ChangeAt Go.RowKit Go.Proofs.Ytkegoiibhleflaa.alu Go.Proofs.Ytkegoiibhleflaa.ends
set_option linter.unusedVariables false

theorem d1 : doAns 2 false 3 5 = 18446744073709551614 := by decide +kernel
theorem d2 : doAns 11 true 2147483648 33 = 3221225472 := by decide +kernel
theorem d3 : isAns 25 true 2147483648 0 = true := by decide +kernel
theorem d4 : doErr 4 false 0 = 113 := by decide +kernel
theorem d5 : IntKind.u64.wrap (-1) = 18446744073709551615 := by decide +kernel
theorem d6 : doErr 2 false 5 = 0 := by decide +kernel
theorem d7 : doErr 11 true 33 = 0 := by decide +kernel
theorem d8 : isErr 25 = 0 := by decide +kernel

theorem awake_any (w : World) : Calls Try.prog 8 #[] w fun e w' => e = .returned (.bool true) ∧ New w w' := by
  have x1 := d1
  have x2 := d2
  have x3 := d3
  have x4 := d4
  have x5 := d5
  have x6 := d6
  have x7 := d7
  have x8 := d8
  go_enter Try.func8, Try.ntmps8
  go_wp2_with (first
    | (go_at_call 9; refine (alu.Do_any _ _ _ _ _ (by omega) (by omega) (by omega) (by omega)).mono ?_; rintro e w1 ⟨rfl, hb1⟩; have hn := New.then (a := w) (by go_grown) hb1)
    | (go_at_call 11; refine (alu.Is_any _ _ _ _ _ (by omega) (by omega) (by omega) (by omega)).mono ?_; rintro e w1 ⟨rfl, hb1⟩; have hn := New.then (a := w) (by go_grown) hb1)
    | (go_at_call 13; refine (alu.Wide_any _ _).mono ?_; rintro e w1 ⟨rfl, hb1⟩; have hn := New.then (a := w) (by go_grown) hb1))
  go_ret
  exact ⟨rfl, hn⟩

theorem AluDoes_walk (op : Int) (nar : Bool) (a b n : Int) (w0 : (Lit.int .u8 op).wf = true) (w2 : (Lit.int .u64 a).wf = true) (w3 : (Lit.int .u64 b).wf = true) (w4 : (Lit.int .i64 n).wf = true) (w : World) :
    Calls Try.prog 3 #[.int .u8 op, .bool nar, .int .u64 a, .int .u64 b, .int .i64 n] w fun e w' => e = .returned (.bool true) ∧ New w w' := by
  obtain ⟨a0, a1⟩ := wf_u64 w2
  obtain ⟨b0, b1⟩ := wf_u64 w3
  clear w0 w2 w3 w4
  go_enter Try.func3, Try.ntmps3
  go_wp2_with (first
    | (go_at_call 8; refine (awake_any _).mono ?_; rintro e w1 ⟨rfl, hb1⟩; have hn := New.then (a := w) (by go_grown) hb1)
    | (go_at_call 9; refine (alu.Do_any _ _ _ _ _ a0 a1 b0 b1).mono ?_; rintro e w1 ⟨rfl, hb1⟩; have hn := New.then (a := w) (by go_grown) hb1)
    | (go_at_call 11; refine (alu.Is_any _ _ _ _ _ a0 a1 b0 b1).mono ?_; rintro e w1 ⟨rfl, hb1⟩; have hn := New.then (a := w) (by go_grown) hb1)
    | (go_at_call 10; refine (ref.Do_any _ _ _ _ _ a0 a1 b0 b1).mono ?_; rintro e w1 ⟨rfl, hb1⟩; have hn := New.then (a := w) (by go_grown) hb1)
    | (go_at_call 12; refine (ref.Is_any _ _ _ _ _ a0 a1 b0 b1).mono ?_; rintro e w1 ⟨rfl, hb1⟩; have hn := New.then (a := w) (by go_grown) hb1)
    | (go_at_call 14; refine (ref.Wide_any _ _).mono ?_; rintro e w1 ⟨rfl, hb1⟩; have hn := New.then (a := w) (by go_grown) hb1)
    | (go_at_call 13; refine (alu.Wide_any _ _).mono ?_; rintro e w1 ⟨rfl, hb1⟩; have hn := New.then (a := w) (by go_grown) hb1))
  go_ret
  exact ⟨rfl, hn⟩

theorem AluSame_any (op a b : Int) (a0 : 0 ≤ a) (a1 : a ≤ 18446744073709551615) (b0 : 0 ≤ b) (b1 : b ≤ 18446744073709551615) (w : World) :
    Calls Try.prog 5 #[.int .u8 op, .int .u64 a, .int .u64 b] w fun e w' => e = .returned (.bool true) ∧ New w w' := by
  go_enter Try.func5, Try.ntmps5
  go_wp2_with fail
  go_loopw [7] (fun i wr => ∃ k : Nat, k ≤ 2 ∧ i = .int .i64 k ∧ New w wr) (fun i _ => 2 - (intOf i).toNat)
  case atStart => exact ⟨0, Nat.zero_le _, rfl, Below.refl _ _⟩
  case round =>
    obtain ⟨k, hk, rfl, hn⟩ := hrel
    have hk3 : k = 0 ∨ k = 1 ∨ k = 2 := by omega
    clear hk
    rcases hk3 with rfl | rfl | rfl
    · go_wp2_with (first
        | (go_at_call 9; refine (alu.Do_any _ _ _ _ _ a0 a1 b0 b1).mono ?_; rintro e w1 ⟨rfl, hb1⟩; have hn := New.then (a := w) (by go_grown) hb1)
        | (go_at_call 11; refine (alu.Is_any _ _ _ _ _ a0 a1 b0 b1).mono ?_; rintro e w1 ⟨rfl, hb1⟩; have hn := New.then (a := w) (by go_grown) hb1)
        | (go_at_call 10; refine (ref.Do_any _ _ _ _ _ a0 a1 b0 b1).mono ?_; rintro e w1 ⟨rfl, hb1⟩; have hn := New.then (a := w) (by go_grown) hb1)
        | (go_at_call 12; refine (ref.Is_any _ _ _ _ _ a0 a1 b0 b1).mono ?_; rintro e w1 ⟨rfl, hb1⟩; have hn := New.then (a := w) (by go_grown) hb1))
      go_roundw
      case rel => exact ⟨1, by omega, rfl, hn⟩
      case measure => simp [intOf]
    · go_wp2_with (first
        | (go_at_call 9; refine (alu.Do_any _ _ _ _ _ a0 a1 b0 b1).mono ?_; rintro e w1 ⟨rfl, hb1⟩; have hn := New.then (a := w) (by go_grown) hb1)
        | (go_at_call 11; refine (alu.Is_any _ _ _ _ _ a0 a1 b0 b1).mono ?_; rintro e w1 ⟨rfl, hb1⟩; have hn := New.then (a := w) (by go_grown) hb1)
        | (go_at_call 10; refine (ref.Do_any _ _ _ _ _ a0 a1 b0 b1).mono ?_; rintro e w1 ⟨rfl, hb1⟩; have hn := New.then (a := w) (by go_grown) hb1)
        | (go_at_call 12; refine (ref.Is_any _ _ _ _ _ a0 a1 b0 b1).mono ?_; rintro e w1 ⟨rfl, hb1⟩; have hn := New.then (a := w) (by go_grown) hb1))
      go_roundw
      case rel => exact ⟨2, by omega, rfl, hn⟩
      case measure => simp [intOf]
    · go_wp2_with (go_at_call 8; refine (awake_any _).mono ?_; rintro e w1 ⟨rfl, hb1⟩; have hn := New.then (a := w) (by go_grown) hb1)
      go_ret
      exact ⟨rfl, hn⟩

theorem AluSame_walk (op a b : Int) (w0 : (Lit.int .u8 op).wf = true) (w1 : (Lit.int .u64 a).wf = true) (w2 : (Lit.int .u64 b).wf = true) (w : World) :
    Calls Try.prog 5 #[.int .u8 op, .int .u64 a, .int .u64 b] w fun e w' => e = .returned (.bool true) ∧ New w w' :=
  AluSame_any op a b (wf_u64 w1).1 (wf_u64 w1).2 (wf_u64 w2).1 (wf_u64 w2).2 w

/-! ### what a narrow thing hangs on -/
theorem sgn_cut (a a' : Int) (h : cut true a = cut true a') : sgn true a = sgn true a' := by
  simp only [cut, sgn, if_true] at *
  unfold wrap32
  omega
theorem doErr_cut (op b b' : Int) (h : cut true b = cut true b') : doErr op true b = doErr op true b' := by unfold doErr; rw [h]
theorem doAns_cut (op a a' b b' : Int) (ha : cut true a = cut true a') (hb : cut true b = cut true b') : doAns op true a b = doAns op true a' b' := by
  unfold doAns; rw [doErr_cut op b b' hb, ha, hb, sgn_cut a a' ha]
theorem isAns_cut (op a a' b b' : Int) (ha : cut true a = cut true a') (hb : cut true b = cut true b') : isAns op true a b = isAns op true a' b' := by
  unfold isAns; rw [ha, hb, sgn_cut a a' ha, sgn_cut b b' hb]
theorem and_le (x : Int) : bits BinOp.and IntKind.u64 x 4294967295 < 4294967296 := by
  show IntKind.u64.wrap ((BitVec.ofInt 64 x &&& BitVec.ofInt 64 4294967295).toNat : Int) < 4294967296
  have h : (BitVec.ofInt 64 x &&& BitVec.ofInt 64 4294967295).toNat ≤ 4294967295 := by
    rw [BitVec.toNat_and]
    exact Nat.and_le_right
  rw [IntWalk.u64_in _ (by omega)]
  omega
theorem doAns_lt (op a b : Int) : doAns op true a b < 4294967296 := by
  unfold doAns
  split
  · exact and_le _
  · omega

theorem up_cut (a up : Int) (a0 : 0 ≤ a) (a1 : a ≤ 18446744073709551615) : 0 ≤ bits BinOp.xor IntKind.u64 a (IntKind.u64.wrap (up * 4294967296)) ∧ bits BinOp.xor IntKind.u64 a (IntKind.u64.wrap (up * 4294967296)) ≤ 18446744073709551615 ∧ cut true (bits BinOp.xor IntKind.u64 a (IntKind.u64.wrap (up * 4294967296))) = cut true a := by
  obtain ⟨a, rfl⟩ := Int.eq_ofNat_of_zero_le a0
  have hu := ref.u64_bd (up * 4294967296)
  have hm : IntKind.u64.wrap (up * 4294967296) % 4294967296 = 0 := by rw [IntKind.wrap_u64]; omega
  obtain ⟨u, hue⟩ := Int.eq_ofNat_of_zero_le hu.1
  rw [hue] at hu hm ⊢
  rw [u64_xor_nat _ _ (by omega) (by omega)]
  have hx : a ^^^ u < 2 ^ 64 := Nat.xor_lt_two_pow (by omega) (by omega)
  have hmod : (a ^^^ u) % 2 ^ 32 = a % 2 ^ 32 := by
    rw [Nat.xor_mod_two_pow, show u % 2 ^ 32 = 0 by omega, Nat.xor_zero]
  refine ⟨by omega, by omega, ?_⟩
  simp only [cut, if_true]
  omega

theorem AluNarrow_walk (op a b up : Int) (w0 : (Lit.int .u8 op).wf = true) (w1 : (Lit.int .u64 a).wf = true) (w2 : (Lit.int .u64 b).wf = true) (w3 : (Lit.int .u64 up).wf = true) (w : World) :
    Calls Try.prog 7 #[.int .u8 op, .int .u64 a, .int .u64 b, .int .u64 up] w fun e w' => e = .returned (.bool true) ∧ New w w' := by
  obtain ⟨a0, a1⟩ := wf_u64 w1
  obtain ⟨b0, b1⟩ := wf_u64 w2
  obtain ⟨u0, u1⟩ := wf_u64 w3
  clear w0 w1 w2 w3
  obtain ⟨A0, A1, hcA⟩ := up_cut a up a0 a1
  have hcB : cut true (IntKind.u64.wrap (b + IntKind.u64.wrap (up * 4294967296))) = cut true b := by
    simp only [cut, if_true]; rw [IntKind.wrap_u64, IntKind.wrap_u64]; omega
  obtain ⟨B0, B1⟩ := ref.u64_bd (b + IntKind.u64.wrap (up * 4294967296))
  have h1 := doAns_cut op _ _ _ _ hcA hcB
  have h2 := doErr_cut op _ _ hcB
  have h3 := isAns_cut op _ _ _ _ hcA hcB
  have h4 := doAns_lt op a b
  clear hcA hcB
  generalize hA : bits BinOp.xor IntKind.u64 a (IntKind.u64.wrap (up * 4294967296)) = A at *
  generalize hB : IntKind.u64.wrap (b + IntKind.u64.wrap (up * 4294967296)) = B at *
  go_enter Try.func7, Try.ntmps7
  go_wp2_with (first
    | (go_at_call 8; refine (awake_any _).mono ?_; rintro e w1 ⟨rfl, hb1⟩; have hn := New.then (a := w) (by go_grown) hb1)
    | (go_at_call 9; refine (alu.Do_any _ _ _ _ _ (by assumption) (by assumption) (by assumption) (by assumption)).mono ?_; rintro e w1 ⟨rfl, hb1⟩; have hn := New.then (a := w) (by go_grown) hb1)
    | (go_at_call 11; refine (alu.Is_any _ _ _ _ _ (by assumption) (by assumption) (by assumption) (by assumption)).mono ?_; rintro e w1 ⟨rfl, hb1⟩; have hn := New.then (a := w) (by go_grown) hb1))
  go_ret
  exact ⟨rfl, hn⟩

end Go.Proofs.Ytkegoiibhleflaa.laws
