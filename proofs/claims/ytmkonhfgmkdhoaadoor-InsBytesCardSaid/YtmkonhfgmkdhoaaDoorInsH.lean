/-
  Contracts of ins: the instruction that eight bytes may be.
-/
import Derived.Test.YtmkonhfgmkdhoaaDoorInsG
import Derived.Laws.BitsAllLaws
import Derived.Laws.BitsLemmas
namespace Go.Proofs.YtmkonhfgmkdhoaaDoor.ins
open Go.RowKit Go.Proofs.YtmkonhfgmkdhoaaDoor.mem Go.Proofs.YtmkonhfgmkdhoaaDoor.kit
set_option linter.unusedVariables false
set_option linter.unusedSimpArgs false


theorem or_i32 (A y j P : Nat) (hP : P = 2 ^ j) (x : Int) (hx : x % 4294967296 = ((P * A : Nat) : Int)) (hy : y < P) (hy2 : y < 4294967296) : bits .or .i32 x (y : Int) = wrap32 ((P * A + y : Nat) : Int) := by
  subst hP
  show IntKind.i32.wrap ((BitVec.ofInt 32 x ||| BitVec.ofInt 32 (y : Int)).toNat : Int) = _
  have h1 : (BitVec.ofInt 32 x).toNat = 2 ^ j * A := by
    rw [BitVec.toNat_ofInt]
    show (x % ((2 ^ 32 : Nat) : Int)).toNat = _
    rw [show ((2 ^ 32 : Nat) : Int) = 4294967296 from rfl, hx]
    exact Int.toNat_natCast _
  have h2 : (BitVec.ofInt 32 (y : Int)).toNat = y := by
    rw [BitVec.ofInt_natCast, BitVec.toNat_ofNat]
    exact Nat.mod_eq_of_lt hy2
  rw [BitVec.toNat_or, h1, h2, ← Nat.two_pow_add_eq_or_of_lt hy, IntKind.wrap_i32]
  unfold wrap32
  first
    | done
    | exact congrArg (fun z : Int => (z + 2147483648) % 4294967296 - 2147483648) rfl
    | simp
theorem wrap_i16' (n : Int) : IntKind.i16.wrap n = (n + 32768) % 65536 - 32768 := by
  simp [IntKind.wrap, IntKind.bits, IntKind.signed]
  split <;> omega
theorem or_i16 (A y : Nat) (x : Int) (hx : x % 65536 = ((256 * A : Nat) : Int)) (hy : y < 256) : bits .or .i16 x (y : Int) = IntKind.i16.wrap ((256 * A + y : Nat) : Int) := by
  show IntKind.i16.wrap ((BitVec.ofInt 16 x ||| BitVec.ofInt 16 (y : Int)).toNat : Int) = _
  have h1 : (BitVec.ofInt 16 x).toNat = 256 * A := by
    rw [BitVec.toNat_ofInt]
    show (x % ((2 ^ 16 : Nat) : Int)).toNat = _
    rw [show ((2 ^ 16 : Nat) : Int) = 65536 from rfl, hx]
    exact Int.toNat_natCast _
  have h2 : (BitVec.ofInt 16 (y : Int)).toNat = y := by
    rw [BitVec.ofInt_natCast, BitVec.toNat_ofNat]
    exact Nat.mod_eq_of_lt (by omega)
  rw [BitVec.toNat_or, h1, h2, show (256 : Nat) = 2 ^ 8 from rfl, ← Nat.two_pow_add_eq_or_of_lt hy]

theorem off_of (a b : Int) (a0 : 0 ≤ a) (a1 : a ≤ 255) (b0 : 0 ≤ b) (b1 : b ≤ 255) : wrap64 (bits .or .i16 (IntKind.i16.wrap (a * 256)) b) = s16 (256 * a + b) := by
  obtain ⟨A, rfl⟩ := Int.eq_ofNat_of_zero_le a0
  obtain ⟨B, rfl⟩ := Int.eq_ofNat_of_zero_le b0
  rw [or_i16 A B _ (by rw [wrap_i16']; omega) (by omega), wrap_i16']
  unfold wrap64 s16
  split <;> omega
theorem imm_of (a b c d : Int) (a0 : 0 ≤ a) (a1 : a ≤ 255) (b0 : 0 ≤ b) (b1 : b ≤ 255) (c0 : 0 ≤ c) (c1 : c ≤ 255) (d0 : 0 ≤ d) (d1 : d ≤ 255) :
    wrap64 (bits .or .i32 (bits .or .i32 (bits .or .i32 (wrap32 (a * 16777216)) (b * 65536)) (c * 256)) d) = s32 (16777216 * a + 65536 * b + 256 * c + d) := by
  obtain ⟨A, rfl⟩ := Int.eq_ofNat_of_zero_le a0
  obtain ⟨B, rfl⟩ := Int.eq_ofNat_of_zero_le b0
  obtain ⟨C, rfl⟩ := Int.eq_ofNat_of_zero_le c0
  obtain ⟨D, rfl⟩ := Int.eq_ofNat_of_zero_le d0
  obtain ⟨X, hX⟩ : ∃ X, X = B * 65536 := ⟨_, rfl⟩
  obtain ⟨Y, hY⟩ : ∃ Y, Y = C * 256 := ⟨_, rfl⟩
  have eX : (B : Int) * 65536 = (X : Int) := by omega
  have eY : (C : Int) * 256 = (Y : Int) := by omega
  rw [eX, eY]
  rw [or_i32 A X 24 16777216 (by decide) _ (by unfold wrap32; omega) (by omega) (by omega)]
  rw [or_i32 (256 * A + B) Y 16 65536 (by decide) _ (by unfold wrap32; omega) (by omega) (by omega)]
  rw [or_i32 (65536 * A + 256 * B + C) D 8 256 (by decide) _ (by unfold wrap32; omega) (by omega) (by omega)]
  unfold wrap64 wrap32 s32
  split <;> omega

theorem and_nat31 : ∀ k : Fin 256, bits BinOp.and IntKind.u8 ((k.val : Nat) : Int) 31 = ((k.val % 32 : Nat) : Int) := by decide +kernel
theorem and_nat32 : ∀ k : Fin 256, (bits BinOp.and IntKind.u8 ((k.val : Nat) : Int) 32 != 0) = decide (k.val / 32 % 2 = 1) := by decide +kernel
theorem and_nat64 : ∀ k : Fin 256, (bits BinOp.and IntKind.u8 ((k.val : Nat) : Int) 64 != 0) = decide (k.val / 64 % 2 = 1) := by decide +kernel
theorem and_31 (b : Int) (h0 : 0 ≤ b) (h1 : b ≤ 255) : bits BinOp.and IntKind.u8 b 31 = b % 32 := by
  have h := and_nat31 ⟨b.toNat, by omega⟩
  simp only at h
  rw [show ((b.toNat : Nat) : Int) = b by omega] at h
  rw [h]
  omega
theorem and_32 (b : Int) (h0 : 0 ≤ b) (h1 : b ≤ 255) : (bits BinOp.and IntKind.u8 b 32 != 0) = decide (b / 32 % 2 = 1) := by
  have h := and_nat32 ⟨b.toNat, by omega⟩
  simp only at h
  rw [show ((b.toNat : Nat) : Int) = b by omega] at h
  rw [h, decide_eq_decide]
  omega
theorem and_64 (b : Int) (h0 : 0 ≤ b) (h1 : b ≤ 255) : (bits BinOp.and IntKind.u8 b 64 != 0) = decide (b / 64 % 2 = 1) := by
  have h := and_nat64 ⟨b.toNat, by omega⟩
  simp only at h
  rw [show ((b.toNat : Nat) : Int) = b by omega] at h
  rw [h, decide_eq_decide]
  omega
theorem size_of (b : Int) (h0 : 0 ≤ b) (h1 : b ≤ 255) : wrap64 (2 ^ (b / 64).toNat) = isz (b / 64) := by
  have h : b / 64 = 0 ∨ b / 64 = 1 ∨ b / 64 = 2 ∨ b / 64 = 3 := by omega
  rcases h with h | h | h | h <;> rw [h] <;> decide +kernel

/-- What the walk builds. -/
theorem ins_agg (b0 b1 b2 b3 b4 b5 b6 b7 op : Int) (N U : Bool) (z f m : Int) (ho : op = b0 % 32) (hU : U = decide (b0 / 32 % 2 = 1)) (hf : f = s16 (256 * b2 + b3)) (hm : m = s32 (16777216 * b4 + 65536 * b5 + 256 * b6 + b7))
    (hz : z = if b0 % 32 = 14 ∨ b0 % 32 = 15 then isz (b0 / 64) else 0) (hN : N = if b0 % 32 = 14 ∨ b0 % 32 = 15 then false else decide (b0 / 64 % 2 = 1)) :
    Ending.returned (.agg #[.int .u8 op, .bool N, .int .i64 (b1 / 16), .int .i64 (b1 % 16), .bool U, .int .i64 f, .int .i64 m, .int .i64 z]) = Ending.returned (inN b0 b1 b2 b3 b4 b5 b6 b7).val := by
  rw [ho, hU, hf, hm, hz, hN]
  rfl

set_option maxRecDepth 100000 in
set_option maxHeartbeats 2000000 in
theorem insOf_any (b0 b1 b2 b3 b4 b5 b6 b7 : Int) (w : World) (h00 : 0 ≤ b0) (h01 : b0 ≤ 255) (h10 : 0 ≤ b1) (h11 : b1 ≤ 255) (h20 : 0 ≤ b2) (h21 : b2 ≤ 255) (h30 : 0 ≤ b3) (h31 : b3 ≤ 255)
    (h40 : 0 ≤ b4) (h41 : b4 ≤ 255) (h50 : 0 ≤ b5) (h51 : b5 ≤ 255) (h60 : 0 ≤ b6) (h61 : b6 ≤ 255) (h70 : 0 ≤ b7) (h71 : b7 ≤ 255) :
    Calls Tryd.prog 24 #[.agg #[.int .u8 b0, .int .u8 b1, .int .u8 b2, .int .u8 b3, .int .u8 b4, .int .u8 b5, .int .u8 b6, .int .u8 b7]] w fun e w' => e = .returned (inN b0 b1 b2 b3 b4 b5 b6 b7).val ∧ New w w' := by
  have e1 := and_31 b0 h00 h01
  have HU := Lib.hid (and_32 b0 h00 h01)
  have HN := Lib.hid (and_64 b0 h00 h01)
  have HF := Lib.hid (off_of b2 b3 h20 h21 h30 h31)
  have HM := Lib.hid (imm_of b4 b5 b6 b7 h40 h41 h50 h51 h60 h61 h70 h71)
  have HZ := Lib.hid (size_of b0 h00 h01)
  obtain ⟨op, hop⟩ : ∃ op, b0 % 32 = op := ⟨_, rfl⟩
  rw [hop] at e1
  have HOP := Lib.hid hop
  clear hop
  by_cases ho : op = 14 ∨ op = 15
  · have HB := Lib.hid (fld_sz ho)
    have HO := Lib.hid ho
    clear ho
    go_enter Tryd.func24, Tryd.ntmps24
    go_wp2_with (first
      | (go_at_call 28; refine (fieldsOf_any _ _).mono ?_; rintro e w1 ⟨rfl, rfl⟩)
      | (go_at_call 29; refine (any_any _ _ _).mono ?_; rintro e w1 ⟨rfl, rfl⟩; rw [HB.out]))
    refine bodyPost_ret (v := .agg #[.int .u8 op, .bool false, .int .i64 (b1 / 16), .int .i64 (b1 % 16), .bool (bits .and .u8 b0 32 != 0), .int .i64 (wrap64 (bits .or .i16 (IntKind.i16.wrap (b2 * 256)) b3)), .int .i64 (wrap64 (bits .or .i32 (bits .or .i32 (bits .or .i32 (wrap32 (b4 * 16777216)) (b5 * 65536)) (b6 * 256)) b7)), .int .i64 (wrap64 (2 ^ (b0 / 64).toNat))]) (by simp [results, Tryd.results24, go_sem]) rfl ⟨ins_agg b0 b1 b2 b3 b4 b5 b6 b7 _ _ _ _ _ _ HOP.out.symm HU.out HF.out HM.out (by rw [HOP.out, if_pos HO.out]; exact HZ.out) (by rw [HOP.out, if_pos HO.out]), ?_⟩
    exact new3 w _ _ _
  · have HB := Lib.hid (fld_nsz ho)
    have HO := Lib.hid ho
    clear ho
    go_enter Tryd.func24, Tryd.ntmps24
    go_wp2_with (first
      | (go_at_call 28; refine (fieldsOf_any _ _).mono ?_; rintro e w1 ⟨rfl, rfl⟩)
      | (go_at_call 29; refine (any_any _ _ _).mono ?_; rintro e w1 ⟨rfl, rfl⟩; rw [HB.out]))
    refine bodyPost_ret (v := .agg #[.int .u8 op, .bool (bits .and .u8 b0 64 != 0), .int .i64 (b1 / 16), .int .i64 (b1 % 16), .bool (bits .and .u8 b0 32 != 0), .int .i64 (wrap64 (bits .or .i16 (IntKind.i16.wrap (b2 * 256)) b3)), .int .i64 (wrap64 (bits .or .i32 (bits .or .i32 (bits .or .i32 (wrap32 (b4 * 16777216)) (b5 * 65536)) (b6 * 256)) b7)), .int .i64 0]) (by simp [results, Tryd.results24, go_sem]) rfl ⟨ins_agg b0 b1 b2 b3 b4 b5 b6 b7 _ _ _ _ _ _ HOP.out.symm HU.out HF.out HM.out (by rw [HOP.out, if_neg HO.out]) (by rw [HOP.out, if_neg HO.out]; exact HN.out), ?_⟩
    exact new3 w _ _ _
end Go.Proofs.YtmkonhfgmkdhoaaDoor.ins
