/-
  Contracts of ins: Right is as the chapter says.
-/
import Derived.Test.YtlchimbaclenaaaInsD
namespace Go.Proofs.Ytlchimbaclenaaa.ins
open Go.RowKit Go.Proofs.Ytlchimbaclenaaa.mem Go.Proofs.Ytlchimbaclenaaa.kit
set_option linter.unusedVariables false
set_option linter.unusedSimpArgs false

theorem inB_reg (n : Int) : inB n 0 10 = reg n := rfl
theorem inB_tgt (n : Int) : inB n 0 9 = tgt n := rfl
theorem inB_far (n : Int) : inB n (-32768) 32767 = far n := rfl
theorem inB_fits (n : Int) : inB n (-2147483648) 2147483647 = fits n := rfl
theorem reg_0 : reg 0 = true := rfl
theorem tgt_0 : tgt 0 = true := rfl

theorem ok_147i (o : Int) (n : Bool) (d s : Int) (f m z : Int) (h0 : 1 ≤ o) (h1 : o ≤ 12) : (sameB o n d s true f m z o n d 0 true 0 m 0 && fitB 147 d s f m z) = ok ⟨o, n, d, s, true, f, m, z⟩ := by
  have h2 : has 147 2 = true := by decide +kernel
  have h64 : has 147 64 = false := by decide +kernel
  have hk : ok ⟨o, n, d, s, true, f, m, z⟩ = (tgt d && (sec true s m && (decide (f = 0) && decide (z = 0)))) := by unfold ok; rw [if_pos ⟨h0, h1⟩]
  rw [hk]
  clear hk
  unfold sameB fitB
  simp only [h2, h64, if_true, if_false, Bool.false_eq_true, inB_reg, inB_tgt, inB_far, inB_fits]
  by_cases hs : s = 0 <;> by_cases hf : f = 0 <;> by_cases hz : z = 0 <;> simp [*, sec, reg_0, far_0, fits_0, tgt_0, Bool.and_comm, Bool.and_left_comm]
theorem right_147i (o : Int) (n : Bool) (d s : Int) (f m z : Int) (h0 : 1 ≤ o) (h1 : o ≤ 12) (w : World) : Calls Try.prog 25 #[.agg #[.int .u8 o, .bool n, .int .i64 d, .int .i64 s, .bool true, .int .i64 f, .int .i64 m, .int .i64 z]] w fun e w' => e = .returned (.bool (ok ⟨o, n, d, s, true, f, m, z⟩)) ∧ New w w' := by
  rw [← ok_147i o n d s  f m z h0 h1]
  exact right_of 147 o n d s true f m z o n d 0 true 0 m 0 w (fld_1 h0 h1) (by decide +kernel) _ rfl (fun W => only_147i o n d s  f m z W)

theorem ok_147r (o : Int) (n : Bool) (d s : Int) (f m z : Int) (h0 : 1 ≤ o) (h1 : o ≤ 12) : (sameB o n d s false f m z o n d s false 0 0 0 && fitB 147 d s f m z) = ok ⟨o, n, d, s, false, f, m, z⟩ := by
  have h2 : has 147 2 = true := by decide +kernel
  have h64 : has 147 64 = false := by decide +kernel
  have hk : ok ⟨o, n, d, s, false, f, m, z⟩ = (tgt d && (sec false s m && (decide (f = 0) && decide (z = 0)))) := by unfold ok; rw [if_pos ⟨h0, h1⟩]
  rw [hk]
  clear hk
  unfold sameB fitB
  simp only [h2, h64, if_true, if_false, Bool.false_eq_true, inB_reg, inB_tgt, inB_far, inB_fits]
  by_cases hf : f = 0 <;> by_cases hm : m = 0 <;> by_cases hz : z = 0 <;> simp [*, sec, reg_0, far_0, fits_0, tgt_0, Bool.and_comm, Bool.and_left_comm]
theorem right_147r (o : Int) (n : Bool) (d s : Int) (f m z : Int) (h0 : 1 ≤ o) (h1 : o ≤ 12) (w : World) : Calls Try.prog 25 #[.agg #[.int .u8 o, .bool n, .int .i64 d, .int .i64 s, .bool false, .int .i64 f, .int .i64 m, .int .i64 z]] w fun e w' => e = .returned (.bool (ok ⟨o, n, d, s, false, f, m, z⟩)) ∧ New w w' := by
  rw [← ok_147r o n d s  f m z h0 h1]
  exact right_of 147 o n d s false f m z o n d s false 0 0 0 w (fld_1 h0 h1) (by decide +kernel) _ rfl (fun W => only_147r o n d s  f m z W)

theorem ok_131 (n : Bool) (d s : Int) (u : Bool) (f m z : Int)  : (sameB 13 n d s u f m z 13 n d 0 false 0 0 0 && fitB 131 d s f m z) = ok ⟨13, n, d, s, u, f, m, z⟩ := by
  have h2 : has 131 2 = true := by decide +kernel
  have h64 : has 131 64 = false := by decide +kernel
  have hk : ok ⟨13, n, d, s, u, f, m, z⟩ = (tgt d && (decide (s = 0) && (!u && (decide (f = 0) && (decide (m = 0) && decide (z = 0)))))) := by rfl
  rw [hk]
  clear hk
  unfold sameB fitB
  simp only [h2, h64, if_true, if_false, Bool.false_eq_true, inB_reg, inB_tgt, inB_far, inB_fits]
  by_cases hs : s = 0 <;> by_cases hf : f = 0 <;> by_cases hm : m = 0 <;> by_cases hz : z = 0 <;> cases u <;> simp [*, sec, reg_0, far_0, fits_0, tgt_0, Bool.and_comm, Bool.and_left_comm]
theorem right_131 (n : Bool) (d s : Int) (u : Bool) (f m z : Int)  (w : World) : Calls Try.prog 25 #[.agg #[.int .u8 13, .bool n, .int .i64 d, .int .i64 s, .bool u, .int .i64 f, .int .i64 m, .int .i64 z]] w fun e w' => e = .returned (.bool (ok ⟨13, n, d, s, u, f, m, z⟩)) ∧ New w w' := by
  rw [← ok_131  n d s u f m z]
  exact right_of 131 13 n d s u f m z 13 n d 0 false 0 0 0 w rfl (by decide +kernel) _ rfl (fun W => only_131 13 n d s u f m z W)

theorem ok_107 (n : Bool) (d s : Int) (u : Bool) (f m z : Int)  : (sameB 14 n d s u f m z 14 false d s false f 0 z && fitB 107 d s f m z) = ok ⟨14, n, d, s, u, f, m, z⟩ := by
  have h2 : has 107 2 = true := by decide +kernel
  have h64 : has 107 64 = true := by decide +kernel
  have hk : ok ⟨14, n, d, s, u, f, m, z⟩ = (tgt d && (reg s && (far f && (sizd z && (!n && (!u && decide (m = 0))))))) := by rfl
  rw [hk]
  clear hk
  unfold sameB fitB
  simp only [h2, h64, if_true, if_false, Bool.false_eq_true, inB_reg, inB_tgt, inB_far, inB_fits]
  by_cases hm : m = 0 <;> cases n <;> cases u <;> simp [*, sec, reg_0, far_0, fits_0, tgt_0, Bool.and_comm, Bool.and_left_comm]
theorem right_107 (n : Bool) (d s : Int) (u : Bool) (f m z : Int)  (w : World) : Calls Try.prog 25 #[.agg #[.int .u8 14, .bool n, .int .i64 d, .int .i64 s, .bool u, .int .i64 f, .int .i64 m, .int .i64 z]] w fun e w' => e = .returned (.bool (ok ⟨14, n, d, s, u, f, m, z⟩)) ∧ New w w' := by
  rw [← ok_107  n d s u f m z]
  exact right_of 107 14 n d s u f m z 14 false d s false f 0 z w rfl (by decide +kernel) _ rfl (fun W => only_107 14 n d s u f m z W)

theorem ok_117i (n : Bool) (d s : Int) (f m z : Int)  : (sameB 15 n d s true f m z 15 false d 0 true f m z && fitB 117 d s f m z) = ok ⟨15, n, d, s, true, f, m, z⟩ := by
  have h2 : has 117 2 = false := by decide +kernel
  have h64 : has 117 64 = true := by decide +kernel
  have hk : ok ⟨15, n, d, s, true, f, m, z⟩ = (reg d && (far f && (sizd z && (sec true s m && !n)))) := by rfl
  rw [hk]
  clear hk
  unfold sameB fitB
  simp only [h2, h64, if_true, if_false, Bool.false_eq_true, inB_reg, inB_tgt, inB_far, inB_fits]
  by_cases hs : s = 0 <;> cases n <;> simp [*, sec, reg_0, far_0, fits_0, tgt_0, Bool.and_comm, Bool.and_left_comm]
theorem right_117i (n : Bool) (d s : Int) (f m z : Int)  (w : World) : Calls Try.prog 25 #[.agg #[.int .u8 15, .bool n, .int .i64 d, .int .i64 s, .bool true, .int .i64 f, .int .i64 m, .int .i64 z]] w fun e w' => e = .returned (.bool (ok ⟨15, n, d, s, true, f, m, z⟩)) ∧ New w w' := by
  rw [← ok_117i  n d s  f m z]
  exact right_of 117 15 n d s true f m z 15 false d 0 true f m z w rfl (by decide +kernel) _ rfl (fun W => only_117i 15 n d s  f m z W)

theorem ok_117r (n : Bool) (d s : Int) (f m z : Int)  : (sameB 15 n d s false f m z 15 false d s false f 0 z && fitB 117 d s f m z) = ok ⟨15, n, d, s, false, f, m, z⟩ := by
  have h2 : has 117 2 = false := by decide +kernel
  have h64 : has 117 64 = true := by decide +kernel
  have hk : ok ⟨15, n, d, s, false, f, m, z⟩ = (reg d && (far f && (sizd z && (sec false s m && !n)))) := by rfl
  rw [hk]
  clear hk
  unfold sameB fitB
  simp only [h2, h64, if_true, if_false, Bool.false_eq_true, inB_reg, inB_tgt, inB_far, inB_fits]
  by_cases hm : m = 0 <;> cases n <;> simp [*, sec, reg_0, far_0, fits_0, tgt_0, Bool.and_comm, Bool.and_left_comm]
theorem right_117r (n : Bool) (d s : Int) (f m z : Int)  (w : World) : Calls Try.prog 25 #[.agg #[.int .u8 15, .bool n, .int .i64 d, .int .i64 s, .bool false, .int .i64 f, .int .i64 m, .int .i64 z]] w fun e w' => e = .returned (.bool (ok ⟨15, n, d, s, false, f, m, z⟩)) ∧ New w w' := by
  rw [← ok_117r  n d s  f m z]
  exact right_of 117 15 n d s false f m z 15 false d s false f 0 z w rfl (by decide +kernel) _ rfl (fun W => only_117r 15 n d s  f m z W)

theorem ok_33 (n : Bool) (d s : Int) (u : Bool) (f m z : Int)  : (sameB 16 n d s u f m z 16 false 0 0 false f 0 0 && fitB 33 d s f m z) = ok ⟨16, n, d, s, u, f, m, z⟩ := by
  have h2 : has 33 2 = false := by decide +kernel
  have h64 : has 33 64 = false := by decide +kernel
  have hk : ok ⟨16, n, d, s, u, f, m, z⟩ = (far f && (!n && (decide (d = 0) && (decide (s = 0) && (!u && (decide (m = 0) && decide (z = 0))))))) := by rfl
  rw [hk]
  clear hk
  unfold sameB fitB
  simp only [h2, h64, if_true, if_false, Bool.false_eq_true, inB_reg, inB_tgt, inB_far, inB_fits]
  by_cases hs : s = 0 <;> by_cases hm : m = 0 <;> by_cases hd : d = 0 <;> by_cases hz : z = 0 <;> cases n <;> cases u <;> simp [*, sec, reg_0, far_0, fits_0, tgt_0, Bool.and_comm, Bool.and_left_comm]
theorem right_33 (n : Bool) (d s : Int) (u : Bool) (f m z : Int)  (w : World) : Calls Try.prog 25 #[.agg #[.int .u8 16, .bool n, .int .i64 d, .int .i64 s, .bool u, .int .i64 f, .int .i64 m, .int .i64 z]] w fun e w' => e = .returned (.bool (ok ⟨16, n, d, s, u, f, m, z⟩)) ∧ New w w' := by
  rw [← ok_33  n d s u f m z]
  exact right_of 33 16 n d s u f m z 16 false 0 0 false f 0 0 w rfl (by decide +kernel) _ rfl (fun W => only_33 16 n d s u f m z W)

theorem ok_181i (o : Int) (n : Bool) (d s : Int) (f m z : Int) (h0 : 17 ≤ o) (h1 : o ≤ 27) : (sameB o n d s true f m z o n d 0 true f m 0 && fitB 181 d s f m z) = ok ⟨o, n, d, s, true, f, m, z⟩ := by
  have h2 : has 181 2 = false := by decide +kernel
  have h64 : has 181 64 = false := by decide +kernel
  have hk : ok ⟨o, n, d, s, true, f, m, z⟩ = (reg d && (far f && (sec true s m && decide (z = 0)))) := by unfold ok; rw [if_neg (by simp only; omega), if_neg (by simp only; omega), if_neg (by simp only; omega), if_neg (by simp only; omega), if_neg (by simp only; omega), if_pos ⟨h0, h1⟩]
  rw [hk]
  clear hk
  unfold sameB fitB
  simp only [h2, h64, if_true, if_false, Bool.false_eq_true, inB_reg, inB_tgt, inB_far, inB_fits]
  by_cases hs : s = 0 <;> by_cases hz : z = 0 <;> simp [*, sec, reg_0, far_0, fits_0, tgt_0, Bool.and_comm, Bool.and_left_comm]
theorem right_181i (o : Int) (n : Bool) (d s : Int) (f m z : Int) (h0 : 17 ≤ o) (h1 : o ≤ 27) (w : World) : Calls Try.prog 25 #[.agg #[.int .u8 o, .bool n, .int .i64 d, .int .i64 s, .bool true, .int .i64 f, .int .i64 m, .int .i64 z]] w fun e w' => e = .returned (.bool (ok ⟨o, n, d, s, true, f, m, z⟩)) ∧ New w w' := by
  rw [← ok_181i o n d s  f m z h0 h1]
  exact right_of 181 o n d s true f m z o n d 0 true f m 0 w (fld_2 h0 h1) (by decide +kernel) _ rfl (fun W => only_181i o n d s  f m z W)

theorem ok_181r (o : Int) (n : Bool) (d s : Int) (f m z : Int) (h0 : 17 ≤ o) (h1 : o ≤ 27) : (sameB o n d s false f m z o n d s false f 0 0 && fitB 181 d s f m z) = ok ⟨o, n, d, s, false, f, m, z⟩ := by
  have h2 : has 181 2 = false := by decide +kernel
  have h64 : has 181 64 = false := by decide +kernel
  have hk : ok ⟨o, n, d, s, false, f, m, z⟩ = (reg d && (far f && (sec false s m && decide (z = 0)))) := by unfold ok; rw [if_neg (by simp only; omega), if_neg (by simp only; omega), if_neg (by simp only; omega), if_neg (by simp only; omega), if_neg (by simp only; omega), if_pos ⟨h0, h1⟩]
  rw [hk]
  clear hk
  unfold sameB fitB
  simp only [h2, h64, if_true, if_false, Bool.false_eq_true, inB_reg, inB_tgt, inB_far, inB_fits]
  by_cases hm : m = 0 <;> by_cases hz : z = 0 <;> simp [*, sec, reg_0, far_0, fits_0, tgt_0, Bool.and_comm, Bool.and_left_comm]
theorem right_181r (o : Int) (n : Bool) (d s : Int) (f m z : Int) (h0 : 17 ≤ o) (h1 : o ≤ 27) (w : World) : Calls Try.prog 25 #[.agg #[.int .u8 o, .bool n, .int .i64 d, .int .i64 s, .bool false, .int .i64 f, .int .i64 m, .int .i64 z]] w fun e w' => e = .returned (.bool (ok ⟨o, n, d, s, false, f, m, z⟩)) ∧ New w w' := by
  rw [← ok_181r o n d s  f m z h0 h1]
  exact right_of 181 o n d s false f m z o n d s false f 0 0 w (fld_2 h0 h1) (by decide +kernel) _ rfl (fun W => only_181r o n d s  f m z W)

theorem ok_1 (n : Bool) (d s : Int) (u : Bool) (f m z : Int)  : (sameB 28 n d s u f m z 28 false 0 0 false 0 0 0 && fitB 1 d s f m z) = ok ⟨28, n, d, s, u, f, m, z⟩ := by
  have h2 : has 1 2 = false := by decide +kernel
  have h64 : has 1 64 = false := by decide +kernel
  have hk : ok ⟨28, n, d, s, u, f, m, z⟩ = (!n && (decide (d = 0) && (decide (s = 0) && (!u && (decide (f = 0) && (decide (m = 0) && decide (z = 0))))))) := by rfl
  rw [hk]
  clear hk
  unfold sameB fitB
  simp only [h2, h64, if_true, if_false, Bool.false_eq_true, inB_reg, inB_tgt, inB_far, inB_fits]
  by_cases hs : s = 0 <;> by_cases hf : f = 0 <;> by_cases hm : m = 0 <;> by_cases hd : d = 0 <;> by_cases hz : z = 0 <;> cases n <;> cases u <;> simp [*, sec, reg_0, far_0, fits_0, tgt_0, Bool.and_comm, Bool.and_left_comm]
theorem right_1 (n : Bool) (d s : Int) (u : Bool) (f m z : Int)  (w : World) : Calls Try.prog 25 #[.agg #[.int .u8 28, .bool n, .int .i64 d, .int .i64 s, .bool u, .int .i64 f, .int .i64 m, .int .i64 z]] w fun e w' => e = .returned (.bool (ok ⟨28, n, d, s, u, f, m, z⟩)) ∧ New w w' := by
  rw [← ok_1  n d s u f m z]
  exact right_of 1 28 n d s u f m z 28 false 0 0 false 0 0 0 w rfl (by decide +kernel) _ rfl (fun W => only_1 28 n d s u f m z W)

end Go.Proofs.Ytlchimbaclenaaa.ins
