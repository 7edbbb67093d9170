/-
  Contracts of ins: an instruction's bytes.
-/
import Derived.Test.YtmkonhfgmkdhoaaDoorInsF
namespace Go.Proofs.YtmkonhfgmkdhoaaDoor.ins
open Go.RowKit Go.Proofs.YtmkonhfgmkdhoaaDoor.mem Go.Proofs.YtmkonhfgmkdhoaaDoor.kit
set_option linter.unusedVariables false
set_option linter.unusedSimpArgs false

/-- What math/bits' table has, as far as sizes ask it. -/
structure TAt (w : World) : Prop where
  a0 : w.cell? ⟨1, 0, none⟩ = some (.int .u8 0)
  a1 : w.cell? ⟨1, 1, none⟩ = some (.int .u8 1)
  a3 : w.cell? ⟨1, 3, none⟩ = some (.int .u8 2)
  a7 : w.cell? ⟨1, 7, none⟩ = some (.int .u8 3)
theorem TAt.lt {w : World} (h : TAt w) : 1 < w.heap.size := block_lt_of_cell h.a0
theorem TAt.new {w w' : World} (h : TAt w) (hn : New w w') : TAt w' :=
  ⟨(hn.cell (p := ⟨1, 0, none⟩) h.lt).trans h.a0, (hn.cell (p := ⟨1, 1, none⟩) h.lt).trans h.a1, (hn.cell (p := ⟨1, 3, none⟩) h.lt).trans h.a3, (hn.cell (p := ⟨1, 7, none⟩) h.lt).trans h.a7⟩

theorem trail64_any (n : Int) (w : World) (hn : sizd n = true) (hT : TAt w) :
    Calls Tryd.prog 43 #[.int .u64 n] w fun e w' => e = .returned (.int .i64 (up n)) ∧ w = w' := by
  obtain ⟨a0, a1, a3, a7⟩ := hT
  simp [sizd] at hn
  rcases hn with ((rfl | rfl) | rfl) | rfl
  · have h1 : bits BinOp.and IntKind.u64 1 (IntKind.u64.wrap (-1)) = 1 := by decide +kernel
    have h2 : IntKind.u64.wrap 285870213051353865 = 285870213051353865 := by decide +kernel
    go_enter Tryd.func43, Tryd.ntmps43
    go_wp2
    go_ret
    exact ⟨rfl, rfl⟩
  · have h1 : bits BinOp.and IntKind.u64 2 (IntKind.u64.wrap (-2)) = 2 := by decide +kernel
    have h2 : IntKind.u64.wrap 571740426102707730 = 571740426102707730 := by decide +kernel
    go_enter Tryd.func43, Tryd.ntmps43
    go_wp2
    go_ret
    exact ⟨rfl, rfl⟩
  · have h1 : bits BinOp.and IntKind.u64 4 (IntKind.u64.wrap (-4)) = 4 := by decide +kernel
    have h2 : IntKind.u64.wrap 1143480852205415460 = 1143480852205415460 := by decide +kernel
    go_enter Tryd.func43, Tryd.ntmps43
    go_wp2
    go_ret
    exact ⟨rfl, rfl⟩
  · have h1 : bits BinOp.and IntKind.u64 8 (IntKind.u64.wrap (-8)) = 8 := by decide +kernel
    have h2 : IntKind.u64.wrap 2286961704410830920 = 2286961704410830920 := by decide +kernel
    go_enter Tryd.func43, Tryd.ntmps43
    go_wp2
    go_ret
    exact ⟨rfl, rfl⟩
theorem trail_any (n : Int) (w : World) (hn : sizd n = true) (hT : TAt w) :
    Calls Tryd.prog 33 #[.int .u64 n] w fun e w' => e = .returned (.int .i64 (up n)) ∧ w = w' := by
  go_enter Tryd.func33, Tryd.ntmps33
  go_wp2_with (go_at_call 43; refine (trail64_any _ _ hn hT).mono ?_; rintro e w1 ⟨rfl, rfl⟩)
  go_ret
  exact ⟨rfl, rfl⟩

theorem fld_sz {o : Int} (h : o = 14 ∨ o = 15) : has (fld o) 64 = true := by
  rcases h with rfl | rfl <;> decide +kernel
theorem fld_nsz {o : Int} (h : ¬ (o = 14 ∨ o = 15)) : has (fld o) 64 = false := by
  rcases ops_cases o with ⟨h0, h1⟩ | rfl | rfl | rfl | rfl | ⟨h0, h1⟩ | rfl | h0
  · rw [fld_1 h0 h1]; decide +kernel
  · decide +kernel
  · exact absurd (Or.inl rfl) h
  · exact absurd (Or.inr rfl) h
  · decide +kernel
  · rw [fld_2 h0 h1]; decide +kernel
  · decide +kernel
  · rw [fld_0 h0]; decide +kernel

theorem or_nat : ∀ k : Fin 64, ∀ j : Fin 4, bits BinOp.or IntKind.u8 ((k.val : Nat) : Int) (((j.val : Nat) : Int) * 64) = ((k.val + 64 * j.val : Nat) : Int) := by decide +kernel
theorem or_nat32 : ∀ k : Fin 32, bits BinOp.or IntKind.u8 ((k.val : Nat) : Int) 32 = ((k.val + 32 : Nat) : Int) := by decide +kernel
theorem or_nat64 : ∀ k : Fin 64, bits BinOp.or IntKind.u8 ((k.val : Nat) : Int) 64 = ((k.val + 64 : Nat) : Int) := by decide +kernel
theorem or_regs : ∀ k : Fin 11, ∀ j : Fin 11, bits BinOp.or IntKind.i64 (((k.val : Nat) : Int) * 16) ((j.val : Nat) : Int) = ((16 * k.val + j.val : Nat) : Int) := by decide +kernel
theorem or_32 (o : Int) (h0 : 0 ≤ o) (h1 : o < 32) : bits BinOp.or IntKind.u8 o 32 = o + 32 := by
  have h := or_nat32 ⟨o.toNat, by omega⟩
  simp only at h
  rw [show ((o.toNat : Nat) : Int) = o by omega] at h
  rw [h]
  omega
theorem or_64 (o : Int) (h0 : 0 ≤ o) (h1 : o < 64) : bits BinOp.or IntKind.u8 o 64 = o + 64 := by
  have h := or_nat64 ⟨o.toNat, by omega⟩
  simp only at h
  rw [show ((o.toNat : Nat) : Int) = o by omega] at h
  rw [h]
  omega
theorem or_up (o k : Int) (h0 : 0 ≤ o) (h1 : o < 64) (k0 : 0 ≤ k) (k1 : k ≤ 3) : bits BinOp.or IntKind.u8 o (k * 64) = o + 64 * k := by
  have h := or_nat ⟨o.toNat, by omega⟩ ⟨k.toNat, by omega⟩
  simp only at h
  rw [show ((o.toNat : Nat) : Int) = o by omega, show ((k.toNat : Nat) : Int) = k by omega] at h
  rw [h]
  omega
theorem or_reg (d s : Int) (d0 : 0 ≤ d) (d1 : d ≤ 10) (s0 : 0 ≤ s) (s1 : s ≤ 10) : bits BinOp.or IntKind.i64 (d * 16) s = 16 * d + s := by
  have h := or_regs ⟨d.toNat, by omega⟩ ⟨s.toNat, by omega⟩
  simp only at h
  rw [show ((d.toNat : Nat) : Int) = d by omega, show ((s.toNat : Nat) : Int) = s by omega] at h
  rw [h]
  omega

theorem bs_cells (i : In) : (vb (bs i)).toArray = #[.int .u8 (first i % 256), .int .u8 ((16 * i.dst + i.src) % 256), .int .u8 (i.off / 256 % 256), .int .u8 (i.off % 256), .int .u8 (i.imm / 16777216 % 256), .int .u8 (i.imm / 65536 % 256), .int .u8 (i.imm / 256 % 256), .int .u8 (i.imm % 256)] := by
  simp only [vb, bs, List.map_cons, List.map_nil, ub_toNat]
theorem bs_agg (i : In) (x : Int) (y : Int) (hx : x = first i % 256) (hy : y = 16 * i.dst + i.src) (f m : Int) (hf : f = i.off) (hm : m = i.imm) :
    Ending.returned (.agg #[.int .u8 x, .int .u8 (y % 256), .int .u8 (f / 256 % 256), .int .u8 (f % 256), .int .u8 (m / 16777216 % 256), .int .u8 (m / 65536 % 256), .int .u8 (m / 256 % 256), .int .u8 (m % 256)]) = Ending.returned (.agg (vb (bs i)).toArray) := by
  rw [bs_cells, hx, hy, hf, hm]

set_option maxRecDepth 100000 in
set_option maxHeartbeats 2000000 in
theorem bytes_zi (o d s f m z : Int) (w : World) (hT : TAt w) (ho : o = 14 ∨ o = 15) (o0 : 1 ≤ o) (o1 : o ≤ 28) (d0 : 0 ≤ d) (d1 : d ≤ 10) (s0 : 0 ≤ s) (s1 : s ≤ 10) (f0 : -32768 ≤ f) (f1 : f ≤ 32767) (m0 : -2147483648 ≤ m) (m1 : m ≤ 2147483647) (hz : sizd z = true) :
    Calls Tryd.prog 20 #[.agg #[.int .u8 o, .bool false, .int .i64 d, .int .i64 s, .bool true, .int .i64 f, .int .i64 m, .int .i64 z]] w fun e w' => e = .returned (.agg (vb (bs ⟨o, false, d, s, true, f, m, z⟩)).toArray) ∧ New w w' := by
  have HZ := Lib.hid (fld_sz ho)
  obtain ⟨_, u0, u1⟩ := isz_up _ hz
  have z0 : 0 ≤ z := by simp [sizd] at hz; omega
  have z1 : z ≤ 8 := by simp [sizd] at hz; omega
  have HS := Lib.hid hz
  clear hz
  have HT := Lib.hid hT
  have HR := Lib.hid (or_reg d s d0 d1 s0 s1)
  have H1 : Hid (bits BinOp.or IntKind.u8 (bits BinOp.or IntKind.u8 o 32) (up z * 64) = first ⟨o, false, d, s, true, f, m, z⟩ % 256) := Lib.hid (by rw [or_32 o (by omega) (by omega), or_up (o + 32) _ (by omega) (by omega) u0 u1]; simp only [first, if_true, if_false, Bool.false_eq_true]; omega)
  clear hT
  go_enter Tryd.func20, Tryd.ntmps20
  go_wp2_with (first
    | (go_at_call 28; refine (fieldsOf_any _ _).mono ?_; rintro e w1 ⟨rfl, rfl⟩)
    | (go_at_call 29; refine (any_any _ _ _).mono ?_; rintro e w1 ⟨rfl, rfl⟩; rw [HZ.out])
    | (go_at_call 33; refine (trail_any _ _ HS.out ((HT.out.new (new2 _ _ _)))).mono ?_; rintro e w1 ⟨rfl, rfl⟩))
  refine bodyPost_ret (v := .agg #[.int .u8 (bits BinOp.or IntKind.u8 (bits BinOp.or IntKind.u8 o 32) (up z * 64)), .int .u8 (bits BinOp.or IntKind.i64 (d * 16) s % 256), .int .u8 (f / 256 % 256), .int .u8 (f % 256), .int .u8 (m / 16777216 % 256), .int .u8 (m / 65536 % 256), .int .u8 (m / 256 % 256), .int .u8 (m % 256)]) (by simp [results, Tryd.results20, go_sem]) rfl ⟨bs_agg ⟨o, false, d, s, true, f, m, z⟩ _ _ H1.out HR.out _ _ rfl rfl, ?_⟩
  exact new2 w _ _

set_option maxRecDepth 100000 in
set_option maxHeartbeats 2000000 in
theorem bytes_zr (o d s f m z : Int) (w : World) (hT : TAt w) (ho : o = 14 ∨ o = 15) (o0 : 1 ≤ o) (o1 : o ≤ 28) (d0 : 0 ≤ d) (d1 : d ≤ 10) (s0 : 0 ≤ s) (s1 : s ≤ 10) (f0 : -32768 ≤ f) (f1 : f ≤ 32767) (m0 : -2147483648 ≤ m) (m1 : m ≤ 2147483647) (hz : sizd z = true) :
    Calls Tryd.prog 20 #[.agg #[.int .u8 o, .bool false, .int .i64 d, .int .i64 s, .bool false, .int .i64 f, .int .i64 m, .int .i64 z]] w fun e w' => e = .returned (.agg (vb (bs ⟨o, false, d, s, false, f, m, z⟩)).toArray) ∧ New w w' := by
  have HZ := Lib.hid (fld_sz ho)
  obtain ⟨_, u0, u1⟩ := isz_up _ hz
  have z0 : 0 ≤ z := by simp [sizd] at hz; omega
  have z1 : z ≤ 8 := by simp [sizd] at hz; omega
  have HS := Lib.hid hz
  clear hz
  have HT := Lib.hid hT
  have HR := Lib.hid (or_reg d s d0 d1 s0 s1)
  have H1 : Hid (bits BinOp.or IntKind.u8 (o) (up z * 64) = first ⟨o, false, d, s, false, f, m, z⟩ % 256) := Lib.hid (by rw [or_up o _ (by omega) (by omega) u0 u1]; simp only [first, if_true, if_false, Bool.false_eq_true]; omega)
  clear hT
  go_enter Tryd.func20, Tryd.ntmps20
  go_wp2_with (first
    | (go_at_call 28; refine (fieldsOf_any _ _).mono ?_; rintro e w1 ⟨rfl, rfl⟩)
    | (go_at_call 29; refine (any_any _ _ _).mono ?_; rintro e w1 ⟨rfl, rfl⟩; rw [HZ.out])
    | (go_at_call 33; refine (trail_any _ _ HS.out ((HT.out.new (new2 _ _ _)))).mono ?_; rintro e w1 ⟨rfl, rfl⟩))
  refine bodyPost_ret (v := .agg #[.int .u8 (bits BinOp.or IntKind.u8 (o) (up z * 64)), .int .u8 (bits BinOp.or IntKind.i64 (d * 16) s % 256), .int .u8 (f / 256 % 256), .int .u8 (f % 256), .int .u8 (m / 16777216 % 256), .int .u8 (m / 65536 % 256), .int .u8 (m / 256 % 256), .int .u8 (m % 256)]) (by simp [results, Tryd.results20, go_sem]) rfl ⟨bs_agg ⟨o, false, d, s, false, f, m, z⟩ _ _ H1.out HR.out _ _ rfl rfl, ?_⟩
  exact new2 w _ _

set_option maxRecDepth 100000 in
set_option maxHeartbeats 2000000 in
theorem bytes_ni (o d s f m : Int) (w : World) (hT : TAt w) (ho : ¬ (o = 14 ∨ o = 15)) (o0 : 1 ≤ o) (o1 : o ≤ 28) (d0 : 0 ≤ d) (d1 : d ≤ 10) (s0 : 0 ≤ s) (s1 : s ≤ 10) (f0 : -32768 ≤ f) (f1 : f ≤ 32767) (m0 : -2147483648 ≤ m) (m1 : m ≤ 2147483647) :
    Calls Tryd.prog 20 #[.agg #[.int .u8 o, .bool false, .int .i64 d, .int .i64 s, .bool true, .int .i64 f, .int .i64 m, .int .i64 0]] w fun e w' => e = .returned (.agg (vb (bs ⟨o, false, d, s, true, f, m, 0⟩)).toArray) ∧ New w w' := by
  have HZ := Lib.hid (fld_nsz ho)
  have HT := Lib.hid hT
  have HR := Lib.hid (or_reg d s d0 d1 s0 s1)
  have H1 : Hid (bits BinOp.or IntKind.u8 o 32 = first ⟨o, false, d, s, true, f, m, 0⟩ % 256) := Lib.hid (by rw [or_32 o (by omega) (by omega)]; simp [first, up]; omega)
  clear hT
  go_enter Tryd.func20, Tryd.ntmps20
  go_wp2_with (first
    | (go_at_call 28; refine (fieldsOf_any _ _).mono ?_; rintro e w1 ⟨rfl, rfl⟩)
    | (go_at_call 29; refine (any_any _ _ _).mono ?_; rintro e w1 ⟨rfl, rfl⟩; rw [HZ.out]))
  refine bodyPost_ret (v := .agg #[.int .u8 (bits BinOp.or IntKind.u8 o 32), .int .u8 (bits BinOp.or IntKind.i64 (d * 16) s % 256), .int .u8 (f / 256 % 256), .int .u8 (f % 256), .int .u8 (m / 16777216 % 256), .int .u8 (m / 65536 % 256), .int .u8 (m / 256 % 256), .int .u8 (m % 256)]) (by simp [results, Tryd.results20, go_sem]) rfl ⟨bs_agg ⟨o, false, d, s, true, f, m, 0⟩ _ _ H1.out HR.out _ _ rfl rfl, ?_⟩
  exact new2 w _ _

set_option maxRecDepth 100000 in
set_option maxHeartbeats 2000000 in
theorem bytes_nr (o d s f m : Int) (w : World) (hT : TAt w) (ho : ¬ (o = 14 ∨ o = 15)) (o0 : 1 ≤ o) (o1 : o ≤ 28) (d0 : 0 ≤ d) (d1 : d ≤ 10) (s0 : 0 ≤ s) (s1 : s ≤ 10) (f0 : -32768 ≤ f) (f1 : f ≤ 32767) (m0 : -2147483648 ≤ m) (m1 : m ≤ 2147483647) :
    Calls Tryd.prog 20 #[.agg #[.int .u8 o, .bool false, .int .i64 d, .int .i64 s, .bool false, .int .i64 f, .int .i64 m, .int .i64 0]] w fun e w' => e = .returned (.agg (vb (bs ⟨o, false, d, s, false, f, m, 0⟩)).toArray) ∧ New w w' := by
  have HZ := Lib.hid (fld_nsz ho)
  have HT := Lib.hid hT
  have HR := Lib.hid (or_reg d s d0 d1 s0 s1)
  have H1 : Hid (o = first ⟨o, false, d, s, false, f, m, 0⟩ % 256) := Lib.hid (by simp [first, up]; omega)
  clear hT
  go_enter Tryd.func20, Tryd.ntmps20
  go_wp2_with (first
    | (go_at_call 28; refine (fieldsOf_any _ _).mono ?_; rintro e w1 ⟨rfl, rfl⟩)
    | (go_at_call 29; refine (any_any _ _ _).mono ?_; rintro e w1 ⟨rfl, rfl⟩; rw [HZ.out]))
  refine bodyPost_ret (v := .agg #[.int .u8 (o), .int .u8 (bits BinOp.or IntKind.i64 (d * 16) s % 256), .int .u8 (f / 256 % 256), .int .u8 (f % 256), .int .u8 (m / 16777216 % 256), .int .u8 (m / 65536 % 256), .int .u8 (m / 256 % 256), .int .u8 (m % 256)]) (by simp [results, Tryd.results20, go_sem]) rfl ⟨bs_agg ⟨o, false, d, s, false, f, m, 0⟩ _ _ H1.out HR.out _ _ rfl rfl, ?_⟩
  exact new2 w _ _

set_option maxRecDepth 100000 in
set_option maxHeartbeats 2000000 in
theorem bytes_Ni (o d s f m : Int) (w : World) (hT : TAt w) (ho : ¬ (o = 14 ∨ o = 15)) (o0 : 1 ≤ o) (o1 : o ≤ 28) (d0 : 0 ≤ d) (d1 : d ≤ 10) (s0 : 0 ≤ s) (s1 : s ≤ 10) (f0 : -32768 ≤ f) (f1 : f ≤ 32767) (m0 : -2147483648 ≤ m) (m1 : m ≤ 2147483647) :
    Calls Tryd.prog 20 #[.agg #[.int .u8 o, .bool true, .int .i64 d, .int .i64 s, .bool true, .int .i64 f, .int .i64 m, .int .i64 0]] w fun e w' => e = .returned (.agg (vb (bs ⟨o, true, d, s, true, f, m, 0⟩)).toArray) ∧ New w w' := by
  have HZ := Lib.hid (fld_nsz ho)
  have HT := Lib.hid hT
  have HR := Lib.hid (or_reg d s d0 d1 s0 s1)
  have H1 : Hid (bits BinOp.or IntKind.u8 (bits BinOp.or IntKind.u8 o 32) 64 = first ⟨o, true, d, s, true, f, m, 0⟩ % 256) := Lib.hid (by rw [or_32 o (by omega) (by omega), or_64 (o + 32) (by omega) (by omega)]; simp [first, up]; omega)
  clear hT
  go_enter Tryd.func20, Tryd.ntmps20
  go_wp2_with (first
    | (go_at_call 28; refine (fieldsOf_any _ _).mono ?_; rintro e w1 ⟨rfl, rfl⟩)
    | (go_at_call 29; refine (any_any _ _ _).mono ?_; rintro e w1 ⟨rfl, rfl⟩; rw [HZ.out]))
  refine bodyPost_ret (v := .agg #[.int .u8 (bits BinOp.or IntKind.u8 (bits BinOp.or IntKind.u8 o 32) 64), .int .u8 (bits BinOp.or IntKind.i64 (d * 16) s % 256), .int .u8 (f / 256 % 256), .int .u8 (f % 256), .int .u8 (m / 16777216 % 256), .int .u8 (m / 65536 % 256), .int .u8 (m / 256 % 256), .int .u8 (m % 256)]) (by simp [results, Tryd.results20, go_sem]) rfl ⟨bs_agg ⟨o, true, d, s, true, f, m, 0⟩ _ _ H1.out HR.out _ _ rfl rfl, ?_⟩
  exact new2 w _ _

set_option maxRecDepth 100000 in
set_option maxHeartbeats 2000000 in
theorem bytes_Nr (o d s f m : Int) (w : World) (hT : TAt w) (ho : ¬ (o = 14 ∨ o = 15)) (o0 : 1 ≤ o) (o1 : o ≤ 28) (d0 : 0 ≤ d) (d1 : d ≤ 10) (s0 : 0 ≤ s) (s1 : s ≤ 10) (f0 : -32768 ≤ f) (f1 : f ≤ 32767) (m0 : -2147483648 ≤ m) (m1 : m ≤ 2147483647) :
    Calls Tryd.prog 20 #[.agg #[.int .u8 o, .bool true, .int .i64 d, .int .i64 s, .bool false, .int .i64 f, .int .i64 m, .int .i64 0]] w fun e w' => e = .returned (.agg (vb (bs ⟨o, true, d, s, false, f, m, 0⟩)).toArray) ∧ New w w' := by
  have HZ := Lib.hid (fld_nsz ho)
  have HT := Lib.hid hT
  have HR := Lib.hid (or_reg d s d0 d1 s0 s1)
  have H1 : Hid (bits BinOp.or IntKind.u8 (o) 64 = first ⟨o, true, d, s, false, f, m, 0⟩ % 256) := Lib.hid (by rw [or_64 o (by omega) (by omega)]; simp [first, up]; omega)
  clear hT
  go_enter Tryd.func20, Tryd.ntmps20
  go_wp2_with (first
    | (go_at_call 28; refine (fieldsOf_any _ _).mono ?_; rintro e w1 ⟨rfl, rfl⟩)
    | (go_at_call 29; refine (any_any _ _ _).mono ?_; rintro e w1 ⟨rfl, rfl⟩; rw [HZ.out]))
  refine bodyPost_ret (v := .agg #[.int .u8 (bits BinOp.or IntKind.u8 (o) 64), .int .u8 (bits BinOp.or IntKind.i64 (d * 16) s % 256), .int .u8 (f / 256 % 256), .int .u8 (f % 256), .int .u8 (m / 16777216 % 256), .int .u8 (m / 65536 % 256), .int .u8 (m / 256 % 256), .int .u8 (m % 256)]) (by simp [results, Tryd.results20, go_sem]) rfl ⟨bs_agg ⟨o, true, d, s, false, f, m, 0⟩ _ _ H1.out HR.out _ _ rfl rfl, ?_⟩
  exact new2 w _ _

theorem bytesOf_any (i : In) (w : World) (h : ok i = true) (hT : TAt w) :
    Calls Tryd.prog 20 #[i.val] w fun e w' => e = .returned (.agg (vb (bs i)).toArray) ∧ New w w' := by
  obtain ⟨d0, d1, s0, s1, hf, hi, o0, o1, hz⟩ := ok_facts i h
  obtain ⟨o, n, d, s, u, f, m, z⟩ := i
  simp only at d0 d1 s0 s1 hf hi o0 o1 hz
  simp [far] at hf
  simp [fits] at hi
  unfold In.val
  rcases hz with ⟨ho, rfl, hz⟩ | ⟨ho, rfl⟩
  · cases u
    · exact bytes_zr o d s f m z w hT ho o0 o1 d0 d1 s0 s1 hf.1 hf.2 hi.1 hi.2 hz
    · exact bytes_zi o d s f m z w hT ho o0 o1 d0 d1 s0 s1 hf.1 hf.2 hi.1 hi.2 hz
  · cases n <;> cases u
    · exact bytes_nr o d s f m w hT ho o0 o1 d0 d1 s0 s1 hf.1 hf.2 hi.1 hi.2
    · exact bytes_ni o d s f m w hT ho o0 o1 d0 d1 s0 s1 hf.1 hf.2 hi.1 hi.2
    · exact bytes_Nr o d s f m w hT ho o0 o1 d0 d1 s0 s1 hf.1 hf.2 hi.1 hi.2
    · exact bytes_Ni o d s f m w hT ho o0 o1 d0 d1 s0 s1 hf.1 hf.2 hi.1 hi.2
end Go.Proofs.YtmkonhfgmkdhoaaDoor.ins
