/-
  The document's Next.
-/
import Derived.Test.YtlchimbaclenaaaInsU
import Derived.Test.YtlchimbaclenaaaInsK
namespace Go.Proofs.Ytlchimbaclenaaa.ins
open Go.RowKit Go.Proofs.Ytlchimbaclenaaa.mem Go.Proofs.Ytlchimbaclenaaa.kit
set_option linter.unusedVariables false

theorem rright_x (o : Int) (n : Bool) (d s : Int) (u : Bool) (f m z : Int) (B : Bool) (h : ok ⟨o, n, d, s, u, f, m, z⟩ = B) (w : World) :
    Calls Try.prog 21 #[.agg #[.int .u8 o, .bool n, .int .i64 d, .int .i64 s, .bool u, .int .i64 f, .int .i64 m, .int .i64 z]] w fun e w' => e = .returned (.bool B) ∧ New w w' := h ▸ RRight_any ⟨o, n, d, s, u, f, m, z⟩ w
theorem cond_x (o : Int) (n : Bool) (d s : Int) (u : Bool) (f m z : Int) (B : Bool) (h : cond ⟨o, n, d, s, u, f, m, z⟩ = B) (w : World) :
    Calls Try.prog 38 #[.agg #[.int .u8 o, .bool n, .int .i64 d, .int .i64 s, .bool u, .int .i64 f, .int .i64 m, .int .i64 z]] w fun e w' => e = .returned (.bool B) ∧ New w w' := h ▸ cond_any o n d s u f m z w
theorem eight {w : World} {g : Nat} {t : TypeId} {a b c d e f h i : Value} (k : Blk w g t #[a, b, c, d, e, f, h, i]) : w.cell? ⟨g, 0, none⟩ = some a ∧ w.cell? ⟨g, 1, none⟩ = some b ∧ w.cell? ⟨g, 2, none⟩ = some c ∧ w.cell? ⟨g, 3, none⟩ = some d ∧ w.cell? ⟨g, 4, none⟩ = some e ∧ w.cell? ⟨g, 5, none⟩ = some f ∧ w.cell? ⟨g, 6, none⟩ = some h ∧ w.cell? ⟨g, 7, none⟩ = some i :=
  ⟨k.cell 0, k.cell 1, k.cell 2, k.cell 3, k.cell 4, k.cell 5, k.cell 6, k.cell 7⟩
theorem nextD_one2 {w w2 : World} (o : Obj) (a : Int) (t : TypeId) (hn : New w (w2.alloc o)) : NextD w [a] (.returned (.slice (some ⟨w2.heap.size + 1, 0, none⟩) 1 1)) ((w2.alloc o).alloc (.cells #[.int .i64 a] t)) := by
  have h := nextD_one a t hn
  have e : (w2.alloc o).heap.size = w2.heap.size + 1 := by simp
  rw [e] at h
  exact h
set_option maxRecDepth 100000 in
theorem rnext_low (A : Option Addr) (n c : Nat) (k : Int) (w : World) (h : k < 0) : Calls Try.prog 39 #[.slice A n c, .int .i64 k] w (NextD w []) := by
  go_enter Try.func39, Try.ntmps39
  go_wp2
  go_ret
  exact nextD_nil (new_refl w)
set_option maxRecDepth 100000 in
theorem rnext_high (A : Option Addr) (n c : Nat) (k : Int) (w : World) (h : ¬ k < 0) (h2 : (n : Int) ≤ k) : Calls Try.prog 39 #[.slice A n c, .int .i64 k] w (NextD w []) := by
  go_enter Try.func39, Try.ntmps39
  go_wp2
  go_ret
  exact nextD_nil (new_refl w)

set_option maxRecDepth 100000 in
set_option maxHeartbeats 2000000 in
theorem rnext_bad (g a : Nat) (n c k : Nat) (w : World) (hl : n ≤ 1099511627776) (hk : k < n) (o : Int) (nn : Bool) (d s : Int) (u : Bool) (f : Int) (m z : Int) (hat : At w g (a + k * 8) ⟨o, nn, d, s, u, f, m, z⟩) (hg : g < w.heap.size) (hok : ok ⟨o, nn, d, s, u, f, m, z⟩ = false)  :
    Calls Try.prog 39 #[.slice (some ⟨g, a, none⟩) n c, .int .i64 (k : Int)] w (NextD w []) := by
  have HO := Lib.hid hok
  have HAT := Lib.hid hat
  obtain ⟨a0, a1, a2, a3, a4, a5, a6, a7⟩ := hat
  simp only at a0 a1 a2 a3 a4 a5 a6 a7
  have t1 : (k : Int) < (n : Int) := by omega
  have t2 : ¬ (k : Int) < 0 := by omega
  have t3 : ¬ (n : Int) ≤ (k : Int) := by omega
  clear hok
  go_enter Try.func39, Try.ntmps39
  go_wp2_with (first
    | (go_at_call 21; (with_reducible refine (rright_x _ _ _ _ _ _ _ _ false HO.out _).mono ?_); rintro e w2 ⟨rfl, hn2⟩; obtain ⟨b0, b1, b2, b3, b4, b5, b6, b7⟩ := HAT.out.new hg hn2; have hbx := Blk.new w2 34 #[.int .u8 o, .bool nn, .int .i64 d, .int .i64 s, .bool u, .int .i64 f, .int .i64 m, .int .i64 z]; have HN2 := Lib.hid (New.then hn2 (new1 w2 (.cells #[.int .u8 o, .bool nn, .int .i64 d, .int .i64 s, .bool u, .int .i64 f, .int .i64 m, .int .i64 z] 34))); have HBX := Lib.hid hbx; obtain ⟨c0, c1, c2, c3, c4, c5, c6, c7⟩ := eight hbx; clear hbx))
  go_ret
  exact nextD_nil hn2

set_option maxRecDepth 100000 in
set_option maxHeartbeats 2000000 in
theorem rnext_exit (g a : Nat) (n c k : Nat) (w : World) (hl : n ≤ 1099511627776) (hk : k < n) (o : Int) (nn : Bool) (d s : Int) (u : Bool) (f : Int) (m z : Int) (hat : At w g (a + k * 8) ⟨o, nn, d, s, u, f, m, z⟩) (hg : g < w.heap.size) (hok : ok ⟨o, nn, d, s, u, f, m, z⟩ = true) (f0 : -32768 ≤ f) (f1 : f ≤ 32767) (h28 : (o == 28) = true) :
    Calls Try.prog 39 #[.slice (some ⟨g, a, none⟩) n c, .int .i64 (k : Int)] w (NextD w []) := by
  have HO := Lib.hid hok
  have HAT := Lib.hid hat
  obtain ⟨a0, a1, a2, a3, a4, a5, a6, a7⟩ := hat
  simp only at a0 a1 a2 a3 a4 a5 a6 a7
  have t1 : (k : Int) < (n : Int) := by omega
  have t2 : ¬ (k : Int) < 0 := by omega
  have t3 : ¬ (n : Int) ≤ (k : Int) := by omega
  clear hok
  go_enter Try.func39, Try.ntmps39
  go_wp2_with (first
    | (go_at_call 21; (with_reducible refine (rright_x _ _ _ _ _ _ _ _ true HO.out _).mono ?_); rintro e w2 ⟨rfl, hn2⟩; obtain ⟨b0, b1, b2, b3, b4, b5, b6, b7⟩ := HAT.out.new hg hn2; have hbx := Blk.new w2 34 #[.int .u8 o, .bool nn, .int .i64 d, .int .i64 s, .bool u, .int .i64 f, .int .i64 m, .int .i64 z]; have HN2 := Lib.hid (New.then hn2 (new1 w2 (.cells #[.int .u8 o, .bool nn, .int .i64 d, .int .i64 s, .bool u, .int .i64 f, .int .i64 m, .int .i64 z] 34))); have HBX := Lib.hid hbx; obtain ⟨c0, c1, c2, c3, c4, c5, c6, c7⟩ := eight hbx; clear hbx))
  go_ret
  exact nextD_nil HN2.out

set_option maxRecDepth 100000 in
set_option maxHeartbeats 2000000 in
theorem rnext_jump (g a : Nat) (n c k : Nat) (w : World) (hl : n ≤ 1099511627776) (hk : k < n) (o : Int) (nn : Bool) (d s : Int) (u : Bool) (f : Int) (m z : Int) (hat : At w g (a + k * 8) ⟨o, nn, d, s, u, f, m, z⟩) (hg : g < w.heap.size) (hok : ok ⟨o, nn, d, s, u, f, m, z⟩ = true) (f0 : -32768 ≤ f) (f1 : f ≤ 32767) (h28 : (o == 28) = false) (h16 : (o == 16) = true) :
    Calls Try.prog 39 #[.slice (some ⟨g, a, none⟩) n c, .int .i64 (k : Int)] w (NextD w [(k : Int) + 1 + f]) := by
  have HO := Lib.hid hok
  have HAT := Lib.hid hat
  obtain ⟨a0, a1, a2, a3, a4, a5, a6, a7⟩ := hat
  simp only at a0 a1 a2 a3 a4 a5 a6 a7
  have t1 : (k : Int) < (n : Int) := by omega
  have t2 : ¬ (k : Int) < 0 := by omega
  have t3 : ¬ (n : Int) ≤ (k : Int) := by omega
  clear hok
  go_enter Try.func39, Try.ntmps39
  go_wp2_with (first
    | (go_at_call 21; (with_reducible refine (rright_x _ _ _ _ _ _ _ _ true HO.out _).mono ?_); rintro e w2 ⟨rfl, hn2⟩; obtain ⟨b0, b1, b2, b3, b4, b5, b6, b7⟩ := HAT.out.new hg hn2; have hbx := Blk.new w2 34 #[.int .u8 o, .bool nn, .int .i64 d, .int .i64 s, .bool u, .int .i64 f, .int .i64 m, .int .i64 z]; have HN2 := Lib.hid (New.then hn2 (new1 w2 (.cells #[.int .u8 o, .bool nn, .int .i64 d, .int .i64 s, .bool u, .int .i64 f, .int .i64 m, .int .i64 z] 34))); have HBX := Lib.hid hbx; obtain ⟨c0, c1, c2, c3, c4, c5, c6, c7⟩ := eight hbx; clear hbx))
  go_ret
  exact nextD_one2 _ _ _ HN2.out

set_option maxRecDepth 100000 in
set_option maxHeartbeats 2000000 in
theorem rnext_plain (g a : Nat) (n c k : Nat) (w : World) (hl : n ≤ 1099511627776) (hk : k < n) (o : Int) (nn : Bool) (d s : Int) (u : Bool) (f : Int) (m z : Int) (hat : At w g (a + k * 8) ⟨o, nn, d, s, u, f, m, z⟩) (hg : g < w.heap.size) (hok : ok ⟨o, nn, d, s, u, f, m, z⟩ = true) (f0 : -32768 ≤ f) (f1 : f ≤ 32767) (h28 : (o == 28) = false) (h16 : (o == 16) = false) (hc : cond ⟨o, nn, d, s, u, f, m, z⟩ = false) :
    Calls Try.prog 39 #[.slice (some ⟨g, a, none⟩) n c, .int .i64 (k : Int)] w (NextD w [(k : Int) + 1]) := by
  have HO := Lib.hid hok
  have HAT := Lib.hid hat
  obtain ⟨a0, a1, a2, a3, a4, a5, a6, a7⟩ := hat
  simp only at a0 a1 a2 a3 a4 a5 a6 a7
  have t1 : (k : Int) < (n : Int) := by omega
  have t2 : ¬ (k : Int) < 0 := by omega
  have t3 : ¬ (n : Int) ≤ (k : Int) := by omega
  have HC := Lib.hid hc
  clear hc
  clear hok
  go_enter Try.func39, Try.ntmps39
  go_wp2_with (first
    | (go_at_call 21; (with_reducible refine (rright_x _ _ _ _ _ _ _ _ true HO.out _).mono ?_); rintro e w2 ⟨rfl, hn2⟩; obtain ⟨b0, b1, b2, b3, b4, b5, b6, b7⟩ := HAT.out.new hg hn2; have hbx := Blk.new w2 34 #[.int .u8 o, .bool nn, .int .i64 d, .int .i64 s, .bool u, .int .i64 f, .int .i64 m, .int .i64 z]; have HN2 := Lib.hid (New.then hn2 (new1 w2 (.cells #[.int .u8 o, .bool nn, .int .i64 d, .int .i64 s, .bool u, .int .i64 f, .int .i64 m, .int .i64 z] 34))); have HBX := Lib.hid hbx; obtain ⟨c0, c1, c2, c3, c4, c5, c6, c7⟩ := eight hbx; clear hbx)
    | (go_at_call 38; (with_reducible refine (cond_x _ _ _ _ _ _ _ _ false HC.out (w2.alloc (.cells #[.int .u8 o, .bool nn, .int .i64 d, .int .i64 s, .bool u, .int .i64 f, .int .i64 m, .int .i64 z] 34))).mono ?_); rintro e w3 ⟨rfl, hn3⟩; have HB3 := Lib.hid (HBX.out.below hn3 HBX.out.lt); have HN3 := Lib.hid (New.then HN2.out hn3); obtain ⟨c0, c1, c2, c3, c4, c5, c6, c7⟩ := eight HB3.out; clear hn3)
    | (go_at_call 38; (with_reducible refine (cond_x _ _ _ _ _ _ _ _ false HC.out w3).mono ?_); rintro e w4 ⟨rfl, hn4⟩; have HN4 := Lib.hid (New.then HN3.out hn4); clear hn4))
  go_ret
  exact nextD_one _ _ HN4.out

set_option maxRecDepth 100000 in
set_option maxHeartbeats 2000000 in
theorem rnext_same (g a : Nat) (n c k : Nat) (w : World) (hl : n ≤ 1099511627776) (hk : k < n) (o : Int) (nn : Bool) (d s : Int) (u : Bool) (m z : Int) (hat : At w g (a + k * 8) ⟨o, nn, d, s, u, 0, m, z⟩) (hg : g < w.heap.size) (hok : ok ⟨o, nn, d, s, u, 0, m, z⟩ = true) (h28 : (o == 28) = false) (h16 : (o == 16) = false) (hc : cond ⟨o, nn, d, s, u, 0, m, z⟩ = true) :
    Calls Try.prog 39 #[.slice (some ⟨g, a, none⟩) n c, .int .i64 (k : Int)] w (NextD w [(k : Int) + 1]) := by
  have HO := Lib.hid hok
  have HAT := Lib.hid hat
  obtain ⟨a0, a1, a2, a3, a4, a5, a6, a7⟩ := hat
  simp only at a0 a1 a2 a3 a4 a5 a6 a7
  have t1 : (k : Int) < (n : Int) := by omega
  have t2 : ¬ (k : Int) < 0 := by omega
  have t3 : ¬ (n : Int) ≤ (k : Int) := by omega
  have HC := Lib.hid hc
  clear hc
  clear hok
  go_enter Try.func39, Try.ntmps39
  go_wp2_with (first
    | (go_at_call 21; (with_reducible refine (rright_x _ _ _ _ _ _ _ _ true HO.out _).mono ?_); rintro e w2 ⟨rfl, hn2⟩; obtain ⟨b0, b1, b2, b3, b4, b5, b6, b7⟩ := HAT.out.new hg hn2; have hbx := Blk.new w2 34 #[.int .u8 o, .bool nn, .int .i64 d, .int .i64 s, .bool u, .int .i64 0, .int .i64 m, .int .i64 z]; have HN2 := Lib.hid (New.then hn2 (new1 w2 (.cells #[.int .u8 o, .bool nn, .int .i64 d, .int .i64 s, .bool u, .int .i64 0, .int .i64 m, .int .i64 z] 34))); have HBX := Lib.hid hbx; obtain ⟨c0, c1, c2, c3, c4, c5, c6, c7⟩ := eight hbx; clear hbx)
    | (go_at_call 38; (with_reducible refine (cond_x _ _ _ _ _ _ _ _ true HC.out (w2.alloc (.cells #[.int .u8 o, .bool nn, .int .i64 d, .int .i64 s, .bool u, .int .i64 0, .int .i64 m, .int .i64 z] 34))).mono ?_); rintro e w3 ⟨rfl, hn3⟩; have HB3 := Lib.hid (HBX.out.below hn3 HBX.out.lt); have HN3 := Lib.hid (New.then HN2.out hn3); obtain ⟨c0, c1, c2, c3, c4, c5, c6, c7⟩ := eight HB3.out; clear hn3)
    | (go_at_call 38; (with_reducible refine (cond_x _ _ _ _ _ _ _ _ true HC.out w3).mono ?_); rintro e w4 ⟨rfl, hn4⟩; have HN4 := Lib.hid (New.then HN3.out hn4); clear hn4))
  go_ret
  exact nextD_one _ _ HN4.out

set_option maxRecDepth 100000 in
set_option maxHeartbeats 2000000 in
theorem rnext_back (g a : Nat) (n c k : Nat) (w : World) (hl : n ≤ 1099511627776) (hk : k < n) (o : Int) (nn : Bool) (d s : Int) (u : Bool) (f : Int) (m z : Int) (hat : At w g (a + k * 8) ⟨o, nn, d, s, u, f, m, z⟩) (hg : g < w.heap.size) (hok : ok ⟨o, nn, d, s, u, f, m, z⟩ = true) (f0 : -32768 ≤ f) (f1 : f ≤ 32767) (h28 : (o == 28) = false) (h16 : (o == 16) = false) (hc : cond ⟨o, nn, d, s, u, f, m, z⟩ = true) (hf : f < 0) :
    Calls Try.prog 39 #[.slice (some ⟨g, a, none⟩) n c, .int .i64 (k : Int)] w (NextD w [(k : Int) + 1 + f, (k : Int) + 1]) := by
  have HO := Lib.hid hok
  have HAT := Lib.hid hat
  obtain ⟨a0, a1, a2, a3, a4, a5, a6, a7⟩ := hat
  simp only at a0 a1 a2 a3 a4 a5 a6 a7
  have t1 : (k : Int) < (n : Int) := by omega
  have t2 : ¬ (k : Int) < 0 := by omega
  have t3 : ¬ (n : Int) ≤ (k : Int) := by omega
  have HC := Lib.hid hc
  clear hc
  have t4 : (k : Int) + 1 + f < (k : Int) + 1 := by omega
  clear hok
  go_enter Try.func39, Try.ntmps39
  go_wp2_with (first
    | (go_at_call 21; (with_reducible refine (rright_x _ _ _ _ _ _ _ _ true HO.out _).mono ?_); rintro e w2 ⟨rfl, hn2⟩; obtain ⟨b0, b1, b2, b3, b4, b5, b6, b7⟩ := HAT.out.new hg hn2; have hbx := Blk.new w2 34 #[.int .u8 o, .bool nn, .int .i64 d, .int .i64 s, .bool u, .int .i64 f, .int .i64 m, .int .i64 z]; have HN2 := Lib.hid (New.then hn2 (new1 w2 (.cells #[.int .u8 o, .bool nn, .int .i64 d, .int .i64 s, .bool u, .int .i64 f, .int .i64 m, .int .i64 z] 34))); have HBX := Lib.hid hbx; obtain ⟨c0, c1, c2, c3, c4, c5, c6, c7⟩ := eight hbx; clear hbx)
    | (go_at_call 38; (with_reducible refine (cond_x _ _ _ _ _ _ _ _ true HC.out (w2.alloc (.cells #[.int .u8 o, .bool nn, .int .i64 d, .int .i64 s, .bool u, .int .i64 f, .int .i64 m, .int .i64 z] 34))).mono ?_); rintro e w3 ⟨rfl, hn3⟩; have HB3 := Lib.hid (HBX.out.below hn3 HBX.out.lt); have HN3 := Lib.hid (New.then HN2.out hn3); obtain ⟨c0, c1, c2, c3, c4, c5, c6, c7⟩ := eight HB3.out; clear hn3)
    | (go_at_call 38; (with_reducible refine (cond_x _ _ _ _ _ _ _ _ true HC.out w3).mono ?_); rintro e w4 ⟨rfl, hn4⟩; have HN4 := Lib.hid (New.then HN3.out hn4); clear hn4))
  go_ret
  exact nextD_two _ _ _ HN3.out

set_option maxRecDepth 100000 in
set_option maxHeartbeats 2000000 in
theorem rnext_fore (g a : Nat) (n c k : Nat) (w : World) (hl : n ≤ 1099511627776) (hk : k < n) (o : Int) (nn : Bool) (d s : Int) (u : Bool) (f : Int) (m z : Int) (hat : At w g (a + k * 8) ⟨o, nn, d, s, u, f, m, z⟩) (hg : g < w.heap.size) (hok : ok ⟨o, nn, d, s, u, f, m, z⟩ = true) (f0 : -32768 ≤ f) (f1 : f ≤ 32767) (h28 : (o == 28) = false) (h16 : (o == 16) = false) (hc : cond ⟨o, nn, d, s, u, f, m, z⟩ = true) (hf : 0 < f) :
    Calls Try.prog 39 #[.slice (some ⟨g, a, none⟩) n c, .int .i64 (k : Int)] w (NextD w [(k : Int) + 1, (k : Int) + 1 + f]) := by
  have HO := Lib.hid hok
  have HAT := Lib.hid hat
  obtain ⟨a0, a1, a2, a3, a4, a5, a6, a7⟩ := hat
  simp only at a0 a1 a2 a3 a4 a5 a6 a7
  have t1 : (k : Int) < (n : Int) := by omega
  have t2 : ¬ (k : Int) < 0 := by omega
  have t3 : ¬ (n : Int) ≤ (k : Int) := by omega
  have HC := Lib.hid hc
  clear hc
  have t4 : ¬ (k : Int) + 1 + f < (k : Int) + 1 := by omega
  have t5 : (k : Int) + 1 < (k : Int) + 1 + f := by omega
  clear hok
  go_enter Try.func39, Try.ntmps39
  go_wp2_with (first
    | (go_at_call 21; (with_reducible refine (rright_x _ _ _ _ _ _ _ _ true HO.out _).mono ?_); rintro e w2 ⟨rfl, hn2⟩; obtain ⟨b0, b1, b2, b3, b4, b5, b6, b7⟩ := HAT.out.new hg hn2; have hbx := Blk.new w2 34 #[.int .u8 o, .bool nn, .int .i64 d, .int .i64 s, .bool u, .int .i64 f, .int .i64 m, .int .i64 z]; have HN2 := Lib.hid (New.then hn2 (new1 w2 (.cells #[.int .u8 o, .bool nn, .int .i64 d, .int .i64 s, .bool u, .int .i64 f, .int .i64 m, .int .i64 z] 34))); have HBX := Lib.hid hbx; obtain ⟨c0, c1, c2, c3, c4, c5, c6, c7⟩ := eight hbx; clear hbx)
    | (go_at_call 38; (with_reducible refine (cond_x _ _ _ _ _ _ _ _ true HC.out (w2.alloc (.cells #[.int .u8 o, .bool nn, .int .i64 d, .int .i64 s, .bool u, .int .i64 f, .int .i64 m, .int .i64 z] 34))).mono ?_); rintro e w3 ⟨rfl, hn3⟩; have HB3 := Lib.hid (HBX.out.below hn3 HBX.out.lt); have HN3 := Lib.hid (New.then HN2.out hn3); obtain ⟨c0, c1, c2, c3, c4, c5, c6, c7⟩ := eight HB3.out; clear hn3)
    | (go_at_call 38; (with_reducible refine (cond_x _ _ _ _ _ _ _ _ true HC.out w3).mono ?_); rintro e w4 ⟨rfl, hn4⟩; have HN4 := Lib.hid (New.then HN3.out hn4); clear hn4))
  go_ret
  exact nextD_two _ _ _ HN4.out

theorem rnext_any (A : Option Addr) (n c : Nat) (l : List In) (k : Int) (w : World) (hn : n = l.length) (hl : n ≤ 1099511627776) (hA : RI w A l) : Calls Try.prog 39 #[.slice A n c, .int .i64 k] w (NextD w (nx l k)) := by
  by_cases h : 0 ≤ k ∧ k < (n : Int)
  · obtain ⟨q, rfl⟩ := Int.eq_ofNat_of_zero_le h.1
    have hq : q < l.length := by omega
    rw [nx_at hq]
    obtain ⟨g, a, rfl, hg, hat⟩ := hA.at_ hq
    obtain ⟨x, hx⟩ : ∃ x, l[q] = x := ⟨_, rfl⟩
    rw [hx] at hat ⊢
    obtain ⟨o, nn, d, s, u, f, m, z⟩ := x
    simp only
    by_cases hok : ok ⟨o, nn, d, s, u, f, m, z⟩ = true
    · rw [if_pos hok]
      have hf := (ok_facts _ hok).2.2.2.2.1
      simp [far] at hf
      by_cases h28 : o = 28
      · rw [if_pos h28]
        exact rnext_exit g a n c q w hl (by omega) o nn d s u f m z hat hg hok hf.1 hf.2 (by simpa using h28)
      · rw [if_neg h28]
        by_cases h16 : o = 16
        · rw [if_pos h16]
          exact rnext_jump g a n c q w hl (by omega) o nn d s u f m z hat hg hok hf.1 hf.2 (by simpa using h28) (by simpa using h16)
        · rw [if_neg h16]
          by_cases hj : jumps ⟨o, nn, d, s, u, f, m, z⟩ = true
          · have hc : cond ⟨o, nn, d, s, u, f, m, z⟩ = true := by simp [jumps] at hj; simp [cond]; omega
            by_cases hlt : f < 0
            · rw [if_pos ⟨hc, hlt⟩]
              exact rnext_back g a n c q w hl (by omega) o nn d s u f m z hat hg hok hf.1 hf.2 (by simpa using h28) (by simpa using h16) hc hlt
            · rw [if_neg (fun h => hlt h.2)]
              by_cases hgt : 0 < f
              · rw [if_pos ⟨hc, hgt⟩]
                exact rnext_fore g a n c q w hl (by omega) o nn d s u f m z hat hg hok hf.1 hf.2 (by simpa using h28) (by simpa using h16) hc hgt
              · rw [if_neg (fun h => hgt h.2)]
                obtain rfl : f = 0 := by omega
                exact rnext_same g a n c q w hl (by omega) o nn d s u m z hat hg hok (by simpa using h28) (by simpa using h16) hc
          · have hj' : jumps ⟨o, nn, d, s, u, f, m, z⟩ = false := by simpa using hj
            have hc : cond ⟨o, nn, d, s, u, f, m, z⟩ = false := by simp [jumps] at hj'; simp [cond]; omega
            rw [if_neg (fun h => by rw [hc] at h; cases h.1), if_neg (fun h => by rw [hc] at h; cases h.1)]
            exact rnext_plain g a n c q w hl (by omega) o nn d s u f m z hat hg hok hf.1 hf.2 (by simpa using h28) (by simpa using h16) hc
    · rw [if_neg hok]
      exact rnext_bad g a n c q w hl (by omega) o nn d s u f m z hat hg (by simpa using hok)
  · rw [nx_out (by rw [← hn]; exact h)]
    by_cases h0 : k < 0
    · exact rnext_low A n c k w h0
    · exact rnext_high A n c k w h0 (by omega)
end Go.Proofs.Ytlchimbaclenaaa.ins
