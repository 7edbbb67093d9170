/-
  Contracts of ins: Next.
-/
import Derived.Test.YtlchimbaclenaaaInsL
import Derived.Test.YtlchimbaclenaaaInsF
import Derived.Test.YtlchimbaclenaaaInsP
namespace Go.Proofs.Ytlchimbaclenaaa.ins
open Go.RowKit Go.Proofs.Ytlchimbaclenaaa.mem Go.Proofs.Ytlchimbaclenaaa.kit
set_option linter.unusedVariables false

/-- What Next tells. -/
def NextD (w : World) (r : List Int) (e : Ending) (w' : World) : Prop :=
  ∃ A c, e = .returned (.slice A r.length c) ∧ Reads w' w'.heap.size 1 A r.length (vn r) ∧ New w w'
theorem nextD_nil {w w' : World} (hn : New w w') : NextD w [] (.returned (.slice none 0 0)) w' := ⟨none, 0, rfl, Reads.none_, hn⟩
theorem nextD_one {w w' : World} (a : Int) (t : TypeId) (hn : New w w') : NextD w [a] (.returned (.slice (some ⟨w'.heap.size, 0, none⟩) 1 1)) (w'.alloc (.cells #[.int .i64 a] t)) :=
  ⟨_, 1, rfl, ⟨rfl, fun _ => ⟨_, rfl, by simp, fun j v hv => by
    rw [Addr.add_lit, Nat.zero_add, (Blk.new w' t #[.int .i64 a]).cell j, ← hv]
    simp only [List.getElem?_toArray, vn, List.map_cons, List.map_nil]⟩⟩, hn.alloc hn.size _⟩
theorem nextD_two {w w' : World} (a b : Int) (t : TypeId) (hn : New w w') : NextD w [a, b] (.returned (.slice (some ⟨w'.heap.size, 0, none⟩) 2 2)) (w'.alloc (.cells #[.int .i64 a, .int .i64 b] t)) :=
  ⟨_, 2, rfl, ⟨rfl, fun _ => ⟨_, rfl, by simp, fun j v hv => by
    rw [Addr.add_lit, Nat.zero_add, (Blk.new w' t #[.int .i64 a, .int .i64 b]).cell j, ← hv]
    simp only [List.getElem?_toArray, vn, List.map_cons, List.map_nil]⟩⟩, hn.alloc hn.size _⟩

theorem jumps_x (o : Int) (n : Bool) (d s : Int) (u : Bool) (f m z : Int) (B : Bool) (h : jumps ⟨o, n, d, s, u, f, m, z⟩ = B) (w : World) :
    Calls Try.prog 26 #[.agg #[.int .u8 o, .bool n, .int .i64 d, .int .i64 s, .bool u, .int .i64 f, .int .i64 m, .int .i64 z]] w fun e w' => e = .returned (.bool B) ∧ New w w' := h ▸ Jumps_any ⟨o, n, d, s, u, f, m, z⟩ w
theorem within_x (n a b : Int) (B : Bool) (h : inB n a b = B) (w : World) : Calls Try.prog 24 #[.int .i64 n, .int .i64 a, .int .i64 b] w fun e w' => e = .returned (.bool B) ∧ w = w' := h ▸ within_any n a b w

theorem nx_out {l : List In} {k : Int} (h : ¬ (0 ≤ k ∧ k < l.length)) : nx l k = [] := by unfold nx; rw [if_neg h]
theorem nx_at {l : List In} {k : Nat} (h : k < l.length) : nx l (k : Int) = if ok l[k] then (if l[k].op = 28 then [] else if l[k].op = 16 then [(k : Int) + 1 + l[k].off] else if cond l[k] = true ∧ l[k].off < 0 then [(k : Int) + 1 + l[k].off, (k : Int) + 1] else if cond l[k] = true ∧ 0 < l[k].off then [(k : Int) + 1, (k : Int) + 1 + l[k].off] else [(k : Int) + 1]) else [] := by
  unfold nx
  rw [if_pos ⟨by omega, by omega⟩, Int.toNat_natCast, List.getElem?_eq_getElem h]

set_option maxRecDepth 100000 in
theorem next_out (A : Option Addr) (n c : Nat) (l : List In) (k : Int) (w : World) (hn : n = l.length) (hl : n ≤ 1099511627776) (h : ¬ (0 ≤ k ∧ k < (n : Int))) : Calls Try.prog 14 #[.slice A n c, .int .i64 k] w (NextD w (nx l k)) := by
  rw [nx_out (by rw [← hn]; exact h)]
  have HB := Lib.hid (show inB k 0 ((n : Int) - 1) = false by simp [inB]; omega)
  clear h hn
  go_enter Try.func14, Try.ntmps14
  go_wp2_with (go_at_call 24; refine (within_x _ _ _ false HB.out _).mono ?_; rintro e w1 ⟨rfl, rfl⟩)
  go_ret
  exact nextD_nil (new_refl w)

set_option maxRecDepth 100000 in
set_option maxHeartbeats 2000000 in
theorem next_bad (g a : Nat) (n c k : Nat) (w : World) (hl : n ≤ 1099511627776) (hk : k < n) (o : Int) (nn : Bool) (d s : Int) (u : Bool) (f m z : Int) (hat : At w g (a + k * 8) ⟨o, nn, d, s, u, f, m, z⟩) (hg : g < w.heap.size) (hok : ok ⟨o, nn, d, s, u, f, m, z⟩ = false) :
    Calls Try.prog 14 #[.slice (some ⟨g, a, none⟩) n c, .int .i64 (k : Int)] w (NextD w []) := by
  have HB := Lib.hid (show inB (k : Int) 0 ((n : Int) - 1) = true by simp [inB]; omega)
  have HO := Lib.hid hok
  have HAT := Lib.hid hat
  obtain ⟨a0, a1, a2, a3, a4, a5, a6, a7⟩ := hat
  simp only at a0 a1 a2 a3 a4 a5 a6 a7
  have t1 : (k : Int) < (n : Int) := by omega
  have e1 : IntKind.i64.wrap ((k : Int) + 1) = (k : Int) + 1 := IntWalk.i64_in _ (by omega)
  have HJ : Hid (jumps ⟨o, nn, d, s, u, f, m, z⟩ = jumps ⟨o, nn, d, s, u, f, m, z⟩) := Lib.hid rfl
  clear hok
  go_enter Try.func14, Try.ntmps14
  go_wp2_with (first
    | (go_at_call 24; refine (within_x _ _ _ true HB.out _).mono ?_; rintro e w1 ⟨rfl, rfl⟩)
    | (go_at_call 25; refine (right_x _ _ _ _ _ _ _ _ false HO.out _).mono ?_; rintro e w2 ⟨rfl, hn2⟩; obtain ⟨b0, b1, b2, b3, b4, b5, b6, b7⟩ := HAT.out.new hg hn2)
    | (go_at_call 26; refine (jumps_x _ _ _ _ _ _ _ _ true HJ.out _).mono ?_; rintro e w3 ⟨rfl, hn3⟩))
  go_ret
  exact nextD_nil hn2

set_option maxRecDepth 100000 in
set_option maxHeartbeats 2000000 in
theorem next_exit (g a : Nat) (n c k : Nat) (w : World) (hl : n ≤ 1099511627776) (hk : k < n) (o : Int) (nn : Bool) (d s : Int) (u : Bool) (f m z : Int) (hat : At w g (a + k * 8) ⟨o, nn, d, s, u, f, m, z⟩) (hg : g < w.heap.size) (hok : ok ⟨o, nn, d, s, u, f, m, z⟩ = true) (f0 : -32768 ≤ f) (f1 : f ≤ 32767) (h28 : (o == 28) = true) :
    Calls Try.prog 14 #[.slice (some ⟨g, a, none⟩) n c, .int .i64 (k : Int)] w (NextD w []) := by
  have HB := Lib.hid (show inB (k : Int) 0 ((n : Int) - 1) = true by simp [inB]; omega)
  have HO := Lib.hid hok
  have HAT := Lib.hid hat
  obtain ⟨a0, a1, a2, a3, a4, a5, a6, a7⟩ := hat
  simp only at a0 a1 a2 a3 a4 a5 a6 a7
  have t1 : (k : Int) < (n : Int) := by omega
  have e1 : IntKind.i64.wrap ((k : Int) + 1) = (k : Int) + 1 := IntWalk.i64_in _ (by omega)
  have HJ : Hid (jumps ⟨o, nn, d, s, u, f, m, z⟩ = jumps ⟨o, nn, d, s, u, f, m, z⟩) := Lib.hid rfl
  clear hok
  go_enter Try.func14, Try.ntmps14
  go_wp2_with (first
    | (go_at_call 24; refine (within_x _ _ _ true HB.out _).mono ?_; rintro e w1 ⟨rfl, rfl⟩)
    | (go_at_call 25; refine (right_x _ _ _ _ _ _ _ _ true HO.out _).mono ?_; rintro e w2 ⟨rfl, hn2⟩; obtain ⟨b0, b1, b2, b3, b4, b5, b6, b7⟩ := HAT.out.new hg hn2)
    | (go_at_call 26; refine (jumps_x _ _ _ _ _ _ _ _ true HJ.out _).mono ?_; rintro e w3 ⟨rfl, hn3⟩))
  go_ret
  exact nextD_nil hn2

set_option maxRecDepth 100000 in
set_option maxHeartbeats 2000000 in
theorem next_jump (g a : Nat) (n c k : Nat) (w : World) (hl : n ≤ 1099511627776) (hk : k < n) (o : Int) (nn : Bool) (d s : Int) (u : Bool) (f m z : Int) (hat : At w g (a + k * 8) ⟨o, nn, d, s, u, f, m, z⟩) (hg : g < w.heap.size) (hok : ok ⟨o, nn, d, s, u, f, m, z⟩ = true) (f0 : -32768 ≤ f) (f1 : f ≤ 32767) (h28 : (o == 28) = false) (h16 : (o == 16) = true) :
    Calls Try.prog 14 #[.slice (some ⟨g, a, none⟩) n c, .int .i64 (k : Int)] w (NextD w [(k : Int) + 1 + f]) := by
  have HB := Lib.hid (show inB (k : Int) 0 ((n : Int) - 1) = true by simp [inB]; omega)
  have HO := Lib.hid hok
  have HAT := Lib.hid hat
  obtain ⟨a0, a1, a2, a3, a4, a5, a6, a7⟩ := hat
  simp only at a0 a1 a2 a3 a4 a5 a6 a7
  have t1 : (k : Int) < (n : Int) := by omega
  have e1 : IntKind.i64.wrap ((k : Int) + 1) = (k : Int) + 1 := IntWalk.i64_in _ (by omega)
  have HJ : Hid (jumps ⟨o, nn, d, s, u, f, m, z⟩ = jumps ⟨o, nn, d, s, u, f, m, z⟩) := Lib.hid rfl
  clear hok
  go_enter Try.func14, Try.ntmps14
  go_wp2_with (first
    | (go_at_call 24; refine (within_x _ _ _ true HB.out _).mono ?_; rintro e w1 ⟨rfl, rfl⟩)
    | (go_at_call 25; refine (right_x _ _ _ _ _ _ _ _ true HO.out _).mono ?_; rintro e w2 ⟨rfl, hn2⟩; obtain ⟨b0, b1, b2, b3, b4, b5, b6, b7⟩ := HAT.out.new hg hn2)
    | (go_at_call 26; refine (jumps_x _ _ _ _ _ _ _ _ true HJ.out _).mono ?_; rintro e w3 ⟨rfl, hn3⟩))
  go_ret
  exact nextD_one _ _ hn2

set_option maxRecDepth 100000 in
set_option maxHeartbeats 2000000 in
theorem next_plain (g a : Nat) (n c k : Nat) (w : World) (hl : n ≤ 1099511627776) (hk : k < n) (o : Int) (nn : Bool) (d s : Int) (u : Bool) (f m z : Int) (hat : At w g (a + k * 8) ⟨o, nn, d, s, u, f, m, z⟩) (hg : g < w.heap.size) (hok : ok ⟨o, nn, d, s, u, f, m, z⟩ = true) (f0 : -32768 ≤ f) (f1 : f ≤ 32767) (h28 : (o == 28) = false) (h16 : (o == 16) = false) (hj : jumps ⟨o, nn, d, s, u, f, m, z⟩ = false) :
    Calls Try.prog 14 #[.slice (some ⟨g, a, none⟩) n c, .int .i64 (k : Int)] w (NextD w [(k : Int) + 1]) := by
  have HB := Lib.hid (show inB (k : Int) 0 ((n : Int) - 1) = true by simp [inB]; omega)
  have HO := Lib.hid hok
  have HAT := Lib.hid hat
  obtain ⟨a0, a1, a2, a3, a4, a5, a6, a7⟩ := hat
  simp only at a0 a1 a2 a3 a4 a5 a6 a7
  have t1 : (k : Int) < (n : Int) := by omega
  have e1 : IntKind.i64.wrap ((k : Int) + 1) = (k : Int) + 1 := IntWalk.i64_in _ (by omega)
  have HJ := Lib.hid hj
  clear hj
  clear hok
  go_enter Try.func14, Try.ntmps14
  go_wp2_with (first
    | (go_at_call 24; refine (within_x _ _ _ true HB.out _).mono ?_; rintro e w1 ⟨rfl, rfl⟩)
    | (go_at_call 25; refine (right_x _ _ _ _ _ _ _ _ true HO.out _).mono ?_; rintro e w2 ⟨rfl, hn2⟩; obtain ⟨b0, b1, b2, b3, b4, b5, b6, b7⟩ := HAT.out.new hg hn2)
    | (go_at_call 26; refine (jumps_x _ _ _ _ _ _ _ _ false HJ.out _).mono ?_; rintro e w3 ⟨rfl, hn3⟩))
  go_ret
  exact nextD_one _ _ (New.then hn2 hn3)

set_option maxRecDepth 100000 in
set_option maxHeartbeats 2000000 in
theorem next_same (g a : Nat) (n c k : Nat) (w : World) (hl : n ≤ 1099511627776) (hk : k < n) (o : Int) (nn : Bool) (d s : Int) (u : Bool) (m z : Int) (hat : At w g (a + k * 8) ⟨o, nn, d, s, u, 0, m, z⟩) (hg : g < w.heap.size) (hok : ok ⟨o, nn, d, s, u, 0, m, z⟩ = true) (h28 : (o == 28) = false) (h16 : (o == 16) = false) (hj : jumps ⟨o, nn, d, s, u, 0, m, z⟩ = true) :
    Calls Try.prog 14 #[.slice (some ⟨g, a, none⟩) n c, .int .i64 (k : Int)] w (NextD w [(k : Int) + 1]) := by
  have HB := Lib.hid (show inB (k : Int) 0 ((n : Int) - 1) = true by simp [inB]; omega)
  have HO := Lib.hid hok
  have HAT := Lib.hid hat
  obtain ⟨a0, a1, a2, a3, a4, a5, a6, a7⟩ := hat
  simp only at a0 a1 a2 a3 a4 a5 a6 a7
  have t1 : (k : Int) < (n : Int) := by omega
  have e1 : IntKind.i64.wrap ((k : Int) + 1) = (k : Int) + 1 := IntWalk.i64_in _ (by omega)
  have HJ := Lib.hid hj
  clear hj
  clear hok
  go_enter Try.func14, Try.ntmps14
  go_wp2_with (first
    | (go_at_call 24; refine (within_x _ _ _ true HB.out _).mono ?_; rintro e w1 ⟨rfl, rfl⟩)
    | (go_at_call 25; refine (right_x _ _ _ _ _ _ _ _ true HO.out _).mono ?_; rintro e w2 ⟨rfl, hn2⟩; obtain ⟨b0, b1, b2, b3, b4, b5, b6, b7⟩ := HAT.out.new hg hn2)
    | (go_at_call 26; refine (jumps_x _ _ _ _ _ _ _ _ true HJ.out _).mono ?_; rintro e w3 ⟨rfl, hn3⟩))
  go_ret
  exact nextD_one _ _ (New.then hn2 hn3)

set_option maxRecDepth 100000 in
set_option maxHeartbeats 2000000 in
theorem next_back (g a : Nat) (n c k : Nat) (w : World) (hl : n ≤ 1099511627776) (hk : k < n) (o : Int) (nn : Bool) (d s : Int) (u : Bool) (f m z : Int) (hat : At w g (a + k * 8) ⟨o, nn, d, s, u, f, m, z⟩) (hg : g < w.heap.size) (hok : ok ⟨o, nn, d, s, u, f, m, z⟩ = true) (f0 : -32768 ≤ f) (f1 : f ≤ 32767) (h28 : (o == 28) = false) (h16 : (o == 16) = false) (hj : jumps ⟨o, nn, d, s, u, f, m, z⟩ = true) (hf : f < 0) :
    Calls Try.prog 14 #[.slice (some ⟨g, a, none⟩) n c, .int .i64 (k : Int)] w (NextD w [(k : Int) + 1 + f, (k : Int) + 1]) := by
  have HB := Lib.hid (show inB (k : Int) 0 ((n : Int) - 1) = true by simp [inB]; omega)
  have HO := Lib.hid hok
  have HAT := Lib.hid hat
  obtain ⟨a0, a1, a2, a3, a4, a5, a6, a7⟩ := hat
  simp only at a0 a1 a2 a3 a4 a5 a6 a7
  have t1 : (k : Int) < (n : Int) := by omega
  have e1 : IntKind.i64.wrap ((k : Int) + 1) = (k : Int) + 1 := IntWalk.i64_in _ (by omega)
  have HJ := Lib.hid hj
  clear hj
  have hm1 : min ((k : Int) + 1) ((k : Int) + 1 + f) = (k : Int) + 1 + f := by omega
  have hm2 : max ((k : Int) + 1) ((k : Int) + 1 + f) = (k : Int) + 1 := by omega
  have hne : ((k : Int) + 1 + f == (k : Int) + 1) = false := by simp; omega
  clear hok
  go_enter Try.func14, Try.ntmps14
  go_wp2_with (first
    | (go_at_call 24; refine (within_x _ _ _ true HB.out _).mono ?_; rintro e w1 ⟨rfl, rfl⟩)
    | (go_at_call 25; refine (right_x _ _ _ _ _ _ _ _ true HO.out _).mono ?_; rintro e w2 ⟨rfl, hn2⟩; obtain ⟨b0, b1, b2, b3, b4, b5, b6, b7⟩ := HAT.out.new hg hn2)
    | (go_at_call 26; refine (jumps_x _ _ _ _ _ _ _ _ true HJ.out _).mono ?_; rintro e w3 ⟨rfl, hn3⟩))
  go_ret
  exact nextD_two _ _ _ (New.then hn2 hn3)

set_option maxRecDepth 100000 in
set_option maxHeartbeats 2000000 in
theorem next_fore (g a : Nat) (n c k : Nat) (w : World) (hl : n ≤ 1099511627776) (hk : k < n) (o : Int) (nn : Bool) (d s : Int) (u : Bool) (f m z : Int) (hat : At w g (a + k * 8) ⟨o, nn, d, s, u, f, m, z⟩) (hg : g < w.heap.size) (hok : ok ⟨o, nn, d, s, u, f, m, z⟩ = true) (f0 : -32768 ≤ f) (f1 : f ≤ 32767) (h28 : (o == 28) = false) (h16 : (o == 16) = false) (hj : jumps ⟨o, nn, d, s, u, f, m, z⟩ = true) (hf : 0 < f) :
    Calls Try.prog 14 #[.slice (some ⟨g, a, none⟩) n c, .int .i64 (k : Int)] w (NextD w [(k : Int) + 1, (k : Int) + 1 + f]) := by
  have HB := Lib.hid (show inB (k : Int) 0 ((n : Int) - 1) = true by simp [inB]; omega)
  have HO := Lib.hid hok
  have HAT := Lib.hid hat
  obtain ⟨a0, a1, a2, a3, a4, a5, a6, a7⟩ := hat
  simp only at a0 a1 a2 a3 a4 a5 a6 a7
  have t1 : (k : Int) < (n : Int) := by omega
  have e1 : IntKind.i64.wrap ((k : Int) + 1) = (k : Int) + 1 := IntWalk.i64_in _ (by omega)
  have HJ := Lib.hid hj
  clear hj
  have hm1 : min ((k : Int) + 1) ((k : Int) + 1 + f) = (k : Int) + 1 := by omega
  have hm2 : max ((k : Int) + 1) ((k : Int) + 1 + f) = (k : Int) + 1 + f := by omega
  have hne : ((k : Int) + 1 + f == (k : Int) + 1) = false := by simp; omega
  clear hok
  go_enter Try.func14, Try.ntmps14
  go_wp2_with (first
    | (go_at_call 24; refine (within_x _ _ _ true HB.out _).mono ?_; rintro e w1 ⟨rfl, rfl⟩)
    | (go_at_call 25; refine (right_x _ _ _ _ _ _ _ _ true HO.out _).mono ?_; rintro e w2 ⟨rfl, hn2⟩; obtain ⟨b0, b1, b2, b3, b4, b5, b6, b7⟩ := HAT.out.new hg hn2)
    | (go_at_call 26; refine (jumps_x _ _ _ _ _ _ _ _ true HJ.out _).mono ?_; rintro e w3 ⟨rfl, hn3⟩))
  go_ret
  exact nextD_two _ _ _ (New.then hn2 hn3)

theorem next_any (A : Option Addr) (n c : Nat) (l : List In) (k : Int) (w : World) (hn : n = l.length) (hl : n ≤ 1099511627776) (hA : RI w A l) : Calls Try.prog 14 #[.slice A n c, .int .i64 k] w (NextD w (nx l k)) := by
  by_cases h : 0 ≤ k ∧ k < (n : Int)
  · obtain ⟨q, rfl⟩ := Int.eq_ofNat_of_zero_le h.1
    have hq : q < l.length := by omega
    rw [nx_at hq]
    obtain ⟨g, a, rfl, hg, hat⟩ := hA.at_ hq
    obtain ⟨x, hx⟩ : ∃ x, l[q] = x := ⟨_, rfl⟩
    rw [hx] at hat ⊢
    obtain ⟨o, nn, d, s, u, f, m, z⟩ := x
    simp only
    by_cases hok : ok ⟨o, nn, d, s, u, f, m, z⟩ = true
    · rw [if_pos hok]
      have hf := (ok_facts _ hok).2.2.2.2.1
      simp [far] at hf
      by_cases h28 : o = 28
      · rw [if_pos h28]
        exact next_exit g a n c q w hl (by omega) o nn d s u f m z hat hg hok hf.1 hf.2 (by simpa using h28)
      · rw [if_neg h28]
        by_cases h16 : o = 16
        · rw [if_pos h16]
          exact next_jump g a n c q w hl (by omega) o nn d s u f m z hat hg hok hf.1 hf.2 (by simpa using h28) (by simpa using h16)
        · rw [if_neg h16]
          by_cases hj : jumps ⟨o, nn, d, s, u, f, m, z⟩ = true
          · have hc : cond ⟨o, nn, d, s, u, f, m, z⟩ = true := by simp [jumps] at hj; simp [cond]; omega
            by_cases hlt : f < 0
            · rw [if_pos ⟨hc, hlt⟩]
              exact next_back g a n c q w hl (by omega) o nn d s u f m z hat hg hok hf.1 hf.2 (by simpa using h28) (by simpa using h16) hj hlt
            · rw [if_neg (fun h => hlt h.2)]
              by_cases hgt : 0 < f
              · rw [if_pos ⟨hc, hgt⟩]
                exact next_fore g a n c q w hl (by omega) o nn d s u f m z hat hg hok hf.1 hf.2 (by simpa using h28) (by simpa using h16) hj hgt
              · rw [if_neg (fun h => hgt h.2)]
                obtain rfl : f = 0 := by omega
                exact next_same g a n c q w hl (by omega) o nn d s u m z hat hg hok (by simpa using h28) (by simpa using h16) hj
          · have hj' : jumps ⟨o, nn, d, s, u, f, m, z⟩ = false := by simpa using hj
            have hc : cond ⟨o, nn, d, s, u, f, m, z⟩ = false := by simp [jumps] at hj'; simp [cond]; omega
            rw [if_neg (fun h => by rw [hc] at h; cases h.1), if_neg (fun h => by rw [hc] at h; cases h.1)]
            exact next_plain g a n c q w hl (by omega) o nn d s u f m z hat hg hok hf.1 hf.2 (by simpa using h28) (by simpa using h16) hj'
    · rw [if_neg hok]
      exact next_bad g a n c q w hl (by omega) o nn d s u f m z hat hg (by simpa using hok)
  · exact next_out A n c l k w hn hl h
end Go.Proofs.Ytlchimbaclenaaa.ins
