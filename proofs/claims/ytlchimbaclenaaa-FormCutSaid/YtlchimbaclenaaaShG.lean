/-
  The laws' question, and their examples.
-/
import Derived.Test.YtlchimbaclenaaaShF
namespace Go.Proofs.Ytlchimbaclenaaa.sh
open Go.RowKit Go.Proofs.Ytlchimbaclenaaa.mem Go.Proofs.Ytlchimbaclenaaa.kit Go.Proofs.Ytlchimbaclenaaa.ins
set_option linter.unusedVariables false

theorem check_x (A : Option Addr) (n c : Nat) (l : List In) (x : Int) (a : Nat) (w : World) (hn : n = l.length) (hl : n ≤ 1099511627776) (hA : RI w A l) (h : chk l = (x, a)) :
    Calls Try.prog 9 #[.slice A n c] w fun e w' => e = .returned (.agg #[.int .i64 x, .int .i64 (a : Int)]) ∧ New w w' := by
  refine (check_any A n c l w hn hl hA).mono fun e w' ⟨h1, h2⟩ => ⟨?_, h2⟩
  rw [h1, h]

set_option maxRecDepth 100000 in
theorem fault_any (A : Option Addr) (n c : Nat) (l : List In) (x : Int) (a : Nat) (w : World) (hn : n = l.length) (hl : n ≤ 1099511627776) (hA : RI w A l) (h : chk l = (x, a)) :
    Calls Try.prog 13 #[.slice A n c, .int .i64 x, .int .i64 (a : Int)] w fun e w' => e = .returned (.bool true) ∧ New w w' := by
  have H := Lib.hid h
  have HA := Lib.hid hA
  have HN := Lib.hid hn
  clear h hA hn
  go_enter Try.func13, Try.ntmps13
  go_wp2_with (go_at_call 9; refine (check_x A n c l x a _ HN.out hl HA.out H.out).mono ?_; rintro e w1 ⟨rfl, hn1⟩)
  go_ret
  exact ⟨rfl, hn1⟩

/-! ### the examples -/
abbrev iM : In := ⟨12, false, 0, 0, true, 0, 1, 0⟩
abbrev iX : In := ⟨28, false, 0, 0, false, 0, 0, 0⟩
abbrev iJ (f : Int) : In := ⟨16, false, 0, 0, false, f, 0, 0⟩
theorem ex1 : chk [iM, iX] = (0, 0) := by decide +kernel
theorem ex2 : chk [iX, iX] = (103, 1) := by decide +kernel
theorem ex3 : chk [iJ 0, iM] = (102, 1) := by decide +kernel
theorem ex4 : chk [iJ (-1)] = (100, 0) := by decide +kernel
theorem ex5 : chk [iJ 1, iX] = (101, 0) := by decide +kernel
theorem ex6 : chk [] = (6, 0) := by decide +kernel

/-- Instructions laid side by side in a block. -/
theorem reads_one (w : World) (t : TypeId) (i : In) : RI (w.alloc (.cells (vi [i]).toArray t)) (some ⟨w.heap.size, 0, none⟩) [i] :=
  ⟨rfl, fun _ => ⟨_, rfl, by simp, fun j v hv => by
    rw [Addr.add_lit, Nat.zero_add, (Blk.new w t _).cell j, ← hv]
    simp only [List.getElem?_toArray]⟩⟩
theorem reads_two (w : World) (t : TypeId) (i k : In) : RI (w.alloc (.cells (vi [i, k]).toArray t)) (some ⟨w.heap.size, 0, none⟩) [i, k] :=
  ⟨rfl, fun _ => ⟨_, rfl, by simp, fun j v hv => by
    rw [Addr.add_lit, Nat.zero_add, (Blk.new w t _).cell j, ← hv]
    simp only [List.getElem?_toArray]⟩⟩
theorem fault_two (w : World) (i k : In) (x : Int) (a : Nat) (h : chk [i, k] = (x, a)) :
    Calls Try.prog 13 #[.slice (some ⟨w.heap.size, 0, none⟩) 2 2, .int .i64 x, .int .i64 (a : Int)] (w.alloc (.cells (vi [i, k]).toArray 34)) fun e w' => e = .returned (.bool true) ∧ New (w.alloc (.cells (vi [i, k]).toArray 34)) w' :=
  fault_any _ 2 2 [i, k] x a _ rfl (by omega) (reads_two w _ i k) h
theorem fault_one (w : World) (i : In) (x : Int) (a : Nat) (h : chk [i] = (x, a)) :
    Calls Try.prog 13 #[.slice (some ⟨w.heap.size, 0, none⟩) 1 1, .int .i64 x, .int .i64 (a : Int)] (w.alloc (.cells (vi [i]).toArray 34)) fun e w' => e = .returned (.bool true) ∧ New (w.alloc (.cells (vi [i]).toArray 34)) w' :=
  fault_any _ 1 1 [i] x a _ rfl (by omega) (reads_one w _ i) h

theorem fault_1 (w : World) (g : Nat) (hg : w.heap.size = g) : Calls Try.prog 13 #[.slice (some ⟨g, 0, none⟩) 2 2, .int .i64 0, .int .i64 0] (w.alloc (.cells #[.int .u8 12, .bool false, .int .i64 0, .int .i64 0, .bool true, .int .i64 0, .int .i64 1, .int .i64 0, .int .u8 28, .bool false, .int .i64 0, .int .i64 0, .bool false, .int .i64 0, .int .i64 0, .int .i64 0] 34)) fun e w' => e = .returned (.bool true) ∧ New w w' :=
  hg ▸ (fault_two w iM iX 0 0 ex1).mono fun e w' ⟨h1, h2⟩ => ⟨h1, New.then ((new_refl w).alloc (Nat.le_refl _) _) h2⟩
theorem fault_2 (w : World) (g : Nat) (hg : w.heap.size = g) : Calls Try.prog 13 #[.slice (some ⟨g, 0, none⟩) 2 2, .int .i64 103, .int .i64 1] (w.alloc (.cells #[.int .u8 28, .bool false, .int .i64 0, .int .i64 0, .bool false, .int .i64 0, .int .i64 0, .int .i64 0, .int .u8 28, .bool false, .int .i64 0, .int .i64 0, .bool false, .int .i64 0, .int .i64 0, .int .i64 0] 34)) fun e w' => e = .returned (.bool true) ∧ New w w' :=
  hg ▸ (fault_two w iX iX 103 1 ex2).mono fun e w' ⟨h1, h2⟩ => ⟨h1, New.then ((new_refl w).alloc (Nat.le_refl _) _) h2⟩
theorem fault_3 (w : World) (g : Nat) (hg : w.heap.size = g) : Calls Try.prog 13 #[.slice (some ⟨g, 0, none⟩) 2 2, .int .i64 102, .int .i64 1] (w.alloc (.cells #[.int .u8 16, .bool false, .int .i64 0, .int .i64 0, .bool false, .int .i64 0, .int .i64 0, .int .i64 0, .int .u8 12, .bool false, .int .i64 0, .int .i64 0, .bool true, .int .i64 0, .int .i64 1, .int .i64 0] 34)) fun e w' => e = .returned (.bool true) ∧ New w w' :=
  hg ▸ (fault_two w (iJ 0) iM 102 1 ex3).mono fun e w' ⟨h1, h2⟩ => ⟨h1, New.then ((new_refl w).alloc (Nat.le_refl _) _) h2⟩
theorem fault_4 (w : World) (g : Nat) (hg : w.heap.size = g) : Calls Try.prog 13 #[.slice (some ⟨g, 0, none⟩) 1 1, .int .i64 100, .int .i64 0] (w.alloc (.cells #[.int .u8 16, .bool false, .int .i64 0, .int .i64 0, .bool false, .int .i64 (-1), .int .i64 0, .int .i64 0] 34)) fun e w' => e = .returned (.bool true) ∧ New w w' :=
  hg ▸ (fault_one w (iJ (-1)) 100 0 ex4).mono fun e w' ⟨h1, h2⟩ => ⟨h1, New.then ((new_refl w).alloc (Nat.le_refl _) _) h2⟩
theorem fault_5 (w : World) (g : Nat) (hg : w.heap.size = g) : Calls Try.prog 13 #[.slice (some ⟨g, 0, none⟩) 2 2, .int .i64 101, .int .i64 0] (w.alloc (.cells #[.int .u8 16, .bool false, .int .i64 0, .int .i64 0, .bool false, .int .i64 1, .int .i64 0, .int .i64 0, .int .u8 28, .bool false, .int .i64 0, .int .i64 0, .bool false, .int .i64 0, .int .i64 0, .int .i64 0] 34)) fun e w' => e = .returned (.bool true) ∧ New w w' :=
  hg ▸ (fault_two w (iJ 1) iX 101 0 ex5).mono fun e w' ⟨h1, h2⟩ => ⟨h1, New.then ((new_refl w).alloc (Nat.le_refl _) _) h2⟩
theorem fault_6 (w : World) : Calls Try.prog 13 #[.slice none 0 0, .int .i64 6, .int .i64 0] w fun e w' => e = .returned (.bool true) ∧ New w w' :=
  fault_any none 0 0 [] 6 0 w rfl (by omega) Reads.none_ ex6
abbrev w5 (w : World) : World := (((((w.alloc (.cells #[.int .u8 12, .bool false, .int .i64 0, .int .i64 0, .bool true, .int .i64 0, .int .i64 1, .int .i64 0] 34)).alloc (.cells #[.int .u8 28, .bool false, .int .i64 0, .int .i64 0, .bool false, .int .i64 0, .int .i64 0, .int .i64 0] 34)).alloc (.cells #[.int .u8 16, .bool false, .int .i64 0, .int .i64 0, .bool false, .int .i64 0, .int .i64 0, .int .i64 0] 34)).alloc (.cells #[.int .u8 16, .bool false, .int .i64 0, .int .i64 0, .bool false, .int .i64 (-1), .int .i64 0, .int .i64 0] 34)).alloc (.cells #[.int .u8 16, .bool false, .int .i64 0, .int .i64 0, .bool false, .int .i64 1, .int .i64 0, .int .i64 0] 34))
/-- The five instructions of the examples, as they lie. -/
def Five (b : Nat) (W : World) : Prop := b + 1 + 1 + 1 + 1 < W.heap.size ∧ Blk W (b) 34 #[.int .u8 12, .bool false, .int .i64 0, .int .i64 0, .bool true, .int .i64 0, .int .i64 1, .int .i64 0] ∧ Blk W (b + 1) 34 #[.int .u8 28, .bool false, .int .i64 0, .int .i64 0, .bool false, .int .i64 0, .int .i64 0, .int .i64 0] ∧ Blk W (b + 1 + 1) 34 #[.int .u8 16, .bool false, .int .i64 0, .int .i64 0, .bool false, .int .i64 0, .int .i64 0, .int .i64 0] ∧ Blk W (b + 1 + 1 + 1) 34 #[.int .u8 16, .bool false, .int .i64 0, .int .i64 0, .bool false, .int .i64 (-1), .int .i64 0, .int .i64 0] ∧ Blk W (b + 1 + 1 + 1 + 1) 34 #[.int .u8 16, .bool false, .int .i64 0, .int .i64 0, .bool false, .int .i64 1, .int .i64 0, .int .i64 0]
theorem Five.new {b : Nat} {W W' : World} (h : Five b W) (hn : New W W') : Five b W' := by
  obtain ⟨h0, h1, h2, h3, h4, h5⟩ := h
  exact ⟨Nat.lt_of_lt_of_le h0 hn.size, h1.below hn h1.lt, h2.below hn h2.lt, h3.below hn h3.lt, h4.below hn h4.lt, h5.below hn h5.lt⟩
theorem blk_at {w : World} {g : Nat} {t : TypeId} {cs : Array Value} (e : w.heap.size = g) : Blk (w.alloc (.cells cs t)) g t cs := e ▸ Blk.new w t cs
theorem five_w5 (w : World) : Five w.heap.size (w5 w) :=
  ⟨by simp [w5], ((((Blk.new w _ _).alloc _).alloc _).alloc _).alloc _, (((blk_at (by simp)).alloc _).alloc _).alloc _, ((blk_at (by simp)).alloc _).alloc _, (blk_at (by simp)).alloc _, blk_at (by simp)⟩
theorem new_w5 (w : World) : New w (w5 w) := by
  have h1 := (new_refl w).alloc (Nat.le_refl _) (.cells #[.int .u8 12, .bool false, .int .i64 0, .int .i64 0, .bool true, .int .i64 0, .int .i64 1, .int .i64 0] 34)
  have h2 := h1.alloc h1.size (.cells #[.int .u8 28, .bool false, .int .i64 0, .int .i64 0, .bool false, .int .i64 0, .int .i64 0, .int .i64 0] 34)
  have h3 := h2.alloc h2.size (.cells #[.int .u8 16, .bool false, .int .i64 0, .int .i64 0, .bool false, .int .i64 0, .int .i64 0, .int .i64 0] 34)
  have h4 := h3.alloc h3.size (.cells #[.int .u8 16, .bool false, .int .i64 0, .int .i64 0, .bool false, .int .i64 (-1), .int .i64 0, .int .i64 0] 34)
  exact h4.alloc h4.size _

theorem eight8 {w : World} {g : Nat} {t : TypeId} {a b c d e f h i : Value} (k : Blk w g t #[a, b, c, d, e, f, h, i]) : w.cell? ⟨g, 0, none⟩ = some a ∧ w.cell? ⟨g, 1, none⟩ = some b ∧ w.cell? ⟨g, 2, none⟩ = some c ∧ w.cell? ⟨g, 3, none⟩ = some d ∧ w.cell? ⟨g, 4, none⟩ = some e ∧ w.cell? ⟨g, 5, none⟩ = some f ∧ w.cell? ⟨g, 6, none⟩ = some h ∧ w.cell? ⟨g, 7, none⟩ = some i :=
  ⟨k.cell 0, k.cell 1, k.cell 2, k.cell 3, k.cell 4, k.cell 5, k.cell 6, k.cell 7⟩

set_option maxRecDepth 100000 in
set_option maxHeartbeats 4000000 in
theorem awake_any (w : World) : Calls Try.prog 7 #[] w fun e w' => e = .returned (.bool true) ∧ New w w' := by
  go_enter Try.func7, Try.ntmps7
  go_wp2_with (first
    | (go_at_call 13; (with_reducible refine (fault_1 _ _ (by simp)).mono ?_); rintro e w1 ⟨rfl, hn1⟩; have F1 := Lib.hid ((Lib.hid (five_w5 w)).out.new hn1); have N1 := Lib.hid (New.then (new_w5 w) hn1); obtain ⟨c110, c111, c112, c113, c114, c115, c116, c117⟩ := eight8 F1.out.2.2.1; clear hn1)
    | (go_at_call 13; (with_reducible refine (fault_2 _ _ rfl).mono ?_); rintro e w2 ⟨rfl, hn2⟩; have F2 := Lib.hid (F1.out.new hn2); have N2 := Lib.hid (New.then N1.out hn2); obtain ⟨c220, c221, c222, c223, c224, c225, c226, c227⟩ := eight8 F2.out.2.2.2.1; obtain ⟨c200, c201, c202, c203, c204, c205, c206, c207⟩ := eight8 F2.out.2.1; clear hn2)
    | (go_at_call 13; (with_reducible refine (fault_3 _ _ rfl).mono ?_); rintro e w3 ⟨rfl, hn3⟩; have F3 := Lib.hid (F2.out.new hn3); have N3 := Lib.hid (New.then N2.out hn3); obtain ⟨c330, c331, c332, c333, c334, c335, c336, c337⟩ := eight8 F3.out.2.2.2.2.1; clear hn3)
    | (go_at_call 13; (with_reducible refine (fault_4 _ _ rfl).mono ?_); rintro e w4 ⟨rfl, hn4⟩; have F4 := Lib.hid (F3.out.new hn4); have N4 := Lib.hid (New.then N3.out hn4); obtain ⟨c440, c441, c442, c443, c444, c445, c446, c447⟩ := eight8 F4.out.2.2.2.2.2; obtain ⟨c410, c411, c412, c413, c414, c415, c416, c417⟩ := eight8 F4.out.2.2.1; clear hn4)
    | (go_at_call 13; (with_reducible refine (fault_5 _ _ rfl).mono ?_); rintro e w5 ⟨rfl, hn5⟩; have F5 := Lib.hid (F4.out.new hn5); have N5 := Lib.hid (New.then N4.out hn5); clear hn5)
    | (go_at_call 13; (with_reducible refine (fault_6 _).mono ?_); rintro e w6 ⟨rfl, hn6⟩))
  go_ret
  exact ⟨rfl, New.then N5.out hn6⟩
end Go.Proofs.Ytlchimbaclenaaa.sh
