/-
  Contracts of alu's functions.
-/
import Derived.Test.YtkegoiibhleflaaMap
import Derived.Lib.Hide
import Derived.BigQuiet
import Derived.Deep.QuietTactic
import Derived.Deep.RegionHeld3
import Derived.Handy
namespace Go.Proofs.Ytkegoiibhleflaa.alu
open Go.ChangeShapes Go.WideShapes Go.ChangeAt Go.RowKit Go.Proofs.Ytkegoiibhleflaa.lit
set_option linter.unusedVariables false

abbrev pr (a b sa sb m k : Int) : Value := .agg #[.int .u64 a, .int .u64 b, .int .i64 sa, .int .i64 sb, .int .u64 m, .int .u64 k]
abbrev New (w w' : World) : Prop := Below w.heap.size w w'

theorem zFunc39 (w : World) : (zeroValue 39).run Try.prog w = .ok Value.nilFunc w := by kernel_rfl
theorem zFunc47 (w : World) : (zeroValue 47).run Try.prog w = .ok Value.nilFunc w := by kernel_rfl

abbrev fn (n : Nat) : Value := .func (.func n) #[] #[]
abbrev en (k : Int) (n : Nat) (i : Nat) : MapEntry := ⟨.int .u8 k, fn n, i⟩

def arithTab : List MapEntry := [en 1 27 0, en 2 28 1, en 3 29 2, en 4 30 3, en 5 31 4, en 12 32 5, en 13 33 6]
def bitTab : List MapEntry := [en 6 34 0, en 7 35 1, en 8 36 2, en 9 37 3, en 10 39 4, en 11 40 5]
def plainTab : List MapEntry := [en 17 41 0, en 18 42 1, en 19 43 2, en 20 44 3, en 21 45 4, en 22 46 5, en 27 47 6]
def orderTab : List MapEntry := [en 23 48 0, en 24 49 1, en 25 50 2, en 26 51 3]

theorem arith_any (op : Int) (w : World) :
    Calls Try.prog 21 #[.int .u8 op] w fun e w' => e = .returned (askIn Value.nilFunc op arithTab) ∧ New w w' := by
  have hmm := @run_makeMap Try.prog
  go_enter Try.func21, Try.ntmps21
  go_wp2_with (first
    | (refine step_insert rfl _ _ _ _ rfl _ _ .u8 Try.underlying51 Try.underlying22 w _ _ rfl _ rfl _ rfl rfl ?_)
    | (refine step_ask rfl _ _ _ rfl _ _ .u8 Try.underlying51 Try.underlying22 .nilFunc zFunc39 w _ _ rfl _ rfl rfl ?_))
  go_ret
  exact ⟨rfl, (Below.refl _ _).alloc (Nat.le_refl _) _⟩

theorem bit_any (op : Int) (w : World) :
    Calls Try.prog 22 #[.int .u8 op] w fun e w' => e = .returned (askIn Value.nilFunc op bitTab) ∧ New w w' := by
  have hmm := @run_makeMap Try.prog
  go_enter Try.func22, Try.ntmps22
  go_wp2_with (first
    | (refine step_insert rfl _ _ _ _ rfl _ _ .u8 Try.underlying51 Try.underlying22 w _ _ rfl _ rfl _ rfl rfl ?_)
    | (refine step_ask rfl _ _ _ rfl _ _ .u8 Try.underlying51 Try.underlying22 .nilFunc zFunc39 w _ _ rfl _ rfl rfl ?_))
  go_ret
  exact ⟨rfl, (Below.refl _ _).alloc (Nat.le_refl _) _⟩

theorem plain_any (op : Int) (w : World) :
    Calls Try.prog 25 #[.int .u8 op] w fun e w' => e = .returned (askIn Value.nilFunc op plainTab) ∧ New w w' := by
  have hmm := @run_makeMap Try.prog
  go_enter Try.func25, Try.ntmps25
  go_wp2_with (first
    | (refine step_insert rfl _ _ _ _ rfl _ _ .u8 Try.underlying53 Try.underlying22 w _ _ rfl _ rfl _ rfl rfl ?_)
    | (refine step_ask rfl _ _ _ rfl _ _ .u8 Try.underlying53 Try.underlying22 .nilFunc zFunc47 w _ _ rfl _ rfl rfl ?_))
  go_ret
  exact ⟨rfl, (Below.refl _ _).alloc (Nat.le_refl _) _⟩

theorem order_any (op : Int) (w : World) :
    Calls Try.prog 26 #[.int .u8 op] w fun e w' => e = .returned (askIn Value.nilFunc op orderTab) ∧ New w w' := by
  have hmm := @run_makeMap Try.prog
  go_enter Try.func26, Try.ntmps26
  go_wp2_with (first
    | (refine step_insert rfl _ _ _ _ rfl _ _ .u8 Try.underlying53 Try.underlying22 w _ _ rfl _ rfl _ rfl rfl ?_)
    | (refine step_ask rfl _ _ _ rfl _ _ .u8 Try.underlying53 Try.underlying22 .nilFunc zFunc47 w _ _ rfl _ rfl rfl ?_))
  go_ret
  exact ⟨rfl, (Below.refl _ _).alloc (Nat.le_refl _) _⟩

/-- What a table says is nothing, or a function. -/
theorem ask_arith (op : Int) : askIn Value.nilFunc op arithTab = Value.nilFunc ∨ ∃ n, askIn Value.nilFunc op arithTab = fn n := by
  simp only [arithTab, askIn]; repeat (split; · exact Or.inr ⟨_, rfl⟩)
  exact Or.inl rfl
theorem ask_plain (op : Int) : askIn Value.nilFunc op plainTab = Value.nilFunc ∨ ∃ n, askIn Value.nilFunc op plainTab = fn n := by
  simp only [plainTab, askIn]; repeat (split; · exact Or.inr ⟨_, rfl⟩)
  exact Or.inl rfl

def opTab (op : Int) : Value := match askIn Value.nilFunc op arithTab with | .nilFunc => askIn Value.nilFunc op bitTab | v => v
def isTab (op : Int) : Value := match askIn Value.nilFunc op plainTab with | .nilFunc => askIn Value.nilFunc op orderTab | v => v

theorem eqNil39 (w : World) : (binOp .eql 39 Value.nilFunc Value.nilFunc).run Try.prog w = .ok (.bool true) w := by kernel_rfl
theorem neNil39 (w : World) : (binOp .neq 39 Value.nilFunc Value.nilFunc).run Try.prog w = .ok (.bool false) w := by kernel_rfl
theorem eqFn39 (n : Nat) (w : World) : (binOp .eql 39 (fn n) Value.nilFunc).run Try.prog w = .ok (.bool false) w := by kernel_rfl
theorem neFn39 (n : Nat) (w : World) : (binOp .neq 39 (fn n) Value.nilFunc).run Try.prog w = .ok (.bool true) w := by kernel_rfl
theorem eqNil47 (w : World) : (binOp .eql 47 Value.nilFunc Value.nilFunc).run Try.prog w = .ok (.bool true) w := by kernel_rfl
theorem neNil47 (w : World) : (binOp .neq 47 Value.nilFunc Value.nilFunc).run Try.prog w = .ok (.bool false) w := by kernel_rfl
theorem eqFn47 (n : Nat) (w : World) : (binOp .eql 47 (fn n) Value.nilFunc).run Try.prog w = .ok (.bool false) w := by kernel_rfl
theorem neFn47 (n : Nat) (w : World) : (binOp .neq 47 (fn n) Value.nilFunc).run Try.prog w = .ok (.bool true) w := by kernel_rfl

theorem operator_any (op : Int) (w : World) :
    Calls Try.prog 15 #[.int .u8 op] w fun e w' => e = .returned (opTab op) ∧ New w w' := by
  have ha := arith_any op w
  have x1 := neNil39
  have x2 := neFn39
  unfold opTab
  rcases ask_arith op with h | ⟨n, h⟩
  · rw [h] at ha ⊢
    have H := Lib.hid ha
    clear ha h
    go_enter Try.func15, Try.ntmps15
    go_wp2_with (first
      | (go_at_call 21; refine H.out.mono ?_; rintro e w1 ⟨rfl, hb⟩)
      | (go_at_call 22; refine (bit_any op _).mono ?_; rintro e w2 ⟨rfl, hb2⟩))
    go_ret
    exact ⟨rfl, hb.trans (hb2.mono hb.size)⟩
  · rw [h] at ha ⊢
    have H := Lib.hid ha
    clear ha h
    go_enter Try.func15, Try.ntmps15
    go_wp2_with (first
      | (go_at_call 21; refine H.out.mono ?_; rintro e w1 ⟨rfl, hb⟩))
    go_ret
    exact ⟨rfl, hb⟩

theorem question_any (op : Int) (w : World) :
    Calls Try.prog 20 #[.int .u8 op] w fun e w' => e = .returned (isTab op) ∧ New w w' := by
  have ha := plain_any op w
  have x1 := neNil47
  have x2 := neFn47
  unfold isTab
  rcases ask_plain op with h | ⟨n, h⟩
  · rw [h] at ha ⊢
    have H := Lib.hid ha
    clear ha h
    go_enter Try.func20, Try.ntmps20
    go_wp2_with (first
      | (go_at_call 25; refine H.out.mono ?_; rintro e w1 ⟨rfl, hb⟩)
      | (go_at_call 26; refine (order_any op _).mono ?_; rintro e w2 ⟨rfl, hb2⟩))
    go_ret
    exact ⟨rfl, hb.trans (hb2.mono hb.size)⟩
  · rw [h] at ha ⊢
    have H := Lib.hid ha
    clear ha h
    go_enter Try.func20, Try.ntmps20
    go_wp2_with (first
      | (go_at_call 25; refine H.out.mono ?_; rintro e w1 ⟨rfl, hb⟩))
    go_ret
    exact ⟨rfl, hb⟩


/-! ### pairs -/
def cut (nar : Bool) (a : Int) : Int := if nar = true then a % 4294967296 else a
def sgn (nar : Bool) (a : Int) : Int := if nar = true then wrap32 a else wrap64 a
def most (nar : Bool) : Int := if nar = true then 4294967295 else 18446744073709551615
def wide (nar : Bool) : Int := if nar = true then 32 else 64
abbrev pairOf (nar : Bool) (a b : Int) : Value := pr (cut nar a) (cut nar b) (sgn nar a) (sgn nar b) (most nar) (wide nar)

theorem wrap64_wrap32 (x : Int) : wrap64 (wrap32 x) = wrap32 x := by
  have : -2147483648 ≤ wrap32 x ∧ wrap32 x ≤ 2147483647 := by unfold wrap32; omega
  exact IntWalk.wrap64_in _ (by omega)
theorem not32 : bits BinOp.xor IntKind.u32 IntKind.u32.max 0 = 4294967295 := by decide +kernel
theorem not64 : bits BinOp.xor IntKind.u64 IntKind.u64.max 0 = 18446744073709551615 := by decide +kernel
theorem s32 : IntKind.u32.signed = false := rfl
theorem s64 : IntKind.u64.signed = false := rfl

theorem read32_any (k a b : Int) (w : World) (ha : 0 ≤ a) (ha' : a ≤ 18446744073709551615) (hb : 0 ≤ b) (hb' : b ≤ 18446744073709551615) :
    Calls Try.prog 23 #[.int .u64 k, .int .u64 a, .int .u64 b] w fun e w' => e = .returned (pr (a % 4294967296) (b % 4294967296) (wrap32 a) (wrap32 b) 4294967295 k) ∧ New w w' := by
  have x1 := not32
  have x2 := s32
  have x3 := wrap64_wrap32
  go_enter Try.func23, Try.ntmps23
  go_wp2
  exact bodyPost_ret (v := pr (a % 4294967296) (b % 4294967296) (wrap32 a) (wrap32 b) 4294967295 k) (by simp [results, Try.results23, go_sem]) rfl ⟨rfl, (Below.refl _ _).alloc (Nat.le_refl _) _⟩

theorem read64_any (k a b : Int) (w : World) (ha : 0 ≤ a) (ha' : a ≤ 18446744073709551615) (hb : 0 ≤ b) (hb' : b ≤ 18446744073709551615) :
    Calls Try.prog 24 #[.int .u64 k, .int .u64 a, .int .u64 b] w fun e w' => e = .returned (pr a b (wrap64 a) (wrap64 b) 18446744073709551615 k) ∧ New w w' := by
  have x1 := not64
  have x2 := s64
  go_enter Try.func24, Try.ntmps24
  go_wp2
  exact bodyPost_ret (v := pr a b (wrap64 a) (wrap64 b) 18446744073709551615 k) (by simp [results, Try.results24, go_sem]) rfl ⟨rfl, (Below.refl _ _).alloc (Nat.le_refl _) _⟩

theorem bcell {W w1 : World} (hb : New W w1) : (∀ b o, b < W.heap.size → w1.cell? ⟨b, o, none⟩ = W.cell? ⟨b, o, none⟩) ∧ (∀ b o, b < W.heap.size → w1.frozen? ⟨b, o, none⟩ = W.frozen? ⟨b, o, none⟩) :=
  ⟨fun b o h => hb.cell (p := ⟨b, o, none⟩) h, fun b o h => hb.frozen (p := ⟨b, o, none⟩) h⟩

theorem New.up {w w1 : World} {o : Obj} (h : New (w.alloc o) w1) : New w w1 := ((Below.refl _ _).alloc (Nat.le_refl _) _).trans (h.mono (by simp))

theorem New.then {a b c : World} (h : New a b) (k : New b c) : New a c := h.trans (k.mono h.size)

theorem pairOf_any (nar : Bool) (a b : Int) (w : World) (ha : 0 ≤ a) (ha' : a ≤ 18446744073709551615) (hb : 0 ≤ b) (hb' : b ≤ 18446744073709551615) :
    Calls Try.prog 16 #[.bool nar, .int .u64 a, .int .u64 b] w fun e w' => e = .returned (pairOf nar a b) ∧ New w w' := by
  cases nar
  · go_enter Try.func16, Try.ntmps16
    go_wp2_with (go_at_call 24; refine (read64_any _ _ _ _ ha ha' hb hb').mono ?_; rintro e w1 ⟨rfl, hb1⟩; obtain ⟨hc1, hf1⟩ := bcell hb1; have hz := hb1.size; have hn := New.up hb1; simp at hz)
    exact bodyPost_ret (v := pairOf false a b) (by simp [results, Try.results16, go_sem, hc1, pairOf, cut, sgn, most, wide]) rfl ⟨rfl, by go_grown⟩
  · go_enter Try.func16, Try.ntmps16
    go_wp2_with (go_at_call 23; refine (read32_any _ _ _ _ ha ha' hb hb').mono ?_; rintro e w1 ⟨rfl, hb1⟩; obtain ⟨hc1, hf1⟩ := bcell hb1; have hz := hb1.size; have hn := New.up hb1; simp at hz)
    exact bodyPost_ret (v := pairOf true a b) (by simp [results, Try.results16, go_sem, hc1, pairOf, cut, sgn, most, wide]) rfl ⟨rfl, by go_grown⟩

end Go.Proofs.Ytkegoiibhleflaa.alu
