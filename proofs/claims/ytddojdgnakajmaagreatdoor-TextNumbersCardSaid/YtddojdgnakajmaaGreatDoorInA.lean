/-
  Instructions as mathematics: what is right of them, their bytes, what bytes say, what may come behind.
-/
import Derived.WalkKit
import Derived.Test.YtddojdgnakajmaaGreatDoorKit
import Derived.OwnWalk
import Derived.Laws.ResultCell
import Derived.BigQuiet
import Derived.Deep.QuietTactic
namespace Go.Proofs.YtddojdgnakajmaaGreatDoor.ins
set_option linter.unusedVariables false

structure In where
  op : Int
  nar : Bool
  dst : Int
  src : Int
  use : Bool
  off : Int
  imm : Int
  siz : Int

theorem In.ext' {i j : In} (h0 : i.op = j.op) (h1 : i.nar = j.nar) (h2 : i.dst = j.dst) (h3 : i.src = j.src) (h4 : i.use = j.use) (h5 : i.off = j.off) (h6 : i.imm = j.imm) (h7 : i.siz = j.siz) : i = j := by
  cases i; cases j; simp_all

def In.cells (i : In) : List Value := [.int .u8 i.op, .bool i.nar, .int .i64 i.dst, .int .i64 i.src, .bool i.use, .int .i64 i.off, .int .i64 i.imm, .int .i64 i.siz]
def In.val (i : In) : Value := .agg #[.int .u8 i.op, .bool i.nar, .int .i64 i.dst, .int .i64 i.src, .bool i.use, .int .i64 i.off, .int .i64 i.imm, .int .i64 i.siz]

/-- Its numbers are Go's. -/
structure In.Wf (i : In) : Prop where
  o0 : 0 ≤ i.op
  o1 : i.op ≤ 255
  d0 : -9223372036854775808 ≤ i.dst
  d1 : i.dst ≤ 9223372036854775807
  s0 : -9223372036854775808 ≤ i.src
  s1 : i.src ≤ 9223372036854775807
  f0 : -9223372036854775808 ≤ i.off
  f1 : i.off ≤ 9223372036854775807
  i0 : -9223372036854775808 ≤ i.imm
  i1 : i.imm ≤ 9223372036854775807
  z0 : -9223372036854775808 ≤ i.siz
  z1 : i.siz ≤ 9223372036854775807

def tgt (n : Int) : Bool := decide (0 ≤ n) && decide (n ≤ 9)
def reg (n : Int) : Bool := decide (0 ≤ n) && decide (n ≤ 10)
def fits (n : Int) : Bool := decide (-2147483648 ≤ n) && decide (n ≤ 2147483647)
def far (n : Int) : Bool := decide (-32768 ≤ n) && decide (n ≤ 32767)
def sec (use : Bool) (src imm : Int) : Bool := if use then decide (src = 0) && fits imm else reg src && decide (imm = 0)
def sizd (n : Int) : Bool := decide (n = 1) || decide (n = 2) || decide (n = 4) || decide (n = 8)

/-- P6.1. -/
def ok (i : In) : Bool :=
  if 1 ≤ i.op ∧ i.op ≤ 12 then tgt i.dst && (sec i.use i.src i.imm && (decide (i.off = 0) && decide (i.siz = 0)))
  else if i.op = 13 then tgt i.dst && (decide (i.src = 0) && (!i.use && (decide (i.off = 0) && (decide (i.imm = 0) && decide (i.siz = 0)))))
  else if i.op = 14 then tgt i.dst && (reg i.src && (far i.off && (sizd i.siz && (!i.nar && (!i.use && decide (i.imm = 0))))))
  else if i.op = 15 then reg i.dst && (far i.off && (sizd i.siz && (sec i.use i.src i.imm && !i.nar)))
  else if i.op = 16 then far i.off && (!i.nar && (decide (i.dst = 0) && (decide (i.src = 0) && (!i.use && (decide (i.imm = 0) && decide (i.siz = 0))))))
  else if 17 ≤ i.op ∧ i.op ≤ 27 then reg i.dst && (far i.off && (sec i.use i.src i.imm && decide (i.siz = 0)))
  else if i.op = 28 then !i.nar && (decide (i.dst = 0) && (decide (i.src = 0) && (!i.use && (decide (i.off = 0) && (decide (i.imm = 0) && decide (i.siz = 0))))))
  else false

def jumps (i : In) : Bool := decide (16 ≤ i.op) && decide (i.op ≤ 27)
def cond (i : In) : Bool := decide (17 ≤ i.op) && decide (i.op ≤ 27)

/-! ### bytes -/
def ub (n : Int) : UInt8 := UInt8.ofNat (n % 256).toNat
theorem ub_toNat (n : Int) : ((ub n).toNat : Int) = n % 256 := by
  unfold ub
  rw [UInt8.toNat_ofNat']
  omega
def up (n : Int) : Int := if n = 2 then 1 else if n = 4 then 2 else if n = 8 then 3 else 0
def first (i : In) : Int := i.op + (if i.use then 32 else 0) + (if i.nar then 64 else 0) + 64 * up i.siz
/-- The bytes of an instruction that is right. -/
def bs (i : In) : List UInt8 := [ub (first i), ub (16 * i.dst + i.src), ub (i.off / 256), ub i.off, ub (i.imm / 16777216), ub (i.imm / 65536), ub (i.imm / 256), ub i.imm]
theorem bs_length (i : In) : (bs i).length = 8 := rfl
def s16 (n : Int) : Int := if 32768 ≤ n then n - 65536 else n
def s32 (n : Int) : Int := if 2147483648 ≤ n then n - 4294967296 else n
def isz (n : Int) : Int := if n = 0 then 1 else if n = 1 then 2 else if n = 2 then 4 else 8
/-- The instruction that eight bytes may be. -/
def inN (b0 b1 b2 b3 b4 b5 b6 b7 : Int) : In :=
  { op := b0 % 32, use := decide (b0 / 32 % 2 = 1), dst := b1 / 16, src := b1 % 16, off := s16 (256 * b2 + b3), imm := s32 (16777216 * b4 + 65536 * b5 + 256 * b6 + b7),
    siz := if b0 % 32 = 14 ∨ b0 % 32 = 15 then isz (b0 / 64) else 0, nar := if b0 % 32 = 14 ∨ b0 % 32 = 15 then false else decide (b0 / 64 % 2 = 1) }
def gt (l : List UInt8) (k : Nat) : Int := ((l.getD k 0).toNat : Int)
def inOf (l : List UInt8) : In := inN (gt l 0) (gt l 1) (gt l 2) (gt l 3) (gt l 4) (gt l 5) (gt l 6) (gt l 7)
def one (l : List UInt8) : Bool := ok (inOf l) && decide (bs (inOf l) = l)

theorem gt_0 (a : UInt8) (l : List UInt8) : gt (a :: l) 0 = (a.toNat : Int) := rfl
theorem gt_s (a : UInt8) (l : List UInt8) (k : Nat) : gt (a :: l) (k + 1) = gt l k := rfl

theorem inOf_bs_aux (i : In) : inOf (bs i) = inN (first i % 256) ((16 * i.dst + i.src) % 256) (i.off / 256 % 256) (i.off % 256) (i.imm / 16777216 % 256) (i.imm / 65536 % 256) (i.imm / 256 % 256) (i.imm % 256) := by
  show inN ((ub _).toNat : Int) ((ub _).toNat : Int) ((ub _).toNat : Int) ((ub _).toNat : Int) ((ub _).toNat : Int) ((ub _).toNat : Int) ((ub _).toNat : Int) ((ub _).toNat : Int) = _
  rw [ub_toNat, ub_toNat, ub_toNat, ub_toNat, ub_toNat, ub_toNat, ub_toNat, ub_toNat]

theorem s16_of (n : Int) (h : far n = true) : s16 (256 * (n / 256 % 256) + n % 256) = n := by
  simp [far] at h
  unfold s16
  split <;> omega
theorem s32_of (n : Int) (h : fits n = true) : s32 (16777216 * (n / 16777216 % 256) + 65536 * (n / 65536 % 256) + 256 * (n / 256 % 256) + n % 256) = n := by
  simp [fits] at h
  unfold s32
  split <;> omega

theorem isz_up (n : Int) (h : sizd n = true) : isz (up n) = n ∧ 0 ≤ up n ∧ up n ≤ 3 := by
  simp [sizd] at h
  rcases h with ((rfl | rfl) | rfl) | rfl <;> simp [up, isz]
theorem fits_0 : fits 0 = true := rfl
theorem far_0 : far 0 = true := rfl

/-- What is known of one that is right. -/
theorem ok_facts (i : In) (h : ok i = true) : 0 ≤ i.dst ∧ i.dst ≤ 10 ∧ 0 ≤ i.src ∧ i.src ≤ 10 ∧ far i.off = true ∧ fits i.imm = true ∧ 1 ≤ i.op ∧ i.op ≤ 28 ∧
      ((i.op = 14 ∨ i.op = 15) ∧ i.nar = false ∧ sizd i.siz = true ∨ ¬ (i.op = 14 ∨ i.op = 15) ∧ i.siz = 0) := by
    unfold ok at h
    obtain ⟨op, nar, dst, src, use, off, imm, siz⟩ := i
    have f0 := far_0
    have t0 := fits_0
    simp only at h ⊢
    split at h
    · cases use <;> simp [tgt, sec, reg] at h <;> (obtain ⟨⟨_, _⟩, ⟨_, _⟩, rfl, rfl⟩ := h; simp_all; try omega)
    · split at h
      · simp [tgt] at h; obtain ⟨⟨_, _⟩, rfl, rfl, rfl, rfl, rfl⟩ := h; simp_all; try omega
      · split at h
        · simp [tgt, reg] at h; obtain ⟨⟨_, _⟩, ⟨_, _⟩, _, _, rfl, rfl, rfl⟩ := h; simp_all; try omega
        · split at h
          · cases use <;> simp [reg, sec] at h <;> (obtain ⟨⟨_, _⟩, _, _, ⟨_, _⟩, rfl⟩ := h; simp_all; try omega)
          · split at h
            · simp at h; obtain ⟨_, rfl, rfl, rfl, rfl, rfl, rfl⟩ := h; simp_all
            · split at h
              · cases use <;> simp [reg, sec] at h <;> (obtain ⟨⟨_, _⟩, _, ⟨_, _⟩, rfl⟩ := h; simp_all; try omega)
              · split at h
                · simp at h; obtain ⟨rfl, rfl, rfl, rfl, rfl, rfl, rfl⟩ := h; simp_all
                · cases h
/-- What is put is got. -/
theorem inOf_bs (i : In) (h : ok i = true) : inOf (bs i) = i := by
  have h2 := ok_facts i h
  obtain ⟨d0, d1, s0, s1, hf, hi, o0, o1, hz⟩ := h2
  have hoff := s16_of _ hf
  have himm := s32_of _ hi
  rw [inOf_bs_aux]
  obtain ⟨op, nar, dst, src, use, off, imm, siz⟩ := i
  simp only at *
  unfold inN first
  rcases hz with ⟨ho, rfl, hz⟩ | ⟨ho, rfl⟩
  · obtain ⟨hz1, hz2, hz3⟩ := isz_up _ hz
    have e1 : (op + (if use = true then 32 else 0) + (if false = true then 64 else 0) + 64 * up siz) % 256 / 64 = up siz := by cases use <;> simp <;> omega
    have e2 : (op + (if use = true then 32 else 0) + (if false = true then 64 else 0) + 64 * up siz) % 256 % 32 = op := by cases use <;> simp <;> omega
    have e3 : (op + (if use = true then 32 else 0) + (if false = true then 64 else 0) + 64 * up siz) % 256 / 32 % 2 = if use then 1 else 0 := by cases use <;> simp <;> omega
    refine In.ext' ?_ ?_ ?_ ?_ ?_ hoff himm ?_
    · exact e2
    · simp only [e2]; rw [if_pos ho]
    · show (16 * dst + src) % 256 / 16 = dst; omega
    · show (16 * dst + src) % 256 % 16 = src; omega
    · simp only [e3]; cases use <;> rfl
    · simp only [e2, e1]; rw [if_pos ho]; exact hz1
  · have eu : up 0 = 0 := rfl
    have e1 : (op + (if use = true then 32 else 0) + (if nar = true then 64 else 0) + 64 * up 0) % 256 / 64 % 2 = if nar then 1 else 0 := by cases use <;> cases nar <;> simp [eu] <;> omega
    have e2 : (op + (if use = true then 32 else 0) + (if nar = true then 64 else 0) + 64 * up 0) % 256 % 32 = op := by cases use <;> cases nar <;> simp [eu] <;> omega
    have e3 : (op + (if use = true then 32 else 0) + (if nar = true then 64 else 0) + 64 * up 0) % 256 / 32 % 2 = if use then 1 else 0 := by cases use <;> cases nar <;> simp [eu] <;> omega
    refine In.ext' ?_ ?_ ?_ ?_ ?_ hoff himm ?_
    · exact e2
    · simp only [e2, e1]; rw [if_neg ho]; cases nar <;> rfl
    · show (16 * dst + src) % 256 / 16 = dst; omega
    · show (16 * dst + src) % 256 % 16 = src; omega
    · simp only [e3]; cases use <;> rfl
    · simp only [e2]; rw [if_neg ho]

theorem one_bs (i : In) (h : ok i = true) : one (bs i) = true := by
  unfold one
  rw [inOf_bs i h, h]
  simp

/-! ### what may come behind -/
def nx (l : List In) (k : Int) : List Int :=
  if 0 ≤ k ∧ k < l.length then
    match l[k.toNat]? with
    | none => []
    | some i => if ok i then (if i.op = 28 then [] else if i.op = 16 then [k + 1 + i.off] else if cond i = true ∧ i.off < 0 then [k + 1 + i.off, k + 1] else if cond i = true ∧ 0 < i.off then [k + 1, k + 1 + i.off] else [k + 1]) else []
  else []

end Go.Proofs.YtddojdgnakajmaaGreatDoor.ins

namespace Go.Proofs.YtddojdgnakajmaaGreatDoor.ins
open Go.RowKit Go.Proofs.YtddojdgnakajmaaGreatDoor.mem Go.Proofs.YtddojdgnakajmaaGreatDoor.kit
set_option linter.unusedVariables false

theorem ret_bool {a b : Bool} (h : a = b) : Ending.returned (.bool a) = .returned (.bool b) := by rw [h]
/-- What fields a kind has. -/
def fld (op : Int) : Int :=
  if 1 ≤ op ∧ op ≤ 12 then 147 else if op = 13 then 131 else if op = 14 then 107 else if op = 15 then 117 else if op = 16 then 33 else if 17 ≤ op ∧ op ≤ 27 then 181 else if op = 28 then 1 else 0

theorem fld_1 {op : Int} (h0 : 1 ≤ op) (h1 : op ≤ 12) : fld op = 147 := by unfold fld; rw [if_pos ⟨h0, h1⟩]
theorem fld_2 {op : Int} (h0 : 17 ≤ op) (h1 : op ≤ 27) : fld op = 181 := by
  unfold fld; rw [if_neg (by omega), if_neg (by omega), if_neg (by omega), if_neg (by omega), if_neg (by omega), if_pos ⟨h0, h1⟩]
theorem fld_0 {op : Int} (h : op < 1 ∨ 28 < op) : fld op = 0 := by
  unfold fld; rw [if_neg (by omega), if_neg (by omega), if_neg (by omega), if_neg (by omega), if_neg (by omega), if_neg (by omega), if_neg (by omega)]

theorem ops_cases (op : Int) : (1 ≤ op ∧ op ≤ 12) ∨ op = 13 ∨ op = 14 ∨ op = 15 ∨ op = 16 ∨ (17 ≤ op ∧ op ≤ 27) ∨ op = 28 ∨ (op < 1 ∨ 28 < op) := by omega

set_option maxHeartbeats 1000000 in
theorem fieldsOf_any (op : Int) (w : World) : Calls Tryz.prog 88 #[.int .u8 op] w fun e w' => e = .returned (.int .u8 (fld op)) ∧ w = w' := by
  rcases ops_cases op with ⟨h0, h1⟩ | rfl | rfl | rfl | rfl | ⟨h0, h1⟩ | rfl | h
  · have H := Lib.hid (fld_1 h0 h1)
    go_enter Tryz.func88, Tryz.ntmps88
    go_wp2
    go_ret
    exact ⟨ret_int H.out.symm, rfl⟩
  · go_enter Tryz.func88, Tryz.ntmps88
    go_wp2
    go_ret
    exact ⟨rfl, rfl⟩
  · go_enter Tryz.func88, Tryz.ntmps88
    go_wp2
    go_ret
    exact ⟨rfl, rfl⟩
  · go_enter Tryz.func88, Tryz.ntmps88
    go_wp2
    go_ret
    exact ⟨rfl, rfl⟩
  · go_enter Tryz.func88, Tryz.ntmps88
    go_wp2
    go_ret
    exact ⟨rfl, rfl⟩
  · have H := Lib.hid (fld_2 h0 h1)
    have n1 : ¬ op ≤ 12 := by omega
    have n2 : (op == 13) = false := by simp; omega
    have n3 : (op == 14) = false := by simp; omega
    have n4 : (op == 15) = false := by simp; omega
    have n5 : (op == 16) = false := by simp; omega
    go_enter Tryz.func88, Tryz.ntmps88
    go_wp2
    go_ret
    exact ⟨ret_int H.out.symm, rfl⟩
  · go_enter Tryz.func88, Tryz.ntmps88
    go_wp2
    go_ret
    exact ⟨rfl, rfl⟩
  · have H := Lib.hid (fld_0 h)
    have n2 : (op == 13) = false := by simp; omega
    have n3 : (op == 14) = false := by simp; omega
    have n4 : (op == 15) = false := by simp; omega
    have n5 : (op == 16) = false := by simp; omega
    have n6 : (op == 28) = false := by simp; omega
    rcases h with h | h
    · have m1 : ¬ 1 ≤ op := by omega
      have m2 : ¬ 17 ≤ op := by omega
      go_enter Tryz.func88, Tryz.ntmps88
      go_wp2
      go_ret
      exact ⟨ret_int H.out.symm, rfl⟩
    · have m1 : ¬ op ≤ 12 := by omega
      have m2 : ¬ op ≤ 27 := by omega
      have m3 : 1 ≤ op := by omega
      have m4 : 17 ≤ op := by omega
      go_enter Tryz.func88, Tryz.ntmps88
      go_wp2
      go_ret
      exact ⟨ret_int H.out.symm, rfl⟩

/-- Is one of the flags g among f? -/
def has (f g : Int) : Bool := !(bits .and .u8 f g == 0)
theorem any_any (f g : Int) (w : World) : Calls Tryz.prog 89 #[.int .u8 f, .int .u8 g] w fun e w' => e = .returned (.bool (has f g)) ∧ w = w' := by
  go_enter Tryz.func89, Tryz.ntmps89
  go_wp2
  go_ret
  exact ⟨rfl, rfl⟩

def inB (n a b : Int) : Bool := decide (a ≤ n) && decide (n ≤ b)
theorem within_any (n a b : Int) (w : World) : Calls Tryz.prog 155 #[.int .i64 n, .int .i64 a, .int .i64 b] w fun e w' => e = .returned (.bool (inB n a b)) ∧ w = w' := by
  by_cases h0 : a ≤ n
  · by_cases h1 : n ≤ b
    · have H : Hid (inB n a b = true) := Lib.hid (by simp [inB, h0, h1])
      go_enter Tryz.func155, Tryz.ntmps155
      go_wp2
      go_ret
      exact ⟨ret_bool H.out.symm, rfl⟩
    · have H : Hid (inB n a b = false) := Lib.hid (by simp [inB, h0, h1])
      go_enter Tryz.func155, Tryz.ntmps155
      go_wp2
      go_ret
      exact ⟨ret_bool H.out.symm, rfl⟩
  · have H : Hid (inB n a b = false) := Lib.hid (by simp [inB, h0])
    go_enter Tryz.func155, Tryz.ntmps155
    go_wp2
    go_ret
    exact ⟨ret_bool H.out.symm, rfl⟩

theorem isSize_any (n : Int) (w : World) : Calls Tryz.prog 156 #[.int .i64 n] w fun e w' => e = .returned (.bool (sizd n)) ∧ w = w' := by
  by_cases h1 : n = 1
  · subst h1
    go_enter Tryz.func156, Tryz.ntmps156
    go_wp2
    go_ret
    exact ⟨rfl, rfl⟩
  · by_cases h2 : n = 2
    · subst h2
      go_enter Tryz.func156, Tryz.ntmps156
      go_wp2
      go_ret
      exact ⟨rfl, rfl⟩
    · by_cases h4 : n = 4
      · subst h4
        go_enter Tryz.func156, Tryz.ntmps156
        go_wp2
        go_ret
        exact ⟨rfl, rfl⟩
      · have H : Hid (sizd n = (n == 8)) := Lib.hid (by simp [sizd, h1, h2, h4]; rfl)
        have t1 : (n == 1) = false := by simpa using h1
        have t2 : (n == 2) = false := by simpa using h2
        have t4 : (n == 4) = false := by simpa using h4
        clear h1 h2 h4
        go_enter Tryz.func156, Tryz.ntmps156
        go_wp2
        go_ret
        exact ⟨ret_bool H.out.symm, rfl⟩
end Go.Proofs.YtddojdgnakajmaaGreatDoor.ins

namespace Go.Proofs.YtddojdgnakajmaaGreatDoor.ins
open Go.RowKit Go.Proofs.YtddojdgnakajmaaGreatDoor.mem Go.Proofs.YtddojdgnakajmaaGreatDoor.kit
set_option linter.unusedVariables false

def In.arr (i : In) : Array Value := #[.int .u8 i.op, .bool i.nar, .int .i64 i.dst, .int .i64 i.src, .bool i.use, .int .i64 i.off, .int .i64 i.imm, .int .i64 i.siz]
theorem ins_size : (Tryz.prog.info? 41).map (·.size) = some 8 := by kernel_rfl
theorem new1 (w : World) (a : Obj) : New w (w.alloc a) := (new_refl w).alloc (Nat.le_refl _) a
theorem new2 (w : World) (a b : Obj) : New w ((w.alloc a).alloc b) := (new1 w a).alloc (by simp) b
theorem new3 (w : World) (a b c : Obj) : New w (((w.alloc a).alloc b).alloc c) := (new2 w a b).alloc (by simp; omega) c
theorem new_row {w w' : World} (h : New w w') (b : Nat) (cs : Array Value) (hb : w.heap.size ≤ b) : New w (w'.setRow b cs) :=
  ⟨h.os, h.tape, h.output, by simpa using h.size, fun k hk => (setRow_other w' b k cs (by omega)).trans (h.block k hk)⟩

set_option maxRecDepth 100000 in
theorem only_147i (op : Int) (nar : Bool) (dst src : Int) (off imm siz : Int) (w : World) :
    Calls Tryz.prog 90 #[.int .u8 147, .agg #[.int .u8 op, .bool nar, .int .i64 dst, .int .i64 src, .bool true, .int .i64 off, .int .i64 imm, .int .i64 siz]] w fun e w' =>
      e = .returned (.agg #[.int .u8 op, .bool nar, .int .i64 dst, .int .i64 0, .bool true, .int .i64 0, .int .i64 imm, .int .i64 0]) ∧ New w w' := by
  have b6 : has 147 6 = true := by decide +kernel
  have b16 : has 147 16 = true := by decide +kernel
  have b24 : has 147 24 = true := by decide +kernel
  have b32 : has 147 32 = false := by decide +kernel
  have b64 : has 147 64 = false := by decide +kernel
  have b128 : has 147 128 = true := by decide +kernel
  have ei := ins_size
  go_enter Tryz.func90, Tryz.ntmps90
  go_wp2_with (go_at_call 89; refine (any_any _ _ _).mono ?_; rintro e w1 ⟨rfl, rfl⟩)
  go_region
  go_wp2_with (go_at_call 89; refine (any_any _ _ _).mono ?_; rintro e w1 ⟨rfl, rfl⟩)
  refine bodyPost_ret (v := .agg #[.int .u8 op, .bool nar, .int .i64 dst, .int .i64 0, .bool true, .int .i64 0, .int .i64 imm, .int .i64 0]) (by simp [results, Tryz.results90, go_sem]) rfl ⟨rfl, ?_⟩
  exact Below.drew (new3 w _ _ _)

set_option maxRecDepth 100000 in
theorem only_147r (op : Int) (nar : Bool) (dst src : Int) (off imm siz : Int) (w : World) :
    Calls Tryz.prog 90 #[.int .u8 147, .agg #[.int .u8 op, .bool nar, .int .i64 dst, .int .i64 src, .bool false, .int .i64 off, .int .i64 imm, .int .i64 siz]] w fun e w' =>
      e = .returned (.agg #[.int .u8 op, .bool nar, .int .i64 dst, .int .i64 src, .bool false, .int .i64 0, .int .i64 0, .int .i64 0]) ∧ New w w' := by
  have b6 : has 147 6 = true := by decide +kernel
  have b16 : has 147 16 = true := by decide +kernel
  have b24 : has 147 24 = true := by decide +kernel
  have b32 : has 147 32 = false := by decide +kernel
  have b64 : has 147 64 = false := by decide +kernel
  have b128 : has 147 128 = true := by decide +kernel
  have ei := ins_size
  go_enter Tryz.func90, Tryz.ntmps90
  go_wp2_with (go_at_call 89; refine (any_any _ _ _).mono ?_; rintro e w1 ⟨rfl, rfl⟩)
  refine bodyPost_ret (v := .agg #[.int .u8 op, .bool nar, .int .i64 dst, .int .i64 src, .bool false, .int .i64 0, .int .i64 0, .int .i64 0]) (by simp [results, Tryz.results90, go_sem]) rfl ⟨rfl, ?_⟩
  exact new3 w _ _ _

set_option maxRecDepth 100000 in
theorem only_131 (op : Int) (nar : Bool) (dst src : Int) (use : Bool) (off imm siz : Int) (w : World) :
    Calls Tryz.prog 90 #[.int .u8 131, .agg #[.int .u8 op, .bool nar, .int .i64 dst, .int .i64 src, .bool use, .int .i64 off, .int .i64 imm, .int .i64 siz]] w fun e w' =>
      e = .returned (.agg #[.int .u8 op, .bool nar, .int .i64 dst, .int .i64 0, .bool false, .int .i64 0, .int .i64 0, .int .i64 0]) ∧ New w w' := by
  have b6 : has 131 6 = true := by decide +kernel
  have b16 : has 131 16 = false := by decide +kernel
  have b24 : has 131 24 = false := by decide +kernel
  have b32 : has 131 32 = false := by decide +kernel
  have b64 : has 131 64 = false := by decide +kernel
  have b128 : has 131 128 = true := by decide +kernel
  have ei := ins_size
  go_enter Tryz.func90, Tryz.ntmps90
  go_wp2_with (go_at_call 89; refine (any_any _ _ _).mono ?_; rintro e w1 ⟨rfl, rfl⟩)
  refine bodyPost_ret (v := .agg #[.int .u8 op, .bool nar, .int .i64 dst, .int .i64 0, .bool false, .int .i64 0, .int .i64 0, .int .i64 0]) (by simp [results, Tryz.results90, go_sem]) rfl ⟨rfl, ?_⟩
  exact new3 w _ _ _

set_option maxRecDepth 100000 in
theorem only_107 (op : Int) (nar : Bool) (dst src : Int) (use : Bool) (off imm siz : Int) (w : World) :
    Calls Tryz.prog 90 #[.int .u8 107, .agg #[.int .u8 op, .bool nar, .int .i64 dst, .int .i64 src, .bool use, .int .i64 off, .int .i64 imm, .int .i64 siz]] w fun e w' =>
      e = .returned (.agg #[.int .u8 op, .bool false, .int .i64 dst, .int .i64 src, .bool false, .int .i64 off, .int .i64 0, .int .i64 siz]) ∧ New w w' := by
  have b6 : has 107 6 = true := by decide +kernel
  have b16 : has 107 16 = false := by decide +kernel
  have b24 : has 107 24 = true := by decide +kernel
  have b32 : has 107 32 = true := by decide +kernel
  have b64 : has 107 64 = true := by decide +kernel
  have b128 : has 107 128 = false := by decide +kernel
  have ei := ins_size
  go_enter Tryz.func90, Tryz.ntmps90
  go_wp2_with (go_at_call 89; refine (any_any _ _ _).mono ?_; rintro e w1 ⟨rfl, rfl⟩)
  refine bodyPost_ret (v := .agg #[.int .u8 op, .bool false, .int .i64 dst, .int .i64 src, .bool false, .int .i64 off, .int .i64 0, .int .i64 siz]) (by simp [results, Tryz.results90, go_sem]) rfl ⟨rfl, ?_⟩
  exact new3 w _ _ _

set_option maxRecDepth 100000 in
theorem only_117i (op : Int) (nar : Bool) (dst src : Int) (off imm siz : Int) (w : World) :
    Calls Tryz.prog 90 #[.int .u8 117, .agg #[.int .u8 op, .bool nar, .int .i64 dst, .int .i64 src, .bool true, .int .i64 off, .int .i64 imm, .int .i64 siz]] w fun e w' =>
      e = .returned (.agg #[.int .u8 op, .bool false, .int .i64 dst, .int .i64 0, .bool true, .int .i64 off, .int .i64 imm, .int .i64 siz]) ∧ New w w' := by
  have b6 : has 117 6 = true := by decide +kernel
  have b16 : has 117 16 = true := by decide +kernel
  have b24 : has 117 24 = true := by decide +kernel
  have b32 : has 117 32 = true := by decide +kernel
  have b64 : has 117 64 = true := by decide +kernel
  have b128 : has 117 128 = false := by decide +kernel
  have ei := ins_size
  go_enter Tryz.func90, Tryz.ntmps90
  go_wp2_with (go_at_call 89; refine (any_any _ _ _).mono ?_; rintro e w1 ⟨rfl, rfl⟩)
  go_region
  go_wp2_with (go_at_call 89; refine (any_any _ _ _).mono ?_; rintro e w1 ⟨rfl, rfl⟩)
  refine bodyPost_ret (v := .agg #[.int .u8 op, .bool false, .int .i64 dst, .int .i64 0, .bool true, .int .i64 off, .int .i64 imm, .int .i64 siz]) (by simp [results, Tryz.results90, go_sem]) rfl ⟨rfl, ?_⟩
  exact Below.drew (new3 w _ _ _)

set_option maxRecDepth 100000 in
theorem only_117r (op : Int) (nar : Bool) (dst src : Int) (off imm siz : Int) (w : World) :
    Calls Tryz.prog 90 #[.int .u8 117, .agg #[.int .u8 op, .bool nar, .int .i64 dst, .int .i64 src, .bool false, .int .i64 off, .int .i64 imm, .int .i64 siz]] w fun e w' =>
      e = .returned (.agg #[.int .u8 op, .bool false, .int .i64 dst, .int .i64 src, .bool false, .int .i64 off, .int .i64 0, .int .i64 siz]) ∧ New w w' := by
  have b6 : has 117 6 = true := by decide +kernel
  have b16 : has 117 16 = true := by decide +kernel
  have b24 : has 117 24 = true := by decide +kernel
  have b32 : has 117 32 = true := by decide +kernel
  have b64 : has 117 64 = true := by decide +kernel
  have b128 : has 117 128 = false := by decide +kernel
  have ei := ins_size
  go_enter Tryz.func90, Tryz.ntmps90
  go_wp2_with (go_at_call 89; refine (any_any _ _ _).mono ?_; rintro e w1 ⟨rfl, rfl⟩)
  refine bodyPost_ret (v := .agg #[.int .u8 op, .bool false, .int .i64 dst, .int .i64 src, .bool false, .int .i64 off, .int .i64 0, .int .i64 siz]) (by simp [results, Tryz.results90, go_sem]) rfl ⟨rfl, ?_⟩
  exact new3 w _ _ _

set_option maxRecDepth 100000 in
theorem only_33 (op : Int) (nar : Bool) (dst src : Int) (use : Bool) (off imm siz : Int) (w : World) :
    Calls Tryz.prog 90 #[.int .u8 33, .agg #[.int .u8 op, .bool nar, .int .i64 dst, .int .i64 src, .bool use, .int .i64 off, .int .i64 imm, .int .i64 siz]] w fun e w' =>
      e = .returned (.agg #[.int .u8 op, .bool false, .int .i64 0, .int .i64 0, .bool false, .int .i64 off, .int .i64 0, .int .i64 0]) ∧ New w w' := by
  have b6 : has 33 6 = false := by decide +kernel
  have b16 : has 33 16 = false := by decide +kernel
  have b24 : has 33 24 = false := by decide +kernel
  have b32 : has 33 32 = true := by decide +kernel
  have b64 : has 33 64 = false := by decide +kernel
  have b128 : has 33 128 = false := by decide +kernel
  have ei := ins_size
  go_enter Tryz.func90, Tryz.ntmps90
  go_wp2_with (go_at_call 89; refine (any_any _ _ _).mono ?_; rintro e w1 ⟨rfl, rfl⟩)
  refine bodyPost_ret (v := .agg #[.int .u8 op, .bool false, .int .i64 0, .int .i64 0, .bool false, .int .i64 off, .int .i64 0, .int .i64 0]) (by simp [results, Tryz.results90, go_sem]) rfl ⟨rfl, ?_⟩
  exact new3 w _ _ _

set_option maxRecDepth 100000 in
theorem only_181i (op : Int) (nar : Bool) (dst src : Int) (off imm siz : Int) (w : World) :
    Calls Tryz.prog 90 #[.int .u8 181, .agg #[.int .u8 op, .bool nar, .int .i64 dst, .int .i64 src, .bool true, .int .i64 off, .int .i64 imm, .int .i64 siz]] w fun e w' =>
      e = .returned (.agg #[.int .u8 op, .bool nar, .int .i64 dst, .int .i64 0, .bool true, .int .i64 off, .int .i64 imm, .int .i64 0]) ∧ New w w' := by
  have b6 : has 181 6 = true := by decide +kernel
  have b16 : has 181 16 = true := by decide +kernel
  have b24 : has 181 24 = true := by decide +kernel
  have b32 : has 181 32 = true := by decide +kernel
  have b64 : has 181 64 = false := by decide +kernel
  have b128 : has 181 128 = true := by decide +kernel
  have ei := ins_size
  go_enter Tryz.func90, Tryz.ntmps90
  go_wp2_with (go_at_call 89; refine (any_any _ _ _).mono ?_; rintro e w1 ⟨rfl, rfl⟩)
  go_region
  go_wp2_with (go_at_call 89; refine (any_any _ _ _).mono ?_; rintro e w1 ⟨rfl, rfl⟩)
  refine bodyPost_ret (v := .agg #[.int .u8 op, .bool nar, .int .i64 dst, .int .i64 0, .bool true, .int .i64 off, .int .i64 imm, .int .i64 0]) (by simp [results, Tryz.results90, go_sem]) rfl ⟨rfl, ?_⟩
  exact Below.drew (new3 w _ _ _)

set_option maxRecDepth 100000 in
theorem only_181r (op : Int) (nar : Bool) (dst src : Int) (off imm siz : Int) (w : World) :
    Calls Tryz.prog 90 #[.int .u8 181, .agg #[.int .u8 op, .bool nar, .int .i64 dst, .int .i64 src, .bool false, .int .i64 off, .int .i64 imm, .int .i64 siz]] w fun e w' =>
      e = .returned (.agg #[.int .u8 op, .bool nar, .int .i64 dst, .int .i64 src, .bool false, .int .i64 off, .int .i64 0, .int .i64 0]) ∧ New w w' := by
  have b6 : has 181 6 = true := by decide +kernel
  have b16 : has 181 16 = true := by decide +kernel
  have b24 : has 181 24 = true := by decide +kernel
  have b32 : has 181 32 = true := by decide +kernel
  have b64 : has 181 64 = false := by decide +kernel
  have b128 : has 181 128 = true := by decide +kernel
  have ei := ins_size
  go_enter Tryz.func90, Tryz.ntmps90
  go_wp2_with (go_at_call 89; refine (any_any _ _ _).mono ?_; rintro e w1 ⟨rfl, rfl⟩)
  refine bodyPost_ret (v := .agg #[.int .u8 op, .bool nar, .int .i64 dst, .int .i64 src, .bool false, .int .i64 off, .int .i64 0, .int .i64 0]) (by simp [results, Tryz.results90, go_sem]) rfl ⟨rfl, ?_⟩
  exact new3 w _ _ _

set_option maxRecDepth 100000 in
theorem only_1 (op : Int) (nar : Bool) (dst src : Int) (use : Bool) (off imm siz : Int) (w : World) :
    Calls Tryz.prog 90 #[.int .u8 1, .agg #[.int .u8 op, .bool nar, .int .i64 dst, .int .i64 src, .bool use, .int .i64 off, .int .i64 imm, .int .i64 siz]] w fun e w' =>
      e = .returned (.agg #[.int .u8 op, .bool false, .int .i64 0, .int .i64 0, .bool false, .int .i64 0, .int .i64 0, .int .i64 0]) ∧ New w w' := by
  have b6 : has 1 6 = false := by decide +kernel
  have b16 : has 1 16 = false := by decide +kernel
  have b24 : has 1 24 = false := by decide +kernel
  have b32 : has 1 32 = false := by decide +kernel
  have b64 : has 1 64 = false := by decide +kernel
  have b128 : has 1 128 = false := by decide +kernel
  have ei := ins_size
  go_enter Tryz.func90, Tryz.ntmps90
  go_wp2_with (go_at_call 89; refine (any_any _ _ _).mono ?_; rintro e w1 ⟨rfl, rfl⟩)
  refine bodyPost_ret (v := .agg #[.int .u8 op, .bool false, .int .i64 0, .int .i64 0, .bool false, .int .i64 0, .int .i64 0, .int .i64 0]) (by simp [results, Tryz.results90, go_sem]) rfl ⟨rfl, ?_⟩
  exact new3 w _ _ _
end Go.Proofs.YtddojdgnakajmaaGreatDoor.ins

namespace Go.Proofs.YtddojdgnakajmaaGreatDoor.ins
open Go.RowKit Go.Proofs.YtddojdgnakajmaaGreatDoor.mem Go.Proofs.YtddojdgnakajmaaGreatDoor.kit
set_option linter.unusedVariables false

def fitB (f : Int) (dst src off imm siz : Int) : Bool :=
  inB dst 0 (if has f 2 = true then 9 else 10) && (inB src 0 10 && (inB off (-32768) 32767 && (inB imm (-2147483648) 2147483647 && (sizd siz || !has f 64))))

set_option maxRecDepth 100000 in
set_option maxHeartbeats 2000000 in
theorem fit_any (f : Int) (op : Int) (nar : Bool) (dst src : Int) (use : Bool) (off imm siz : Int) (w : World) :
    Calls Tryz.prog 91 #[.int .u8 f, .agg #[.int .u8 op, .bool nar, .int .i64 dst, .int .i64 src, .bool use, .int .i64 off, .int .i64 imm, .int .i64 siz]] w fun e w' =>
      e = .returned (.bool (fitB f dst src off imm siz)) ∧ New w w' := by
  have hN := new1 w (.cells #[.int .u8 op, .bool nar, .int .i64 dst, .int .i64 src, .bool use, .int .i64 off, .int .i64 imm, .int .i64 siz] 41)
  unfold fitB
  rcases h2 : has f 2 with _ | _
  all_goals
    go_enter Tryz.func91, Tryz.ntmps91
    go_wp2_with (first
      | (go_at_call 89; refine (any_any _ _ _).mono ?_; rintro e w1 ⟨rfl, rfl⟩)
      | (go_at_call 155; refine (within_any _ _ _ _).mono ?_; rintro e w1 ⟨rfl, rfl⟩)
      | (go_at_call 156; refine (isSize_any _ _).mono ?_; rintro e w1 ⟨rfl, rfl⟩))
    all_goals (go_ret; exact ⟨rfl, hN⟩)

/-- Are two instructions the same, field by field? -/
def sameB (o : Int) (n : Bool) (d s : Int) (u : Bool) (f m z : Int) (o' : Int) (n' : Bool) (d' s' : Int) (u' : Bool) (f' m' z' : Int) : Bool :=
  o == o' && (n == n' && (d == d' && (s == s' && (u == u' && (f == f' && (m == m' && z == z'))))))
theorem eq_ins (o : Int) (n : Bool) (d s : Int) (u : Bool) (f m z : Int) (o' : Int) (n' : Bool) (d' s' : Int) (u' : Bool) (f' m' z' : Int) (w : World) :
    (Op.equalIn 10000 41 (.agg #[.int .u8 o, .bool n, .int .i64 d, .int .i64 s, .bool u, .int .i64 f, .int .i64 m, .int .i64 z]) (.agg #[.int .u8 o', .bool n', .int .i64 d', .int .i64 s', .bool u', .int .i64 f', .int .i64 m', .int .i64 z'])).run Tryz.prog w = .ok (sameB o n d s u f m z o' n' d' s' u' f' m' z') w := by
  have hS : Tryz.prog.underlying 41 = some (.struct (Tryz.prog.fieldsOf 41)) := by kernel_rfl
  have hp : Tryz.prog.stoodInHeld 41 = false := by kernel_rfl
  have u1 := Tryz.underlying39
  have u2 := Tryz.underlying4
  have u3 := Tryz.underlying3
  rw [show (10000 : Nat) = 9999 + 1 from rfl, run_equalIn_agg w 9999 41 _ _ hS hp]
  simp only [Program.fieldsOf, Tryz.underlying41]
  unfold sameB
  go_simp
  by_cases h0 : o = o' <;> by_cases h1 : n = n' <;> by_cases h2 : d = d' <;> by_cases h3 : s = s' <;> by_cases h4 : u = u' <;> by_cases h5 : f = f' <;> by_cases h6 : m = m' <;> by_cases h7 : z = z' <;> simp [h0, h1, h2, h3, h4, h5, h6, h7]
end Go.Proofs.YtddojdgnakajmaaGreatDoor.ins
