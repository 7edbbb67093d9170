/-
  Instructions as mathematics: what is right of them, their bytes, what bytes say, what may come behind.
-/
import Derived.WalkKit
namespace Go.Proofs.Ytlchimbaclenaaa.ins
set_option linter.unusedVariables false

structure In where
  op : Int
  nar : Bool
  dst : Int
  src : Int
  use : Bool
  off : Int
  imm : Int
  siz : Int

theorem In.ext' {i j : In} (h0 : i.op = j.op) (h1 : i.nar = j.nar) (h2 : i.dst = j.dst) (h3 : i.src = j.src) (h4 : i.use = j.use) (h5 : i.off = j.off) (h6 : i.imm = j.imm) (h7 : i.siz = j.siz) : i = j := by
  cases i; cases j; simp_all

def In.cells (i : In) : List Value := [.int .u8 i.op, .bool i.nar, .int .i64 i.dst, .int .i64 i.src, .bool i.use, .int .i64 i.off, .int .i64 i.imm, .int .i64 i.siz]
def In.val (i : In) : Value := .agg #[.int .u8 i.op, .bool i.nar, .int .i64 i.dst, .int .i64 i.src, .bool i.use, .int .i64 i.off, .int .i64 i.imm, .int .i64 i.siz]

/-- Its numbers are Go's. -/
structure In.Wf (i : In) : Prop where
  o0 : 0 ≤ i.op
  o1 : i.op ≤ 255
  d0 : -9223372036854775808 ≤ i.dst
  d1 : i.dst ≤ 9223372036854775807
  s0 : -9223372036854775808 ≤ i.src
  s1 : i.src ≤ 9223372036854775807
  f0 : -9223372036854775808 ≤ i.off
  f1 : i.off ≤ 9223372036854775807
  i0 : -9223372036854775808 ≤ i.imm
  i1 : i.imm ≤ 9223372036854775807
  z0 : -9223372036854775808 ≤ i.siz
  z1 : i.siz ≤ 9223372036854775807

def tgt (n : Int) : Bool := decide (0 ≤ n) && decide (n ≤ 9)
def reg (n : Int) : Bool := decide (0 ≤ n) && decide (n ≤ 10)
def fits (n : Int) : Bool := decide (-2147483648 ≤ n) && decide (n ≤ 2147483647)
def far (n : Int) : Bool := decide (-32768 ≤ n) && decide (n ≤ 32767)
def sec (use : Bool) (src imm : Int) : Bool := if use then decide (src = 0) && fits imm else reg src && decide (imm = 0)
def sizd (n : Int) : Bool := decide (n = 1) || decide (n = 2) || decide (n = 4) || decide (n = 8)

/-- P6.1. -/
def ok (i : In) : Bool :=
  if 1 ≤ i.op ∧ i.op ≤ 12 then tgt i.dst && (sec i.use i.src i.imm && (decide (i.off = 0) && decide (i.siz = 0)))
  else if i.op = 13 then tgt i.dst && (decide (i.src = 0) && (!i.use && (decide (i.off = 0) && (decide (i.imm = 0) && decide (i.siz = 0)))))
  else if i.op = 14 then tgt i.dst && (reg i.src && (far i.off && (sizd i.siz && (!i.nar && (!i.use && decide (i.imm = 0))))))
  else if i.op = 15 then reg i.dst && (far i.off && (sizd i.siz && (sec i.use i.src i.imm && !i.nar)))
  else if i.op = 16 then far i.off && (!i.nar && (decide (i.dst = 0) && (decide (i.src = 0) && (!i.use && (decide (i.imm = 0) && decide (i.siz = 0))))))
  else if 17 ≤ i.op ∧ i.op ≤ 27 then reg i.dst && (far i.off && (sec i.use i.src i.imm && decide (i.siz = 0)))
  else if i.op = 28 then !i.nar && (decide (i.dst = 0) && (decide (i.src = 0) && (!i.use && (decide (i.off = 0) && (decide (i.imm = 0) && decide (i.siz = 0))))))
  else false

def jumps (i : In) : Bool := decide (16 ≤ i.op) && decide (i.op ≤ 27)
def cond (i : In) : Bool := decide (17 ≤ i.op) && decide (i.op ≤ 27)

/-! ### bytes -/
def ub (n : Int) : UInt8 := UInt8.ofNat (n % 256).toNat
theorem ub_toNat (n : Int) : ((ub n).toNat : Int) = n % 256 := by
  unfold ub
  rw [UInt8.toNat_ofNat']
  omega
def up (n : Int) : Int := if n = 2 then 1 else if n = 4 then 2 else if n = 8 then 3 else 0
def first (i : In) : Int := i.op + (if i.use then 32 else 0) + (if i.nar then 64 else 0) + 64 * up i.siz
/-- The bytes of an instruction that is right. -/
def bs (i : In) : List UInt8 := [ub (first i), ub (16 * i.dst + i.src), ub (i.off / 256), ub i.off, ub (i.imm / 16777216), ub (i.imm / 65536), ub (i.imm / 256), ub i.imm]
theorem bs_length (i : In) : (bs i).length = 8 := rfl
def s16 (n : Int) : Int := if 32768 ≤ n then n - 65536 else n
def s32 (n : Int) : Int := if 2147483648 ≤ n then n - 4294967296 else n
def isz (n : Int) : Int := if n = 0 then 1 else if n = 1 then 2 else if n = 2 then 4 else 8
/-- The instruction that eight bytes may be. -/
def inN (b0 b1 b2 b3 b4 b5 b6 b7 : Int) : In :=
  { op := b0 % 32, use := decide (b0 / 32 % 2 = 1), dst := b1 / 16, src := b1 % 16, off := s16 (256 * b2 + b3), imm := s32 (16777216 * b4 + 65536 * b5 + 256 * b6 + b7),
    siz := if b0 % 32 = 14 ∨ b0 % 32 = 15 then isz (b0 / 64) else 0, nar := if b0 % 32 = 14 ∨ b0 % 32 = 15 then false else decide (b0 / 64 % 2 = 1) }
def gt (l : List UInt8) (k : Nat) : Int := ((l.getD k 0).toNat : Int)
def inOf (l : List UInt8) : In := inN (gt l 0) (gt l 1) (gt l 2) (gt l 3) (gt l 4) (gt l 5) (gt l 6) (gt l 7)
def one (l : List UInt8) : Bool := ok (inOf l) && decide (bs (inOf l) = l)

theorem gt_0 (a : UInt8) (l : List UInt8) : gt (a :: l) 0 = (a.toNat : Int) := rfl
theorem gt_s (a : UInt8) (l : List UInt8) (k : Nat) : gt (a :: l) (k + 1) = gt l k := rfl

theorem inOf_bs_aux (i : In) : inOf (bs i) = inN (first i % 256) ((16 * i.dst + i.src) % 256) (i.off / 256 % 256) (i.off % 256) (i.imm / 16777216 % 256) (i.imm / 65536 % 256) (i.imm / 256 % 256) (i.imm % 256) := by
  show inN ((ub _).toNat : Int) ((ub _).toNat : Int) ((ub _).toNat : Int) ((ub _).toNat : Int) ((ub _).toNat : Int) ((ub _).toNat : Int) ((ub _).toNat : Int) ((ub _).toNat : Int) = _
  rw [ub_toNat, ub_toNat, ub_toNat, ub_toNat, ub_toNat, ub_toNat, ub_toNat, ub_toNat]

theorem s16_of (n : Int) (h : far n = true) : s16 (256 * (n / 256 % 256) + n % 256) = n := by
  simp [far] at h
  unfold s16
  split <;> omega
theorem s32_of (n : Int) (h : fits n = true) : s32 (16777216 * (n / 16777216 % 256) + 65536 * (n / 65536 % 256) + 256 * (n / 256 % 256) + n % 256) = n := by
  simp [fits] at h
  unfold s32
  split <;> omega

theorem isz_up (n : Int) (h : sizd n = true) : isz (up n) = n ∧ 0 ≤ up n ∧ up n ≤ 3 := by
  simp [sizd] at h
  rcases h with ((rfl | rfl) | rfl) | rfl <;> simp [up, isz]
theorem fits_0 : fits 0 = true := rfl
theorem far_0 : far 0 = true := rfl

/-- What is known of one that is right. -/
theorem ok_facts (i : In) (h : ok i = true) : 0 ≤ i.dst ∧ i.dst ≤ 10 ∧ 0 ≤ i.src ∧ i.src ≤ 10 ∧ far i.off = true ∧ fits i.imm = true ∧ 1 ≤ i.op ∧ i.op ≤ 28 ∧
      ((i.op = 14 ∨ i.op = 15) ∧ i.nar = false ∧ sizd i.siz = true ∨ ¬ (i.op = 14 ∨ i.op = 15) ∧ i.siz = 0) := by
    unfold ok at h
    obtain ⟨op, nar, dst, src, use, off, imm, siz⟩ := i
    have f0 := far_0
    have t0 := fits_0
    simp only at h ⊢
    split at h
    · cases use <;> simp [tgt, sec, reg] at h <;> (obtain ⟨⟨_, _⟩, ⟨_, _⟩, rfl, rfl⟩ := h; simp_all; try omega)
    · split at h
      · simp [tgt] at h; obtain ⟨⟨_, _⟩, rfl, rfl, rfl, rfl, rfl⟩ := h; simp_all; try omega
      · split at h
        · simp [tgt, reg] at h; obtain ⟨⟨_, _⟩, ⟨_, _⟩, _, _, rfl, rfl, rfl⟩ := h; simp_all; try omega
        · split at h
          · cases use <;> simp [reg, sec] at h <;> (obtain ⟨⟨_, _⟩, _, _, ⟨_, _⟩, rfl⟩ := h; simp_all; try omega)
          · split at h
            · simp at h; obtain ⟨_, rfl, rfl, rfl, rfl, rfl, rfl⟩ := h; simp_all
            · split at h
              · cases use <;> simp [reg, sec] at h <;> (obtain ⟨⟨_, _⟩, _, ⟨_, _⟩, rfl⟩ := h; simp_all; try omega)
              · split at h
                · simp at h; obtain ⟨rfl, rfl, rfl, rfl, rfl, rfl, rfl⟩ := h; simp_all
                · cases h
/-- What is put is got. -/
theorem inOf_bs (i : In) (h : ok i = true) : inOf (bs i) = i := by
  have h2 := ok_facts i h
  obtain ⟨d0, d1, s0, s1, hf, hi, o0, o1, hz⟩ := h2
  have hoff := s16_of _ hf
  have himm := s32_of _ hi
  rw [inOf_bs_aux]
  obtain ⟨op, nar, dst, src, use, off, imm, siz⟩ := i
  simp only at *
  unfold inN first
  rcases hz with ⟨ho, rfl, hz⟩ | ⟨ho, rfl⟩
  · obtain ⟨hz1, hz2, hz3⟩ := isz_up _ hz
    have e1 : (op + (if use = true then 32 else 0) + (if false = true then 64 else 0) + 64 * up siz) % 256 / 64 = up siz := by cases use <;> simp <;> omega
    have e2 : (op + (if use = true then 32 else 0) + (if false = true then 64 else 0) + 64 * up siz) % 256 % 32 = op := by cases use <;> simp <;> omega
    have e3 : (op + (if use = true then 32 else 0) + (if false = true then 64 else 0) + 64 * up siz) % 256 / 32 % 2 = if use then 1 else 0 := by cases use <;> simp <;> omega
    refine In.ext' ?_ ?_ ?_ ?_ ?_ hoff himm ?_
    · exact e2
    · simp only [e2]; rw [if_pos ho]
    · show (16 * dst + src) % 256 / 16 = dst; omega
    · show (16 * dst + src) % 256 % 16 = src; omega
    · simp only [e3]; cases use <;> rfl
    · simp only [e2, e1]; rw [if_pos ho]; exact hz1
  · have eu : up 0 = 0 := rfl
    have e1 : (op + (if use = true then 32 else 0) + (if nar = true then 64 else 0) + 64 * up 0) % 256 / 64 % 2 = if nar then 1 else 0 := by cases use <;> cases nar <;> simp [eu] <;> omega
    have e2 : (op + (if use = true then 32 else 0) + (if nar = true then 64 else 0) + 64 * up 0) % 256 % 32 = op := by cases use <;> cases nar <;> simp [eu] <;> omega
    have e3 : (op + (if use = true then 32 else 0) + (if nar = true then 64 else 0) + 64 * up 0) % 256 / 32 % 2 = if use then 1 else 0 := by cases use <;> cases nar <;> simp [eu] <;> omega
    refine In.ext' ?_ ?_ ?_ ?_ ?_ hoff himm ?_
    · exact e2
    · simp only [e2, e1]; rw [if_neg ho]; cases nar <;> rfl
    · show (16 * dst + src) % 256 / 16 = dst; omega
    · show (16 * dst + src) % 256 % 16 = src; omega
    · simp only [e3]; cases use <;> rfl
    · simp only [e2]; rw [if_neg ho]

theorem one_bs (i : In) (h : ok i = true) : one (bs i) = true := by
  unfold one
  rw [inOf_bs i h, h]
  simp

/-! ### what may come behind -/
def nx (l : List In) (k : Int) : List Int :=
  if 0 ≤ k ∧ k < l.length then
    match l[k.toNat]? with
    | none => []
    | some i => if ok i then (if i.op = 28 then [] else if i.op = 16 then [k + 1 + i.off] else if cond i = true ∧ i.off < 0 then [k + 1 + i.off, k + 1] else if cond i = true ∧ 0 < i.off then [k + 1, k + 1 + i.off] else [k + 1]) else []
  else []

end Go.Proofs.Ytlchimbaclenaaa.ins
