/-
  Filters as lines, as mathematics: tokens, the language's lines, whole texts.
-/
import Derived.Test.YtddojdgnakajmaaGreatDoorInA
import Derived.Test.YtddojdgnakajmaaGreatDoorKit
import Derived.WalkLawsBesides
import Derived.Laws.IdiomStrings
import Derived.Lib.SliceRun
import Derived.Lib.Bytealg
import Derived.Test.YtddojdgnakajmaaGreatDoorShelf
namespace Go.Proofs.YtddojdgnakajmaaGreatDoor.txt
open Go.Proofs.YtddojdgnakajmaaGreatDoor.ins
set_option linter.unusedVariables false

abbrev Bs := List UInt8
def ltr (c : UInt8) : Bool := decide (97 ≤ c.toNat) && decide (c.toNat ≤ 122)
def dig (c : UInt8) : Bool := decide (48 ≤ c.toNat) && decide (c.toNat ≤ 57)
def wby (c : UInt8) : Bool := ltr c || dig c || decide (c.toNat = 95)
def blk (c : UInt8) : Bool := decide (c.toNat = 9) || decide (c.toNat = 13) || decide (c.toNat = 32)
def sgn (c : UInt8) : Bool := decide (c.toNat = 44) || decide (c.toNat = 91) || decide (c.toNat = 93) || decide (c.toNat = 43) || decide (c.toNat = 45) || decide (c.toNat = 58)

/-! ### tokens -/
/-- What stands ahead of a #. -/
def ahead (l : Bs) : Bs := l.takeWhile fun c => decide (c ≠ 35)
/-- Tokens of what holds no #; none: something is no token. -/
def tk : Nat → Bs → Option (List Bs)
  | 0, _ => some []
  | f + 1, l => match l.dropWhile blk with
    | [] => some []
    | c :: r => if wby c then (tk f ((c :: r).dropWhile wby)).map ((c :: r).takeWhile wby :: ·) else if sgn c then (tk f r).map ([c] :: ·) else none
def toks (l : Bs) : Option (List Bs) := tk ((ahead l).length + 1) (ahead l)

theorem drop_len (p : UInt8 → Bool) : ∀ (l : Bs), (l.dropWhile p).length ≤ l.length
  | [] => Nat.le_refl _
  | c :: r => by
    have := drop_len p r
    rw [List.dropWhile_cons]
    split
    · simp; omega
    · simp
theorem drop_lt {c : UInt8} {r : Bs} (p : UInt8 → Bool) (h : p c = true) : ((c :: r).dropWhile p).length < (c :: r).length := by
  rw [List.dropWhile_cons, if_pos h]
  have := drop_len p r
  simp
  omega
/-- How much fuel there is plays no part. -/
theorem tk_fuel : ∀ (f g : Nat) (l : Bs), l.length < f → l.length < g → tk f l = tk g l
  | 0, _, l, h, _ => by omega
  | _, 0, l, _, h => by omega
  | f + 1, g + 1, l, hf, hg => by
    unfold tk
    have hd := drop_len blk l
    cases h : l.dropWhile blk with
    | nil => rfl
    | cons c r =>
      rw [h] at hd
      simp only [List.length_cons] at hd
      simp only
      split
      · rename_i hw
        have := drop_lt (r := r) wby hw
        simp only [List.length_cons] at this
        rw [tk_fuel f g _ (by omega) (by omega)]
      · split
        · rw [tk_fuel f g r (by omega) (by omega)]
        · rfl
/-- The tokens of what holds no #. -/
def tks (l : Bs) : Option (List Bs) := tk (l.length + 1) l
theorem tks_nil {l : Bs} (h : l.dropWhile blk = []) : tks l = some [] := by
  unfold tks tk
  rw [h]
theorem tks_word {l : Bs} {c : UInt8} {r : Bs} (h : l.dropWhile blk = c :: r) (hw : wby c = true) : tks l = (tks ((c :: r).dropWhile wby)).map ((c :: r).takeWhile wby :: ·) := by
  have hd := drop_len blk l
  rw [h] at hd
  have h2 := drop_lt (r := r) wby hw
  unfold tks
  conv => lhs; unfold tk
  rw [h]
  simp only [hw, if_true]
  rw [tk_fuel l.length _ _ (by omega) (Nat.lt_succ_self _)]
theorem tks_sign {l : Bs} {c : UInt8} {r : Bs} (h : l.dropWhile blk = c :: r) (hw : wby c = false) (hs : sgn c = true) : tks l = (tks r).map ([c] :: ·) := by
  have hd := drop_len blk l
  rw [h] at hd
  simp only [List.length_cons] at hd
  unfold tks
  conv => lhs; unfold tk
  rw [h]
  simp only [hw, hs, if_true, Bool.false_eq_true, if_false]
  rw [tk_fuel l.length _ _ (by omega) (Nat.lt_succ_self _)]
theorem tks_bad {l : Bs} {c : UInt8} {r : Bs} (h : l.dropWhile blk = c :: r) (hw : wby c = false) (hs : sgn c = false) : tks l = none := by
  unfold tks tk
  rw [h]
  simp only [hw, hs, Bool.false_eq_true, if_false]
theorem toks_eq (l : Bs) : toks l = tks (ahead l) := rfl

/-! ### words of the language -/
/-- The Ops' words. -/
def nameB : Nat → Bs
  | 1 => [97, 100, 100] | 2 => [115, 117, 98] | 3 => [109, 117, 108] | 4 => [100, 105, 118] | 5 => [109, 111, 100] | 6 => [97, 110, 100] | 7 => [111, 114] | 8 => [120, 111, 114] | 9 => [115, 104, 108] | 10 => [115, 104, 114]
  | 11 => [115, 97, 114] | 12 => [109, 111, 118] | 13 => [110, 101, 103] | 14 => [108, 111, 97, 100] | 15 => [112, 117, 116] | 16 => [106, 117, 109, 112] | 17 => [106, 101, 113] | 18 => [106, 110, 101] | 19 => [106, 103, 116]
  | 20 => [106, 103, 101] | 21 => [106, 108, 116] | 22 => [106, 108, 101] | 23 => [106, 115, 103, 116] | 24 => [106, 115, 103, 101] | 25 => [106, 115, 108, 116] | 26 => [106, 115, 108, 101] | 27 => [106, 115, 101, 116] | 28 => [101, 120, 105, 116]
  | _ => []
/-- The word of an instruction that says nothing but Op, Narrow and Size. -/
def wordB (o : Nat) (n : Bool) (z : Nat) : Bs := nameB o ++ (if n then [51, 50] else []) ++ (if z = 0 then [] else [UInt8.ofNat (48 + z)])
/-- A word: its Op, whether it is narrow, its Size, and the kind of its line. -/
structure Wd where
  o : Nat
  n : Bool
  z : Nat
  k : Nat
deriving DecidableEq
def Wd.key (x : Wd) : Bs := wordB x.o x.n x.z
def Wd.ins (x : Wd) : In := ⟨(x.o : Int), x.n, 0, 0, false, 0, 0, (x.z : Int)⟩
def bothW (o k : Nat) : List Wd := [⟨o, false, 0, k⟩, ⟨o, true, 0, k⟩]
/-- All words, in the order in which they are put. -/
def wl : List Wd :=
  bothW 1 0 ++ bothW 2 0 ++ bothW 3 0 ++ bothW 4 0 ++ bothW 5 0 ++ bothW 6 0 ++ bothW 7 0 ++ bothW 8 0 ++ bothW 9 0 ++ bothW 10 0 ++ bothW 11 0 ++ bothW 12 0 ++ bothW 13 1 ++
  [⟨14, false, 1, 2⟩, ⟨15, false, 1, 3⟩, ⟨14, false, 2, 2⟩, ⟨15, false, 2, 3⟩, ⟨14, false, 4, 2⟩, ⟨15, false, 4, 3⟩, ⟨14, false, 8, 2⟩, ⟨15, false, 8, 3⟩] ++ [⟨16, false, 0, 4⟩] ++
  bothW 17 5 ++ bothW 18 5 ++ bothW 19 5 ++ bothW 20 5 ++ bothW 21 5 ++ bothW 22 5 ++ bothW 23 5 ++ bothW 24 5 ++ bothW 25 5 ++ bothW 26 5 ++ bothW 27 5 ++ [⟨28, false, 0, 6⟩]
theorem wl_length : wl.length = 58 := rfl
def findW (k : Bs) : List Wd → Option Wd
  | [] => none
  | x :: l => if k = x.key then some x else findW k l
theorem wl_new : ∀ k : Fin 58, findW (wl[k.val]'(by rw [wl_length]; exact k.isLt)).key (wl.take k.val) = none := by decide +kernel

/-! ### the parts of a line -/
def valOf : Bs → Nat := fun l => l.foldl (fun n c => 10 * n + (c.toNat - 48)) 0
/-- A number. -/
def numOf (t : Bs) : Option Int := if 1 ≤ t.length ∧ t.length ≤ 10 ∧ (t = [48] ∨ t.head? ≠ some 48) ∧ t.all dig = true then some (valOf t : Int) else none
def hasR (t : Bs) : Bool := decide (t.head? = some 114)
/-- A register. -/
def regOf (t : Bs) : Option Int := if hasR t then (numOf t.tail).bind fun n => if n < 11 then some n else none else none
/-- Is it a label? (Of a token.) -/
def isLab (t : Bs) : Bool := decide (t.length ≤ 30) && (match t with | [] => false | c :: _ => ltr c)
def hd (L : List Bs) : Bs := L.headD []
def pOne (c : UInt8) : List Bs → Option (List Bs)
  | t :: r => if t = [c] then some r else none
  | [] => none
def pReg : List Bs → Option (Int × List Bs)
  | t :: r => (regOf t).map (·, r)
  | [] => none
def pNum : List Bs → Option (Int × List Bs)
  | t :: r => (numOf t).map (·, r)
  | [] => none
def pSgn : List Bs → Option (Int × List Bs)
  | t :: r => if t = [43] then pNum r else if t = [45] then (pNum r).map fun p => (-p.1, p.2) else none
  | [] => none
def pSec (i : In) (L : List Bs) : Option (In × List Bs) :=
  if hasR (hd L) then (pReg L).map fun p => ({ i with src := p.1 }, p.2)
  else if hd L = [45] then (pSgn L).map fun p => ({ i with use := true, imm := p.1 }, p.2)
  else (pNum L).map fun p => ({ i with use := true, imm := p.1 }, p.2)
def pCell (L : List Bs) : Option (Int × Int × List Bs) := (pOne 91 L).bind fun a => (pReg a).bind fun b => (pSgn b.2).bind fun c => (pOne 93 c.2).map fun d => (b.1, c.1, d)
def pTo (i : In) (L : List Bs) : Option (In × Bs × List Bs) :=
  if hd L = [43] ∨ hd L = [45] then (pSgn L).map fun p => ({ i with off := p.1 }, [], p.2)
  else match L with
    | t :: r => if isLab t then some (i, t, r) else none
    | [] => none
/-- What stands behind a word, by the kind of its line. -/
def pRest (k : Nat) (i : In) (L : List Bs) : Option (In × Bs × List Bs) :=
  match k with
  | 0 => (pReg L).bind fun a => (pOne 44 a.2).bind fun b => (pSec { i with dst := a.1 } b).map fun c => (c.1, [], c.2)
  | 1 => (pReg L).map fun a => ({ i with dst := a.1 }, [], a.2)
  | 2 => (pReg L).bind fun a => (pOne 44 a.2).bind fun b => (pCell b).map fun c => ({ i with dst := a.1, src := c.1, off := c.2.1 }, [], c.2.2)
  | 3 => (pCell L).bind fun c => (pOne 44 c.2.2).bind fun b => (pSec { i with dst := c.1, off := c.2.1 } b).map fun d => (d.1, [], d.2)
  | 4 => pTo i L
  | 5 => (pReg L).bind fun a => (pOne 44 a.2).bind fun b => (pSec { i with dst := a.1 } b).bind fun c => (pOne 44 c.2).bind fun d => pTo c.1 d
  | _ => some (i, [], L)
/-- An instruction that begins with that word; it is right. -/
def pIns (w : Bs) (L : List Bs) : Option (In × Bs × List Bs) :=
  (findW w wl).bind fun x => (pRest x.k x.ins L).bind fun r => if ok r.1 then some r else none
/-- What a line says: a label, or an instruction, and where it goes. -/
inductive Sd where
  | none : Sd
  | lab : Bs → Sd
  | ins : In → Bs → Sd
/-- What the tokens of a line say. -/
def sent : List Bs → Option Sd
  | [] => some .none
  | w :: r => if hd r = [58] then (if isLab w ∧ r.tail = [] then some (.lab w) else Option.none) else (pIns w r).bind fun p => if p.2.2 = [] then some (.ins p.1 p.2.1) else Option.none
def lineB (l : Bs) : Option Sd := (toks l).bind sent
end Go.Proofs.YtddojdgnakajmaaGreatDoor.txt

namespace Go.Proofs.YtddojdgnakajmaaGreatDoor.txt
open Go.RowKit Go.Proofs.YtddojdgnakajmaaGreatDoor.mem Go.Proofs.YtddojdgnakajmaaGreatDoor.kit
set_option linter.unusedVariables false
set_option linter.unusedSimpArgs false

abbrev sv (l : Bs) : Value := .string ⟨l.toArray⟩
/-- What the package's error variable holds: an error. -/
def ErrT (w : World) (T : TypeId) (q : Addr) : Prop := w.cell? ⟨5, 0, none⟩ = some (.iface T (.pointer (some q)))
theorem ErrT.ch {w w' : World} {T : TypeId} {q : Addr} {S : Nat → Prop} (h : ErrT w T q) (hc : Ch S w w') (hn : ¬ S 5) : ErrT w' T q := hc.cellOf h hn
theorem ErrT.new {w w' : World} {T : TypeId} {q : Addr} (h : ErrT w T q) (hn : New w w') : ErrT w' T q := h.ch (Ch.of_new (S := fun _ => False) hn) id
abbrev thrown (T : TypeId) (q : Addr) : Ending := .panicked [{ v := .iface T (.pointer (some q)), recovered := false }]

theorem must_yes (w : World) : Calls Tryz.prog 164 #[.bool true] w fun e w' => e = .returned (.tuple #[]) ∧ w = w' := by
  go_enter Tryz.func164, Tryz.ntmps164
  go_wp2
  go_end0
  exact ⟨rfl, rfl⟩
theorem must_no (T : TypeId) (q : Addr) (w : World) (hE : ErrT w T q) : Calls Tryz.prog 164 #[.bool false] w fun e w' => e = thrown T q ∧ w = w' := by
  have h : w.cell? ⟨5, 0, none⟩ = some (.iface T (.pointer (some q))) := hE
  go_enter Tryz.func164, Tryz.ntmps164
  go_wp2
  exact ⟨rfl, rfl, rfl⟩

theorem ret_bool {a b : Bool} (h : a = b) : Ending.returned (.bool a) = .returned (.bool b) := by rw [h]
theorem isLetter_any (c : UInt8) (w : World) : Calls Tryz.prog 169 #[.int .u8 (c.toNat : Int)] w fun e w' => e = .returned (.bool (ltr c)) ∧ w = w' := by
  by_cases h0 : 97 ≤ c.toNat
  · by_cases h1 : c.toNat ≤ 122
    · have H : Hid (ltr c = true) := Lib.hid (by simp [ltr, h0, h1])
      have t0 : (97 : Int) ≤ (c.toNat : Int) := by omega
      have t1 : (c.toNat : Int) ≤ 122 := by omega
      go_enter Tryz.func169, Tryz.ntmps169
      go_wp2
      go_ret
      exact ⟨ret_bool H.out.symm, rfl⟩
    · have H : Hid (ltr c = false) := Lib.hid (by simp [ltr, h0, h1])
      have t0 : (97 : Int) ≤ (c.toNat : Int) := by omega
      have t1 : ¬ (c.toNat : Int) ≤ 122 := by omega
      go_enter Tryz.func169, Tryz.ntmps169
      go_wp2
      go_ret
      exact ⟨ret_bool H.out.symm, rfl⟩
  · have H : Hid (ltr c = false) := Lib.hid (by simp [ltr, h0])
    have t0 : ¬ (97 : Int) ≤ (c.toNat : Int) := by omega
    go_enter Tryz.func169, Tryz.ntmps169
    go_wp2
    go_ret
    exact ⟨ret_bool H.out.symm, rfl⟩
theorem isDigit_any (c : UInt8) (w : World) : Calls Tryz.prog 194 #[.int .u8 (c.toNat : Int)] w fun e w' => e = .returned (.bool (dig c)) ∧ w = w' := by
  by_cases h0 : 48 ≤ c.toNat
  · by_cases h1 : c.toNat ≤ 57
    · have H : Hid (dig c = true) := Lib.hid (by simp [dig, h0, h1])
      have t0 : (48 : Int) ≤ (c.toNat : Int) := by omega
      have t1 : (c.toNat : Int) ≤ 57 := by omega
      go_enter Tryz.func194, Tryz.ntmps194
      go_wp2
      go_ret
      exact ⟨ret_bool H.out.symm, rfl⟩
    · have H : Hid (dig c = false) := Lib.hid (by simp [dig, h0, h1])
      have t0 : (48 : Int) ≤ (c.toNat : Int) := by omega
      have t1 : ¬ (c.toNat : Int) ≤ 57 := by omega
      go_enter Tryz.func194, Tryz.ntmps194
      go_wp2
      go_ret
      exact ⟨ret_bool H.out.symm, rfl⟩
  · have H : Hid (dig c = false) := Lib.hid (by simp [dig, h0])
    have t0 : ¬ (48 : Int) ≤ (c.toNat : Int) := by omega
    go_enter Tryz.func194, Tryz.ntmps194
    go_wp2
    go_ret
    exact ⟨ret_bool H.out.symm, rfl⟩
theorem isWordByte_any (c : UInt8) (w : World) : Calls Tryz.prog 201 #[.int .u8 (c.toNat : Int)] w fun e w' => e = .returned (.bool (wby c)) ∧ w = w' := by
  have hq : ((c.toNat : Int) == 95) = decide (c.toNat = 95) := by rw [Bool.eq_iff_iff]; simp; omega
  have HQ := Lib.hid hq
  obtain ⟨a, ha⟩ : ∃ a, ltr c = a := ⟨_, rfl⟩
  obtain ⟨b, hb⟩ : ∃ b, dig c = b := ⟨_, rfl⟩
  have H : Hid (wby c = (a || b || ((c.toNat : Int) == 95))) := Lib.hid (by unfold wby; rw [ha, hb, hq])
  have HA := Lib.hid ha
  have HB := Lib.hid hb
  clear hq ha hb
  cases a <;> cases b
  all_goals
    go_enter Tryz.func201, Tryz.ntmps201
    go_wp2_with (first
      | (go_at_call 169; refine (isLetter_any _ _).mono ?_; rintro e w1 ⟨rfl, rfl⟩; rw [HA.out])
      | (go_at_call 194; refine (isDigit_any _ _).mono ?_; rintro e w1 ⟨rfl, rfl⟩; rw [HB.out]))
    go_ret
    exact ⟨ret_bool (by rw [H.out]; simp), rfl⟩

theorem tw_at (p : UInt8 → Bool) : ∀ (l : Bs) (k : Nat), k ≤ (l.takeWhile p).length → (h : k < l.length) → (k < (l.takeWhile p).length ↔ p l[k] = true)
  | [], k, _, h => by simp at h
  | c :: r, 0, _, _ => by
    rw [List.takeWhile_cons]
    by_cases hp : p c = true
    · simp [hp]
    · simp [hp]
  | c :: r, k + 1, hk, h => by
    rw [List.takeWhile_cons] at hk ⊢
    by_cases hp : p c = true
    · rw [if_pos hp] at hk ⊢
      simp only [List.length_cons] at hk ⊢
      have := tw_at p r k (by omega) (by simpa using h)
      simpa using this
    · rw [if_neg hp] at hk
      simp at hk
theorem tw_le (p : UInt8 → Bool) : ∀ (l : Bs), (l.takeWhile p).length ≤ l.length
  | [] => Nat.le_refl _
  | c :: r => by
    rw [List.takeWhile_cons]
    have := tw_le p r
    split
    · simp; omega
    · simp
theorem sgn_at : ∀ c : Fin 256, sgn (UInt8.ofNat c.val) = decide (0 ≤ Lib.indexByte [44, 91, 93, 43, 45, 58] (UInt8.ofNat c.val)) := by decide +kernel
theorem sgn_eq (c : UInt8) : sgn c = decide (0 ≤ Lib.indexByte [44, 91, 93, 43, 45, 58] c) := by
  have h := sgn_at ⟨c.toNat, c.toNat_lt⟩
  simpa using h

end Go.Proofs.YtddojdgnakajmaaGreatDoor.txt

namespace Go.Proofs.YtddojdgnakajmaaGreatDoor.txt
open Go.RowKit Go.Proofs.YtddojdgnakajmaaGreatDoor.mem Go.Proofs.YtddojdgnakajmaaGreatDoor.kit
set_option linter.unusedVariables false
set_option linter.unusedSimpArgs false

/-- How many bytes the token has that a text begins with. -/
def tsz (l : Bs) : Nat := if 0 < (l.takeWhile wby).length then (l.takeWhile wby).length else 1

theorem ix_any (c : UInt8) (w : World) : Calls Tryz.prog 202 #[.string ⟨#[44, 91, 93, 43, 45, 58]⟩, .int .u8 (c.toNat : Int)] w fun e w' => e = .returned (.int .i64 (Lib.indexByte [44, 91, 93, 43, 45, 58] c)) ∧ w = w' :=
  (Tryz.strings_IndexByte _ _ w).mono (by rintro e w' ⟨h, hw⟩; exact ⟨by simpa using h, hw.symm⟩)

set_option maxRecDepth 100000 in
theorem tokenSize_ok (l : Bs) (w : World) (hl : l.length ≤ 1099511627776) (hpos : 0 < l.length) (h : wby l[0] = true ∨ sgn l[0] = true) :
    Calls Tryz.prog 172 #[.string ⟨l.toArray⟩] w fun e w' => e = .returned (.int .i64 ((tsz l : Nat) : Int)) ∧ w = w' := by
  obtain ⟨m, hm⟩ : ∃ m, (l.takeWhile wby).length = m := ⟨_, rfl⟩
  have hml : m ≤ l.length := by rw [← hm]; exact tw_le _ _
  have HM := Lib.hid hm
  have HH := Lib.hid h
  clear hm h
  go_enter Tryz.func172, Tryz.ntmps172
  go_wp2
  go_loop [3] (fun i => ∃ k : Nat, k ≤ m ∧ i = .int .i64 k) (fun i => m + 1 - (intOf i).toNat)
  case atStart => exact ⟨0, Nat.zero_le _, rfl⟩
  case round =>
    obtain ⟨k, hk, rfl⟩ := hrel
    by_cases hlt : k < l.length
    · have hw := tw_at wby l k (by rw [HM.out]; exact hk) hlt
      rw [HM.out] at hw
      have hd : decide ((k : Int) < (l.length : Int)) = true := by simp; omega
      by_cases hkm : k < m
      · have hb : wby l[k] = true := hw.1 hkm
        have HB := Lib.hid hb
        clear hw hb
        go_wp2_with (go_at_call 201; refine (isWordByte_any l[k] _).mono ?_; rintro e w1 ⟨rfl, rfl⟩; rw [HB.out])
        go_round
        case rel => exact ⟨k + 1, by omega, by go_num⟩
        case measure => simp [intOf]; omega
      · have hb : wby l[k] = false := by
          cases hq : wby l[k] with
          | false => rfl
          | true => exact absurd (hw.2 hq) hkm
        obtain rfl : k = m := by omega
        have HB := Lib.hid hb
        clear hw hb
        by_cases h0 : 0 < k
        · have hz : Hid (tsz l = k) := Lib.hid (by unfold tsz; rw [HM.out, if_pos h0])
          go_wp2_with (go_at_call 201; refine (isWordByte_any l[k] _).mono ?_; rintro e w1 ⟨rfl, rfl⟩; rw [HB.out])
          go_ret
          rw [hz.out]
          exact ⟨rfl, rfl⟩
        · obtain rfl : k = 0 := by omega
          have hz : Hid (tsz l = 1) := Lib.hid (by unfold tsz; rw [HM.out, if_neg (by omega)])
          have hs : sgn l[0] = true := by
            rcases HH.out with h | h
            · rw [HB.out] at h; cases h
            · exact h
          rw [sgn_eq, decide_eq_true_eq] at hs
          obtain ⟨X, hX⟩ : ∃ X, Lib.indexByte [44, 91, 93, 43, 45, 58] l[0] = X := ⟨_, rfl⟩
          rw [hX] at hs
          have HX := Lib.hid hX
          clear hX
          go_wp2_with (first
            | (go_at_call 201; refine (isWordByte_any l[0] _).mono ?_; rintro e w1 ⟨rfl, rfl⟩; rw [HB.out])
            | (go_at_call 202; refine (ix_any l[0] _).mono ?_; rintro e w1 ⟨rfl, rfl⟩; rw [HX.out])
            | (go_at_call 164; refine (must_yes _).mono ?_; rintro e w1 ⟨rfl, rfl⟩))
          go_ret
          rw [hz.out]
          exact ⟨rfl, rfl⟩
    · have hd : decide ((k : Int) < (l.length : Int)) = false := by simp; omega
      have h0 : 0 < k := by omega
      have hz : Hid (tsz l = k) := Lib.hid (by unfold tsz; rw [HM.out, if_pos (by omega)]; omega)
      go_wp2
      go_ret
      rw [hz.out]
      exact ⟨rfl, rfl⟩

set_option maxRecDepth 100000 in
theorem tokenSize_no (T : TypeId) (q : Addr) (l : Bs) (w : World) (hl : l.length ≤ 1099511627776) (hpos : 0 < l.length) (h1 : wby l[0] = false) (h2 : sgn l[0] = false) (hE : ErrT w T q) :
    Calls Tryz.prog 172 #[.string ⟨l.toArray⟩] w fun e w' => e = thrown T q ∧ w = w' := by
  have HB := Lib.hid h1
  rw [sgn_eq, decide_eq_false_iff_not] at h2
  obtain ⟨X, hX⟩ : ∃ X, Lib.indexByte [44, 91, 93, 43, 45, 58] l[0] = X := ⟨_, rfl⟩
  rw [hX] at h2
  have HX := Lib.hid hX
  have HE := Lib.hid hE
  clear hX h1 hE
  have hdx : decide ((0 : Int) ≤ X) = false := by simpa using h2
  have hd : decide ((0 : Int) < (l.length : Int)) = true := by simp; omega
  go_enter Tryz.func172, Tryz.ntmps172
  go_wp2
  refine wp_loop_rounds 1 ?_
  rw [rounds_succ]
  go_wp2_with (first
    | (go_at_call 201; refine (isWordByte_any l[0] _).mono ?_; rintro e w1 ⟨rfl, rfl⟩; rw [HB.out])
    | (go_at_call 202; refine (ix_any l[0] _).mono ?_; rintro e w1 ⟨rfl, rfl⟩; rw [HX.out])
    | (go_at_call 164; refine (must_no T q _ HE.out).mono ?_; rintro e w1 ⟨rfl, rfl⟩))
  exact ⟨rfl, rfl, rfl⟩

/-! ### numbers -/
theorem val_snoc (l : Bs) (c : UInt8) : valOf (l ++ [c]) = 10 * valOf l + (c.toNat - 48) := by simp [valOf]
theorem val_lt : ∀ (k : Nat) (l : Bs), l.length = k → l.all dig = true → valOf l < 10 ^ k
  | 0, l, h, _ => by
    have : l = [] := List.eq_nil_of_length_eq_zero h
    subst this
    decide
  | k + 1, l, h, ha => by
    have hne : l ≠ [] := by rintro rfl; simp at h
    have e := List.dropLast_concat_getLast hne
    rw [← e, List.all_append, Bool.and_eq_true] at ha
    have hl : l.dropLast.length = k := by rw [List.length_dropLast]; omega
    have ih := val_lt k l.dropLast hl ha.1
    have hc : dig (l.getLast hne) = true := by simpa using ha.2
    rw [← e, val_snoc]
    unfold dig at hc
    simp at hc
    rw [Nat.pow_succ]
    omega
/-- The digits' own part of a number's being one. -/
theorem num_yes {l : Bs} {n : Int} (h : numOf l = some n) : 1 ≤ l.length ∧ l.length ≤ 10 ∧ (l = [48] ∨ l.head? ≠ some 48) ∧ l.all dig = true ∧ n = (valOf l : Int) := by
  unfold numOf at h
  split at h
  · rename_i hh
    injection h with h
    exact ⟨hh.1, hh.2.1, hh.2.2.1, hh.2.2.2, h.symm⟩
  · cases h
theorem take_all {l : Bs} {k : Nat} (h : k < l.length) (ha : (l.take k).all dig = true) (hc : dig l[k] = true) : (l.take (k + 1)).all dig = true := by
  rw [← List.take_append_getElem h, List.all_append, ha]
  simp [hc]
theorem val_take {l : Bs} {k : Nat} (h : k < l.length) : valOf (l.take (k + 1)) = 10 * valOf (l.take k) + (l[k].toNat - 48) := by
  rw [← List.take_append_getElem h, val_snoc]
theorem val_small {l : Bs} {k : Nat} (hk : k ≤ l.length) (h10 : l.length ≤ 10) (ha : (l.take k).all dig = true) : valOf (l.take k) ≤ 9999999999 := by
  have h := val_lt k (l.take k) (by rw [List.length_take]; omega) ha
  have h2 : 10 ^ k ≤ 10 ^ 10 := Nat.pow_le_pow_right (by omega) (by omega)
  have h3 : (10 : Nat) ^ 10 = 10000000000 := by decide
  omega
end Go.Proofs.YtddojdgnakajmaaGreatDoor.txt

namespace Go.Proofs.YtddojdgnakajmaaGreatDoor.txt
open Go.RowKit Go.Proofs.YtddojdgnakajmaaGreatDoor.mem Go.Proofs.YtddojdgnakajmaaGreatDoor.kit
set_option linter.unusedVariables false
set_option linter.unusedSimpArgs false

/-- A string's bytes as a new row. -/
theorem conv_str (l : Bs) (w : World) (hl : l.length ≤ 1099511627776) : ∃ c W, (convert 9 37 (.string ⟨l.toArray⟩)).run Tryz.prog w = .ok (.slice (some ⟨w.heap.size, 0, none⟩) l.length c) W ∧ New w W ∧ w.heap.size < W.heap.size ∧ (∀ k (h : k < l.length), W.cell? ⟨w.heap.size, k, none⟩ = some (.int .u8 (l[k].toNat : Int))) := by
  have h := run_bytes_of_string (P := Tryz.prog) w 9 37 5 ⟨l.toArray⟩ Tryz.underlying9 Tryz.underlying37 Tryz.underlying5
  refine ⟨_, _, h, (Below.drew (new_refl w)).alloc (Nat.le_refl _) _, by simp, fun k hk => ?_⟩
  rw [cell_of_row _ w.heap.size k _ _ _ (heap_alloc_new w.drew _)]
  simp only [bytesRow]
  rw [Array.getElem?_append_left (by simpa using hk)]
  simp [hk]

/-- A number that may be. -/
def NumOk (w : World) (n : Int) (e : Ending) (w' : World) : Prop := e = .returned (.int .i64 n) ∧ New w w'
def Fell (w : World) (T : TypeId) (q : Addr) (e : Ending) (w' : World) : Prop := e = thrown T q ∧ New w w'

/-- What the second test says. -/
theorem head48 {l : Bs} (h0 : 0 < l.length) (h : l = [48] ∨ l.head? ≠ some 48) : (l == [48]) = true ∨ (l == [48]) = false ∧ ((((⟨l.toArray⟩ : ByteArray)[0]'(by show 0 < l.toArray.size; simpa using h0)).toNat : Int) != 48) = true := by
  rcases h with h | h
  · left; simp [h]
  · by_cases hb : (l == [48]) = true
    · left; exact hb
    · right
      refine ⟨by simpa using hb, ?_⟩
      rw [List.head?_eq_getElem?, List.getElem?_eq_getElem (by omega)] at h
      simp only [Ne, Option.some.injEq] at h
      have : l[0].toNat ≠ 48 := fun e => h (by apply UInt8.toNat_inj.1; rw [e]; rfl)
      show ((l[0].toNat : Int) != 48) = true
      simp
      omega

set_option maxRecDepth 100000 in
theorem numberOf_ok (l : Bs) (n : Int) (w : World) (h : numOf l = some n) :
    Calls Tryz.prog 165 #[.string ⟨l.toArray⟩] w (NumOk w n) := by
  obtain ⟨h1, h10, h48, hall, hn⟩ := num_yes h
  obtain ⟨c, W, hcv, hN, hsz, hcell⟩ := conv_str l w (by omega)
  have HALL := Lib.hid hall
  have HN := Lib.hid hn
  have HNW := Lib.hid hN
  have HC := Lib.hid hcell
  have t0 : decide ((0 : Int) < (l.length : Int)) = true := by simp; omega
  have t1 : decide ((l.length : Int) ≤ 10) = true := by simp; omega
  clear h hall hn hN hcell
  have h48' := head48 (by omega) h48
  clear h48
  rcases h48' with hb | ⟨hb, hb2⟩
  all_goals
    go_enter Tryz.func165, Tryz.ntmps165
    go_wp2_with (go_at_call 164; refine (must_yes _).mono ?_; rintro e w1 ⟨rfl, rfl⟩)
    go_loop [3, 26] (fun s i => ∃ k : Nat, k ≤ l.length ∧ i = .int .i64 k ∧ s = .int .i64 ((valOf (l.take k) : Nat) : Int)) (fun _ i => l.length - (intOf i).toNat)
    case atStart => exact ⟨0, Nat.zero_le _, rfl, rfl⟩
    case round =>
      obtain ⟨k, hk, rfl, rfl⟩ := hrel
      have hp : (l.take k).all dig = true := by
        rw [List.all_eq_true]
        exact fun x hx => List.all_eq_true.1 HALL.out x (List.mem_of_mem_take hx)
      have hv := val_small hk h10 hp
      by_cases hlt : k < l.length
      · have hd : dig l[k] = true := List.all_eq_true.1 HALL.out _ (List.getElem_mem hlt)
        have hs := val_take (l := l) hlt
        have hc := HC.out k hlt
        have h48 : 48 ≤ l[k].toNat ∧ l[k].toNat ≤ 57 := by simpa [dig] using hd
        have hs2 : ((valOf (l.take (k + 1)) : Nat) : Int) = 10 * ((valOf (l.take k) : Nat) : Int) + ((l[k].toNat : Int) - 48) := by rw [hs]; omega
        have HS := Lib.hid hs2
        have HD := Lib.hid hd
        clear hs hs2 hd hp
        obtain ⟨h481, h482⟩ := h48
        generalize valOf (l.take k) = V at *
        go_wp2_with (first
          | (go_at_call 194; refine (isDigit_any l[k] _).mono ?_; rintro e w1 ⟨rfl, rfl⟩; rw [HD.out])
          | (go_at_call 164; refine (must_yes _).mono ?_; rintro e w1 ⟨rfl, rfl⟩))
        go_round
        case rel => exact ⟨k + 1, by omega, by go_num, by rw [HS.out]⟩
        case measure => simp [intOf]; omega
      · obtain rfl : k = l.length := by omega
        have hN := HN.out
        rw [List.take_length] at *
        have hNN := HNW.out
        clear hv hp
        generalize valOf l = V at *
        go_wp2
        go_ret
        subst hN
        exact ⟨rfl, hNN⟩

/-- The first byte that is none. -/
theorem first_bad : ∀ (l : Bs), l.all dig = false → ∃ k, ∃ h : k < l.length, (l.take k).all dig = true ∧ dig l[k] = false
  | [], h => by simp at h
  | c :: r, h => by
    by_cases hc : dig c = true
    · have : r.all dig = false := by simpa [hc] using h
      obtain ⟨k, hk, h1, h2⟩ := first_bad r this
      exact ⟨k + 1, by simpa using hk, by simp [hc]; simpa using h1, by simpa using h2⟩
    · exact ⟨0, by simp, by simp, by simpa using hc⟩
theorem num_no {l : Bs} (h : numOf l = none) : l.length = 0 ∨ 10 < l.length ∨ (1 ≤ l.length ∧ l.length ≤ 10 ∧ ((l ≠ [48] ∧ l.head? = some 48) ∨ ((l = [48] ∨ l.head? ≠ some 48) ∧ l.all dig = false))) := by
  unfold numOf at h
  split at h
  · cases h
  · rename_i hh
    by_cases h0 : l.length = 0
    · exact Or.inl h0
    · by_cases h1 : 10 < l.length
      · exact Or.inr (Or.inl h1)
      · right; right
        refine ⟨by omega, by omega, ?_⟩
        by_cases h2 : l = [48] ∨ l.head? ≠ some 48
        · right
          refine ⟨h2, ?_⟩
          cases ha : l.all dig with
          | false => rfl
          | true => exact absurd ⟨by omega, by omega, h2, ha⟩ hh
        · left
          refine ⟨fun e => h2 (Or.inl e), ?_⟩
          cases hq : l.head? with
          | none => exact absurd (Or.inr (by simp [hq])) h2
          | some c => by_cases e : c = 48
                      · rw [e]
                      · exact absurd (Or.inr (by rw [hq]; simpa using e)) h2
set_option maxRecDepth 100000 in
theorem numberOf_no (T : TypeId) (q : Addr) (l : Bs) (w : World) (h : numOf l = none) (hl : l.length ≤ 1099511627776) (hE : ErrT w T q) :
    Calls Tryz.prog 165 #[.string ⟨l.toArray⟩] w (Fell w T q) := by
  have HE := Lib.hid hE
  clear hE
  rcases num_no h with h0 | h0 | ⟨h1, h10, h0⟩
  · have t0 : decide ((0 : Int) < (l.length : Int)) = false := decide_eq_false (by omega)
    clear h
    go_enter Tryz.func165, Tryz.ntmps165
    go_wp2_with (go_at_call 164; refine (must_no T q _ HE.out).mono ?_; rintro e w1 ⟨rfl, rfl⟩)
    exact ⟨rfl, rfl, new_refl w⟩
  · have t0 : decide ((0 : Int) < (l.length : Int)) = true := by simp; omega
    have t1 : decide ((l.length : Int) ≤ 10) = false := by simp; omega
    clear h
    go_enter Tryz.func165, Tryz.ntmps165
    go_wp2_with (go_at_call 164; refine (must_no T q _ HE.out).mono ?_; rintro e w1 ⟨rfl, rfl⟩)
    exact ⟨rfl, rfl, new_refl w⟩
  · have t0 : decide ((0 : Int) < (l.length : Int)) = true := by simp; omega
    have t1 : decide ((l.length : Int) ≤ 10) = true := by simp; omega
    rcases h0 with ⟨h2, h3⟩ | ⟨h2, h3⟩
    · have hb : (l == [48]) = false := by simpa using h2
      have hb2 : ((((⟨l.toArray⟩ : ByteArray)[0]'(by show 0 < l.toArray.size; simp; omega)).toNat : Int) != 48) = false := by
        rw [List.head?_eq_getElem?, List.getElem?_eq_getElem (by omega)] at h3
        injection h3 with h3
        show ((l[0].toNat : Int) != 48) = false
        rw [h3]
        rfl
      clear h h2 h3
      go_enter Tryz.func165, Tryz.ntmps165
      go_wp2_with (first
        | (go_at_call 164; (with_reducible refine (must_yes _).mono ?_); rintro e w1 ⟨rfl, rfl⟩)
        | (go_at_call 164; (with_reducible refine (must_no T q _ HE.out).mono ?_); rintro e w1 ⟨rfl, rfl⟩))
      exact ⟨rfl, rfl, new_refl w⟩
    · obtain ⟨m, hm, hp, hbad⟩ := first_bad l h3
      obtain ⟨c, W, hcv, hN, hsz, hcell⟩ := conv_str l w (by omega)
      have HP := Lib.hid hp
      have HBAD := Lib.hid hbad
      have HNW := Lib.hid hN
      have HC := Lib.hid hcell
      have HE2 := Lib.hid (HE.out.new hN)
      have h48 := head48 (by omega) h2
      clear h h2 h3 hp hbad hN hcell
      rcases h48 with hb | ⟨hb, hb2⟩
      all_goals
        go_enter Tryz.func165, Tryz.ntmps165
        go_wp2_with (go_at_call 164; refine (must_yes _).mono ?_; rintro e w1 ⟨rfl, rfl⟩)
        go_loop [3, 26] (fun s i => ∃ k : Nat, k ≤ m ∧ i = .int .i64 k ∧ s = .int .i64 ((valOf (l.take k) : Nat) : Int)) (fun _ i => l.length - (intOf i).toNat)
        case atStart => exact ⟨0, Nat.zero_le _, rfl, rfl⟩
        case round =>
          obtain ⟨k, hk, rfl, rfl⟩ := hrel
          have hp : (l.take k).all dig = true := by
            rw [List.all_eq_true]
            exact fun x hx => List.all_eq_true.1 HP.out x (by
              have := List.take_take (i := k) (j := m) (l := l)
              rw [Nat.min_eq_left hk] at this
              rw [← this] at hx
              exact List.mem_of_mem_take hx)
          have hv := val_small (k := k) (by omega) h10 hp
          have hlt : k < l.length := by omega
          have hc := HC.out k hlt
          by_cases hkm : k < m
          · have hd : dig l[k] = true := by
              refine List.all_eq_true.1 HP.out _ ?_
              rw [List.mem_take_iff_getElem]
              exact ⟨k, by omega, rfl⟩
            have hs := val_take (l := l) hlt
            have h48 : 48 ≤ l[k].toNat ∧ l[k].toNat ≤ 57 := by simpa [dig] using hd
            have hs2 : ((valOf (l.take (k + 1)) : Nat) : Int) = 10 * ((valOf (l.take k) : Nat) : Int) + ((l[k].toNat : Int) - 48) := by rw [hs]; omega
            have HS := Lib.hid hs2
            have HD := Lib.hid hd
            clear hs hs2 hd hp
            obtain ⟨h481, h482⟩ := h48
            generalize valOf (l.take k) = V at *
            go_wp2_with (first
              | (go_at_call 194; refine (isDigit_any l[k] _).mono ?_; rintro e w1 ⟨rfl, rfl⟩; rw [HD.out])
              | (go_at_call 164; refine (must_yes _).mono ?_; rintro e w1 ⟨rfl, rfl⟩))
            go_round
            case rel => exact ⟨k + 1, by omega, by go_num, by rw [HS.out]⟩
            case measure => simp [intOf]; omega
          · obtain rfl : k = m := by omega
            clear hp
            generalize valOf (l.take k) = V at *
            go_wp2_with (first
              | (go_at_call 194; refine (isDigit_any l[k] _).mono ?_; rintro e w1 ⟨rfl, rfl⟩; rw [HBAD.out])
              | (go_at_call 164; refine (must_no T q _ HE2.out).mono ?_; rintro e w1 ⟨rfl, rfl⟩))
            exact ⟨rfl, rfl, HNW.out⟩

/-! ### labels -/
theorem labelOf_ok (l : Bs) (w : World) (hl : l.length ≤ 1099511627776) (h : isLab l = true) :
    Calls Tryz.prog 100 #[.string ⟨l.toArray⟩] w fun e w' => e = .returned (sv l) ∧ w = w' := by
  unfold isLab at h
  rw [Bool.and_eq_true, decide_eq_true_eq] at h
  obtain ⟨h30, hh⟩ := h
  have hpos : 0 < l.length := by cases l with
    | nil => cases hh
    | cons c r => simp
  have hc : ltr l[0] = true := by cases l with
    | nil => cases hh
    | cons c r => simpa using hh
  have HC := Lib.hid hc
  have t1 : decide ((l.length : Int) ≤ 30) = true := by simp; omega
  clear hh hc
  go_enter Tryz.func100, Tryz.ntmps100
  go_wp2_with (first
    | (go_at_call 169; refine (isLetter_any l[0] _).mono ?_; rintro e w1 ⟨rfl, rfl⟩; rw [HC.out])
    | (go_at_call 164; refine (must_yes _).mono ?_; rintro e w1 ⟨rfl, rfl⟩))
  go_ret
  exact ⟨rfl, rfl⟩
theorem labelOf_no (T : TypeId) (q : Addr) (l : Bs) (w : World) (hl : l.length ≤ 1099511627776) (hpos : 0 < l.length) (h : isLab l = false) (hE : ErrT w T q) :
    Calls Tryz.prog 100 #[.string ⟨l.toArray⟩] w fun e w' => e = thrown T q ∧ w = w' := by
  have HE := Lib.hid hE
  clear hE
  by_cases h30 : l.length ≤ 30
  · have hc : ltr l[0] = false := by
      cases l with
      | nil => simp at hpos
      | cons c r =>
        unfold isLab at h
        rw [decide_eq_true h30, Bool.true_and] at h
        exact h
    have HC := Lib.hid hc
    have t1 : decide ((l.length : Int) ≤ 30) = true := by simp; omega
    clear hc h
    go_enter Tryz.func100, Tryz.ntmps100
    go_wp2_with (first
      | (go_at_call 169; refine (isLetter_any l[0] _).mono ?_; rintro e w1 ⟨rfl, rfl⟩; rw [HC.out])
      | (go_at_call 164; refine (must_no T q _ HE.out).mono ?_; rintro e w1 ⟨rfl, rfl⟩))
    exact ⟨rfl, rfl, rfl⟩
  · have t1 : decide ((l.length : Int) ≤ 30) = false := by simp; omega
    clear h
    go_enter Tryz.func100, Tryz.ntmps100
    go_wp2_with (go_at_call 164; refine (must_no T q _ HE.out).mono ?_; rintro e w1 ⟨rfl, rfl⟩)
    exact ⟨rfl, rfl, rfl⟩
end Go.Proofs.YtddojdgnakajmaaGreatDoor.txt
