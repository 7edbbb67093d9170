/-
  Text's mathematics: a shown line is read as it was.
-/
import Derived.Test.YtddojdgnakajmaaGreatDoorTZF
namespace Go.Proofs.YtddojdgnakajmaaGreatDoor.txt
open Go.Proofs.YtddojdgnakajmaaGreatDoor.ins
set_option linter.unusedVariables false
set_option linter.unusedSimpArgs false

/-! ### tokens of a line that is put together -/
theorem wby_blk {c : UInt8} (h : wby c = true) : blk c = false := by
  simp only [wby, ltr, dig, Bool.or_eq_true, Bool.and_eq_true, decide_eq_true_eq] at h
  simp only [blk, Bool.or_eq_false_iff, decide_eq_false_iff_not]
  omega
theorem tks_blank {c : UInt8} {r : Bs} (h : blk c = true) : tks (c :: r) = tks r := by
  have e : (c :: r).dropWhile blk = r.dropWhile blk := by rw [List.dropWhile_cons, if_pos h]
  cases hd : r.dropWhile blk with
  | nil => rw [tks_nil hd, tks_nil (e.trans hd)]
  | cons d t =>
    cases hw : wby d with
    | true => rw [tks_word hd hw, tks_word (e.trans hd) hw]
    | false =>
      cases hs : sgn d with
      | true => rw [tks_sign hd hw hs, tks_sign (e.trans hd) hw hs]
      | false => rw [tks_bad hd hw hs, tks_bad (e.trans hd) hw hs]
theorem take_word : ∀ {x r : Bs}, x.all wby = true → (∀ c, r.head? = some c → wby c = false) → (x ++ r).takeWhile wby = x ∧ (x ++ r).dropWhile wby = r
  | [], r, _, hr => by
    cases r with
    | nil => exact ⟨rfl, rfl⟩
    | cons c t =>
      have := hr c rfl
      simp [List.takeWhile_cons, List.dropWhile_cons, this]
  | c :: x, r, hx, hr => by
    simp only [List.all_cons, Bool.and_eq_true] at hx
    obtain ⟨h1, h2⟩ := take_word (x := x) hx.2 hr
    simp [List.takeWhile_cons, List.dropWhile_cons, hx.1, h1, h2]
theorem tks_w {x r : Bs} (h0 : x ≠ []) (hx : x.all wby = true) (hr : ∀ c, r.head? = some c → wby c = false) : tks (x ++ r) = (tks r).map (x :: ·) := by
  obtain ⟨h1, h2⟩ := take_word hx hr
  cases x with
  | nil => exact absurd rfl h0
  | cons c t =>
    have hc : wby c = true := by simp only [List.all_cons, Bool.and_eq_true] at hx; exact hx.1
    have hd : (c :: t ++ r).dropWhile blk = c :: (t ++ r) := by
      rw [List.cons_append, List.dropWhile_cons, if_neg (by rw [wby_blk hc]; decide)]
    rw [tks_word hd hc]
    rw [List.cons_append] at h1 h2
    rw [h1, h2]
theorem tks_s {c : UInt8} {r : Bs} (hb : blk c = false) (hw : wby c = false) (hs : sgn c = true) : tks (c :: r) = (tks r).map ([c] :: ·) := by
  have hd : (c :: r).dropWhile blk = c :: r := by rw [List.dropWhile_cons, if_neg (by rw [hb]; decide)]
  exact tks_sign hd hw hs
theorem tks_end : tks [] = some [] := rfl
theorem tks_sp (r : Bs) : tks (32 :: r) = tks r := tks_blank rfl
theorem tks_cm (r : Bs) : tks (44 :: r) = (tks r).map ([44] :: ·) := tks_s rfl rfl rfl
theorem tks_lb (r : Bs) : tks (91 :: r) = (tks r).map ([91] :: ·) := tks_s rfl rfl rfl
theorem tks_rb (r : Bs) : tks (93 :: r) = (tks r).map ([93] :: ·) := tks_s rfl rfl rfl
theorem tks_pl (r : Bs) : tks (43 :: r) = (tks r).map ([43] :: ·) := tks_s rfl rfl rfl
theorem tks_mi (r : Bs) : tks (45 :: r) = (tks r).map ([45] :: ·) := tks_s rfl rfl rfl

/-! ### digits -/
theorem ofNat_dig {k : Nat} (h : k < 10) : (UInt8.ofNat (48 + k)).toNat = 48 + k := by rw [UInt8.toNat_ofNat']; omega
theorem dec_all : ∀ (k : Nat), (Lib.decDigits k).all dig = true := by
  intro k
  induction k using Nat.strongRecOn with
  | ind k ih =>
    rw [Lib.decDigits]
    split
    · rename_i h
      simp only [List.all_cons, List.all_nil, Bool.and_true, dig, ofNat_dig h, Bool.and_eq_true, decide_eq_true_eq]
      omega
    · have h2 : k % 10 < 10 := Nat.mod_lt _ (by decide)
      rw [List.all_append, ih (k / 10) (by omega)]
      simp only [List.all_cons, List.all_nil, Bool.and_true, Bool.true_and, dig, ofNat_dig h2, Bool.and_eq_true, decide_eq_true_eq]
      omega
theorem dec_ne (k : Nat) : Lib.decDigits k ≠ [] := by
  rw [Lib.decDigits]
  split <;> simp
theorem val_end (l : Bs) (c : UInt8) : valOf (l ++ [c]) = 10 * valOf l + (c.toNat - 48) := by simp [valOf]
theorem dec_val : ∀ (k : Nat), valOf (Lib.decDigits k) = k := by
  intro k
  induction k using Nat.strongRecOn with
  | ind k ih =>
    rw [Lib.decDigits]
    split
    · rename_i h
      show 10 * 0 + ((UInt8.ofNat (48 + k)).toNat - 48) = k
      rw [ofNat_dig h]; omega
    · have h2 : k % 10 < 10 := Nat.mod_lt _ (by decide)
      rw [val_end, ih (k / 10) (by omega), ofNat_dig h2]
      omega
theorem head_app {a b : Bs} (h : a ≠ []) : (a ++ b).head? = a.head? := by
  cases a with
  | nil => exact absurd rfl h
  | cons c t => rfl
theorem dec_head : ∀ (k : Nat), k ≠ 0 → (Lib.decDigits k).head? ≠ some 48 := by
  intro k
  induction k using Nat.strongRecOn with
  | ind k ih =>
    intro hk
    rw [Lib.decDigits]
    split
    · rename_i h
      intro e
      simp only [List.head?_cons, Option.some.injEq] at e
      have := congrArg UInt8.toNat e
      rw [ofNat_dig h] at this
      have e2 : (48 : UInt8).toNat = 48 := rfl
      omega
    · rw [head_app (dec_ne _)]
      exact ih (k / 10) (by omega) (by omega)
theorem dec_len : ∀ (m k : Nat), k < 10 ^ (m + 1) → (Lib.decDigits k).length ≤ m + 1
  | 0, k, h => by
    rw [Lib.decDigits, dif_pos (by simpa using h)]
    simp
  | m + 1, k, h => by
    rw [Lib.decDigits]
    split
    · simp
    · have := dec_len m (k / 10) (by rw [Nat.pow_succ] at h; omega)
      rw [List.length_append]
      simp
      exact this
theorem num_dec {k : Nat} (h : k < 10000000000) : numOf (Lib.decDigits k) = some (k : Int) := by
  unfold numOf
  rw [if_pos, dec_val]
  refine ⟨List.length_pos_iff.2 (dec_ne k), dec_len 9 k (by simpa using h), ?_, dec_all k⟩
  by_cases h0 : k = 0
  · subst h0; left; rw [Lib.decDigits, dif_pos (by decide)]; rfl
  · exact .inr (dec_head k h0)
theorem dig_wby {c : UInt8} (h : dig c = true) : wby c = true := by simp [wby, h]
theorem dec_wby (k : Nat) : (Lib.decDigits k).all wby = true := by
  rw [List.all_eq_true]
  intro c hc
  exact dig_wby (List.all_eq_true.1 (dec_all k) c hc)
theorem dec_first (k : Nat) : ∃ c, (Lib.decDigits k).head? = some c ∧ dig c = true := by
  cases h : Lib.decDigits k with
  | nil => exact absurd h (dec_ne k)
  | cons c t =>
    have := dec_all k
    rw [h] at this
    simp only [List.all_cons, Bool.and_eq_true] at this
    exact ⟨c, rfl, this.1⟩
theorem itoa_pos {n : Int} (h : 0 ≤ n) : Lib.itoa n = Lib.decDigits n.toNat := by unfold Lib.itoa; rw [if_neg (by omega)]
theorem itoa_neg {n : Int} (h : n < 0) : Lib.itoa n = 45 :: Lib.decDigits n.natAbs := by unfold Lib.itoa; rw [if_pos h]

/-! ### registers, numbers, cells -/
/-- What may stand behind a word. -/
def Nw (r : Bs) : Prop := ∀ c, r.head? = some c → wby c = false
theorem nw_nil : Nw [] := fun c h => by cases h
theorem nw_cons {c : UInt8} {r : Bs} (h : wby c = false) : Nw (c :: r) := fun d hd => by simp at hd; subst hd; exact h
theorem reg_tks {n : Int} (h0 : 0 ≤ n) (r : Bs) (hr : Nw r) : tks (regB n ++ r) = (tks r).map (regB n :: ·) := by
  have e : regB n = 114 :: Lib.decDigits n.toNat := by unfold regB; rw [itoa_pos h0]; rfl
  refine tks_w (by rw [e]; simp) ?_ hr
  rw [e]
  simp only [List.all_cons, Bool.and_eq_true]
  exact ⟨rfl, dec_wby _⟩
theorem reg_of {n : Int} (h0 : 0 ≤ n) (h1 : n ≤ 10) : regOf (regB n) = some n := by
  have e : regB n = 114 :: Lib.decDigits n.toNat := by unfold regB; rw [itoa_pos h0]; rfl
  unfold regOf
  rw [e, if_pos (by simp [hasR]), List.tail_cons, num_dec (by omega)]
  show (if ((n.toNat : Nat) : Int) < 11 then some ((n.toNat : Nat) : Int) else none) = _
  rw [if_pos (by omega)]
  congr 1
  omega
theorem preg {n : Int} (h0 : 0 ≤ n) (h1 : n ≤ 10) (L : List Bs) : pReg (regB n :: L) = some (n, L) := by
  show (regOf (regB n)).map (·, L) = _
  rw [reg_of h0 h1]; rfl
theorem hasR_reg {n : Int} (L : List Bs) : hasR (hd (regB n :: L)) = true := by
  show decide ((regB n).head? = some 114) = true
  simp [regB]
/-- A number's digits as tokens. -/
theorem dec_tks (k : Nat) (r : Bs) (hr : Nw r) : tks (Lib.decDigits k ++ r) = (tks r).map (Lib.decDigits k :: ·) := tks_w (dec_ne k) (dec_wby k) hr
theorem pnum {k : Nat} (h : k < 10000000000) (L : List Bs) : pNum (Lib.decDigits k :: L) = some ((k : Int), L) := by
  show (numOf (Lib.decDigits k)).map (·, L) = _
  rw [num_dec h]; rfl
/-- A far as tokens, and read. -/
def sgT (n : Int) : List Bs := if n < 0 then [[45], Lib.decDigits n.natAbs] else [[43], Lib.decDigits n.toNat]
theorem sgn_tks (n : Int) (r : Bs) (hr : Nw r) : tks (sgnB n ++ r) = (tks r).map (sgT n ++ ·) := by
  unfold sgnB sgT
  by_cases h : n < 0
  · rw [if_pos h, if_pos h, itoa_neg h, List.cons_append, tks_mi, dec_tks _ _ hr, Option.map_map]; rfl
  · rw [if_neg h, if_neg h, itoa_pos (by omega)]
    show tks (43 :: (Lib.decDigits n.toNat ++ r)) = _
    rw [tks_pl, dec_tks _ _ hr, Option.map_map]; rfl
theorem psgn {n : Int} (h : n.natAbs < 10000000000) (L : List Bs) : pSgn (sgT n ++ L) = some (n, L) := by
  unfold sgT
  by_cases h0 : n < 0
  · rw [if_pos h0]
    show (if ([45] : Bs) = [43] then pNum (Lib.decDigits n.natAbs :: L) else if ([45] : Bs) = [45] then (pNum (Lib.decDigits n.natAbs :: L)).map fun p => (-p.1, p.2) else none) = _
    rw [if_neg (by decide), if_pos rfl, pnum h]
    show some (-((n.natAbs : Nat) : Int), L) = _
    congr 2
    omega
  · rw [if_neg h0]
    show (if ([43] : Bs) = [43] then pNum (Lib.decDigits n.toNat :: L) else if ([43] : Bs) = [45] then (pNum (Lib.decDigits n.toNat :: L)).map fun p => (-p.1, p.2) else none) = _
    rw [if_pos rfl, pnum (by omega)]
    congr 2
    omega
theorem hd_sgT (n : Int) (L : List Bs) : hd (sgT n ++ L) = [43] ∨ hd (sgT n ++ L) = [45] := by
  unfold sgT
  split
  · exact .inr rfl
  · exact .inl rfl
theorem pto {i : In} {n : Int} (h : n.natAbs < 10000000000) (L : List Bs) : pTo i (sgT n ++ L) = some ({ i with off := n }, [], L) := by
  unfold pTo
  rw [if_pos (hd_sgT n L), psgn h]; rfl
/-- A second part as tokens, and read. -/
def seT (i : In) : List Bs := if i.use then (if i.imm < 0 then [[45], Lib.decDigits i.imm.natAbs] else [Lib.decDigits i.imm.toNat]) else [regB i.src]
theorem sec_tks (i : In) (hs : 0 ≤ i.src) (r : Bs) (hr : Nw r) : tks (secB i ++ r) = (tks r).map (seT i ++ ·) := by
  unfold secB seT
  cases i.use with
  | true =>
    simp only [if_true]
    by_cases h : i.imm < 0
    · rw [if_pos h, itoa_neg h, List.cons_append, tks_mi, dec_tks _ _ hr, Option.map_map]; rfl
    · rw [if_neg h, itoa_pos (by omega), dec_tks _ _ hr]; rfl
  | false =>
    simp only [Bool.false_eq_true, if_false]
    rw [reg_tks hs _ hr]; rfl
theorem psec {i j : In} (hu : j.use = false) (hj : j.imm = 0) (hj2 : j.src = 0) (h : sec i.use i.src i.imm = true) (L : List Bs) : pSec j (seT i ++ L) = some ({ j with use := i.use, src := i.src, imm := i.imm }, L) := by
  unfold pSec seT
  cases hui : i.use with
  | true =>
    rw [hui] at h
    simp only [sec, if_true, fits, Bool.and_eq_true, decide_eq_true_eq] at h
    simp only [if_true]
    by_cases h0 : i.imm < 0
    · rw [if_pos h0]
      have e1 : hasR (hd (([[45], Lib.decDigits i.imm.natAbs] : List Bs) ++ L)) = false := rfl
      have e2 : hd (([[45], Lib.decDigits i.imm.natAbs] : List Bs) ++ L) = [45] := rfl
      rw [if_neg (by rw [e1]; decide), if_pos e2]
      have := psgn (n := i.imm) (by omega) L
      unfold sgT at this
      rw [if_pos h0] at this
      rw [this]
      simp only [Option.map_some, Option.some.injEq, Prod.mk.injEq, and_true]
      exact In.ext' rfl rfl rfl (by show j.src = i.src; rw [hj2, h.1]) rfl rfl rfl rfl
    · rw [if_neg h0]
      obtain ⟨c, hc, hdc⟩ := dec_first i.imm.toNat
      have e1 : hasR (hd (([Lib.decDigits i.imm.toNat] : List Bs) ++ L)) = false := by
        show decide ((Lib.decDigits i.imm.toNat).head? = some 114) = false
        rw [hc]
        simp only [Option.some.injEq, decide_eq_false_iff_not]
        rintro rfl
        simp [dig] at hdc
      have e2 : ¬ hd (([Lib.decDigits i.imm.toNat] : List Bs) ++ L) = [45] := by
        show ¬ Lib.decDigits i.imm.toNat = [45]
        intro e
        rw [e] at hc
        simp at hc
        subst hc
        simp [dig] at hdc
      rw [if_neg (by rw [e1]; decide), if_neg e2]
      have e : ([Lib.decDigits i.imm.toNat] : List Bs) ++ L = Lib.decDigits i.imm.toNat :: L := rfl
      rw [e, pnum (by omega)]
      simp only [Option.map_some, Option.some.injEq, Prod.mk.injEq, and_true]
      exact In.ext' rfl rfl rfl (by show j.src = i.src; rw [hj2, h.1]) rfl rfl (by show ((i.imm.toNat : Nat) : Int) = i.imm; omega) rfl
  | false =>
    rw [hui] at h
    simp only [sec, Bool.false_eq_true, if_false, reg, Bool.and_eq_true, decide_eq_true_eq] at h
    simp only [Bool.false_eq_true, if_false]
    have e : ([regB i.src] : List Bs) ++ L = regB i.src :: L := rfl
    rw [e, if_pos (hasR_reg L), preg h.1.1 h.1.2]
    simp only [Option.map_some, Option.some.injEq, Prod.mk.injEq, and_true]
    exact In.ext' rfl rfl rfl rfl hu rfl (by show j.imm = i.imm; rw [hj, h.2]) rfl
/-- A cell as tokens, and read. -/
def ceT (r f : Int) : List Bs := [[91], regB r] ++ sgT f ++ [[93]]
theorem cel_tks {r : Int} (h0 : 0 ≤ r) (f : Int) (s : Bs) : tks (celB r f ++ s) = (tks s).map (ceT r f ++ ·) := by
  unfold celB ceT sgT
  by_cases h : f < 0
  · rw [if_pos h, if_pos h, if_pos h, itoa_pos (by omega)]
    have e : ([91] ++ regB r ++ [32, 45, 32] ++ Lib.decDigits (-f).toNat ++ [93]) ++ s = 91 :: (regB r ++ (32 :: (45 :: (32 :: (Lib.decDigits (-f).toNat ++ (93 :: s)))))) := by simp
    have e2 : (-f).toNat = f.natAbs := by omega
    rw [e, tks_lb, reg_tks h0 _ (nw_cons rfl), tks_sp, tks_mi, tks_sp, dec_tks _ _ (nw_cons rfl), tks_rb, e2]
    simp only [Option.map_map]
    rfl
  · rw [if_neg h, if_neg h, if_neg h, itoa_pos (by omega)]
    have e : ([91] ++ regB r ++ [32, 43, 32] ++ Lib.decDigits f.toNat ++ [93]) ++ s = 91 :: (regB r ++ (32 :: (43 :: (32 :: (Lib.decDigits f.toNat ++ (93 :: s)))))) := by simp
    rw [e, tks_lb, reg_tks h0 _ (nw_cons rfl), tks_sp, tks_pl, tks_sp, dec_tks _ _ (nw_cons rfl), tks_rb]
    simp only [Option.map_map]
    rfl
theorem pcell {r f : Int} (h0 : 0 ≤ r) (h1 : r ≤ 10) (h : f.natAbs < 10000000000) (L : List Bs) : pCell (ceT r f ++ L) = some (r, f, L) := by
  have e : ceT r f ++ L = [91] :: regB r :: (sgT f ++ ([93] :: L)) := by simp [ceT]
  rw [e]
  unfold pCell
  have p1 : pOne 91 ([91] :: regB r :: (sgT f ++ ([93] :: L))) = some (regB r :: (sgT f ++ ([93] :: L))) := by simp [pOne]
  have p2 : pOne 93 ([93] :: L) = some L := by simp [pOne]
  rw [p1]
  simp only [Option.bind_some, preg h0 h1, psgn h, p2, Option.map_some]
end Go.Proofs.YtddojdgnakajmaaGreatDoor.txt

namespace Go.Proofs.YtddojdgnakajmaaGreatDoor.txt
open Go.Proofs.YtddojdgnakajmaaGreatDoor.ins
set_option linter.unusedVariables false
set_option linter.unusedSimpArgs false

/-! ### words -/
def kd (o : Nat) : Nat := if o ≤ 12 then 0 else if o = 13 then 1 else if o = 14 then 2 else if o = 15 then 3 else if o = 16 then 4 else if o ≤ 27 then 5 else 6
def vld (o : Nat) (n : Bool) (z : Nat) : Bool :=
  (decide (1 ≤ o) && decide (o ≤ 13) && decide (z = 0)) || ((decide (o = 14) || decide (o = 15)) && !n && (decide (z = 1) || decide (z = 2) || decide (z = 4) || decide (z = 8))) || (decide (o = 16) && !n && decide (z = 0)) || (decide (17 ≤ o) && decide (o ≤ 27) && decide (z = 0)) || (decide (o = 28) && !n && decide (z = 0))
theorem word_fin : ∀ (o : Fin 29) (n : Bool) (z : Fin 9), vld o.val n z.val = true → findW (wordB o.val n z.val) wl = some ⟨o.val, n, z.val, kd o.val⟩ ∧ (wordB o.val n z.val).all wby = true ∧ wordB o.val n z.val ≠ [] := by decide +kernel
theorem word_find {o z : Nat} {n : Bool} (h : vld o n z = true) : findW (wordB o n z) wl = some ⟨o, n, z, kd o⟩ ∧ (wordB o n z).all wby = true ∧ wordB o n z ≠ [] := by
  have ho : o < 29 := by simp [vld] at h; omega
  have hz : z < 9 := by simp [vld] at h; omega
  exact word_fin ⟨o, ho⟩ n ⟨z, hz⟩ h

/-! ### what may stand in a line -/
def okc (c : UInt8) : Bool := wby c || sgn c || decide (c.toNat = 32)
theorem wby_okc {l : Bs} (h : l.all wby = true) : l.all okc = true := by
  rw [List.all_eq_true] at h ⊢
  intro c hc
  simp [okc, h c hc]
theorem reg_okc {n : Int} (h : 0 ≤ n) : (regB n).all okc = true := by
  have e : regB n = 114 :: Lib.decDigits n.toNat := by unfold regB; rw [itoa_pos h]; rfl
  rw [e, List.all_cons, wby_okc (dec_wby _)]; rfl
theorem itoa_okc (n : Int) : (Lib.itoa n).all okc = true := by
  unfold Lib.itoa
  split
  · rw [List.all_cons, wby_okc (dec_wby _)]; rfl
  · exact wby_okc (dec_wby _)
theorem sgn_okc (n : Int) : (sgnB n).all okc = true := by
  unfold sgnB
  split
  · exact itoa_okc n
  · rw [List.all_append, itoa_okc]; rfl
theorem sec_okc {i : In} (h : 0 ≤ i.src) : (secB i).all okc = true := by
  unfold secB
  split
  · exact itoa_okc _
  · exact reg_okc h
theorem cel_okc {r f : Int} (h : 0 ≤ r) : (celB r f).all okc = true := by
  unfold celB
  simp only [List.all_append, reg_okc h, itoa_okc, Bool.and_true, Bool.true_and]
  split <;> rfl
theorem okc_ne {c : UInt8} (h : okc c = true) : c ≠ 35 ∧ c ≠ 10 := by
  constructor <;> (rintro rfl; simp [okc, wby, ltr, dig, sgn] at h)
theorem ahead_eq : ∀ {l : Bs}, l.all okc = true → ahead l = l
  | [], _ => rfl
  | c :: l, h => by
    simp only [List.all_cons, Bool.and_eq_true] at h
    have h1 := (okc_ne h.1).1
    have h2 := ahead_eq h.2
    unfold ahead at h2 ⊢
    rw [List.takeWhile_cons, if_pos (by simpa using h1), h2]

/-- What a line is made of. -/
theorem ln_28 {i : In} (h : i.op = 28) : lnB i = wordB i.op.toNat i.nar i.siz.toNat := by unfold lnB partsB; rw [if_pos h, if_pos rfl, List.append_nil]
theorem ln_eq {i : In} {P : List Bs} (h : partsB i = P) (h0 : P ≠ []) : lnB i = wordB i.op.toNat i.nar i.siz.toNat ++ (32 :: Lib.join P [44, 32]) := by unfold lnB; rw [h, if_neg h0]; rfl
theorem jo1 (a : Bs) : Lib.join [a] [44, 32] = a ++ [] := by simp [Lib.join_cons, Lib.joinTail]
theorem jo2 (a b : Bs) : Lib.join [a, b] [44, 32] = a ++ (44 :: 32 :: (b ++ [])) := by simp [Lib.join_cons, Lib.joinTail]
theorem jo3 (a b c : Bs) : Lib.join [a, b, c] [44, 32] = a ++ (44 :: 32 :: (b ++ (44 :: 32 :: (c ++ [])))) := by simp [Lib.join_cons, Lib.joinTail]

theorem pone (c : UInt8) (L : List Bs) : pOne c ([c] :: L) = some L := by simp [pOne]
theorem ne58_reg (n : Int) : ¬ (regB n = [58]) := by
  intro e
  have := congrArg List.head? e
  simp [regB] at this
/-- A line's tokens and what they say: from the tokens. -/
theorem line_of {l w : Bs} {r : List Bs} {i : In} (hl : l.all okc = true) (ht : tks l = some (w :: r)) (h58 : hd r ≠ [58]) (hp : pIns w r = some (i, [], [])) : lineB l = some (.ins i []) := by
  unfold lineB
  rw [toks_eq, ahead_eq hl, ht]
  show (if hd r = [58] then (if isLab w = true ∧ r.tail = [] then some (Sd.lab w) else none) else (pIns w r).bind fun p => if p.2.2 = [] then some (Sd.ins p.1 p.2.1) else none) = _
  rw [if_neg h58, hp]
  rfl
theorem pins {o z : Nat} {n : Bool} {L : List Bs} {i : In} (hv : vld o n z = true) (hr : pRest (kd o) ⟨(o : Int), n, 0, 0, false, 0, 0, (z : Int)⟩ L = some (i, [], [])) (hok : ok i = true) : pIns (wordB o n z) L = some (i, [], []) := by
  unfold pIns
  rw [(word_find hv).1]
  show (pRest (kd o) ⟨(o : Int), n, 0, 0, false, 0, 0, (z : Int)⟩ L).bind _ = _
  rw [hr]
  show (if ok i = true then _ else none) = _
  rw [if_pos hok]

theorem line_back (i : In) (h : ok i = true) : lineB (lnB i) = some (.ins i []) ∧ (lnB i).all okc = true := by
  have hok := h
  obtain ⟨d0, d1, s0, s1, hf, hm, g1, g2, hz⟩ := ok_facts i h
  simp only [far, Bool.and_eq_true, decide_eq_true_eq] at hf
  obtain ⟨io, inr, id, isr, iu, iof, iim, isz⟩ := i
  simp only at d0 d1 s0 s1 hf hm g1 g2 hz
  obtain ⟨o, rfl⟩ : ∃ o : Nat, io = (o : Int) := ⟨io.toNat, by omega⟩
  obtain ⟨z, rfl⟩ : ∃ z : Nat, isz = (z : Int) := ⟨isz.toNat, by
    rcases hz with ⟨-, -, h1⟩ | ⟨-, h1⟩
    · simp [sizd] at h1; omega
    · omega⟩
  have eo : ((o : Int)).toNat = o := Int.toNat_natCast o
  have ez : ((z : Int)).toNat = z := Int.toNat_natCast z
  have hfa : iof.natAbs < 10000000000 := by omega
  have c0 : ((0 : Nat) : Int) = 0 := rfl
  have c13 : ((13 : Nat) : Int) = 13 := rfl
  have c14 : ((14 : Nat) : Int) = 14 := rfl
  have c15 : ((15 : Nat) : Int) = 15 := rfl
  have c16 : ((16 : Nat) : Int) = 16 := rfl
  have c28 : ((28 : Nat) : Int) = 28 := rfl
  by_cases h28 : o = 28
  · subst h28
    have hx : inr = false ∧ id = 0 ∧ isr = 0 ∧ iu = false ∧ iof = 0 ∧ iim = 0 ∧ z = 0 := by simpa [ok] using h
    obtain ⟨rfl, rfl, rfl, rfl, rfl, rfl, rfl⟩ := hx
    rw [c28, c0] at *
    have hv : vld 28 false 0 = true := rfl
    obtain ⟨-, hw, hw0⟩ := word_find hv
    have hl : lnB ⟨28, false, 0, 0, false, 0, 0, 0⟩ = wordB 28 false 0 := ln_28 rfl
    have ha : (lnB ⟨28, false, 0, 0, false, 0, 0, 0⟩).all okc = true := by rw [hl]; exact wby_okc hw
    have ht : tks (wordB 28 false 0 ++ []) = some [wordB 28 false 0] := by rw [tks_w hw0 hw nw_nil]; rfl
    exact ⟨line_of (r := []) ha (by rw [hl, ← List.append_nil (wordB 28 false 0)]; exact ht) (by decide) (pins hv rfl hok), ha⟩
  by_cases h16 : o = 16
  · subst h16
    have hx : inr = false ∧ id = 0 ∧ isr = 0 ∧ iu = false ∧ iim = 0 ∧ z = 0 := by simp [ok] at h; exact h.2
    obtain ⟨rfl, rfl, rfl, rfl, rfl, rfl⟩ := hx
    rw [c16, c0] at *
    have hv : vld 16 false 0 = true := rfl
    obtain ⟨-, hw, hw0⟩ := word_find hv
    have hl : lnB ⟨16, false, 0, 0, false, iof, 0, 0⟩ = wordB 16 false 0 ++ (32 :: (sgnB iof ++ [])) := by rw [ln_eq (P := [sgnB iof]) rfl (by simp), jo1]; rfl
    have ha : (lnB ⟨16, false, 0, 0, false, iof, 0, 0⟩).all okc = true := by rw [hl, List.all_append, wby_okc hw, List.append_nil, List.all_cons, sgn_okc]; rfl
    refine ⟨line_of (r := sgT iof ++ []) ha (by rw [hl, tks_w hw0 hw (nw_cons rfl), tks_sp, sgn_tks _ _ nw_nil]; rfl) ?_ (pins hv (by show pTo _ (sgT iof ++ []) = _; rw [pto hfa]; rfl) hok), ha⟩
    rcases hd_sgT iof [] with e | e <;> rw [e] <;> decide
  by_cases h13 : o = 13
  · subst h13
    have hx : isr = 0 ∧ iu = false ∧ iof = 0 ∧ iim = 0 ∧ z = 0 := by simp [ok] at h; exact h.2
    obtain ⟨rfl, rfl, rfl, rfl, rfl⟩ := hx
    rw [c13, c0] at *
    have hv : vld 13 inr 0 = true := by cases inr <;> rfl
    obtain ⟨-, hw, hw0⟩ := word_find hv
    have hl : lnB ⟨13, inr, id, 0, false, 0, 0, 0⟩ = wordB 13 inr 0 ++ (32 :: (regB id ++ [])) := by rw [ln_eq (P := [regB id]) rfl (by simp), jo1]; rfl
    have ha : (lnB ⟨13, inr, id, 0, false, 0, 0, 0⟩).all okc = true := by rw [hl, List.all_append, wby_okc hw, List.append_nil, List.all_cons, reg_okc d0]; rfl
    exact ⟨line_of (r := [regB id]) ha (by rw [hl, tks_w hw0 hw (nw_cons rfl), tks_sp, reg_tks d0 _ nw_nil]; rfl) (ne58_reg id) (pins hv (by show (pReg [regB id]).map _ = _; rw [preg d0 d1]; rfl) hok), ha⟩
  by_cases h14 : o = 14
  · subst h14
    obtain ⟨hn, hsz⟩ : inr = false ∧ sizd (z : Int) = true := by rcases hz with ⟨-, h1, h2⟩ | ⟨h1, -⟩; (· exact ⟨h1, h2⟩); exact absurd (.inl rfl) h1
    subst hn
    have hx : iu = false ∧ iim = 0 := by simp [ok] at h; exact h.2.2.2.2
    obtain ⟨rfl, rfl⟩ := hx
    rw [c14] at *
    have hv : vld 14 false z = true := by simp [sizd] at hsz; simp [vld]; omega
    obtain ⟨-, hw, hw0⟩ := word_find hv
    have hl : lnB ⟨14, false, id, isr, false, iof, 0, (z : Int)⟩ = wordB 14 false z ++ (32 :: (regB id ++ (44 :: 32 :: (celB isr iof ++ [])))) := by rw [ln_eq (P := [regB id, celB isr iof]) rfl (by simp), jo2]; rfl
    have ha : (lnB ⟨14, false, id, isr, false, iof, 0, (z : Int)⟩).all okc = true := by rw [hl, List.all_append, wby_okc hw, List.append_nil]; simp only [List.all_cons, List.all_append, reg_okc d0, cel_okc s0]; rfl
    exact ⟨line_of (r := regB id :: [44] :: (ceT isr iof ++ [])) ha (by rw [hl, tks_w hw0 hw (nw_cons rfl), tks_sp, reg_tks d0 _ (nw_cons rfl), tks_cm, tks_sp, cel_tks s0]; rfl) (ne58_reg id)
      (pins hv (by
        show (pReg (regB id :: [44] :: (ceT isr iof ++ []))).bind _ = _
        rw [preg d0 d1]
        simp only [Option.bind_some, pone, pcell s0 s1 hfa, Option.map_some]
        rfl) hok), ha⟩
  by_cases h15 : o = 15
  · subst h15
    obtain ⟨hn, hsz⟩ : inr = false ∧ sizd (z : Int) = true := by rcases hz with ⟨-, h1, h2⟩ | ⟨h1, -⟩; (· exact ⟨h1, h2⟩); exact absurd (.inr rfl) h1
    subst hn
    have hx : sec iu isr iim = true := by simp [ok] at h; exact h.2.2.2
    rw [c15] at *
    have hv : vld 15 false z = true := by simp [sizd] at hsz; simp [vld]; omega
    obtain ⟨-, hw, hw0⟩ := word_find hv
    have hl : lnB ⟨15, false, id, isr, iu, iof, iim, (z : Int)⟩ = wordB 15 false z ++ (32 :: (celB id iof ++ (44 :: 32 :: (secB ⟨15, false, id, isr, iu, iof, iim, (z : Int)⟩ ++ [])))) := by rw [ln_eq (P := [celB id iof, secB ⟨15, false, id, isr, iu, iof, iim, (z : Int)⟩]) rfl (by simp), jo2]; rfl
    have ha : (lnB ⟨15, false, id, isr, iu, iof, iim, (z : Int)⟩).all okc = true := by rw [hl, List.all_append, wby_okc hw, List.append_nil]; simp only [List.all_cons, List.all_append, cel_okc d0]; rw [sec_okc s0]; rfl
    refine ⟨line_of (r := ceT id iof ++ [44] :: (seT ⟨15, false, id, isr, iu, iof, iim, (z : Int)⟩ ++ [])) ha (by rw [hl, tks_w hw0 hw (nw_cons rfl), tks_sp, cel_tks d0, tks_cm, tks_sp, sec_tks _ s0 _ nw_nil]; rfl) (by show ([91] : Bs) ≠ [58]; decide)
      (pins hv ?_ hok), ha⟩
    show (pCell (ceT id iof ++ [44] :: (seT ⟨15, false, id, isr, iu, iof, iim, (z : Int)⟩ ++ []))).bind _ = _
    rw [pcell d0 d1 hfa]
    simp only [Option.bind_some, pone]
    rw [psec rfl rfl rfl hx]
    rfl
  have hz0 : z = 0 := by rcases hz with ⟨h1, -⟩ | ⟨-, h1⟩ <;> omega
  subst hz0
  by_cases hq : 17 ≤ o
  · have hx : sec iu isr iim = true := by
      unfold ok at h
      simp only at h
      rw [if_neg (by omega), if_neg (by omega), if_neg (by omega), if_neg (by omega), if_neg (by omega), if_pos (by omega)] at h
      simp only [Bool.and_eq_true] at h
      exact h.2.2.1
    have hv : vld o inr 0 = true := by simp [vld]; omega
    have hk : kd o = 5 := by unfold kd; rw [if_neg (by omega), if_neg (by omega), if_neg (by omega), if_neg (by omega), if_neg (by omega), if_pos (by omega)]
    obtain ⟨-, hw, hw0⟩ := word_find hv
    have hpt : partsB ⟨(o : Int), inr, id, isr, iu, iof, iim, ((0 : Nat) : Int)⟩ = [regB id, secB ⟨(o : Int), inr, id, isr, iu, iof, iim, ((0 : Nat) : Int)⟩, sgnB iof] := by
      unfold partsB
      simp only
      rw [if_neg (by omega), if_neg (by omega), if_neg (by omega), if_neg (by omega), if_neg (by omega), if_pos (by omega)]
    have hl : lnB ⟨(o : Int), inr, id, isr, iu, iof, iim, ((0 : Nat) : Int)⟩ = wordB o inr 0 ++ (32 :: (regB id ++ (44 :: 32 :: (secB ⟨(o : Int), inr, id, isr, iu, iof, iim, ((0 : Nat) : Int)⟩ ++ (44 :: 32 :: (sgnB iof ++ [])))))) := by rw [ln_eq hpt (by simp), jo3]; rfl
    have ha : (lnB ⟨(o : Int), inr, id, isr, iu, iof, iim, ((0 : Nat) : Int)⟩).all okc = true := by rw [hl, List.all_append, wby_okc hw, List.append_nil]; simp only [List.all_cons, List.all_append, reg_okc d0, sgn_okc]; rw [sec_okc s0]; rfl
    refine ⟨line_of (r := regB id :: [44] :: (seT ⟨(o : Int), inr, id, isr, iu, iof, iim, ((0 : Nat) : Int)⟩ ++ [44] :: (sgT iof ++ []))) ha (by rw [hl, tks_w hw0 hw (nw_cons rfl), tks_sp, reg_tks d0 _ (nw_cons rfl), tks_cm, tks_sp, sec_tks _ s0 _ (nw_cons rfl), tks_cm, tks_sp, sgn_tks _ _ nw_nil]; rfl) (ne58_reg id)
      (pins hv ?_ hok), ha⟩
    rw [hk]
    show (pReg (regB id :: [44] :: (seT ⟨(o : Int), inr, id, isr, iu, iof, iim, ((0 : Nat) : Int)⟩ ++ [44] :: (sgT iof ++ [])))).bind _ = _
    rw [preg d0 d1]
    simp only [Option.bind_some, pone]
    rw [psec rfl rfl rfl hx]
    simp only [Option.bind_some, pone]
    rw [pto hfa]
  · have hx : sec iu isr iim = true ∧ iof = 0 := by
      unfold ok at h
      simp only at h
      rw [if_pos (by omega)] at h
      simp only [Bool.and_eq_true, decide_eq_true_eq] at h
      exact ⟨h.2.1, h.2.2.1⟩
    obtain ⟨hx, rfl⟩ := hx
    have hv : vld o inr 0 = true := by simp [vld]; omega
    have hk : kd o = 0 := by unfold kd; rw [if_pos (by omega)]
    obtain ⟨-, hw, hw0⟩ := word_find hv
    have hpt : partsB ⟨(o : Int), inr, id, isr, iu, 0, iim, ((0 : Nat) : Int)⟩ = [regB id, secB ⟨(o : Int), inr, id, isr, iu, 0, iim, ((0 : Nat) : Int)⟩] := by
      unfold partsB
      simp only
      rw [if_neg (by omega), if_neg (by omega), if_neg (by omega), if_neg (by omega), if_neg (by omega), if_neg (by omega)]
    have hl : lnB ⟨(o : Int), inr, id, isr, iu, 0, iim, ((0 : Nat) : Int)⟩ = wordB o inr 0 ++ (32 :: (regB id ++ (44 :: 32 :: (secB ⟨(o : Int), inr, id, isr, iu, 0, iim, ((0 : Nat) : Int)⟩ ++ [])))) := by rw [ln_eq hpt (by simp), jo2]; rfl
    have ha : (lnB ⟨(o : Int), inr, id, isr, iu, 0, iim, ((0 : Nat) : Int)⟩).all okc = true := by rw [hl, List.all_append, wby_okc hw, List.append_nil]; simp only [List.all_cons, List.all_append, reg_okc d0]; rw [sec_okc s0]; rfl
    refine ⟨line_of (r := regB id :: [44] :: (seT ⟨(o : Int), inr, id, isr, iu, 0, iim, ((0 : Nat) : Int)⟩ ++ [])) ha (by rw [hl, tks_w hw0 hw (nw_cons rfl), tks_sp, reg_tks d0 _ (nw_cons rfl), tks_cm, tks_sp, sec_tks _ s0 _ nw_nil]; rfl) (ne58_reg id)
      (pins hv ?_ hok), ha⟩
    rw [hk]
    show (pReg (regB id :: [44] :: (seT ⟨(o : Int), inr, id, isr, iu, 0, iim, ((0 : Nat) : Int)⟩ ++ []))).bind _ = _
    rw [preg d0 d1]
    simp only [Option.bind_some, pone]
    rw [psec rfl rfl rfl hx]
    rfl
end Go.Proofs.YtddojdgnakajmaaGreatDoor.txt

namespace Go.Proofs.YtddojdgnakajmaaGreatDoor.txt
open Go.Proofs.YtddojdgnakajmaaGreatDoor.ins
set_option linter.unusedVariables false
set_option linter.unusedSimpArgs false

/-! ### lines -/
theorem index_at : ∀ {a b : Bs}, (10 : UInt8) ∉ a → Lib.index (a ++ 10 :: b) [10] = a.length
  | [], b, _ => by simp [Lib.index, List.isPrefixOf]
  | c :: a, b, h => by
    have h1 : c ≠ 10 := fun e => h (by rw [e]; exact List.mem_cons_self ..)
    have h2 : (10 : UInt8) ∉ a := fun e => h (List.mem_cons_of_mem _ e)
    have ih := index_at (b := b) h2
    rw [List.cons_append]
    unfold Lib.index
    have h3 : ¬ (((a.length : Nat) : Int) == -1) = true := fun e => by have := eq_of_beq e; omega
    rw [if_neg (by simp [List.isPrefixOf]; exact fun e => h1 e.symm), ih, if_neg h3]
    simp
theorem index_no : ∀ {a : Bs}, (10 : UInt8) ∉ a → Lib.index a [10] = -1
  | [], _ => by simp [Lib.index]
  | c :: a, h => by
    have h1 : c ≠ 10 := fun e => h (by rw [e]; exact List.mem_cons_self ..)
    have h2 : (10 : UInt8) ∉ a := fun e => h (List.mem_cons_of_mem _ e)
    unfold Lib.index
    rw [if_neg (by simp [List.isPrefixOf]; exact fun e => h1 e.symm), index_no h2]
    rfl
theorem lines_hit {a b : Bs} (h : (10 : UInt8) ∉ a) : linesB (a ++ 10 :: b) = a :: linesB b := by
  have hi : Lib.indexB ⟨(a ++ 10 :: b).toArray⟩ ⟨#[10]⟩ = a.length := index_at h
  have e1 : (⟨(a ++ 10 :: b).toArray⟩ : ByteArray).extract 0 (a.length + 0) = ⟨a.toArray⟩ := by
    apply ByteArray.ext
    simp
  have e2 : (⟨(a ++ 10 :: b).toArray⟩ : ByteArray).extract (a.length + (⟨#[10]⟩ : ByteArray).size) (⟨(a ++ 10 :: b).toArray⟩ : ByteArray).size = ⟨b.toArray⟩ := by
    have s1 : (⟨#[10]⟩ : ByteArray).size = 1 := rfl
    have s2 : (⟨(a ++ 10 :: b).toArray⟩ : ByteArray).size = (a ++ 10 :: b).length := by show (a ++ 10 :: b).toArray.size = _; simp
    rw [s1, s2]
    apply ByteArray.ext
    simp only [ByteArray.data_extract, List.extract_toArray, List.extract_eq_take_drop]
    congr 1
    have e3 : a ++ 10 :: b = (a ++ [10]) ++ b := by simp
    rw [e3, List.drop_append_of_le_length (by simp)]
    simp
    rw [show a.length + (b.length + 1) - (a.length + 1) = b.length by omega, List.take_length]
  unfold linesB
  rw [Lib.countB_hit _ _ a.length (by decide) hi, e2, Nat.add_comm 1, Lib.splitB_hit _ _ _ _ a.length hi, e1, e2]
  rfl
theorem lines_no {a : Bs} (h : (10 : UInt8) ∉ a) : linesB a = [a] := by
  have hi : Lib.indexB ⟨a.toArray⟩ ⟨#[10]⟩ = -1 := index_no h
  unfold linesB
  rw [Lib.splitB_miss _ _ _ _ hi]
  rfl
theorem okc_no {l : Bs} (h : l.all okc = true) : (10 : UInt8) ∉ l := fun hm => (okc_ne (List.all_eq_true.1 h _ hm)).2 rfl
theorem lines_shown : ∀ (l : List In), l.all ok = true → linesB (linesOf l) = l.map lnB ++ [[]]
  | [], _ => by
    show linesB [] = [[]]
    exact lines_no (by simp)
  | i :: l, h => by
    simp only [List.all_cons, Bool.and_eq_true] at h
    have e : linesOf (i :: l) = lnB i ++ 10 :: linesOf l := by simp [linesOf]
    rw [e, lines_hit (okc_no (line_back i h.1).2), lines_shown l h.2]
    rfl

/-! ### what is shown, parsed -/
theorem parseL_shown : ∀ (l : List In) (n : Nat) (is : List In), l.all ok = true → is.length + l.length ≤ 4096 → parseL n (l.map lnB ++ [[]]) ⟨is, [], []⟩ = .inr ⟨is ++ l, [], []⟩
  | [], n, is, _, _ => by
    have e : lineB [] = some .none := rfl
    simp only [List.map_nil, List.nil_append, parseL, e, addM, List.append_nil]
    rfl
  | i :: l, n, is, h, hl => by
    simp only [List.all_cons, Bool.and_eq_true] at h
    simp only [List.length_cons] at hl
    rw [List.map_cons, List.cons_append]
    have e : lineB (lnB i) = some (.ins i []) := (line_back i h.1).1
    have ha : addM ((n : Int) + 1) (lineB (lnB i)) ⟨is, [], []⟩ = (0, ⟨is ++ [i], [], []⟩) := by
      rw [e]
      show (if is.length = 4096 then _ else _) = _
      rw [if_neg (by omega)]
      rfl
    unfold parseL
    rw [ha]
    simp only [if_true]
    rw [parseL_shown l (n + 1) (is ++ [i]) h.2 (by simp; omega)]
    simp
theorem dec_len_le {k : Nat} (m : Nat) (h : k < 10 ^ (m + 1)) : (Lib.decDigits k).length ≤ m + 1 := dec_len m k h
theorem itoa_short {n : Int} (m : Nat) (h : n.natAbs < 10 ^ (m + 1)) : (Lib.itoa n).length ≤ m + 2 := by
  unfold Lib.itoa
  split
  · have := dec_len_le m h
    simp; omega
  · have := dec_len_le (k := n.toNat) m (by omega)
    omega
theorem ln_short (i : In) (h : ok i = true) : (lnB i).length ≤ 60 := by
  obtain ⟨d0, d1, s0, s1, hf, hm, g1, g2, hz⟩ := ok_facts i h
  simp only [far, fits, Bool.and_eq_true, decide_eq_true_eq] at hf hm
  have hw := wordB_le i.op.toNat i.siz.toNat i.nar (by omega)
  have r1 : (regB i.dst).length ≤ 4 := by have := itoa_short (n := i.dst) 1 (by omega); simp [regB]; omega
  have r2 : (regB i.src).length ≤ 4 := by have := itoa_short (n := i.src) 1 (by omega); simp [regB]; omega
  have m1 : (Lib.itoa i.imm).length ≤ 11 := itoa_short 9 (by omega)
  have f1 : (Lib.itoa i.off).length ≤ 6 := itoa_short 4 (by omega)
  have f2 : (Lib.itoa (if i.off < 0 then -i.off else i.off)).length ≤ 6 := itoa_short 4 (by split <;> omega)
  have c1 : (secB i).length ≤ 11 := by unfold secB; split <;> omega
  have c2 : (sgnB i.off).length ≤ 7 := by unfold sgnB; split; (· omega); (· simp; omega)
  have c3 : (celB i.dst i.off).length ≤ 16 := by unfold celB; simp only [List.length_append]; split <;> simp <;> split at f2 <;> omega
  have c4 : (celB i.src i.off).length ≤ 16 := by unfold celB; simp only [List.length_append]; split <;> simp <;> split at f2 <;> omega
  have key : ∀ P : List Bs, partsB i = P → (P = [] ∨ (Lib.join P [44, 32]).length ≤ 50) → (lnB i).length ≤ 60 := fun P hP hj => by
    unfold lnB
    rw [hP, List.length_append]
    split
    · simp; omega
    · rename_i hne
      have := hj.resolve_left hne
      rw [List.length_append]
      simp
      omega
  refine key _ rfl ?_
  unfold partsB
  by_cases x28 : i.op = 28
  · rw [if_pos x28]; exact .inl rfl
  rw [if_neg x28]
  by_cases x16 : i.op = 16
  · rw [if_pos x16, jo1]; right; simp; omega
  rw [if_neg x16]
  by_cases x13 : i.op = 13
  · rw [if_pos x13, jo1]; right; simp; omega
  rw [if_neg x13]
  by_cases x14 : i.op = 14
  · rw [if_pos x14, jo2]; right; simp; omega
  rw [if_neg x14]
  by_cases x15 : i.op = 15
  · rw [if_pos x15, jo2]; right; simp; omega
  rw [if_neg x15]
  by_cases x17 : 17 ≤ i.op ∧ i.op ≤ 27
  · rw [if_pos x17, jo3]; right; simp; omega
  · rw [if_neg x17, jo2]; right; simp; omega
theorem lines_short : ∀ (l : List In), l.all ok = true → (linesOf l).length ≤ 61 * l.length
  | [], _ => by simp [linesOf]
  | i :: l, h => by
    simp only [List.all_cons, Bool.and_eq_true] at h
    have h1 := ln_short i h.1
    have h2 := lines_short l h.2
    have e : linesOf (i :: l) = (lnB i ++ [10]) ++ linesOf l := by simp [linesOf]
    rw [e]
    simp only [List.length_append, List.length_cons, List.length_nil]
    omega
theorem parse_shown {l : List In} (h : l.all ok = true) (hl : l.length ≤ 4096) : parseM (linesOf l) = ((0, 0), l) := by
  have h1 := lines_short l h
  unfold parseM
  rw [if_neg (by omega), lines_shown l h]
  have e := parseL_shown l 0 [] h (by simpa using hl)
  rw [e]
  rfl
theorem count_shown {l : List In} (h : l.all ok = true) : Lib.countB ⟨(linesOf l).toArray⟩ ⟨#[10]⟩ = l.length := by
  have h1 := lines_len (linesOf l)
  rw [lines_shown l h] at h1
  simp at h1
  omega

/-! ### what was parsed -/
structure PInv (n : Nat) (s : FM) : Prop where
  len : s.is.length ≤ 4096
  good : s.is.all ok = true
  at_ : ∀ j ∈ s.js, 1 ≤ j.1 ∧ j.1 ≤ (n : Int)
  lt : ∀ j ∈ s.js, j.2.1 < s.is.length
theorem PInv.add {n : Nat} {s : FM} (h : PInv n s) (l : Bs) : (addM ((n : Int) + 1) (lineB l) s).1 = 0 → PInv (n + 1) (addM ((n : Int) + 1) (lineB l) s).2 := by
  have hat : ∀ j ∈ s.js, 1 ≤ j.1 ∧ j.1 ≤ ((n + 1 : Nat) : Int) := fun j hj => by have := h.at_ j hj; omega
  cases hd : lineB l with
  | none => intro e; cases e
  | some d =>
    cases d with
    | none => intro _; exact ⟨h.len, h.good, hat, h.lt⟩
    | lab x =>
      simp only [addM]
      split
      · intro e; cases e
      · intro _; exact ⟨h.len, h.good, hat, h.lt⟩
    | ins i t =>
      have hok : ok i = true := line_ok hd
      simp only [addM]
      split
      · intro e; cases e
      · rename_i hne
        intro _
        refine ⟨?_, ?_, fun j hj => ?_, fun j hj => ?_⟩
        · have := h.len; simp; omega
        · simp [List.all_append, h.good, hok]
        · simp only at hj
          split at hj
          · exact hat j hj
          · rcases List.mem_append.1 hj with hj | hj
            · exact hat j hj
            · simp only [List.mem_singleton] at hj
              subst hj
              simp; omega
        · simp only at hj ⊢
          rw [List.length_append]
          split at hj
          · have := h.lt j hj; simp; omega
          · rcases List.mem_append.1 hj with hj | hj
            · have := h.lt j hj; simp; omega
            · simp only [List.mem_singleton] at hj
              subst hj
              simp
theorem parseL_inv : ∀ (L : List Bs) (n : Nat) (s : FM), PInv n s →
    (∀ f, parseL n L s = .inl f → f.1 ≠ 0 ∧ 1 ≤ f.2 ∧ f.2 ≤ ((n + L.length : Nat) : Int)) ∧ (∀ s', parseL n L s = .inr s' → PInv (n + L.length) s')
  | [], n, s, h => ⟨fun f e => (by cases e), fun s' e => (by cases e; exact h)⟩
  | l :: L, n, s, h => by
    unfold parseL
    by_cases e0 : (addM ((n : Int) + 1) (lineB l) s).1 = 0
    · rw [if_pos e0]
      have ih := parseL_inv L (n + 1) _ (h.add l e0)
      have e : n + 1 + L.length = n + (l :: L).length := by simp; omega
      rw [e] at ih
      exact ih
    · rw [if_neg e0]
      refine ⟨fun f e => ?_, fun s' e => (by cases e)⟩
      cases e
      refine ⟨e0, by omega, by simp; omega⟩
theorem setO_all : ∀ (l : List In) (k : Nat) (f : Int), l.all ok = true → ((setO l k f)[k]?.map ok).getD false = true → (setO l k f).all ok = true
  | [], _, _, _, _ => rfl
  | i :: l, 0, f, h, ho => by
    simp only [List.all_cons, Bool.and_eq_true] at h
    simp only [setO, List.all_cons, Bool.and_eq_true]
    exact ⟨by simpa [setO] using ho, h.2⟩
  | i :: l, k + 1, f, h, ho => by
    simp only [List.all_cons, Bool.and_eq_true] at h
    simp only [setO, List.all_cons, Bool.and_eq_true]
    exact ⟨h.1, setO_all l k f h.2 (by simpa [setO] using ho)⟩
theorem joinM_inv (ls : List (Bs × Nat)) : ∀ (js : List (Int × Nat × Bs)) (is : List In), is.all ok = true →
    ((joinM ls is js).1 = 0 → (joinM ls is js).2.2.all ok = true ∧ (joinM ls is js).2.2.length = is.length) ∧ ((joinM ls is js).1 ≠ 0 → ∃ j ∈ js, (joinM ls is js).2.1 = j.1)
  | [], is, h => ⟨fun _ => ⟨h, rfl⟩, fun e => absurd rfl e⟩
  | j :: r, is, h => by
    unfold joinM
    split
    · rename_i hc
      simp only [Bool.and_eq_true] at hc
      obtain ⟨h1, h2⟩ := joinM_inv ls r _ (setO_all is j.2.1 _ h hc.2)
      refine ⟨fun e => ?_, fun e => ?_⟩
      · obtain ⟨h3, h4⟩ := h1 e
        exact ⟨h3, by rw [h4, setO_length]⟩
      · obtain ⟨k, hk, e2⟩ := h2 e
        exact ⟨k, List.mem_cons_of_mem _ hk, e2⟩
    · exact ⟨fun e => (by cases e), fun _ => ⟨j, List.mem_cons_self .., rfl⟩⟩
theorem parse_inv (l : Bs) : ((parseM l).1.1 = 0 → (parseM l).1 = (0, 0) ∧ (parseM l).2.all ok = true ∧ (parseM l).2.length ≤ 4096) ∧
    ((parseM l).1.1 ≠ 0 → (parseM l).2 = [] ∧ 0 ≤ (parseM l).1.2 ∧ (parseM l).1.2 ≤ (linesB l).length) := by
  unfold parseM
  split
  · exact ⟨fun e => (by cases e), fun _ => ⟨rfl, by simp, by simp⟩⟩
  · have h0 : PInv 0 ⟨[], [], []⟩ := ⟨by simp, rfl, fun j hj => by simp at hj, fun j hj => by simp at hj⟩
    obtain ⟨h1, h2⟩ := parseL_inv (linesB l) 0 _ h0
    cases hp : parseL 0 (linesB l) ⟨[], [], []⟩ with
    | inl f =>
      obtain ⟨a, b, c⟩ := h1 f hp
      simp only [Nat.zero_add] at c
      exact ⟨fun e => absurd e a, fun _ => ⟨rfl, by simp only; omega, by simp only; omega⟩⟩
    | inr s =>
      have hs := h2 s hp
      simp only [Nat.zero_add] at hs
      obtain ⟨h3, h4⟩ := joinM_inv s.ls s.js s.is hs.good
      simp only
      by_cases e0 : (joinM s.ls s.is s.js).1 = 0
      · rw [if_pos e0]
        obtain ⟨h5, h6⟩ := h3 e0
        exact ⟨fun _ => ⟨rfl, h5, by simp only [h6]; exact hs.len⟩, fun e => absurd rfl e⟩
      · rw [if_neg e0]
        obtain ⟨j, hj, e1⟩ := h4 e0
        have := hs.at_ j hj
        exact ⟨fun e => absurd e e0, fun _ => ⟨rfl, by simp only [e1]; omega, by simp only [e1]; omega⟩⟩
end Go.Proofs.YtddojdgnakajmaaGreatDoor.txt
