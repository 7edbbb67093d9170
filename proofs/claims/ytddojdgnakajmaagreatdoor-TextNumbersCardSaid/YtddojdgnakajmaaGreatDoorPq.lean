/-
  The document's Parse: an instruction's parts are the language's line.
-/
import Derived.Test.YtddojdgnakajmaaGreatDoorPo
namespace Go.Proofs.YtddojdgnakajmaaGreatDoor.txt
open Go.RowKit Go.Proofs.YtddojdgnakajmaaGreatDoor.mem Go.Proofs.YtddojdgnakajmaaGreatDoor.kit Go.Proofs.YtddojdgnakajmaaGreatDoor.ins
set_option linter.unusedVariables false
set_option linter.unusedSimpArgs false

/-- The reader's state: what is left, or bad. -/
def LfS (o : Option (List Bs)) (s : Ls) : Prop := match o with
  | some L => s.bad = false ∧ s.k ≤ s.ts.length ∧ s.ts.drop s.k = L
  | none => s.bad = true
theorem nx_hd {s : Ls} {L : List Bs} (h : s.ts.drop s.k = L) : nx s = hd L := by
  subst h
  unfold nx hd
  rw [List.getD_eq_getElem?_getD, List.headD_eq_head?_getD, List.head?_drop]
theorem LfS.nxe {s : Ls} {L : List Bs} (h : LfS (some L) s) : nx s = hd L := nx_hd h.2.2
theorem LfS.take {s : Ls} {t : Bs} {r : List Bs} (h : LfS (some (t :: r)) s) : LfS (some r) (tkS s) := by
  obtain ⟨h1, h2, h3⟩ := h
  have hk : s.k < s.ts.length := by
    rcases Nat.lt_or_ge s.k s.ts.length with h | h
    · exact h
    · rw [List.drop_eq_nil_of_le h] at h3; cases h3
  refine ⟨h1, hk, ?_⟩
  show s.ts.drop (s.k + 1) = r
  rw [← List.drop_drop, h3]
  rfl
theorem LfS.bad {s : Ls} {L : List Bs} (h : LfS (some L) s) (b : Bool) : LfS (if b then none else some L) (badS s b) := by
  cases b with
  | true => show (s.bad || true) = true; exact Bool.or_true _
  | false => rw [badS_no]; exact h
theorem st_bad {s : Ls} : LfS none s ↔ s.bad = true := Iff.rfl
theorem st_true (s : Ls) : LfS none (badS s true) := by show (s.bad || true) = true; exact Bool.or_true _
theorem badS_bad {s : Ls} (h : s.bad = true) (b : Bool) : (badS s b).bad = true := by show (s.bad || b) = true; rw [h]; rfl
theorem tkS_bad {s : Ls} (h : s.bad = true) : (tkS s).bad = true := h
theorem inI_bad {s : Ls} (h : s.bad = true) (i : In) : (inI s i).bad = true := h
theorem mustS_bad {s : Ls} (h : s.bad = true) (x : Bs) : (mustS x s).bad = true := badS_bad (tkS_bad h) _
theorem regS_bad {s : Ls} (h : s.bad = true) : (regS s).bad = true := badS_bad (tkS_bad h) _
theorem sgnS_bad {s : Ls} (h : s.bad = true) : (sgnS s).bad = true := badS_bad (tkS_bad (badS_bad (tkS_bad h) _)) _
theorem LfS.inI {o : Option (List Bs)} {s : Ls} (h : LfS o s) (i : In) : LfS o (inI s i) := by cases o <;> exact h

theorem LfS.must {s : Ls} {L : List Bs} (h : LfS (some L) s) (c : UInt8) : LfS (pOne c L) (mustS [c] s) := by
  unfold mustS
  rw [h.nxe]
  cases L with
  | nil => exact st_true _
  | cons t r =>
    show LfS (if t = [c] then some r else none) (badS (tkS s) (t != [c]))
    by_cases e : t = [c]
    · rw [if_pos e, show (t != [c]) = false by simp [e], badS_no]
      exact h.take
    · rw [if_neg e, show (t != [c]) = true by simpa using e]
      exact st_true _
theorem LfS.reg {s : Ls} {L : List Bs} (h : LfS (some L) s) : LfS ((pReg L).map (·.2)) (regS s) ∧ ∀ p, pReg L = some p → regOf (nx s) = some p.1 := by
  unfold regS
  rw [h.nxe]
  cases L with
  | nil => exact ⟨st_true _, fun p hp => by cases hp⟩
  | cons t r =>
    show LfS (((regOf t).map (·, r)).map (·.2)) (badS (tkS s) !(regOf t).isSome) ∧ ∀ p, (regOf t).map (·, r) = some p → regOf t = some p.1
    cases hr : regOf t with
    | none => exact ⟨st_true _, fun p hp => by cases hp⟩
    | some n => exact ⟨by rw [show (!(some n : Option Int).isSome) = false from rfl, badS_no]; exact h.take, fun p hp => by cases hp; rfl⟩
theorem LfS.num {s : Ls} {L : List Bs} (h : LfS (some L) s) : LfS ((pNum L).map (·.2)) (badS (tkS s) !(numOf (nx s)).isSome) ∧ ∀ p, pNum L = some p → numOf (txt.nx s) = some p.1 := by
  rw [h.nxe]
  cases L with
  | nil => exact ⟨st_true _, fun p hp => by cases hp⟩
  | cons t r =>
    show LfS (((numOf t).map (·, r)).map (·.2)) (badS (tkS s) !(numOf t).isSome) ∧ ∀ p, (numOf t).map (·, r) = some p → numOf t = some p.1
    cases hr : numOf t with
    | none => exact ⟨st_true _, fun p hp => by cases hp⟩
    | some n => exact ⟨by rw [show (!(some n : Option Int).isSome) = false from rfl, badS_no]; exact h.take, fun p hp => by cases hp; rfl⟩
theorem LfS.sgn {s : Ls} {L : List Bs} (h : LfS (some L) s) : LfS ((pSgn L).map (·.2)) (sgnS s) ∧ ∀ p f, pSgn L = some p → (∀ m, numOf (nx (tkS s)) = some m → f = negI (txt.nx s == [45]) m) → f = p.1 := by
  unfold sgnS
  rw [h.nxe]
  cases L with
  | nil => exact ⟨badS_bad (tkS_bad (st_true _)) _, fun p f hp => by cases hp⟩
  | cons t r =>
    have hn := h.take.num
    show LfS ((if t = [43] then pNum r else if t = [45] then (pNum r).map fun p => (-p.1, p.2) else none).map (·.2)) (badS (tkS (badS (tkS s) (t != [43] && t != [45]))) !(numOf (txt.nx (tkS s))).isSome) ∧ ∀ p f, (if t = [43] then pNum r else if t = [45] then (pNum r).map fun p => (-p.1, p.2) else none) = some p → (∀ m, numOf (txt.nx (tkS s)) = some m → f = negI (t == [45]) m) → f = p.1
    by_cases e1 : t = [43]
    · subst e1
      rw [if_pos rfl, show (([43] : Bs) != [43] && ([43] : Bs) != [45]) = false from rfl, badS_no]
      exact ⟨hn.1, fun p f hp hf => hf _ (hn.2 p hp)⟩
    · by_cases e2 : t = [45]
      · subst e2
        rw [if_neg e1, if_pos rfl, show (([45] : Bs) != [43] && ([45] : Bs) != [45]) = false from rfl, badS_no]
        cases hp : pNum r with
        | none => rw [hp] at hn; exact ⟨hn.1, fun p f h => by cases h⟩
        | some q => rw [hp] at hn; exact ⟨hn.1, fun p f h hf => by cases h; exact hf _ (hn.2 q rfl)⟩
      · rw [if_neg e1, if_neg e2, show (t != [43] && t != [45]) = true by simp [e1, e2]]
        exact ⟨badS_bad (tkS_bad (st_true _)) _, fun p f h => by cases h⟩
theorem hasR_num {t : Bs} (h : hasR t = true) : numOf t = none := by
  unfold hasR at h
  simp only [decide_eq_true_eq] at h
  unfold numOf
  rw [if_neg]
  rintro ⟨_, _, _, h4⟩
  cases t with
  | nil => cases h
  | cons c r =>
    simp only [List.head?_cons, Option.some.injEq] at h
    subst h
    simp [dig] at h4
theorem hasR_noreg {t : Bs} (h : hasR t = false) : regOf t = none := by unfold regOf; rw [h]; rfl
theorem hasR_dash : hasR [45] = false := by decide
theorem Sec.st {s s' : Ls} {L : List Bs} (hs : Sec s s') (h : LfS (some L) s) : LfS ((pSec s.i L).map (·.2)) s' ∧ ∀ p, pSec s.i L = some p → s'.i = p.1 := by
  have hreg := h.reg
  have hnum := h.num
  rcases hs with ⟨n, h1, rfl⟩ | ⟨h0, h1, n, hf, rfl⟩ | ⟨h0, h1, n, hf, rfl⟩
  · rw [h.nxe] at h1
    have hr : hasR (hd L) = true := by
      cases hq : hasR (hd L) with
      | true => rfl
      | false => rw [hasR_noreg hq] at h1; cases h1
    unfold pSec
    rw [if_pos hr]
    cases L with
    | nil => cases h1
    | cons t r =>
      have h1' : regOf t = some n := h1
      have e : pReg (t :: r) = some (n, r) := by show (regOf t).map (·, r) = _; rw [h1']; rfl
      rw [e]
      exact ⟨h.take.inI _, fun p hp => by cases hp; rfl⟩
  · have hd1 : hd L = [45] := h.nxe.symm.trans h1
    cases L with
    | nil => cases hd1
    | cons t r =>
      obtain rfl : t = [45] := hd1
      have e : pSec s.i ([45] :: r) = ((pNum r).map fun p => (-p.1, p.2)).map fun p => ({ s.i with use := true, imm := p.1 }, p.2) := by
        unfold pSec
        rw [if_neg (by rw [show hd ([45] :: r) = [45] from rfl, hasR_dash]; decide), if_pos (show hd ([45] :: r) = [45] from rfl)]
        rfl
      rw [e]
      have hn := h.take.num
      cases hp : pNum r with
      | none => rw [hp] at hn; exact ⟨hn.1, fun p h => by cases h⟩
      | some q => rw [hp] at hn; exact ⟨hn.1, fun p h => by cases h; show ({ s.i with use := true, imm := n } : In) = _; rw [hf _ (hn.2 q rfl)]⟩
  · rw [h.nxe] at h0 h1 hf
    unfold pSec
    cases hr : hasR (hd L) with
    | true =>
      rw [if_pos rfl]
      have e : pReg L = none := by
        cases L with
        | nil => rfl
        | cons t r => show (regOf t).map (·, r) = none; rw [show regOf t = none from h0]; rfl
      rw [e]
      refine ⟨?_, fun p h => by cases h⟩
      rw [h.nxe, hasR_num hr]
      exact st_true _
    | false =>
      rw [if_neg (by decide), if_neg h1]
      cases hp : pNum L with
      | none => rw [hp] at hnum; exact ⟨hnum.1, fun p h => by cases h⟩
      | some q =>
        rw [hp] at hnum
        refine ⟨hnum.1, fun p hq => ?_⟩
        cases hq
        have := hnum.2 q rfl
        rw [h.nxe] at this
        show ({ s.i with use := true, imm := n } : In) = _
        rw [hf _ this]
theorem Sec.stick {s s' : Ls} (hs : Sec s s') (h : s.bad = true) : s'.bad = true := by
  rcases hs with ⟨n, _, rfl⟩ | ⟨_, _, n, _, rfl⟩ | ⟨_, _, n, _, rfl⟩
  · exact h
  · exact badS_bad (tkS_bad (tkS_bad h)) _
  · exact badS_bad (tkS_bad h) _
theorem ToR.stick {s s' : Ls} {u : Bs} (hs : ToR s u s') (h : s.bad = true) : s'.bad = true := by
  rcases hs with ⟨_, _, rfl⟩ | ⟨_, _, f, _, rfl⟩
  · exact h
  · exact sgnS_bad h
theorem CelR.stick {s s' : Ls} {n : Int} (hs : CelR s n s') (h : s.bad = true) : s'.bad = true := by
  obtain ⟨f, _, _, rfl⟩ := hs
  refine mustS_bad (inI_bad ?_ _) _
  exact badS_bad (tkS_bad (badS_bad (tkS_bad (badS_bad (tkS_bad (mustS_bad h _)) _)) _)) _
theorem ToR.st {s s' : Ls} {u : Bs} {L : List Bs} (hs : ToR s u s') (h : LfS (some L) s) : LfS ((pTo s.i L).map (·.2.2)) s' ∧ ∀ p, pTo s.i L = some p → s'.i = p.1 ∧ u = p.2.1 := by
  have hsg := h.sgn
  rcases hs with ⟨h1, rfl, rfl⟩ | ⟨h1, rfl, f, hf, rfl⟩
  · rw [h.nxe] at h1
    cases L with
    | nil => cases h1
    | cons t r =>
      have h1' : isLab t = true := h1
      have e : pTo s.i (t :: r) = some (s.i, t, r) := by
        show (if t = [43] ∨ t = [45] then _ else if isLab t then some (s.i, t, r) else none) = _
        rw [if_neg, if_pos h1']
        rintro (e | e) <;> (subst e; exact absurd h1' (by decide))
      rw [e, h.nxe]
      exact ⟨h.take, fun p hp => by cases hp; exact ⟨rfl, rfl⟩⟩
  · rw [h.nxe] at h1
    by_cases e : hd L = [43] ∨ hd L = [45]
    · have e1 : pTo s.i L = (pSgn L).map fun p => ({ s.i with off := p.1 }, [], p.2) := by unfold pTo; rw [if_pos e]
      rw [e1]
      cases hp : pSgn L with
      | none => rw [hp] at hsg; exact ⟨hsg.1, fun p h => by cases h⟩
      | some q => rw [hp] at hsg; exact ⟨hsg.1, fun p h => by cases h; exact ⟨by show ({ s.i with off := f } : In) = _; rw [hsg.2 q f rfl hf], rfl⟩⟩
    · have e2 : pTo s.i L = none := by
        unfold pTo
        rw [if_neg e]
        cases L with
        | nil => rfl
        | cons t r => show (if isLab t = true then _ else none) = _; rw [if_neg (by rw [show isLab t = false from h1]; decide)]
      rw [e2]
      refine ⟨?_, fun p h => by cases h⟩
      have e3 : pSgn L = none := by
        cases L with
        | nil => rfl
        | cons t r =>
          show (if t = [43] then _ else if t = [45] then _ else none) = none
          rw [if_neg (show ¬ t = [43] from fun e' => e (.inl e')), if_neg (show ¬ t = [45] from fun e' => e (.inr e'))]
      rw [e3] at hsg
      exact hsg.1
theorem CelR.st {s s' : Ls} {n : Int} {L : List Bs} (hs : CelR s n s') (h : LfS (some L) s) : LfS ((pCell L).map (·.2.2)) s' ∧ ∀ p, pCell L = some p → n = p.1 ∧ s'.i = { s.i with off := p.2.1 } := by
  obtain ⟨f, hn, hf, rfl⟩ := hs
  unfold pCell
  have h1 := h.must 91
  have hst : ∀ {x : Ls}, x.bad = true → (mustS [93] (inI x { s.i with off := f })).bad = true := fun hx => mustS_bad (inI_bad hx _) _
  change (∀ m, regOf (nx (mustS [91] s)) = some m → n = m) at hn
  change (∀ m, numOf (nx (tkS (regS (mustS [91] s)))) = some m → f = negI (nx (regS (mustS [91] s)) == [45]) m) at hf
  change LfS _ (mustS [93] (inI (sgnS (regS (mustS [91] s))) { s.i with off := f })) ∧ _
  cases e1 : pOne 91 L with
  | none =>
    rw [e1] at h1
    exact ⟨hst (sgnS_bad (regS_bad h1)), fun p h => by cases h⟩
  | some a =>
    rw [e1] at h1
    have h2 := h1.reg
    simp only [Option.bind_some]
    cases e2 : pReg a with
    | none =>
      rw [e2] at h2
      exact ⟨hst (sgnS_bad h2.1), fun p h => by cases h⟩
    | some b =>
      rw [e2] at h2
      have h2' : LfS (some b.2) (regS (mustS [91] s)) := h2.1
      have h3 := h2'.sgn
      simp only [Option.bind_some]
      cases e3 : pSgn b.2 with
      | none =>
        rw [e3] at h3
        exact ⟨hst h3.1, fun p h => by cases h⟩
      | some c =>
        rw [e3] at h3
        have h3' : LfS (some c.2) (sgnS (regS (mustS [91] s))) := h3.1
        have h4 := (h3'.inI { s.i with off := f }).must 93
        simp only [Option.bind_some]
        cases e4 : pOne 93 c.2 with
        | none => rw [e4] at h4; exact ⟨h4, fun p h => by cases h⟩
        | some d =>
          rw [e4] at h4
          refine ⟨h4, fun p hp => ?_⟩
          cases hp
          exact ⟨hn _ (h2.2 b rfl), by show ({ s.i with off := f } : In) = _; rw [h3.2 c f rfl hf]⟩
end Go.Proofs.YtddojdgnakajmaaGreatDoor.txt
