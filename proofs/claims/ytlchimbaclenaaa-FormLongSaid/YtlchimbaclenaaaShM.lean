/-
  A filter's form as mathematics: the questions, one behind the other, and the first fault.
-/
import Derived.Test.YtlchimbaclenaaaInsM
namespace Go.Proofs.Ytlchimbaclenaaa.sh
open Go.Proofs.Ytlchimbaclenaaa.ins
set_option linter.unusedVariables false

def ig (l : List In) (k : Nat) : In := l.getD k ⟨0, false, 0, 0, false, 0, 0, 0⟩
theorem ig_at {l : List In} {k : Nat} (h : k < l.length) : ig l k = l[k] := by simp [ig, List.getD, List.getElem?_eq_getElem h]
theorem ig_left {l m : List In} {k : Nat} (h : k < l.length) : ig (l ++ m) k = ig l k := by simp [ig, List.getD, List.getElem?_append_left h]
theorem ig_last (l : List In) (x : In) : ig (l ++ [x]) l.length = x := by simp [ig, List.getD]
theorem ig_take {l : List In} {k a : Nat} (h : k < a) : ig (l.take a) k = ig l k := by simp [ig, List.getD, List.getElem?_take, h]

def qR (l : List In) (k : Nat) : Int := if ok (ig l k) then 0 else 4
def fore (n k : Int) (i : In) : Int := if jumps i then (if i.off < 0 then 100 else if k + 1 + i.off < n then 0 else 101) else 0
def qF (l : List In) (k : Nat) : Int := fore l.length k (ig l k)
def ende (n k : Int) (i : In) : Int := if k + 1 = n ∧ i.op ≠ 28 ∧ i.op ≠ 16 then 102 else 0
def qE (l : List In) (k : Nat) : Int := ende l.length k (ig l k)
/-- Is j come to, from the first m places? -/
def cmb (l : List In) (m j : Nat) : Bool := decide (j = 0) || (List.range m).any fun k => decide ((j : Int) ∈ nx l (k : Int))
def qD (l : List In) (k : Nat) : Int := if cmb l k k then 0 else 103

/-- The first place, of n from a on, with a fault. -/
def fst (q : Nat → Int) : Nat → Nat → Option Nat
  | 0, _ => none
  | n + 1, a => if q a = 0 then fst q n (a + 1) else some a
theorem fst_none (q : Nat → Int) : ∀ (n a : Nat), fst q n a = none ↔ ∀ k, a ≤ k → k < a + n → q k = 0
  | 0, a => by simp [fst]; intro k h h'; omega
  | n + 1, a => by
    rw [fst]
    by_cases h : q a = 0
    · rw [if_pos h, fst_none q n (a + 1)]
      exact ⟨fun H k h1 h2 => by by_cases e : k = a; (· rw [e]; exact h); exact H k (by omega) (by omega), fun H k h1 h2 => H k (by omega) (by omega)⟩
    · rw [if_neg h]
      simp only [reduceCtorEq, false_iff]
      exact fun H => h (H a (Nat.le_refl _) (by omega))
theorem fst_some (q : Nat → Int) : ∀ (n a k : Nat), fst q n a = some k ↔ a ≤ k ∧ k < a + n ∧ q k ≠ 0 ∧ ∀ j, a ≤ j → j < k → q j = 0
  | 0, a, k => by simp [fst]; intro h h'; omega
  | n + 1, a, k => by
    rw [fst]
    by_cases h : q a = 0
    · rw [if_pos h, fst_some q n (a + 1) k]
      constructor
      · rintro ⟨h1, h2, h3, h4⟩
        exact ⟨by omega, by omega, h3, fun j h5 h6 => by by_cases e : j = a; (· rw [e]; exact h); exact h4 j (by omega) h6⟩
      · rintro ⟨h1, h2, h3, h4⟩
        have : k ≠ a := fun e => h3 (e ▸ h)
        exact ⟨by omega, by omega, h3, fun j h5 h6 => h4 j (by omega) h6⟩
    · rw [if_neg h]
      simp only [Option.some.injEq]
      constructor
      · rintro rfl
        exact ⟨Nat.le_refl _, by omega, h, fun j h1 h2 => by omega⟩
      · rintro ⟨h1, h2, h3, h4⟩
        by_cases e : a = k
        · exact e
        · exact absurd (h4 a (Nat.le_refl _) (by omega)) h

def askM (n : Nat) : List (Nat → Int) → Int × Nat
  | [] => (0, 0)
  | q :: qs => match fst q n 0 with
    | some k => (q k, k)
    | none => askM n qs
theorem askM_some {n k : Nat} {q : Nat → Int} {qs : List (Nat → Int)} (h1 : k < n) (h2 : q k ≠ 0) (h3 : ∀ j, j < k → q j = 0) : askM n (q :: qs) = (q k, k) := by
  have : fst q n 0 = some k := (fst_some q n 0 k).2 ⟨by omega, by omega, h2, fun j _ h => h3 j h⟩
  simp only [askM, this]
theorem askM_none {n : Nat} {q : Nat → Int} {qs : List (Nat → Int)} (h : ∀ k, k < n → q k = 0) : askM n (q :: qs) = askM n qs := by
  have : fst q n 0 = none := (fst_none q n 0).2 (fun k _ h' => h k (by omega))
  simp only [askM, this]
theorem askM_cases (n : Nat) (q : Nat → Int) (qs : List (Nat → Int)) : (∃ k, k < n ∧ q k ≠ 0 ∧ (∀ j, j < k → q j = 0) ∧ askM n (q :: qs) = (q k, k)) ∨ ((∀ k, k < n → q k = 0) ∧ askM n (q :: qs) = askM n qs) := by
  rcases e : fst q n 0 with _ | k
  · have h := (fst_none q n 0).1 e
    have h' : ∀ k, k < n → q k = 0 := fun k hk => h k (by omega) (by omega)
    exact .inr ⟨h', askM_none h'⟩
  · obtain ⟨h1, h2, h3, h4⟩ := (fst_some q n 0 k).1 e
    exact .inl ⟨k, by omega, h3, fun j h => h4 j (by omega) h, askM_some (by omega) h3 fun j h => h4 j (by omega) h⟩

/-- The first fault. -/
def chk (l : List In) : Int × Nat :=
  if l.length = 0 then (6, 0) else if 4096 < l.length then (3, 0) else askM l.length [qR l, qF l, qE l, qD l]

structure Well (l : List In) : Prop where
  n0 : 0 < l.length
  n1 : l.length ≤ 4096
  right : ∀ k, k < l.length → ok (ig l k) = true
  fore : ∀ k, k < l.length → qF l k = 0
  ends : ∀ k, k < l.length → qE l k = 0
  come : ∀ k, k < l.length → cmb l k k = true

theorem qR_0 {l : List In} {k : Nat} : qR l k = 0 ↔ ok (ig l k) = true := by
  unfold qR
  cases ok (ig l k) <;> simp
theorem qD_0 {l : List In} {k : Nat} : qD l k = 0 ↔ cmb l k k = true := by
  unfold qD
  cases cmb l k k <;> simp
theorem chk_well {l : List In} (h : Well l) : chk l = (0, 0) := by
  unfold chk
  rw [if_neg (by have := h.n0; omega), if_neg (by have := h.n1; omega), askM_none (fun k hk => qR_0.2 (h.right k hk)), askM_none h.fore, askM_none h.ends, askM_none (fun k hk => qD_0.2 (h.come k hk))]
  rfl
theorem chk_0 {l : List In} (h : (chk l).1 = 0) : Well l := by
  unfold chk at h
  by_cases h0 : l.length = 0
  · rw [if_pos h0] at h; simp at h
  rw [if_neg h0] at h
  by_cases h1 : 4096 < l.length
  · rw [if_pos h1] at h; simp at h
  rw [if_neg h1] at h
  rcases askM_cases l.length (qR l) [qF l, qE l, qD l] with ⟨k, -, hk, -, e⟩ | ⟨a1, e⟩
  · rw [e] at h; exact absurd h hk
  rw [e] at h
  rcases askM_cases l.length (qF l) [qE l, qD l] with ⟨k, -, hk, -, e⟩ | ⟨a2, e⟩
  · rw [e] at h; exact absurd h hk
  rw [e] at h
  rcases askM_cases l.length (qE l) [qD l] with ⟨k, -, hk, -, e⟩ | ⟨a3, e⟩
  · rw [e] at h; exact absurd h hk
  rw [e] at h
  rcases askM_cases l.length (qD l) [] with ⟨k, -, hk, -, e⟩ | ⟨a4, e⟩
  · rw [e] at h; exact absurd h hk
  exact ⟨by omega, by omega, fun k hk => qR_0.1 (a1 k hk), a2, a3, fun k hk => qD_0.1 (a4 k hk)⟩
theorem chk_0' {l : List In} (h : (chk l).1 = 0) : chk l = (0, 0) := chk_well (chk_0 h)

/-! ### what may come behind -/
theorem nx_eq {l : List In} {k : Nat} (h : k < l.length) : nx l (k : Int) = if ok (ig l k) then (if (ig l k).op = 28 then [] else if (ig l k).op = 16 then [(k : Int) + 1 + (ig l k).off] else if ins.cond (ig l k) = true ∧ (ig l k).off < 0 then [(k : Int) + 1 + (ig l k).off, (k : Int) + 1] else if ins.cond (ig l k) = true ∧ 0 < (ig l k).off then [(k : Int) + 1, (k : Int) + 1 + (ig l k).off] else [(k : Int) + 1]) else [] := by
  rw [ig_at h]
  unfold nx
  rw [if_pos ⟨by omega, by omega⟩, Int.toNat_natCast, List.getElem?_eq_getElem h]
theorem nx_alike {l m : List In} {k : Nat} (h : k < l.length) (h' : k < m.length) (e : ig l k = ig m k) : nx l (k : Int) = nx m (k : Int) := by
  rw [nx_eq h, nx_eq h', e]

theorem fore_0 {n k : Int} {i : In} (h : fore n k i = 0) (hj : jumps i = true) : 0 ≤ i.off ∧ k + 1 + i.off < n := by
  unfold fore at h
  rw [if_pos hj] at h
  split at h
  · cases h
  · split at h
    · omega
    · cases h
theorem ende_0 {n k : Int} {i : In} (h : ende n k i = 0) (h28 : i.op ≠ 28) (h16 : i.op ≠ 16) : k + 1 ≠ n := by
  intro e
  unfold ende at h
  rw [if_pos ⟨e, h28, h16⟩] at h
  cases h
/-- No step goes back, or out, where the first three questions have found nothing. -/
theorem nx_in {l : List In} (hF : ∀ k, k < l.length → qF l k = 0) (hE : ∀ k, k < l.length → qE l k = 0) {k : Nat} (h : k < l.length) {j : Int} (hj : j ∈ nx l (k : Int)) : (k : Int) < j ∧ j < l.length := by
  rw [nx_eq h] at hj
  have f := fore_0 (hF k h)
  have e := ende_0 (hE k h)
  generalize ig l k = i at *
  split at hj
  · split at hj
    · simp at hj
    · split at hj
      · rename_i h16
        have hjj : jumps i = true := by simp [jumps]; omega
        have := f hjj
        simp at hj
        omega
      · split at hj
        · rename_i hc
          have hjj : jumps i = true := by have := hc.1; simp [ins.cond] at this; simp [jumps]; omega
          have := f hjj
          omega
        · split at hj
          · rename_i hc
            have hjj : jumps i = true := by have := hc.1; simp [ins.cond] at this; simp [jumps]; omega
            have := f hjj
            simp at hj
            rcases hj with rfl | rfl <;> omega
          · simp at hj
            rename_i h28 h16 _ _
            have := e h28 h16
            omega
  · simp at hj
theorem Well.nx {l : List In} (hw : Well l) {k : Nat} (h : k < l.length) {j : Int} (hj : j ∈ nx l (k : Int)) : (k : Int) < j ∧ j < l.length := nx_in hw.fore hw.ends h hj
theorem Well.nx_some {l : List In} (hw : Well l) {k : Nat} (h : k < l.length) (h28 : (ig l k).op ≠ 28) : ins.nx l (k : Int) ≠ [] := by
  rw [nx_eq h, if_pos (hw.right k h), if_neg h28]
  split
  · simp
  · split
    · simp
    · split <;> simp

/-! ### cut off, made longer -/
theorem cmb_iff {l : List In} {m j : Nat} : cmb l m j = true ↔ j = 0 ∨ ∃ k, k < m ∧ (j : Int) ∈ nx l (k : Int) := by
  simp [cmb]
theorem chk_more {l : List In} (hw : Well l) (h : l.length < 4096) (x : In) (hx : x = ⟨28, false, 0, 0, false, 0, 0, 0⟩) : chk (l ++ [x]) = (103, l.length) := by
  have hlen : (l ++ [x]).length = l.length + 1 := by simp
  have hn0 := hw.n0
  have hnx : ∀ k, k < l.length → nx (l ++ [x]) (k : Int) = nx l (k : Int) := fun k hk => nx_alike (by omega) hk (ig_left hk)
  unfold chk
  rw [if_neg (by omega), if_neg (by omega), hlen]
  rw [askM_none (fun k hk => ?_), askM_none (fun k hk => ?_), askM_none (fun k hk => ?_), askM_some (k := l.length) (by omega) ?_ (fun k hk => ?_)]
  · unfold qD
    rw [if_neg]
    rw [cmb_iff]
    rintro (h0 | ⟨k, hk, hm⟩)
    · omega
    · rw [hnx k hk] at hm
      have := hw.nx hk hm
      omega
  · intro h0
    rw [qD_0, cmb_iff] at h0
    rcases h0 with h0 | ⟨k, hk, hm⟩
    · omega
    · rw [hnx k hk] at hm
      have := hw.nx hk hm
      omega
  · rw [qD_0, cmb_iff]
    rcases cmb_iff.1 (hw.come k hk) with h0 | ⟨j, hj, hm⟩
    · exact .inl h0
    · exact .inr ⟨j, hj, by rw [hnx j (by omega)]; exact hm⟩
  · by_cases e : k = l.length
    · subst e
      unfold qE ende
      rw [ig_last, hx, if_neg (by simp)]
    · have := hw.ends k (by omega)
      unfold qE ende at *
      rw [if_neg (by omega)]
  · by_cases e : k = l.length
    · subst e
      unfold qF
      rw [ig_last, hx]
      rfl
    · have hk' : k < l.length := by omega
      have := fore_0 (hw.fore k hk')
      unfold qF fore
      rw [ig_left hk', hlen]
      by_cases hj : jumps (ig l k) = true
      · have := this hj
        rw [if_pos hj, if_neg (by omega), if_pos (by omega)]
      · rw [if_neg hj]
  · rw [qR_0]
    by_cases e : k = l.length
    · subst e
      rw [ig_last, hx]
      rfl
    · rw [ig_left (by omega)]
      exact hw.right k (by omega)

theorem chk_cut {l : List In} (hw : Well l) {a : Nat} (h1 : 1 ≤ a) (h2 : a < l.length) :
    ((chk (l.take a)).1 = 0 ∧ ((ig l (a - 1)).op = 28 ∨ (ig l (a - 1)).op = 16)) ∨ (((chk (l.take a)).1 = 101 ∨ (chk (l.take a)).1 = 102 ∨ (chk (l.take a)).1 = 103) ∧ (chk (l.take a)).2 < a) := by
  have hlen : (l.take a).length = a := by rw [List.length_take]; omega
  have h4 := hw.n1
  have hq1 : ∀ k, k < a → qR (l.take a) k = 0 := fun k hk => by rw [qR_0, ig_take hk]; exact hw.right k (by omega)
  unfold chk
  rw [if_neg (by omega), if_neg (by omega), hlen, askM_none hq1]
  rcases askM_cases a (qF (l.take a)) [qE (l.take a), qD (l.take a)] with ⟨k, hk, hne, -, e⟩ | ⟨a2, e⟩
  · rw [e]
    right
    refine ⟨.inl ?_, hk⟩
    have hf := fore_0 (hw.fore k (by omega))
    show qF (l.take a) k = 101
    unfold qF fore at hne ⊢
    rw [ig_take hk, hlen] at *
    by_cases hj : jumps (ig l k) = true
    · have := hf hj
      rw [if_pos hj, if_neg (by omega)] at hne ⊢
      split
      · rename_i h3; rw [if_pos h3] at hne; simp at hne
      · rfl
    · rw [if_neg hj] at hne; simp at hne
  · rw [e]
    rcases askM_cases a (qE (l.take a)) [qD (l.take a)] with ⟨k, hk, hne, -, e⟩ | ⟨a3, e⟩
    · rw [e]
      right
      refine ⟨.inr (.inl ?_), hk⟩
      show qE (l.take a) k = 102
      unfold qE ende at hne ⊢
      split
      · rfl
      · rename_i h3; rw [if_neg h3] at hne; simp at hne
    · rw [e]
      rcases askM_cases a (qD (l.take a)) [] with ⟨k, hk, hne, -, e⟩ | ⟨a4, e⟩
      · rw [e]
        right
        refine ⟨.inr (.inr ?_), hk⟩
        show qD (l.take a) k = 103
        unfold qD at hne ⊢
        split
        · rename_i h3; rw [if_pos h3] at hne; simp at hne
        · rfl
      · rw [e]
        left
        refine ⟨rfl, ?_⟩
        have h5 := a3 (a - 1) (by omega)
        by_cases h28 : (ig l (a - 1)).op = 28
        · exact .inl h28
        · by_cases h16 : (ig l (a - 1)).op = 16
          · exact .inr h16
          · unfold qE at h5
            rw [ig_take (by omega), hlen] at h5
            have := ende_0 h5 h28 h16
            omega

/-! ### as many as may be -/
def movI (k : Int) : In := ⟨12, false, 0, 0, true, 0, k, 0⟩
def longL (m : Nat) : List In := (List.range m).map fun (k : Nat) => movI (k : Int)
theorem longL_length (m : Nat) : (longL m).length = m := by simp [longL]
theorem longL_succ (m : Nat) : longL (m + 1) = longL m ++ [movI (m : Int)] := by simp [longL, List.range_succ]
/-- A first jump, behind it numbers, an end. -/
def longJ (m : Nat) (off : Int) : List In := (longL m ++ [(⟨28, false, 0, 0, false, 0, 0, 0⟩ : In)]).set 0 (⟨17, false, 0, 0, false, off, 0, 0⟩ : In)
theorem longJ_length (m : Nat) (off : Int) : (longJ m off).length = m + 1 := by simp [longJ, longL_length]
theorem longJ_0 (m : Nat) (off : Int) : ig (longJ m off) 0 = ⟨17, false, 0, 0, false, off, 0, 0⟩ := by
  rw [ig_at (by rw [longJ_length]; omega)]
  simp [longJ]
theorem longJ_k {m k : Nat} (off : Int) (h0 : 0 < k) (h : k < m) : ig (longJ m off) k = movI (k : Int) := by
  rw [ig_at (by rw [longJ_length]; omega)]
  unfold longJ
  rw [List.getElem_set_ne (by omega), List.getElem_append_left (by rw [longL_length]; exact h)]
  simp [longL]
theorem longJ_m {m : Nat} (off : Int) (h0 : 0 < m) : ig (longJ m off) m = ⟨28, false, 0, 0, false, 0, 0, 0⟩ := by
  rw [ig_at (by rw [longJ_length]; omega)]
  unfold longJ
  rw [List.getElem_set_ne (by omega), List.getElem_append_right (by rw [longL_length]; exact Nat.le_refl _)]
  simp [longL_length]

theorem ok_mov {k : Nat} (h : k < 5000) : ok (movI (k : Int)) = true := by
  have e : fits (k : Int) = true := by simp [fits]; omega
  show (tgt 0 && (sec true 0 (k : Int) && (decide ((0 : Int) = 0) && decide ((0 : Int) = 0)))) = true
  simp [sec, e, tgt]
theorem ok_jeq {off : Int} (h0 : 0 ≤ off) (h1 : off ≤ 5000) : ok ⟨17, false, 0, 0, false, off, 0, 0⟩ = true := by
  have e : far off = true := by simp [far]; omega
  show (reg 0 && (far off && (sec false 0 0 && decide ((0 : Int) = 0)))) = true
  rw [e]
  rfl

theorem chk_long {m : Nat} {off : Int} (hm : 2 ≤ m) (hm2 : m ≤ 4998) (h0 : 0 ≤ off) (h1 : off ≤ 5000) :
    chk (longJ m off) = if 4096 < m + 1 then (3, 0) else if (m : Int) + 1 ≤ off + 1 then (101, 0) else (0, 0) := by
  have hlen := longJ_length m off
  by_cases hb : 4096 < m + 1
  · rw [if_pos hb]
    unfold chk
    rw [if_neg (by omega), if_pos (by omega)]
  · rw [if_neg hb]
    have hR : ∀ k, k < (longJ m off).length → ok (ig (longJ m off) k) = true := fun k hk => by
      by_cases e0 : k = 0
      · subst e0; rw [longJ_0]; exact ok_jeq h0 h1
      · by_cases em : k = m
        · subst em; rw [longJ_m off (by omega)]; rfl
        · rw [longJ_k off (by omega) (by omega)]; exact ok_mov (by omega)
    have hFk : ∀ k, 0 < k → k < (longJ m off).length → qF (longJ m off) k = 0 := fun k h0 hk => by
      unfold qF
      by_cases em : k = m
      · subst em; rw [longJ_m off (by omega)]; rfl
      · rw [longJ_k off (by omega) (by omega)]; rfl
    have hF0 : qF (longJ m off) 0 = if 1 + off < (m : Int) + 1 then 0 else 101 := by
      unfold qF
      rw [longJ_0, hlen]
      show (if off < 0 then (100 : Int) else if ((0 : Nat) : Int) + 1 + off < ((m + 1 : Nat) : Int) then 0 else 101) = _
      rw [if_neg (by omega)]
      congr 1
    by_cases hf : (m : Int) + 1 ≤ off + 1
    · rw [if_pos hf]
      unfold chk
      rw [if_neg (by omega), if_neg (by omega), askM_none (fun k hk => qR_0.2 (hR k hk)), askM_some (k := 0) (by omega) (by rw [hF0, if_neg (by omega)]; decide) (fun j hj => by omega), hF0, if_neg (by omega)]
    · rw [if_neg hf]
      have hF : ∀ k, k < (longJ m off).length → qF (longJ m off) k = 0 := fun k hk => by
        by_cases e0 : k = 0
        · subst e0; rw [hF0, if_pos (by omega)]
        · exact hFk k (by omega) hk
      have hnx : ∀ k, k < m → ((k : Int) + 1) ∈ nx (longJ m off) (k : Int) := fun k hk => by
        rw [nx_eq (by omega), if_pos (hR k (by omega))]
        by_cases e0 : k = 0
        · subst e0
          rw [longJ_0]
          show _ ∈ (if (17 : Int) = 28 then [] else if (17 : Int) = 16 then _ else if ins.cond _ = true ∧ off < 0 then _ else if ins.cond _ = true ∧ 0 < off then [((0 : Nat) : Int) + 1, ((0 : Nat) : Int) + 1 + off] else [((0 : Nat) : Int) + 1])
          rw [if_neg (by decide), if_neg (by decide), if_neg (by omega)]
          split <;> simp
        · rw [longJ_k off (by omega) hk]
          simp [movI, ins.cond]
      exact chk_well ⟨by omega, by omega, hR, hF, fun k hk => by
        unfold qE ende
        rw [hlen]
        by_cases em : k = m
        · subst em; rw [longJ_m off (by omega), if_neg (by simp)]
        · rw [if_neg (by omega)], fun k hk => by
        rw [cmb_iff]
        by_cases e0 : k = 0
        · exact .inl e0
        · refine .inr ⟨k - 1, by omega, ?_⟩
          have := hnx (k - 1) (by omega)
          rwa [show ((k - 1 : Nat) : Int) + 1 = (k : Int) by omega] at this⟩
end Go.Proofs.Ytlchimbaclenaaa.sh
