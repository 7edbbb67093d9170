/-
  A frame's bytes, and what is scanned of any bytes, as mathematics.
-/
import Derived.Test.YtlbbhheaginddaaCrc
namespace Go.Proofs.Ytlbbhheaginddaa.crc
set_option linter.unusedVariables false

/-- A word's four bytes, the highest first; a word out of four bytes. -/
def be4 (n : Nat) : List UInt8 := [UInt8.ofNat (n / 16777216), UInt8.ofNat (n / 65536), UInt8.ofNat (n / 256), UInt8.ofNat n]
def nat4 (l : List UInt8) : Nat := ((l.getD 0 0).toNat * 16777216 + (l.getD 1 0).toNat * 65536) + ((l.getD 2 0).toNat * 256 + (l.getD 3 0).toNat)
theorem be4_length (n : Nat) : (be4 n).length = 4 := rfl
theorem nat4_be4 (n : Nat) (h : n < 4294967296) (r : List UInt8) : nat4 (be4 n ++ r) = n := by
  unfold nat4 be4
  simp only [List.cons_append, List.nil_append, List.getD_cons_zero, List.getD_cons_succ, UInt8.toNat_ofNat']
  omega
theorem nat4_lt (l : List UInt8) : nat4 l < 4294967296 := by
  unfold nat4
  have h0 := (l.getD 0 0).toNat_lt
  have h1 := (l.getD 1 0).toNat_lt
  have h2 := (l.getD 2 0).toNat_lt
  have h3 := (l.getD 3 0).toNat_lt
  omega
theorem u8_of (b : UInt8) (n : Nat) (h : n % 256 = b.toNat) : UInt8.ofNat n = b := by
  apply UInt8.toNat_inj.1
  rw [UInt8.toNat_ofNat', show 2 ^ 8 = 256 from rfl, h]
theorem be4_nat4 (l : List UInt8) (h : 4 ≤ l.length) : be4 (nat4 l) = l.take 4 := by
  match l, h with
  | a :: b :: c :: d :: r, _ =>
    unfold nat4 be4
    simp only [List.getD_cons_zero, List.getD_cons_succ, List.take_succ_cons, List.take_zero]
    have h0 := a.toNat_lt
    have h1 := b.toNat_lt
    have h2 := c.toNat_lt
    have h3 := d.toNat_lt
    rw [u8_of a _ (by omega), u8_of b _ (by omega), u8_of c _ (by omega), u8_of d _ (by omega)]

/-- What is told of bytes that begin with nine: the length, Data, Kind, what stands behind. -/
def lenF (l : List UInt8) : Nat := nat4 (l.drop 1)
def datF (l : List UInt8) : List UInt8 := (l.drop 9).take (lenF l)
def kdF (l : List UInt8) : UInt8 := l.getD 0 0
def nxtF (l : List UInt8) : List UInt8 := l.drop (9 + lenF l)
/-- What is left: 0 begun, 1 whole, 2 wrong. -/
def st (l : List UInt8) : Nat :=
  if l.length < 9 then 0 else if 262144 < lenF l then 2 else if l.length - 9 < lenF l then 0 else if crc (l.take 5 ++ datF l) = nat4 (l.drop 5) then 1 else 2

abbrev Fr := UInt8 × List UInt8
def head5 (f : Fr) : List UInt8 := f.1 :: be4 f.2.length
/-- A frame's bytes. -/
def head9 (f : Fr) : List UInt8 := head5 f ++ be4 (crc (head5 f ++ f.2))
def fb (f : Fr) : List UInt8 := head9 f ++ f.2
def fbs (l : List Fr) : List UInt8 := (l.map fb).flatten
theorem head5_length (f : Fr) : (head5 f).length = 5 := rfl
theorem head9_length (f : Fr) : (head9 f).length = 9 := rfl
theorem fb_length (f : Fr) : (fb f).length = 9 + f.2.length := by simp [fb, head9_length]
theorem fbs_nil : fbs [] = [] := rfl
theorem fbs_cons (f : Fr) (l : List Fr) : fbs (f :: l) = fb f ++ fbs l := by simp [fbs]
theorem fbs_append (a b : List Fr) : fbs (a ++ b) = fbs a ++ fbs b := by simp [fbs]

/-- Nine bytes of a head, and anything behind. -/
theorem head_parts (f : Fr) (h : f.2.length ≤ 262144) (d r : List UInt8) (hd : d.length = f.2.length) :
    lenF (head9 f ++ (d ++ r)) = f.2.length ∧ datF (head9 f ++ (d ++ r)) = d ∧ kdF (head9 f ++ (d ++ r)) = f.1 ∧ nxtF (head9 f ++ (d ++ r)) = r ∧
      (head9 f ++ (d ++ r)).take 5 = head5 f ∧ nat4 ((head9 f ++ (d ++ r)).drop 5) = crc (head5 f ++ f.2) := by
  have e1 : lenF (head9 f ++ (d ++ r)) = f.2.length := by
    unfold lenF head9 head5
    rw [List.cons_append, List.cons_append, List.drop_succ_cons, List.drop_zero, List.append_assoc]
    exact nat4_be4 _ (by omega) _
  have e2 : (head9 f ++ (d ++ r)).drop 9 = d ++ r := List.drop_left' (head9_length f)
  refine ⟨e1, ?_, rfl, ?_, ?_, ?_⟩
  · unfold datF
    rw [e1, e2, List.take_left' hd]
  · unfold nxtF
    rw [e1, ← List.drop_drop, e2, List.drop_left' hd]
  · unfold head9
    rw [List.append_assoc, List.take_left' (head5_length f)]
  · unfold head9
    rw [List.append_assoc, List.drop_left' (head5_length f)]
    exact nat4_be4 _ (crc_lt _) _

theorem st_fb (f : Fr) (h : f.2.length ≤ 262144) (r : List UInt8) : st (fb f ++ r) = 1 ∧ datF (fb f ++ r) = f.2 ∧ kdF (fb f ++ r) = f.1 ∧ nxtF (fb f ++ r) = r := by
  obtain ⟨e1, e2, e3, e4, e5, e6⟩ := head_parts f h f.2 r rfl
  have e0 : fb f ++ r = head9 f ++ (f.2 ++ r) := by unfold fb; rw [List.append_assoc]
  rw [e0]
  refine ⟨?_, e2, e3, e4⟩
  unfold st
  rw [if_neg (by simp [head9_length]), e1, if_neg (by omega), if_neg (by simp [head9_length]), e2, e5, e6, if_pos rfl]
/-- Data of another sum. -/
theorem st_spoilt (f : Fr) (h : f.2.length ≤ 262144) (d r : List UInt8) (hd : d.length = f.2.length) (hc : crc (head5 f ++ d) ≠ crc (head5 f ++ f.2)) : st (head9 f ++ (d ++ r)) = 2 := by
  obtain ⟨e1, e2, e3, e4, e5, e6⟩ := head_parts f h d r hd
  unfold st
  rw [if_neg (by simp [head9_length]), e1, if_neg (by omega), if_neg (by simp [head9_length, hd]), e2, e5, e6, if_neg hc]
/-- A beginning of a frame's bytes. -/
theorem st_cut (f : Fr) (h : f.2.length ≤ 262144) (j : Nat) (hj : j < 9 + f.2.length) : st ((fb f).take j) = 0 := by
  have hl : ((fb f).take j).length = j := by rw [List.length_take, fb_length]; omega
  unfold st
  by_cases h9 : j < 9
  · rw [if_pos (by omega)]
  · have e1 : lenF ((fb f).take j) = f.2.length := by
      have e : (fb f).take j = head9 f ++ f.2.take (j - 9) := by
        unfold fb
        rw [List.take_append, List.take_of_length_le (by rw [head9_length]; omega), head9_length]
      rw [e]
      unfold lenF head9 head5
      rw [List.cons_append, List.cons_append, List.drop_succ_cons, List.drop_zero, List.append_assoc]
      exact nat4_be4 _ (by omega) _
    rw [if_neg (by omega), e1, if_neg (by omega), if_pos (by omega)]

/-- What is whole is a frame's bytes. -/
theorem st_whole (l : List UInt8) (h : st l = 1) : 9 + lenF l ≤ l.length ∧ lenF l ≤ 262144 ∧ (datF l).length = lenF l ∧ l = fb (kdF l, datF l) ++ nxtF l := by
  unfold st at h
  split at h
  · cases h
  rename_i h9
  split at h
  · cases h
  rename_i hm
  split at h
  · cases h
  rename_i hl
  split at h
  rotate_left
  · cases h
  rename_i hc
  have hd : (datF l).length = lenF l := by unfold datF; rw [List.length_take, List.length_drop]; omega
  have h5 : head5 (kdF l, datF l) = l.take 5 := by
    unfold head5
    simp only
    rw [hd]
    unfold lenF
    rw [be4_nat4 _ (by rw [List.length_drop]; omega)]
    cases l with
    | nil => simp at h9
    | cons a r => rw [List.drop_succ_cons, List.drop_zero, List.take_succ_cons]; unfold kdF; rw [List.getD_cons_zero]
  refine ⟨by omega, by omega, hd, ?_⟩
  unfold fb head9
  rw [h5]
  simp only
  rw [hc, be4_nat4 _ (by rw [List.length_drop]; omega)]
  have e : datF l ++ nxtF l = l.drop 9 := by
    unfold datF nxtF
    rw [← List.drop_drop, List.take_append_drop]
  rw [List.append_assoc, List.append_assoc, e, show l.drop 9 = (l.drop 5).drop 4 by rw [List.drop_drop], List.take_append_drop, List.take_append_drop]


section
variable (S : List UInt8 → Nat) (one : List UInt8 → Fr) (nx : List UInt8 → List UInt8)
def scanG : Nat → List UInt8 → List Fr × List UInt8
  | 0, l => ([], l)
  | n + 1, l => if S l = 1 then (one l :: (scanG n (nx l)).1, (scanG n (nx l)).2) else ([], l)
theorem scanG_enough (hlt : ∀ l, S l = 1 → (nx l).length < l.length) : ∀ (n m : Nat) (l : List UInt8), l.length ≤ n → l.length ≤ m → scanG S one nx n l = scanG S one nx m l := by
  intro n
  induction n with
  | zero =>
    intro m l hn hm
    have hl : l = [] := List.eq_nil_of_length_eq_zero (by omega)
    cases m with
    | zero => rfl
    | succ m =>
      have hns : ¬ S l = 1 := fun hs => by have := hlt l hs; rw [hl] at this; simp at this
      rw [scanG, scanG, if_neg hns]
  | succ n ih =>
    intro m l hn hm
    by_cases hs : S l = 1
    · have := hlt l hs
      obtain ⟨k, rfl⟩ : ∃ k, m = k + 1 := ⟨m - 1, by omega⟩
      rw [scanG, scanG, if_pos hs, if_pos hs, ih k (nx l) (by omega) (by omega)]
    · cases m with
      | zero => rw [scanG, scanG, if_neg hs]
      | succ m => rw [scanG, scanG, if_neg hs, if_neg hs]
theorem scanG_whole (hlt : ∀ l, S l = 1 → (nx l).length < l.length) (l : List UInt8) (hs : S l = 1) : scanG S one nx l.length l = (one l :: (scanG S one nx (nx l).length (nx l)).1, (scanG S one nx (nx l).length (nx l)).2) := by
  have h := hlt l hs
  rw [scanG_enough S one nx hlt l.length ((l.length - 1) + 1) l (Nat.le_refl _) (by omega), scanG, if_pos hs, scanG_enough S one nx hlt (l.length - 1) (nx l).length (nx l) (by omega) (Nat.le_refl _)]
theorem scanG_not (l : List UInt8) (hs : ¬ S l = 1) : scanG S one nx l.length l = ([], l) := by
  cases l.length with
  | zero => rfl
  | succ n => rw [scanG, if_neg hs]
def toldG (l : List UInt8) : List Fr := (scanG S one nx l.length l).1
def leftG (l : List UInt8) : List UInt8 := (scanG S one nx l.length l).2
theorem toldG_whole (hlt : ∀ l, S l = 1 → (nx l).length < l.length) (l : List UInt8) (hs : S l = 1) : toldG S one nx l = one l :: toldG S one nx (nx l) ∧ leftG S one nx l = leftG S one nx (nx l) := by
  unfold toldG leftG
  rw [scanG_whole S one nx hlt l hs]
  exact ⟨rfl, rfl⟩
theorem toldG_not (l : List UInt8) (hs : ¬ S l = 1) : toldG S one nx l = [] ∧ leftG S one nx l = l := by
  unfold toldG leftG
  rw [scanG_not S one nx l hs]
  exact ⟨rfl, rfl⟩
end
theorem nxt_lt (l : List UInt8) (h : st l = 1) : (nxtF l).length < l.length := by
  have := (st_whole l h).1
  unfold nxtF
  rw [List.length_drop]
  omega
def oneF (l : List UInt8) : Fr := (kdF l, datF l)
def told (l : List UInt8) : List Fr := toldG st oneF nxtF l
def left (l : List UInt8) : List UInt8 := leftG st oneF nxtF l
theorem scan_not (l : List UInt8) (h : st l ≠ 1) : told l = [] ∧ left l = l := toldG_not st oneF nxtF l h
theorem scan_whole (l : List UInt8) (h : st l = 1) : told l = oneF l :: told (nxtF l) ∧ left l = left (nxtF l) := toldG_whole st oneF nxtF nxt_lt l h
theorem scan_fb (f : Fr) (h : f.2.length ≤ 262144) (r : List UInt8) : told (fb f ++ r) = f :: told r ∧ left (fb f ++ r) = left r := by
  obtain ⟨h1, h2, h3, h4⟩ := st_fb f h r
  obtain ⟨e1, e2⟩ := scan_whole _ h1
  unfold oneF at e1
  rw [h2, h3, h4] at e1
  rw [h4] at e2
  exact ⟨e1, e2⟩
def okF (l : List Fr) : Prop := ∀ f ∈ l, f.2.length ≤ 262144
theorem scan_fbs : ∀ (l : List Fr) (h : okF l) (r : List UInt8), told (fbs l ++ r) = l ++ told r ∧ left (fbs l ++ r) = left r
  | [], _, r => ⟨rfl, rfl⟩
  | f :: l, h, r => by
    obtain ⟨e1, e2⟩ := scan_fb f (h f (by simp)) (fbs l ++ r)
    obtain ⟨e3, e4⟩ := scan_fbs l (fun g hg => h g (by simp [hg])) r
    rw [fbs_cons, List.append_assoc, e1, e2, e3, e4]
    exact ⟨rfl, rfl⟩
/-- What is told, put again, is the beginning that was used. -/
theorem scan_back : ∀ (n : Nat) (l : List UInt8), l.length ≤ n → l = fbs (told l) ++ left l ∧ okF (told l) ∧ st (left l) ≠ 1
  | 0, l, h => by
    have : l = [] := List.eq_nil_of_length_eq_zero (by omega)
    subst this
    obtain ⟨e1, e2⟩ := scan_not [] (by decide)
    rw [e1, e2]
    exact ⟨rfl, fun f hf => by simp at hf, by decide⟩
  | n + 1, l, h => by
    by_cases hs : st l = 1
    · obtain ⟨h1, h2, h3, h4⟩ := st_whole l hs
      obtain ⟨e1, e2⟩ := scan_whole l hs
      obtain ⟨i1, i2, i3⟩ := scan_back n (nxtF l) (by have := nxt_lt l hs; omega)
      rw [e1, e2]
      refine ⟨?_, fun f hf => ?_, i3⟩
      · rw [fbs_cons, List.append_assoc, ← i1]; exact h4
      · rcases List.mem_cons.1 hf with rfl | hf
        · unfold oneF; simp only; omega
        · exact i2 f hf
    · obtain ⟨e1, e2⟩ := scan_not l hs
      rw [e1, e2]
      exact ⟨rfl, fun f hf => by simp at hf, hs⟩
/-- Frames, then a beginning of one, or nothing. -/
theorem scan_cut (l : List Fr) (h : okF l) (r : List UInt8) (hr : st r = 0) : told (fbs l ++ r) = l ∧ left (fbs l ++ r) = r := by
  obtain ⟨e1, e2⟩ := scan_fbs l h r
  obtain ⟨e3, e4⟩ := scan_not r (by omega)
  rw [e1, e2, e3, e4]
  exact ⟨by simp, rfl⟩
theorem st_nil : st [] = 0 := rfl
end Go.Proofs.Ytlbbhheaginddaa.crc
