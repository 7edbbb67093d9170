/-
  InsBack, walked.
-/
import Derived.Test.YtmkonhfgmkdhoaaDoorInsW
namespace Go.Proofs.YtmkonhfgmkdhoaaDoor.ins
open Go.RowKit Go.Proofs.YtmkonhfgmkdhoaaDoor.mem Go.Proofs.YtmkonhfgmkdhoaaDoor.kit
set_option linter.unusedVariables false

theorem reads_pre {w : World} {B n k : Nat} {A : Option Addr} {l : List UInt8} (h : Reads w B 1 A n (vb l)) (hk : k ≤ n) : Reads w B 1 A k (vb (l.take k)) := by
  have hn : l.length = n := by have := h.1; simpa [vb] using this
  refine ⟨by simp [vb]; omega, fun h0 => ?_⟩
  obtain ⟨ad, e, hb, hc⟩ := h.2 (by omega)
  refine ⟨ad, e, hb, fun j u hu => hc j u ?_⟩
  have hlt : j < k := by
    have := (List.getElem?_eq_some_iff.1 hu).1
    simp [vb] at this
    omega
  rw [show vb (l.take k) = (vb l).take k by simp [vb], List.getElem?_take, if_pos hlt] at hu
  exact hu
theorem vi_take (l : List In) (k : Nat) : vi (l.take k) = (vi l).take (8 * k) := by
  have e : vi l = vi (l.take k) ++ vi (l.drop k) := by rw [← vi_append, List.take_append_drop]
  by_cases h : k ≤ l.length
  · rw [e, List.take_left']
    rw [vi_length, List.length_take]
    omega
  · rw [List.take_of_length_le (by omega), List.take_of_length_le (by rw [vi_length]; omega)]
theorem reads_pre8 {w : World} {B n k : Nat} {A : Option Addr} {l : List In} (h : Reads w B 8 A n (vi l)) (hk : k ≤ n) : Reads w B 8 A k (vi (l.take k)) := by
  have hn : l.length = n := by have := h.1; rw [vi_length] at this; omega
  refine ⟨by rw [vi_length, List.length_take]; omega, fun h0 => ?_⟩
  obtain ⟨ad, e, hb, hc⟩ := h.2 (by omega)
  refine ⟨ad, e, hb, fun j u hu => hc j u ?_⟩
  rw [vi_take, List.getElem?_take] at hu
  split at hu
  · exact hu
  · cases hu

theorem ri_pre {w : World} {A : Option Addr} {n K : Nat} {l : List In} (hn : n = l.length) (hK : K ≤ n) (h : RI w A l) : RI w A (l.take K) := by
  have h1 := reads_pre8 h (k := K) (by omega)
  have e : (l.take K).length = K := by rw [List.length_take]; omega
  show Reads w w.heap.size 8 A (l.take K).length (vi (l.take K))
  rw [e]
  exact h1
theorem put_good (A : Option Addr) (n c : Nat) (l : List In) (w : World) (hn : n = l.length) (hl : n ≤ 4096) (h : l.all ok = true) (hA : RI w A l) (hT : TAt w) :
    Calls Tryd.prog 8 #[.slice A n c] w fun e w' => ∃ A' c', e = .returned (.tuple #[.slice A' (8 * n) c', .int .i64 0]) ∧ ((8 * n ≤ c' ∧ c' ≤ maxLen) ∧ Reads w' w'.heap.size 1 A' (8 * n) (vb (flat l))) ∧ New w w' :=
  (put_any A n c l w hn (by omega) hA hT).mono fun e w' hh => by
    obtain ⟨A', c', he, ho, hnw⟩ := hh
    have hE : putE l = 0 := by simp only [putE]; rw [if_neg (by omega), if_pos h]
    have hB : putB l = flat l := by simp only [putB]; rw [if_neg (by omega), if_pos h]
    rw [hE, hB, flat_length, ← hn] at he
    rw [hB, flat_length, ← hn] at ho
    exact ⟨A', c', he, own_caps ho, hnw⟩
theorem put_not (A : Option Addr) (n c : Nat) (l : List In) (w : World) (hn : n = l.length) (hl : n ≤ 1099511627776) (h : ¬ (n ≤ 4096 ∧ l.all ok = true)) (hA : RI w A l) (hT : TAt w) :
    Calls Tryd.prog 8 #[.slice A n c] w fun e w' => ∃ A' c' q, e = .returned (.tuple #[.slice A' 0 c', .int .i64 q]) ∧ (q = if 4096 < n then 3 else 4) ∧ New w w' :=
  (put_any A n c l w hn hl hA hT).mono fun e w' hh => by
    obtain ⟨A', c', he, ho, hnw⟩ := hh
    by_cases h1 : 4096 < l.length
    · obtain ⟨hE, hB⟩ := put_long h1
      rw [hE, hB] at he
      exact ⟨A', c', 3, he, by rw [if_pos (by omega)], hnw⟩
    · have ha : ¬ l.all ok = true := fun ha => h ⟨by omega, ha⟩
      have hE : putE l = 4 := by simp only [putE]; rw [if_neg h1, if_neg ha]
      have hB : putB l = [] := by simp only [putB]; rw [if_neg h1, if_neg ha]
      rw [hE, hB] at he
      exact ⟨A', c', 4, he, by rw [if_neg (by omega)], hnw⟩
theorem get_good (A : Option Addr) (n c m : Nat) (b : List UInt8) (l : List In) (w : World) (hn : n = b.length) (hl : n ≤ 1099511627776) (hc : n ≤ c ∧ c ≤ maxLen) (h : getE b = 0) (hL : getL b = l) (hm : m = l.length) (hA : Reads w w.heap.size 1 A n (vb b)) (hT : TAt w) :
    Calls Tryd.prog 10 #[.slice A n c] w fun e w' => ∃ A' c', e = .returned (.tuple #[.slice A' m c', .int .i64 0]) ∧ ((m ≤ c' ∧ c' ≤ maxLen) ∧ RI w' A' l) ∧ New w w' :=
  (get_any A n c b w hn hl hc hA hT).mono fun e w' hh => by
    obtain ⟨A', c', he, ho, hnw⟩ := hh
    rw [h, hL, ← hm] at he
    rw [hL, ← hm] at ho
    obtain ⟨h1, h2⟩ := own_caps ho
    exact ⟨A', c', he, ⟨h1, by rw [hm] at h2; exact h2⟩, hnw⟩
theorem get_not (A : Option Addr) (n c : Nat) (b : List UInt8) (w : World) (hn : n = b.length) (hl : n ≤ 1099511627776) (hc : n ≤ c ∧ c ≤ maxLen) (h : getE b ≠ 0) (hA : Reads w w.heap.size 1 A n (vb b)) (hT : TAt w) :
    Calls Tryd.prog 10 #[.slice A n c] w fun e w' => ∃ A' c', e = .returned (.tuple #[.slice A' 0 c', .int .i64 (getE b)]) ∧ New w w' :=
  (get_any A n c b w hn hl hc hA hT).mono fun e w' hh => by
    obtain ⟨A', c', he, ho, hnw⟩ := hh
    have hL : getL b = [] := by simp only [getL]; rw [if_neg h]
    rw [hL] at he
    exact ⟨A', c', he, hnw⟩

end Go.Proofs.YtmkonhfgmkdhoaaDoor.ins
