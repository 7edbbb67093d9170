/-
  There and back, as mathematics; the laws that ask it.
-/
import Derived.Test.YtmkonhfgmkdhoaaDoorInsV
namespace Go.Proofs.YtmkonhfgmkdhoaaDoor.ins
open Go.RowKit Go.Proofs.YtmkonhfgmkdhoaaDoor.mem Go.Proofs.YtmkonhfgmkdhoaaDoor.kit
set_option linter.unusedVariables false

theorem pc_cons (i : In) (l : List In) (k : Nat) : pc (flat (i :: l)) (k + 1) = pc (flat l) k := by
  have e : flat (i :: l) = bs i ++ flat l := by simp [flat]
  unfold pc
  rw [e, show 8 * (k + 1) = (bs i).length + 8 * k by rw [bs_length]; omega, ← List.drop_drop, List.drop_left']
  rfl
theorem pc_flat : ∀ (l : List In) (k : Nat) (h : k < l.length), pc (flat l) k = bs l[k]
  | [], k, h => by simp at h
  | i :: l, 0, h => by
    have e : flat (i :: l) = bs i ++ flat l := by simp [flat]
    unfold pc
    rw [e, Nat.mul_zero, List.drop_zero, List.take_left' (bs_length i)]
    rfl
  | i :: l, k + 1, h => by
    rw [pc_cons, pc_flat l k (by simpa using h)]
    rfl
theorem pcs_flat (l : List In) : pcs (flat l) = l.map bs := by
  apply List.ext_getElem
  · rw [pcs_length, flat_length, List.length_map]; omega
  · intro k h1 h2
    rw [pcs_get, pc_flat l k (by simpa using h2), List.getElem_map]
theorem map_back {l : List In} (h : l.all ok = true) : (l.map bs).map inOf = l := by
  rw [List.map_map]
  have e : ∀ i ∈ l, (inOf ∘ bs) i = i := fun i hi => inOf_bs i (List.all_eq_true.1 h i hi)
  rw [List.map_congr_left e, List.map_id']
theorem get_flat {l : List In} (h : l.all ok = true) (hl : l.length ≤ 4096) : getE (flat l) = 0 ∧ getL (flat l) = l := by
  have ho : (pcs (flat l)).all one = true := by
    rw [pcs_flat, List.all_eq_true]
    intro p hp
    obtain ⟨i, hi, rfl⟩ := List.mem_map.1 hp
    exact one_bs i (List.all_eq_true.1 h i hi)
  have hE : getE (flat l) = 0 := by
    unfold getE
    rw [if_neg (by rw [flat_length]; omega), if_neg (by rw [flat_length]; omega), if_pos ho]
  refine ⟨hE, ?_⟩
  unfold getL
  rw [if_pos hE, pcs_flat, map_back h]
theorem flatten_pc : ∀ (m : Nat) (b : List UInt8), b.length = 8 * m → ((List.range m).map (pc b)).flatten = b
  | 0, b, h => by
    have : b = [] := List.eq_nil_of_length_eq_zero (by omega)
    subst this
    rfl
  | m + 1, b, h => by
    have e : ∀ k, pc b (k + 1) = pc (b.drop 8) k := fun k => by
      unfold pc
      rw [List.drop_drop, show 8 + 8 * k = 8 * (k + 1) by omega]
    have ih := flatten_pc m (b.drop 8) (by rw [List.length_drop]; omega)
    rw [List.range_succ_eq_map, List.map_cons, List.map_map, List.flatten_cons]
    have e2 : (List.range m).map (pc b ∘ Nat.succ) = (List.range m).map (pc (b.drop 8)) := List.map_congr_left fun k _ => e k
    rw [e2, ih]
    unfold pc
    rw [Nat.mul_zero, List.drop_zero, List.take_append_drop]
theorem flatten_pcs {b : List UInt8} (h : b.length % 8 = 0) : (pcs b).flatten = b := flatten_pc _ b (by omega)
theorem getE_cases (b : List UInt8) : getE b = 0 ∨ getE b ≠ 0 := by omega
theorem get_ok {b : List UInt8} (h : getE b = 0) : b.length ≤ 32768 ∧ b.length % 8 = 0 ∧ (pcs b).all one = true := by
  unfold getE at h
  split at h
  · cases h
  · split at h
    · cases h
    · split at h
      · rename_i h1 h2 h3
        exact ⟨by omega, by omega, h3⟩
      · cases h
theorem one_spec {p : List UInt8} (h : one p = true) : ok (inOf p) = true ∧ bs (inOf p) = p := by
  unfold one at h
  rw [Bool.and_eq_true, decide_eq_true_eq] at h
  exact h
theorem put_back {b : List UInt8} (h : getE b = 0) : (getL b).all ok = true ∧ flat (getL b) = b ∧ (getL b).length = b.length / 8 := by
  obtain ⟨h1, h2, h3⟩ := get_ok h
  have hL : getL b = (pcs b).map inOf := by unfold getL; rw [if_pos h]
  rw [List.all_eq_true] at h3
  refine ⟨?_, ?_, by rw [hL, List.length_map, pcs_length]⟩
  · rw [hL, List.all_eq_true]
    intro i hi
    obtain ⟨p, hp, rfl⟩ := List.mem_map.1 hi
    exact (one_spec (h3 p hp)).1
  · rw [hL]
    unfold flat
    rw [List.flatMap_map, List.flatMap_def]
    have e : ∀ p ∈ pcs b, bs (inOf p) = p := fun p hp => (one_spec (h3 p hp)).2
    rw [List.map_congr_left e, List.map_id']
    exact flatten_pcs h2
theorem flat_take_eq (l : List In) (k : Nat) (h : k ≤ l.length) : flat (l.take k) = (flat l).take (8 * k) := by
  have e : flat l = flat (l.take k) ++ flat (l.drop k) := by
    unfold flat
    rw [← List.flatMap_append, List.take_append_drop]
  rw [e, List.take_left']
  rw [flat_length, List.length_take]
  omega
theorem all_take {l : List In} (h : l.all ok = true) (k : Nat) : (l.take k).all ok = true := by
  rw [List.all_eq_true] at h ⊢
  exact fun i hi => h i (List.mem_of_mem_take hi)
end Go.Proofs.YtmkonhfgmkdhoaaDoor.ins
