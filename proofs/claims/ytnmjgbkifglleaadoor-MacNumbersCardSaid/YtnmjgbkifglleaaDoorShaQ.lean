/-
  The document's above.
-/
import Derived.Test.YtnmjgbkifglleaaDoorShaP
import Derived.Test.YtnmjgbkifglleaaDoorShaN
namespace Go.Proofs.YtnmjgbkifglleaaDoor.sha
open Go.RowKit Go.Proofs.YtnmjgbkifglleaaDoor.mem
set_option linter.unusedVariables false
def vq (l : List Nat) : List Value := l.map fun (x : Nat) => .int .u64 (x : Int)
theorem vq_length (l : List Nat) : (vq l).length = l.length := by simp [vq]
theorem vq_get (l : List Nat) (k : Nat) (h : k < l.length) : (vq l)[k]? = some (.int .u64 (l[k] : Int)) := by simp [vq, h]

theorem alike_down {a b : List Nat} (k : Nat) (h : ∀ j, k + 1 ≤ j → a.getD j 0 = b.getD j 0) (he : a.getD k 0 = b.getD k 0) : ∀ j, k ≤ j → a.getD j 0 = b.getD j 0 := by
  intro j hj
  rcases Nat.eq_or_lt_of_le hj with rfl | hj
  · exact he
  · exact h j hj
theorem above_at (a b : List Nat) (k : Nat) (ha : ∀ x ∈ a, x < 4294967296) (hb : ∀ x ∈ b, x < 4294967296) (hs : ∀ j, k < j → a.getD j 0 = b.getD j 0) (hne : ¬ a.getD k 0 = b.getD k 0) :
    decide (num b < num a) = decide (b.getD k 0 < a.getD k 0) := by
  rcases Nat.lt_or_gt_of_ne hne with h | h
  · have := num_above a b k ha hb hs h
    rw [decide_eq_false (by omega), decide_eq_false (by omega)]
  · have := num_above b a k hb ha (fun j hj => (hs j hj).symm) h
    rw [decide_eq_true this, decide_eq_true h]
theorem rabove_any (A B : Option Addr) (c d : Nat) (a b : List Nat) (w : World) (ha : ∀ x ∈ a, x < 4294967296) (hb : ∀ x ∈ b, x < 4294967296) (hla : a.length ≤ 1000) (hba : b.length ≤ a.length)
    (hA : Reads w w.heap.size 1 A a.length (vq a)) (hB : Reads w w.heap.size 1 B b.length (vq b)) :
    Calls Tryd.prog 67 #[.slice A a.length c, .slice B b.length d] w fun e w' => e = .returned (.bool (decide (num b < num a))) ∧ New w w' := by
  have hmx : ¬ a.length < b.length := by omega
  have ha0 := Lib.hid ha
  have hb0 := Lib.hid hb
  clear ha hb
  go_enter Tryd.func67, Tryd.ntmps67
  go_wp2
  go_loopw [5] (fun i wr => ∃ k : Nat, k ≤ a.length ∧ i = .int .i64 ((k : Int) - 1) ∧ New w wr ∧ Hid (∀ j, k ≤ j → a.getD j 0 = b.getD j 0)) (fun i _ => (intOf i + 1).toNat)
  case atStart => exact ⟨a.length, Nat.le_refl _, rfl, new_refl _, Lib.hid fun j hj => by simp [List.getD_eq_getElem?_getD, List.getElem?_eq_none hj, List.getElem?_eq_none (Nat.le_trans hba hj)]⟩
  case round =>
    obtain ⟨k, hk, rfl, hn, HS⟩ := hrel
    rcases k with _ | k
    · have hr : decide (num b < num a) = false := by rw [num_alike a b (fun j => HS.out j (Nat.zero_le j))]; simp
      rw [show ((0 : Nat) : Int) - 1 = -1 from rfl]
      go_wp2
      go_ret
      exact ⟨by rw [hr]; rfl, hn⟩
    · have hi : ((k + 1 : Nat) : Int) - 1 = (k : Int) := by omega
      rw [hi]
      have hlt : k < a.length := by omega
      obtain ⟨p, u, rfl, hp, hx, hc⟩ := hA.at_ hlt
      rw [vq_get a k hlt] at hx
      injection hx with hx
      subst hx
      have h1 := (hn.cell (p := p.add k) (by rw [block_of_add]; exact hp)).trans hc
      have hDA : Hid (a.getD k 0 = a[k]) := Lib.hid (by simp [List.getD_eq_getElem?_getD, hlt])
      clear hc
      by_cases hkb : k < b.length
      · obtain ⟨q, u, rfl, hq, hx, hc⟩ := hB.at_ hkb
        rw [vq_get b k hkb] at hx
        injection hx with hx
        subst hx
        have h2 := (hn.cell (p := q.add k) (by rw [block_of_add]; exact hq)).trans hc
        have hDB : Hid (b.getD k 0 = b[k]) := Lib.hid (by simp [List.getD_eq_getElem?_getD, hkb])
        clear hc
        generalize a[k] = x at *
        generalize b[k] = y at *
        by_cases hxy : x = y
        · subst hxy
          go_wp2
          go_roundw
          case rel => exact ⟨k, by omega, by go_num, hn, Lib.hid (alike_down k HS.out (by rw [hDA.out, hDB.out]))⟩
          case measure => simp [intOf]
        · have hr := Lib.hid (above_at a b k ha0.out hb0.out (fun j hj => HS.out j hj) (by rw [hDA.out, hDB.out]; exact hxy))
          have hxi : ¬ (x : Int) = (y : Int) := by omega
          go_wp2
          go_ret
          rw [hr.out, hDA.out, hDB.out]
          exact ⟨by simp, hn⟩
      · have hDB : Hid (b.getD k 0 = 0) := Lib.hid (by simp [List.getD_eq_getElem?_getD, List.getElem?_eq_none (show b.length ≤ k by omega)])
        generalize a[k] = x at *
        by_cases hxy : x = 0
        · subst hxy
          go_wp2
          go_roundw
          case rel => exact ⟨k, by omega, by go_num, hn, Lib.hid (alike_down k HS.out (by rw [hDA.out, hDB.out]))⟩
          case measure => simp [intOf]
        · have hr := Lib.hid (above_at a b k ha0.out hb0.out (fun j hj => HS.out j hj) (by rw [hDA.out, hDB.out]; exact hxy))
          have hxi : ¬ (x : Int) = 0 := by omega
          have hxp : (0 : Int) < (x : Int) := by omega
          go_wp2
          go_ret
          rw [hr.out, hDA.out, hDB.out]
          exact ⟨by simp, hn⟩
end Go.Proofs.YtnmjgbkifglleaaDoor.sha
