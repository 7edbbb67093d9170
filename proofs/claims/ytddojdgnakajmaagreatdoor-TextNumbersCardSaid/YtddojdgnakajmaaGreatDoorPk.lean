/-
  The document's Parse: labels found.
-/
import Derived.Test.YtddojdgnakajmaaGreatDoorPj
namespace Go.Proofs.YtddojdgnakajmaaGreatDoor.txt
open Go.RowKit Go.Proofs.YtddojdgnakajmaaGreatDoor.mem Go.Proofs.YtddojdgnakajmaaGreatDoor.kit Go.Proofs.YtddojdgnakajmaaGreatDoor.ins
set_option linter.unusedVariables false
set_option linter.unusedSimpArgs false

/-- Marks, as they lie. -/
def mv : List (Bs × Nat) → List Value
  | [] => []
  | p :: l => sv p.1 :: .int .i64 (p.2 : Int) :: mv l
theorem mv_length : ∀ (l : List (Bs × Nat)), (mv l).length = l.length * 2
  | [] => rfl
  | p :: l => by simp only [mv, List.length_cons, mv_length l]; omega
theorem mv_append : ∀ (a b : List (Bs × Nat)), mv (a ++ b) = mv a ++ mv b
  | [], b => rfl
  | p :: a, b => by simp only [List.cons_append, mv, mv_append a b]
theorem mv_at : ∀ (l : List (Bs × Nat)) (k : Nat) (h : k < l.length), (mv l)[k * 2]? = some (sv l[k].1) ∧ (mv l)[k * 2 + 1]? = some (.int .i64 (l[k].2 : Int))
  | [], k, h => by simp at h
  | p :: l, 0, h => ⟨rfl, rfl⟩
  | p :: l, k + 1, h => by
    have ih := mv_at l k (by simpa using h)
    have e1 : (k + 1) * 2 = k * 2 + 1 + 1 := by omega
    have e2 : (k + 1) * 2 + 1 = k * 2 + 1 + 1 + 1 := by omega
    rw [e2, e1]
    exact ih
def labI (k : Bs) (l : List (Bs × Nat)) : Int := match lab k l with
  | some m => (m : Int)
  | none => -1
theorem lab_hit : ∀ {l : List (Bs × Nat)} {nm : Bs} {k : Nat} (h : k < l.length), (∀ j (hj : j < k), l[j].1 ≠ nm) → l[k].1 = nm → lab nm l = some l[k].2
  | [], nm, k, h, _, _ => by simp at h
  | p :: l, nm, 0, h, _, e => by
    have e2 : p.1 = nm := e
    simp [lab, e2.symm]
  | p :: l, nm, k + 1, h, hn, e => by
    have h0 : p.1 ≠ nm := hn 0 (by omega)
    have ih := lab_hit (l := l) (nm := nm) (k := k) (by simpa using h) (fun j hj => hn (j + 1) (by omega)) e
    simp only [lab]
    rw [if_neg (Ne.symm h0)]
    exact ih
theorem lab_miss : ∀ {l : List (Bs × Nat)} {nm : Bs}, (∀ j (hj : j < l.length), l[j].1 ≠ nm) → lab nm l = none
  | [], nm, _ => rfl
  | p :: l, nm, hn => by
    have h0 : p.1 ≠ nm := hn 0 (by simp)
    simp only [lab]
    rw [if_neg (Ne.symm h0)]
    exact lab_miss fun j hj => hn (j + 1) (by simpa using hj)

set_option maxRecDepth 100000 in
set_option maxHeartbeats 1000000 in
theorem rfind_any (A : Option Addr) (n c base : Nat) (l : List (Bs × Nat)) (nm : Bs) (w : World) (hn : n = l.length) (hc : n ≤ 1000000) (h : w.ownsRow base 125 2 (.slice A n c) n (mv l)) :
    Calls Tryz.prog 51 #[.slice A n c, .string ⟨nm.toArray⟩] w fun e w' => e = .returned (.int .i64 (labI nm l)) ∧ w' = w := by
  have HH := Lib.hid h
  have HN := Lib.hid hn
  clear h hn
  go_enter Tryz.func51, Tryz.ntmps51
  go_wp2
  go_loopw [5] (fun i wr => ∃ k : Nat, k ≤ n ∧ i = .int .i64 k ∧ (∀ j (hj : j < k) (hl : j < l.length), l[j].1 ≠ nm) ∧ w = wr) (fun i _ => n - (intOf i).toNat)
  case atStart => exact ⟨0, Nat.zero_le _, rfl, fun j h => by omega, rfl⟩
  case round =>
    obtain ⟨k, hk, rfl, hno, rfl⟩ := hrel
    have HNO := Lib.hid hno
    clear hno
    by_cases hlt : k < n
    · have hkl : k < l.length := by rw [← HN.out]; exact hlt
      have t3 : (k : Int) < (n : Int) := by omega
      have t3b : (0 : Int) ≤ (k : Int) := by omega
      obtain ⟨b, cap, e⟩ := own_some HH.out (by omega)
      injection e with eA _ ec
      subst eA
      subst ec
      obtain ⟨m0, m1⟩ := mv_at l k hkl
      have c0 : w.cell? ⟨b, k * 2, none⟩ = some (sv l[k].1) := (World.ownsRow.cellAt HH.out (k * 2) (by omega)).trans m0
      have c1 : w.cell? ⟨b, k * 2 + 1, none⟩ = some (.int .i64 (l[k].2 : Int)) := (World.ownsRow.cellAt HH.out (k * 2 + 1) (by omega)).trans m1
      obtain ⟨x, hx⟩ : ∃ x, l[k].1 = x := ⟨_, rfl⟩
      obtain ⟨y, hy⟩ : ∃ y, l[k].2 = y := ⟨_, rfl⟩
      rw [hx] at c0
      rw [hy] at c1
      have HX := Lib.hid hx
      have HY := Lib.hid hy
      clear hx hy m0 m1
      cases hq : x == nm with
      | true =>
        have HL : Hid (labI nm l = (y : Int)) := Lib.hid (by unfold labI; rw [lab_hit hkl (fun j hj => HNO.out j hj (by omega)) (by rw [HX.out]; exact eq_of_beq hq), HY.out])
        go_wp2
        go_ret
        exact ⟨by rw [HL.out]; rfl, rfl⟩
      | false =>
        have HE : Hid (l[k].1 ≠ nm) := Lib.hid (by rw [HX.out]; exact fun e => by rw [e] at hq; simp at hq)
        go_wp2
        go_roundw
        case rel =>
          refine ⟨k + 1, by omega, by go_num, fun j hj hl => ?_, trivial⟩
          by_cases hjk : j = k
          · subst hjk; exact HE.out
          · exact HNO.out j (by omega) hl
        case measure => simp [intOf]; omega
    · obtain rfl : k = n := by omega
      have HL : Hid (labI nm l = -1) := Lib.hid (by unfold labI; rw [lab_miss (fun j hj => HNO.out j (by rw [HN.out]; exact hj) hj)])
      go_wp2
      go_ret
      exact ⟨by rw [HL.out]; rfl, rfl⟩
end Go.Proofs.YtddojdgnakajmaaGreatDoor.txt
