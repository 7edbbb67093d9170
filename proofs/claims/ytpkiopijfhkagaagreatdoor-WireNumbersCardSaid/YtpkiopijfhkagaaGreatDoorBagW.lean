/-
  RSt of bytes that were made one after the other, and blocks that stand.
-/
import Derived.Test.YtpkiopijfhkagaaGreatDoorEntKit
import Derived.Test.YtpkiopijfhkagaaGreatDoorRefW
import Derived.Test.YtpkiopijfhkagaaGreatDoorApartB
import Derived.Test.YtpkiopijfhkagaaGreatDoorAwake
namespace Go.Proofs.YtpkiopijfhkagaaGreatDoor.kit
open Go.RowKit Go.Proofs.YtpkiopijfhkagaaGreatDoor.mem Go.Proofs.YtpkiopijfhkagaaGreatDoor.wire Go.Proofs.YtpkiopijfhkagaaGreatDoor.rd
set_option linter.unusedVariables false

/-- RSt of the call's own, pairwise apart; what was there is as it was. -/
structure RSt (w0 : World) (rs : List (Value × List UInt8)) (w : World) : Prop where
  new : New w0 w
  row : ∀ k (h : k < rs.length), (∃ A c, rs[k].1 = .slice A rs[k].2.length c) ∧ w.ownsRow w0.heap.size 5 1 rs[k].1 rs[k].2.length (vb rs[k].2)
  apart : ∀ j k (hj : j < k) (hk : k < rs.length) g, (rs[j]'(by omega)).1.ownBlock = some g → rs[k].1.ownBlock ≠ some g
theorem RSt.nil (w0 : World) : RSt w0 [] w0 := ⟨new_refl _, fun k h => absurd h (by simp), fun j k _ h => absurd h (by simp)⟩
theorem RSt.keep {w0 w w' : World} {rs : List (Value × List UInt8)} (h : RSt w0 rs w) (hn : New w w') : RSt w0 rs w' :=
  ⟨New.then h.new hn, fun k hk => ⟨(h.row k hk).1, own_new (h.row k hk).2 hn⟩, h.apart⟩
theorem RSt.push {w0 w w' : World} {rs : List (Value × List UInt8)} {A : Option Addr} {c : Nat} {l : List UInt8} (h : RSt w0 rs w) (ho : w'.ownsRow w.heap.size 5 1 (.slice A l.length c) l.length (vb l)) (hn : New w w') :
    RSt w0 (rs ++ [(.slice A l.length c, l)]) w' := by
  have hk := h.keep hn
  refine ⟨hk.new, fun k hlt => ?_, fun j k hj hlt g hg => ?_⟩
  · by_cases he : k < rs.length
    · rw [List.getElem_append_left he]
      exact hk.row k he
    · obtain rfl : k = rs.length := by simp at hlt; omega
      rw [List.getElem_append_right (Nat.le_refl _)]
      simp only [Nat.sub_self, List.getElem_cons_zero]
      exact ⟨⟨A, c, rfl⟩, own_base ho h.new.size⟩
  · by_cases he : k < rs.length
    · rw [List.getElem_append_left he]
      rw [List.getElem_append_left (by omega)] at hg
      exact hk.apart j k hj he g hg
    · obtain rfl : k = rs.length := by simp at hlt; omega
      rw [List.getElem_append_right (Nat.le_refl _)]
      simp only [Nat.sub_self, List.getElem_cons_zero]
      rw [List.getElem_append_left hj] at hg
      intro hg2
      have h1 := ((h.row j hj).2.lt g hg).2
      have h2 := (ho.lt g hg2).1
      omega
theorem RSt.each {w0 w : World} {rs : List (Value × List UInt8)} (h : RSt w0 rs w) : Each w0.heap.size (rs.map Prod.fst) (rs.map (fun p => p.2.length)) w :=
  ⟨by simp, fun k hk => by
    have hk' : k < rs.length := by simpa using hk
    obtain ⟨⟨A, c, e⟩, ho⟩ := h.row k hk'
    refine ⟨A, c, vb rs[k].2, ?_, ?_⟩
    · simp [List.getElem?_eq_getElem hk', e]
    · simp only [List.getElem_map]
      rw [← e]
      exact ho,
   fun j k hj hk u v g hu hv hg => by
    have hk' : k < rs.length := by simpa using hk
    have hj' : j < rs.length := by omega
    simp only [List.getElem?_map, List.getElem?_eq_getElem hk', List.getElem?_eq_getElem hj', Option.map_some, Option.some.injEq] at hu hv
    subst hu
    subst hv
    exact h.apart j k hj hk' g hg⟩
theorem RSt.at_ {w0 w : World} {rs : List (Value × List UInt8)} (h : RSt w0 rs w) (k : Nat) (hk : k < rs.length) {A : Option Addr} {n c : Nat} {l : List UInt8} (e : rs[k] = (.slice A n c, l)) : Reads w w.heap.size 1 A l.length (vb l) := by
  obtain ⟨⟨A', c', e'⟩, ho⟩ := h.row k hk
  rw [e] at e' ho
  simp only [Value.slice.injEq] at e'
  obtain ⟨rfl, rfl, rfl⟩ := e'
  exact (own_typed ho).2.1

/-- A call that makes a row. -/
theorem RSt.call {w0 : World} {rs : List (Value × List UInt8)} {l : List UInt8} {f : Nat} {args : Array Value} (w : World) (h : RSt w0 rs w) (hc : Calls Tryz.prog f args w (Got w l)) :
    Calls Tryz.prog f args w (fun e w' => ∃ A c, e = .returned (.slice A l.length c) ∧ RSt w0 (rs ++ [(.slice A l.length c, l)]) w') :=
  hc.mono fun e w' k => by obtain ⟨A, c, rfl, ho, hn⟩ := k; exact ⟨A, c, rfl, h.push ho hn⟩
end Go.Proofs.YtpkiopijfhkagaaGreatDoor.kit
