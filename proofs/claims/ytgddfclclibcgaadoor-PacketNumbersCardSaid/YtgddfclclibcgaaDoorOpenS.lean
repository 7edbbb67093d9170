/-
  Arguments opened: lists of bytes, no longer than the form's reach.
-/
import Derived.Test.YtgddfclclibcgaaDoorOpen
import Derived.SizedLaws
namespace Go.Proofs.YtgddfclclibcgaaDoor.opens
open Go.Joins Go.ChangeShapes Go.WideShapes Go.RowKit Go.Deep Go.Proofs.YtgddfclclibcgaaDoor.mem
set_option linter.unusedVariables false

section
variable {H : Type} {enc : TypeId × Value → H} {P : Program} {w : World} {base : Nat} {spare : Nat → Bool} {held : Bool}
theorem spot_of_cell {w : World} {a : Addr} {v : Value} (h : w.cell? a = some v) : a.spot = none := by
  unfold World.cell? at h
  split at h
  · split at h
    · cases h
    · rename_i hs
      cases hsp : a.spot with
      | none => rfl
      | some x => simp [hsp] at hs
  · cases h

/-- A slice that was read is no longer than the reach. -/
theorem reach_slice {t e : TypeId} {fuel : Nat} {cs : List Value} {x : DataW H × List MemPlace} (ht : P.underlying t = some (.slice e)) (h : DataW.trod enc P w base spare held fuel t cs = some x)
    (hw : ∀ n ∈ x.1.weights P t, n ≤ reachBytes) {A : Option Addr} {n c : Nat} (hcs : cs = [.slice A n c]) : n * P.bytesOf e ≤ reachBytes ∧ n ≤ c ∧ c ≤ maxLen := by
  rcases open_slice ht h with ⟨h0, _⟩ | ⟨a, len, cap, m, k, D, Pl, h0, hb, hl, hm, hmm, hx, _⟩
  · rw [hcs] at h0
    simp only [List.cons.injEq, Value.slice.injEq, and_true] at h0
    obtain ⟨-, rfl, rfl⟩ := h0
    simp [maxLen]
  · rw [hcs] at h0
    simp only [List.cons.injEq, Value.slice.injEq, and_true] at h0
    obtain ⟨-, rfl, rfl⟩ := h0
    refine ⟨?_, hl, hm⟩
    have h1 := hw ((n + (m - n)) * P.bytesOf e) (by
      rw [hx]
      simp [DataW.weights, ht])
    exact Nat.le_trans (Nat.mul_le_mul_right _ (by omega)) h1

theorem weights_of_all {e : TypeId} : ∀ {l : List (DataW H)} {d : DataW H}, d ∈ l → ∀ n ∈ d.weights P e, n ∈ DataW.weightsAll P e l
  | a :: l, d, hd, n, hn => by
    simp only [DataW.weightsAll, List.mem_append]
    rcases List.mem_cons.1 hd with rfl | hd
    · exact Or.inl hn
    · exact Or.inr (weights_of_all hd n hn)
  | [], _, hd, _, _ => by cases hd
end

section
variable {H : Type} {enc : TypeId × Value → H} {w : World} {base : Nat} {spare : Nat → Bool} {held : Bool}
theorem cellsB : Tryd.prog.cellsOf 5 = 1 := by kernel_rfl
theorem sizeB : Tryd.prog.bytesOf 5 = 1 := by kernel_rfl
set_option maxRecDepth 100000 in
theorem bytes_arg {ts : List TypeId} {ds : List (DataW H)} (hsz : (DataW.weightsEach Tryd.prog ts ds).all (· ≤ reachBytes) = true) (j : Nat) {v : Value} {d : DataW H} {p : List MemPlace} {r : Reach} {b0 : Nat} (hj : ts[j]? = some 22) (hd : ds[j]? = some d)
    (hv : Value.okWide Tryd.prog w r b0 22 v) (h : DataW.Trod enc Tryd.prog w base spare held 22 v d p) :
    ∃ (A : Option Addr) (c : Nat) (l : List UInt8), v = .slice A l.length c ∧ Reads w w.heap.size 1 A l.length (vb l) ∧ (l.length ≤ c ∧ c ≤ maxLen) ∧ l.length ≤ 140737488351232 := by
  obtain ⟨a, n, c, rfl⟩ := okWide_slice Tryd.underlying22 hv
  obtain ⟨f, hf⟩ := h
  obtain ⟨A, c', l, e, hr, hl⟩ := bytes_of_trod Tryd.underlying22 Tryd.underlying5 cellsB hf
  obtain ⟨h1, h2, h3⟩ := reach_slice Tryd.underlying22 hf (fun n hn => by simpa using List.all_eq_true.1 hsz n (DataW.weights_mem_each hj hd n hn)) e
  rw [sizeB, Nat.mul_one] at h1
  exact ⟨A, c', l, by simpa [Value.cells] using e, hr, ⟨h2, h3⟩, h1⟩

theorem laidOut : laidOutB Tryd.prog = true := by kernel_rfl
end
end Go.Proofs.YtgddfclclibcgaaDoor.opens
