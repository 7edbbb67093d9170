/-
  Arguments opened: lists of truths.
-/
import Derived.Test.YtlchimbaclenaaaOpenI
import Derived.Test.YtlchimbaclenaaaShH
namespace Go.Proofs.Ytlchimbaclenaaa.opens
open Go.Joins Go.ChangeShapes Go.WideShapes Go.RowKit Go.Deep Go.Proofs.Ytlchimbaclenaaa.mem Go.Proofs.Ytlchimbaclenaaa.ins Go.Proofs.Ytlchimbaclenaaa.sh
set_option linter.unusedVariables false

section
variable {H : Type} {enc : TypeId × Value → H} {w : World} {base : Nat} {spare : Nat → Bool} {held : Bool}
theorem cellsBo : Try.prog.cellsOf 4 = 1 := by kernel_rfl

set_option maxRecDepth 100000 in
theorem bools_arg {v : Value} {d : DataW H} {p : List MemPlace} {r : Reach} {b0 : Nat}
    (hv : Value.okWide Try.prog w r b0 37 v) (h : DataW.Trod enc Try.prog w base spare held 37 v d p) :
    ∃ (A : Option Addr) (c : Nat) (l : List Bool), v = .slice A l.length c ∧ Reads w w.heap.size 1 A l.length (vbo l) ∧ l.length ≤ maxLen := by
  obtain ⟨a, n, c, rfl⟩ := okWide_slice Try.underlying37 hv
  obtain ⟨f, hf⟩ := h
  rcases open_slice Try.underlying37 hf with ⟨h0, _⟩ | ⟨ad, len, cap, m, k, D, Pl, h0, hb, hl, hm, hmm, hx, hi⟩
  · simp only [Value.cells, List.cons.injEq, Value.slice.injEq, and_true] at h0
    obtain ⟨rfl, rfl, rfl⟩ := h0
    exact ⟨none, 0, [], rfl, Reads.none_, by simp [maxLen]⟩
  · simp only [Value.cells, List.cons.injEq, Value.slice.injEq, and_true] at h0
    obtain ⟨rfl, rfl, rfl⟩ := h0
    have hle : n ≤ m := by rw [hmm]; split <;> omega
    have each : ∀ i, i < n → ∃ b : Bool, w.cell? (ad.add i) = some (.bool b) := by
      intro i hin
      obtain ⟨cs', hcs, ht⟩ := hi i (by omega)
      rw [cellsBo, Nat.mul_one] at hcs
      obtain ⟨b, rfl, -⟩ := DataW.trod_bool Try.underlying4 ht
      exact ⟨b, cell_of_cells?_one hcs⟩
    obtain ⟨g, hg⟩ := choose_lt each
    have hlen : ((List.range n).map g).length = n := by simp
    refine ⟨some ad, c, (List.range n).map g, by rw [hlen], ⟨by simp [vbo], fun hp => ⟨ad, rfl, ?_, fun q u hu => ?_⟩⟩, by rw [hlen]; omega⟩
    · have z0 := hg 0 (by omega)
      have := block_lt_of_cell z0
      rwa [block_of_add] at this
    · have hq : q < ((List.range n).map g).length := by
        have := (List.getElem?_eq_some_iff.1 hu).1
        simpa [vbo] using this
      rw [vbo_get _ q hq] at hu
      injection hu with hu
      subst hu
      rw [hg q (by omega)]
      simp
end
end Go.Proofs.Ytlchimbaclenaaa.opens
