/-
  Arguments opened: entries, lists of entries.
-/
import Derived.Test.YtpkiopijfhkagaaGreatDoorOpen
import Derived.Test.YtpkiopijfhkagaaGreatDoorEnts
namespace Go.Proofs.YtpkiopijfhkagaaGreatDoor.opens
open Go.Joins Go.ChangeShapes Go.WideShapes Go.RowKit Go.Deep Go.Proofs.YtpkiopijfhkagaaGreatDoor.mem Go.Proofs.YtpkiopijfhkagaaGreatDoor.rd
set_option linter.unusedVariables false

section
variable {H : Type} {enc : TypeId × Value → H} {w : World} {base : Nat} {spare : Nat → Bool} {held : Bool}

theorem cellsB : Tryz.prog.cellsOf 5 = 1 := by kernel_rfl
theorem cellsI : Tryz.prog.cellsOf 3 = 1 := by kernel_rfl
theorem cellsEn : Tryz.prog.cellsOf 28 = 6 := by kernel_rfl

theorem spot_of_cell {w : World} {a : Addr} {v : Value} (h : w.cell? a = some v) : a.spot = none := by
  unfold World.cell? at h
  split at h
  · split at h
    · cases h
    · rename_i hs
      cases hsp : a.spot with
      | none => rfl
      | some x => simp [hsp] at hs
  · cases h

instance : Inhabited En := ⟨⟨0, 0, 0, 0, false, none, 0, []⟩⟩

theorem en_of {n0 n1 n2 n3 n4 n5 : Nat} {v0 v1 v2 v3 v4 v5 : Value} {y0 y1 y2 y3 y4 y5 : DataW H × List MemPlace}
    (h0 : DataW.trod enc Tryz.prog w base spare held n0 3 [v0] = some y0) (h1 : DataW.trod enc Tryz.prog w base spare held n1 26 [v1] = some y1) (h2 : DataW.trod enc Tryz.prog w base spare held n2 3 [v2] = some y2)
    (h3 : DataW.trod enc Tryz.prog w base spare held n3 3 [v3] = some y3) (h4 : DataW.trod enc Tryz.prog w base spare held n4 4 [v4] = some y4) (h5 : DataW.trod enc Tryz.prog w base spare held n5 23 [v5] = some y5) :
    ∃ e : En, e.Ok ∧ Reads w w.heap.size 1 e.A e.data.length (vb e.data) ∧ e.cells = [v0, v1, v2, v3, v4, v5] := by
  obtain ⟨a0, e0, _, w0⟩ := DataW.trod_int Tryz.underlying3 h0
  obtain ⟨a1, e1, _, w1⟩ := DataW.trod_int Tryz.underlying26 h1
  obtain ⟨a2, e2, _, w2⟩ := DataW.trod_int Tryz.underlying3 h2
  obtain ⟨a3, e3, _, w3⟩ := DataW.trod_int Tryz.underlying3 h3
  obtain ⟨a4, e4, _⟩ := DataW.trod_bool Tryz.underlying4 h4
  obtain ⟨A, c, l, e5, hr, hl⟩ := bytes_of_trod Tryz.underlying23 Tryz.underlying5 cellsB h5
  refine ⟨⟨a0, a1, a2, a3, a4, A, c, l⟩, ⟨wf64 w0, wf8 w1, wf64 w2, wf64 w3, hl⟩, hr, ?_⟩
  simp only [En.cells]
  simp at e0 e1 e2 e3 e4 e5
  rw [e0, e1, e2, e3, e4, e5]

/-- A list of entries. -/
theorem ents_of_trod {fuel : Nat} {cs : List Value} {x : DataW H × List MemPlace} (h : DataW.trod enc Tryz.prog w base spare held fuel 152 cs = some x) :
    ∃ (A : Option Addr) (c : Nat) (es : List En), cs = [.slice A es.length c] ∧ es.length ≤ maxLen ∧ Ents w w.heap.size A es := by
  rcases open_slice_fields Tryz.underlying152 Tryz.underlying28 (by kernel_rfl) (by rw [cellsEn]; rfl) h with ⟨rfl, _⟩ | ⟨a, len, cap, m, D, Pl, rfl, hb, hl, hm, hmm, _, hf⟩
  · exact ⟨none, 0, [], rfl, by simp [maxLen], fun i hi => absurd hi (by simp)⟩
  · have hle : len ≤ m := by rw [hmm]; split <;> omega
    have each : ∀ i, i < len → ∃ e : En, e.Ok ∧ Reads w w.heap.size 1 e.A e.data.length (vb e.data) ∧ ∀ (j : Nat) (v : Value), e.cells[j]? = some v → w.cell? (a.add (i * 6 + j)) = some v := by
      intro i hi
      obtain ⟨ys, n, _, _, _, hfs⟩ := hf i (by omega)
      obtain ⟨v0, y0, c0, _, h0⟩ := hfs 0 _ rfl
      obtain ⟨v1, y1, c1, _, h1⟩ := hfs 1 _ rfl
      obtain ⟨v2, y2, c2, _, h2⟩ := hfs 2 _ rfl
      obtain ⟨v3, y3, c3, _, h3⟩ := hfs 3 _ rfl
      obtain ⟨v4, y4, c4, _, h4⟩ := hfs 4 _ rfl
      obtain ⟨v5, y5, c5, _, h5⟩ := hfs 5 _ rfl
      obtain ⟨e, ho, hr, hc⟩ := en_of h0 h1 h2 h3 h4 h5
      refine ⟨e, ho, hr, fun j v hv => ?_⟩
      rw [hc] at hv
      match j, hv with
      | 0, hv => simp at hv; subst hv; exact c0
      | 1, hv => simp at hv; subst hv; exact c1
      | 2, hv => simp at hv; subst hv; exact c2
      | 3, hv => simp at hv; subst hv; exact c3
      | 4, hv => simp at hv; subst hv; exact c4
      | 5, hv => simp at hv; subst hv; exact c5
      | j + 6, hv => simp at hv
    obtain ⟨f, hf'⟩ := choose_lt each
    have hlen : ((List.range len).map f).length = len := by simp
    refine ⟨some a, cap, (List.range len).map f, by rw [hlen], by rw [hlen]; omega, fun i hi => ?_⟩
    rw [hlen] at hi
    have hget : ((List.range len).map f)[i]'(by rw [hlen]; exact hi) = f i := by simp
    rw [hget]
    obtain ⟨ho, hr, hc⟩ := hf' i hi
    obtain ⟨_, _, hc00⟩ := hf' 0 (by omega)
    have z0 := hc00 0 _ rfl
    simp only [Nat.zero_mul, Nat.add_zero] at z0
    have hsp := spot_of_cell z0
    have hadd : a.add 0 = a := by simp [Addr.add]
    rw [hadd] at z0 hsp
    obtain ⟨b, o, sp⟩ := a
    simp at hsp
    subst hsp
    refine ⟨ho, hr, b, o, rfl, block_lt_of_cell z0, fun j v hv => ?_⟩
    have := hc j v hv
    rw [Addr.add_mid] at this
    rw [Nat.add_assoc]
    exact this

set_option maxRecDepth 100000 in
/-- An entry by value. -/
theorem ent_of_trod {v : Value} {d : DataW H} {p : List MemPlace} {r : Reach} {b0 : Nat} (hv : Value.okWide Tryz.prog w r b0 28 v) (h : DataW.Trod enc Tryz.prog w base spare held 28 v d p) :
    ∃ e : En, e.Ok ∧ Reads w w.heap.size 1 e.A e.data.length (vb e.data) ∧ v = .agg e.cells.toArray := by
  obtain ⟨v0, v1, v2, v3, v4, v5, y0, y1, y2, y3, y4, y5, n, rfl, _, _, h0, h1, h2, h3, h4, h5⟩ := open_agg6 Tryz.underlying28 (by kernel_rfl) cellsEn hv h
  obtain ⟨e, ho, hr, hc⟩ := en_of h0 h1 h2 h3 h4 h5
  exact ⟨e, ho, hr, by rw [hc]⟩

set_option maxRecDepth 100000 in
theorem bytes_arg {v : Value} {d : DataW H} {p : List MemPlace} {r : Reach} {b0 : Nat} (hv : Value.okWide Tryz.prog w r b0 23 v) (h : DataW.Trod enc Tryz.prog w base spare held 23 v d p) :
    ∃ (A : Option Addr) (c : Nat) (l : List UInt8), v = .slice A l.length c ∧ Reads w w.heap.size 1 A l.length (vb l) ∧ l.length ≤ maxLen := by
  obtain ⟨a, n, c, rfl⟩ := okWide_slice Tryz.underlying23 hv
  obtain ⟨f, hf⟩ := h
  obtain ⟨A, c', l, e, hr, hl⟩ := bytes_of_trod Tryz.underlying23 Tryz.underlying5 cellsB hf
  exact ⟨A, c', l, by simpa [Value.cells] using e, hr, hl⟩
set_option maxRecDepth 100000 in
theorem ints_arg {v : Value} {d : DataW H} {p : List MemPlace} {r : Reach} {b0 : Nat} (hv : Value.okWide Tryz.prog w r b0 22 v) (h : DataW.Trod enc Tryz.prog w base spare held 22 v d p) :
    ∃ (A : Option Addr) (c : Nat) (zs : List Int), v = .slice A zs.length c ∧ Reads w w.heap.size 1 A zs.length (ints zs) ∧ zs.length ≤ maxLen ∧ ∀ n ∈ zs, -9223372036854775808 ≤ n ∧ n ≤ 9223372036854775807 := by
  obtain ⟨a, n, c, rfl⟩ := okWide_slice Tryz.underlying22 hv
  obtain ⟨f, hf⟩ := h
  obtain ⟨A, c', l, e, hr, hl⟩ := ints_of_trod Tryz.underlying22 Tryz.underlying3 cellsI hf
  exact ⟨A, c', l, by simpa [Value.cells] using e, hr, hl⟩
set_option maxRecDepth 100000 in
theorem ents_arg {v : Value} {d : DataW H} {p : List MemPlace} {r : Reach} {b0 : Nat} (hv : Value.okWide Tryz.prog w r b0 152 v) (h : DataW.Trod enc Tryz.prog w base spare held 152 v d p) :
    ∃ (A : Option Addr) (c : Nat) (es : List En), v = .slice A es.length c ∧ es.length ≤ maxLen ∧ Ents w w.heap.size A es := by
  obtain ⟨a, n, c, rfl⟩ := okWide_slice Tryz.underlying152 hv
  obtain ⟨f, hf⟩ := h
  obtain ⟨A, c', es, e, hl, he⟩ := ents_of_trod hf
  exact ⟨A, c', es, by simpa [Value.cells] using e, hl, he⟩
theorem laidOut : laidOutB Tryz.prog = true := by kernel_rfl
end
end Go.Proofs.YtpkiopijfhkagaaGreatDoor.opens
