/-
  Arguments opened: lists of bytes and of frames, each no longer than the form's reach.
-/
import Derived.Test.YtdbolkmhmgbgfaaOpen
import Derived.Test.YtdbolkmhmgbgfaaOwn
import Derived.SizedLaws
namespace Go.Proofs.Ytdbolkmhmgbgfaa.opens
open Go.Joins Go.ChangeShapes Go.WideShapes Go.RowKit Go.Deep Go.Proofs.Ytdbolkmhmgbgfaa.mem Go.Proofs.Ytdbolkmhmgbgfaa.fr
set_option linter.unusedVariables false

section
variable {H : Type} {enc : TypeId × Value → H} {P : Program} {w : World} {base : Nat} {spare : Nat → Bool} {held : Bool}
theorem spot_of_cell {w : World} {a : Addr} {v : Value} (h : w.cell? a = some v) : a.spot = none := by
  unfold World.cell? at h
  split at h
  · split at h
    · cases h
    · rename_i hs
      cases hsp : a.spot with
      | none => rfl
      | some x => simp [hsp] at hs
  · cases h

/-- A slice that was read is no longer than the reach. -/
theorem reach_slice {t e : TypeId} {fuel : Nat} {cs : List Value} {x : DataW H × List MemPlace} (ht : P.underlying t = some (.slice e)) (h : DataW.trod enc P w base spare held fuel t cs = some x)
    (hw : ∀ n ∈ x.1.weights P t, n ≤ reachBytes) {A : Option Addr} {n c : Nat} (hcs : cs = [.slice A n c]) : n * P.bytesOf e ≤ reachBytes ∧ n ≤ c ∧ c ≤ maxLen := by
  rcases open_slice ht h with ⟨h0, _⟩ | ⟨a, len, cap, m, k, D, Pl, h0, hb, hl, hm, hmm, hx, _⟩
  · rw [hcs] at h0
    simp only [List.cons.injEq, Value.slice.injEq, and_true] at h0
    obtain ⟨-, rfl, rfl⟩ := h0
    simp [maxLen]
  · rw [hcs] at h0
    simp only [List.cons.injEq, Value.slice.injEq, and_true] at h0
    obtain ⟨-, rfl, rfl⟩ := h0
    refine ⟨?_, hl, hm⟩
    have h1 := hw ((n + (m - n)) * P.bytesOf e) (by
      rw [hx]
      simp [DataW.weights, ht])
    exact Nat.le_trans (Nat.mul_le_mul_right _ (by omega)) h1

theorem weights_of_all {e : TypeId} : ∀ {l : List (DataW H)} {d : DataW H}, d ∈ l → ∀ n ∈ d.weights P e, n ∈ DataW.weightsAll P e l
  | a :: l, d, hd, n, hn => by
    simp only [DataW.weightsAll, List.mem_append]
    rcases List.mem_cons.1 hd with rfl | hd
    · exact Or.inl hn
    · exact Or.inr (weights_of_all hd n hn)
  | [], _, hd, _, _ => by cases hd
end

section
variable {H : Type} {enc : TypeId × Value → H} {w : World} {base : Nat} {spare : Nat → Bool} {held : Bool}
theorem cellsB : Try.prog.cellsOf 5 = 1 := by kernel_rfl
theorem cellsO : Try.prog.cellsOf 37 = 2 := by kernel_rfl
theorem sizeB : Try.prog.bytesOf 5 = 1 := by kernel_rfl
theorem sizeO : Try.prog.bytesOf 37 = 32 := by kernel_rfl

instance : Inhabited Fi := ⟨⟨0, none, 0, []⟩⟩

set_option maxRecDepth 100000 in
theorem bytes_arg {ts : List TypeId} {ds : List (DataW H)} (hsz : (DataW.weightsEach Try.prog ts ds).all (· ≤ reachBytes) = true) (j : Nat) {v : Value} {d : DataW H} {p : List MemPlace} {r : Reach} {b0 : Nat} (hj : ts[j]? = some 27) (hd : ds[j]? = some d)
    (hv : Value.okWide Try.prog w r b0 27 v) (h : DataW.Trod enc Try.prog w base spare held 27 v d p) :
    ∃ (A : Option Addr) (c : Nat) (l : List UInt8), v = .slice A l.length c ∧ Reads w w.heap.size 1 A l.length (vb l) ∧ (l.length ≤ c ∧ c ≤ maxLen) ∧ l.length ≤ 140737488351232 := by
  obtain ⟨a, n, c, rfl⟩ := okWide_slice Try.underlying27 hv
  obtain ⟨f, hf⟩ := h
  obtain ⟨A, c', l, e, hr, hl⟩ := bytes_of_trod Try.underlying27 Try.underlying5 cellsB hf
  obtain ⟨h1, h2, h3⟩ := reach_slice Try.underlying27 hf (fun n hn => by simpa using List.all_eq_true.1 hsz n (DataW.weights_mem_each hj hd n hn)) e
  rw [sizeB, Nat.mul_one] at h1
  exact ⟨A, c', l, by simpa [Value.cells] using e, hr, ⟨h2, h3⟩, h1⟩

theorem fi_of {n0 n1 : Nat} {v0 v1 : Value} {y0 y1 : DataW H × List MemPlace} (h0 : DataW.trod enc Try.prog w base spare held n0 3 [v0] = some y0) (h1 : DataW.trod enc Try.prog w base spare held n1 27 [v1] = some y1) (hw : ∀ n ∈ y1.1.weights Try.prog 27, n ≤ reachBytes) :
    ∃ x : Fi, x.data.length ≤ 140737488351232 ∧ (-9223372036854775808 ≤ x.kind ∧ x.kind ≤ 9223372036854775807) ∧ Reads w w.heap.size 1 x.A x.data.length (vb x.data) ∧ fiC x = [v0, v1] := by
  obtain ⟨a0, e0, _, w0⟩ := DataW.trod_int Try.underlying3 h0
  obtain ⟨A, c, l, e1, hr, hl⟩ := bytes_of_trod Try.underlying27 Try.underlying5 cellsB h1
  obtain ⟨h2, -, -⟩ := reach_slice Try.underlying27 h1 hw e1
  rw [sizeB, Nat.mul_one] at h2
  refine ⟨⟨a0, A, c, l⟩, h2, wf64 w0, hr, ?_⟩
  simp at e0 e1
  rw [fiC, e0, e1]

set_option maxRecDepth 100000 in
/-- A list of frames. -/
theorem ones_arg {ts : List TypeId} {ds : List (DataW H)} (hsz : (DataW.weightsEach Try.prog ts ds).all (· ≤ reachBytes) = true) (j : Nat) {v : Value} {d : DataW H} {p : List MemPlace} {r : Reach} {b0 : Nat} (hj : ts[j]? = some 22) (hd : ds[j]? = some d)
    (hv : Value.okWide Try.prog w r b0 22 v) (h : DataW.Trod enc Try.prog w base spare held 22 v d p) :
    ∃ (A : Option Addr) (c : Nat) (fs : List Fi), v = .slice A fs.length c ∧ FrOf w A fs ∧ (fs.length ≤ c ∧ c ≤ maxLen) ∧ fs.length ≤ 4398046511104 ∧ (∀ i (h : i < fs.length), fs[i].data.length ≤ 140737488351232) ∧ ∀ i (h : i < fs.length), -9223372036854775808 ≤ fs[i].kind ∧ fs[i].kind ≤ 9223372036854775807 := by
  obtain ⟨a, n, c, rfl⟩ := okWide_slice Try.underlying22 hv
  obtain ⟨f, hf⟩ := h
  have hw : ∀ n ∈ d.weights Try.prog 22, n ≤ reachBytes := fun n hn => by simpa using List.all_eq_true.1 hsz n (DataW.weights_mem_each hj hd n hn)
  obtain ⟨h1, h2, h3⟩ := reach_slice Try.underlying22 hf hw (A := a) (n := n) (c := c) rfl
  rw [sizeO] at h1
  unfold reachBytes at h1
  rcases open_slice_fields Try.underlying22 Try.underlying37 (by kernel_rfl) (by rw [cellsO]; rfl) hf with ⟨h0, _⟩ | ⟨ad, len, cap, m, D, Pl, h0, hb, hl, hm, hmm, hx, hfl⟩
  · simp only [Value.cells, List.cons.injEq, Value.slice.injEq, and_true] at h0
    obtain ⟨rfl, rfl, rfl⟩ := h0
    exact ⟨none, 0, [], rfl, fun i hi => absurd hi (by simp), by simp [maxLen], by simp, fun i hi => absurd hi (by simp), fun i hi => absurd hi (by simp)⟩
  · simp only [Value.cells, List.cons.injEq, Value.slice.injEq, and_true] at h0
    obtain ⟨rfl, rfl, rfl⟩ := h0
    have hle : n ≤ m := by rw [hmm]; split <;> omega
    have each : ∀ i, i < n → ∃ x : Fi, x.data.length ≤ 140737488351232 ∧ (-9223372036854775808 ≤ x.kind ∧ x.kind ≤ 9223372036854775807) ∧ Reads w w.heap.size 1 x.A x.data.length (vb x.data) ∧ ∀ (j : Nat) (u : Value), (fiC x)[j]? = some u → w.cell? (ad.add (i * 2 + j)) = some u := by
      intro i hi
      obtain ⟨ys, k, hD, _, hlen, hfs⟩ := hfl i (by omega)
      obtain ⟨v0, y0, c0, e0, g0⟩ := hfs 0 _ rfl
      obtain ⟨v1, y1, c1, e1, g1⟩ := hfs 1 _ rfl
      have hw1 : ∀ n ∈ y1.1.weights Try.prog 27, n ≤ reachBytes := fun q hq => hw q (by
        have m1 : q ∈ (D i).weights Try.prog 37 := by
          rw [hD]
          simp only [DataW.weights, Try.underlying37]
          exact DataW.weights_mem_each (j := 1) rfl (by rw [List.getElem?_map, e1]; rfl) q hq
        have m2 := weights_of_all (P := Try.prog) (l := (List.range n).map D) (List.mem_map.2 ⟨i, List.mem_range.2 hi, rfl⟩) q m1
        simp only [Prod.mk.injEq] at hx
        rw [hx.1]
        simp only [DataW.weights, Try.underlying22, List.mem_cons, List.mem_append]
        exact Or.inr (Or.inl m2))
      obtain ⟨x, hl1, hk, hr, hc⟩ := fi_of g0 g1 hw1
      refine ⟨x, hl1, hk, hr, fun j u hu => ?_⟩
      rw [hc] at hu
      match j, hu with
      | 0, hu => simp at hu; subst hu; exact c0
      | 1, hu => simp at hu; subst hu; exact c1
      | j + 2, hu => simp at hu
    obtain ⟨g, hg⟩ := choose_lt each
    have hlen : ((List.range n).map g).length = n := by simp
    have hat : ∀ i (h : i < ((List.range n).map g).length), ((List.range n).map g)[i] = g i := fun i h => by simp
    refine ⟨some ad, c, (List.range n).map g, by rw [hlen], fun i hi => ?_, by rw [hlen]; exact ⟨h2, h3⟩, by rw [hlen]; omega, fun i hi => ?_, fun i hi => ?_⟩
    · rw [hat i hi]
      rw [hlen] at hi
      obtain ⟨-, -, hr, hc⟩ := hg i hi
      obtain ⟨-, -, -, hc00⟩ := hg 0 (by omega)
      have z0 := hc00 0 _ rfl
      simp only [Nat.zero_mul, Nat.add_zero] at z0
      have hsp := spot_of_cell z0
      have hadd : ad.add 0 = ad := by simp [Addr.add]
      rw [hadd] at z0 hsp
      obtain ⟨b, o, sp⟩ := ad
      simp at hsp
      subst hsp
      have q0 := hc 0 _ rfl
      have q1 := hc 1 _ rfl
      rw [Addr.add_mid] at q0 q1
      exact ⟨b, o, rfl, block_lt_of_cell z0, q0, q1, hr⟩
    · rw [hat i hi]
      exact (hg i (by rw [hlen] at hi; exact hi)).1
    · rw [hat i hi]
      exact (hg i (by rw [hlen] at hi; exact hi)).2.1
theorem laidOut : laidOutB Try.prog = true := by kernel_rfl
end
end Go.Proofs.Ytdbolkmhmgbgfaa.opens
