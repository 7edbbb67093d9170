/-
  Arguments opened: lists of bytes, and of instructions, no longer than the form's reach.
-/
import Derived.Test.YtcebfihjcglnoaaGreatDoorOpenS
import Derived.Test.YtcebfihjcglnoaaGreatDoorInL
namespace Go.Proofs.YtcebfihjcglnoaaGreatDoor.opens
open Go.Joins Go.ChangeShapes Go.WideShapes Go.RowKit Go.Deep Go.Proofs.YtcebfihjcglnoaaGreatDoor.mem Go.Proofs.YtcebfihjcglnoaaGreatDoor.ins
set_option linter.unusedVariables false

theorem vi_split : ∀ (l : List In) (k j : Nat) (h : k < l.length), j < 8 → (vi l)[k * 8 + j]? = (In.cells l[k])[j]?
  | [], k, j, h, _ => by simp at h
  | i :: l, 0, j, h, hj => by
    rw [Nat.zero_mul, Nat.zero_add]
    have e : vi (i :: l) = In.cells i ++ vi l := rfl
    rw [e, List.getElem?_append_left (by simpa [In.cells] using hj)]
    rfl
  | i :: l, k + 1, j, h, hj => by
    have e : vi (i :: l) = In.cells i ++ vi l := rfl
    rw [e, List.getElem?_append_right (by simp [In.cells]; omega), show (k + 1) * 8 + j - (In.cells i).length = k * 8 + j by simp [In.cells]; omega]
    exact vi_split l k j (by simpa using h) hj

section
variable {H : Type} {enc : TypeId × Value → H} {w : World} {base : Nat} {spare : Nat → Bool} {held : Bool}
theorem cellsI : Tryz.prog.cellsOf 47 = 8 := by kernel_rfl
theorem sizeI : Tryz.prog.bytesOf 47 = 56 := by kernel_rfl
instance : Inhabited In := ⟨⟨0, false, 0, 0, false, 0, 0, 0⟩⟩

set_option maxRecDepth 100000 in
theorem ins_arg {ts : List TypeId} {ds : List (DataW H)} (hsz : (DataW.weightsEach Tryz.prog ts ds).all (· ≤ reachBytes) = true) (j : Nat) {v : Value} {d : DataW H} {p : List MemPlace} {r : Reach} {b0 : Nat} (hj : ts[j]? = some 23) (hd : ds[j]? = some d)
    (hv : Value.okWide Tryz.prog w r b0 23 v) (h : DataW.Trod enc Tryz.prog w base spare held 23 v d p) :
    ∃ (A : Option Addr) (c : Nat) (l : List In), v = .slice A l.length c ∧ RI w A l ∧ (l.length ≤ c ∧ c ≤ maxLen) ∧ l.length ≤ 2513169434844 := by
  obtain ⟨a, n, c, rfl⟩ := okWide_slice Tryz.underlying23 hv
  obtain ⟨f, hf⟩ := h
  have hw : ∀ n ∈ d.weights Tryz.prog 23, n ≤ reachBytes := fun n hn => by simpa using List.all_eq_true.1 hsz n (DataW.weights_mem_each hj hd n hn)
  obtain ⟨h1, h2, h3⟩ := reach_slice Tryz.underlying23 hf hw (A := a) (n := n) (c := c) rfl
  rw [sizeI] at h1
  unfold reachBytes at h1
  rcases open_slice_fields Tryz.underlying23 Tryz.underlying47 (by kernel_rfl) (by rw [cellsI]; rfl) hf with ⟨h0, _⟩ | ⟨ad, len, cap, m, D, Pl, h0, hb, hl, hm, hmm, hx, hfl⟩
  · simp only [Value.cells, List.cons.injEq, Value.slice.injEq, and_true] at h0
    obtain ⟨rfl, rfl, rfl⟩ := h0
    exact ⟨none, 0, [], rfl, Reads.none_, by simp [maxLen], by simp⟩
  · simp only [Value.cells, List.cons.injEq, Value.slice.injEq, and_true] at h0
    obtain ⟨rfl, rfl, rfl⟩ := h0
    have hle : n ≤ m := by rw [hmm]; split <;> omega
    have each : ∀ i, i < n → ∃ x : In, ∀ (j : Nat) (u : Value), (In.cells x)[j]? = some u → w.cell? (ad.add (i * 8 + j)) = some u := by
      intro i hi
      obtain ⟨ys, k, hD, _, hlen, hfs⟩ := hfl i (by omega)
      obtain ⟨v0, y0, c0, -, g0⟩ := hfs 0 _ rfl
      obtain ⟨v1, y1, c1, -, g1⟩ := hfs 1 _ rfl
      obtain ⟨v2, y2, c2, -, g2⟩ := hfs 2 _ rfl
      obtain ⟨v3, y3, c3, -, g3⟩ := hfs 3 _ rfl
      obtain ⟨v4, y4, c4, -, g4⟩ := hfs 4 _ rfl
      obtain ⟨v5, y5, c5, -, g5⟩ := hfs 5 _ rfl
      obtain ⟨v6, y6, c6, -, g6⟩ := hfs 6 _ rfl
      obtain ⟨v7, y7, c7, -, g7⟩ := hfs 7 _ rfl
      obtain ⟨a0, e0, _, _⟩ := DataW.trod_int Tryz.underlying45 g0
      obtain ⟨a1, e1, _⟩ := DataW.trod_bool Tryz.underlying4 g1
      obtain ⟨a2, e2, _, _⟩ := DataW.trod_int Tryz.underlying3 g2
      obtain ⟨a3, e3, _, _⟩ := DataW.trod_int Tryz.underlying3 g3
      obtain ⟨a4, e4, _⟩ := DataW.trod_bool Tryz.underlying4 g4
      obtain ⟨a5, e5, _, _⟩ := DataW.trod_int Tryz.underlying3 g5
      obtain ⟨a6, e6, _, _⟩ := DataW.trod_int Tryz.underlying3 g6
      obtain ⟨a7, e7, _, _⟩ := DataW.trod_int Tryz.underlying3 g7
      simp at e0 e1 e2 e3 e4 e5 e6 e7
      subst e0 e1 e2 e3 e4 e5 e6 e7
      refine ⟨⟨a0, a1, a2, a3, a4, a5, a6, a7⟩, fun j u hu => ?_⟩
      match j, hu with
      | 0, hu => simp [In.cells] at hu; subst hu; exact c0
      | 1, hu => simp [In.cells] at hu; subst hu; exact c1
      | 2, hu => simp [In.cells] at hu; subst hu; exact c2
      | 3, hu => simp [In.cells] at hu; subst hu; exact c3
      | 4, hu => simp [In.cells] at hu; subst hu; exact c4
      | 5, hu => simp [In.cells] at hu; subst hu; exact c5
      | 6, hu => simp [In.cells] at hu; subst hu; exact c6
      | 7, hu => simp [In.cells] at hu; subst hu; exact c7
      | j + 8, hu => simp [In.cells] at hu
    obtain ⟨g, hg⟩ := choose_lt each
    have hlen : ((List.range n).map g).length = n := by simp
    have hat : ∀ i (h : i < ((List.range n).map g).length), ((List.range n).map g)[i] = g i := fun i h => by simp
    refine ⟨some ad, c, (List.range n).map g, by rw [hlen], ⟨by rw [vi_length], fun hp => ⟨ad, rfl, ?_, fun q u hu => ?_⟩⟩, by rw [hlen]; exact ⟨h2, h3⟩, by rw [hlen]; omega⟩
    · have z0 := hg 0 (by omega) 0 _ rfl
      have := block_lt_of_cell z0
      rwa [block_of_add] at this
    · have hq : q < (vi ((List.range n).map g)).length := (List.getElem?_eq_some_iff.1 hu).1
      rw [vi_length, hlen] at hq
      have hk : q / 8 < ((List.range n).map g).length := by rw [hlen]; omega
      have e := vi_split ((List.range n).map g) (q / 8) (q % 8) hk (by omega)
      rw [show q / 8 * 8 + q % 8 = q by omega, hu, hat _ hk] at e
      have := hg (q / 8) (by rw [hlen] at hk; exact hk) (q % 8) u e.symm
      rwa [show q / 8 * 8 + q % 8 = q by omega] at this
end
end Go.Proofs.YtcebfihjcglnoaaGreatDoor.opens
