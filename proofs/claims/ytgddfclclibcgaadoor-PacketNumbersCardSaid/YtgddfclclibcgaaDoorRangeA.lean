/-
  A range over a function whose state lies in cells of its caller's: one law, at one iterator and one body.
-/
import Derived.RangeFuncNested
import Derived.RangeFuncBound
import Derived.RangeFuncCalls
import Derived.RangeFuncLeaves
import Derived.Shelf.Abstract
import Derived.Shelf.RegionOpen
import Derived.WalkKit
import Derived.OwnWalkIn
import Derived.TacticsInMore
import Derived.LoopNIn
import Derived.LoopIn
namespace Go.Proofs.YtgddfclclibcgaaDoor.rng
open Go.RowKit
set_option linter.unusedVariables false

/-- The loop's record and the block for its rounds' deferred calls. -/
def Bk (l D : Nat) (R : Loop) (W : World) : Prop := W.heap[l]? = some (.loop R) ∧ W.heap[D]? = some (.deferred (some []))

variable {F : Fence} {n : Nat} {P : Program}

/-- A round is left at its end alone. -/
def Off {α : Type} (I : List α → World → Prop) (xs : List α) (W : World) : Exit → Act → World → Prop
  | .normal, _, W' => KeepsOthers W W' ∧ I xs W'
  | _, _, _ => False

theorem range_at {α : Type} {g : Operand} {ps : Array Tmp} {assign body : Code} {Q : Exit → Act → World → Prop} {a : Act} {w : World}
    (hro : F.round = none) (h1 : 1 ≤ n) {gf : Nat} {fi lb : Array Value} (hg : a.eval g = .func (.func gf) fi lb) (hFg : F.fn gf) (eg : ∀ args w, (callFunc gf args).run P w = .ok (.enter gf args) w)
    {encs : α → Array Value} (hps : ∀ x, (encs x).size = ps.size)
    (I : List α → World → Prop) (Ib : List α → α → World → Prop) (Ax : α → Act → World → Prop) (S : List α → Prop)
    (pI : ∀ s W l o o', I s W → w.heap.size ≤ l → W.heap[l]? = some o → o.isCells = false → I s (W.putObj l o'))
    (aI : ∀ s W o, I s W → I s (W.alloc o))
    (pB : ∀ s x a' W l o o', Ib s x W → Ax x a' W → w.heap.size ≤ l → W.heap[l]? = some o → o.isCells = false → Ib s x (W.putObj l o') ∧ Ax x a' (W.putObj l o'))
    (h0 : I [] w)
    (hiter : ∀ (l D : Nat) (R : Loop) (W : World),
      (∀ pre x W1, Ib pre x W1 → Bk l D R W1 → YieldAt F (n - 1 - 1) P l (encs x) W1 fun e W' => e = .returned (.bool true) ∧ I (pre ++ [x]) W' ∧ Bk l D R W') → I [] W → Bk l D R W →
      CallsIn F (n - 1) P gf (fi ++ #[.func (.yield l) #[] #[]] ++ lb) W fun e W' => (∃ v, e = .returned v) ∧ ∃ xs, S xs ∧ I xs W' ∧ Bk l D R W')
    (hassign : ∀ (l : Nat) (pre : List α) (x : α) (W : World) (K : Act → World → Prop), Ib pre x W → (∀ a' W', KeepsOthers W W' → Ib pre x W' → Ax x a' W' → K a' W') →
      assign.wpIn (F.inRound l) (n - 1 - 1) P (Exit.then K (fun _ _ _ => False)) { tmps := (ps.zip (encs x)).foldl (fun t (p, v) => t.setIfInBounds p v) a.tmps, defers := [] } W)
    (hbody : ∀ (l : Nat) (pre : List α) (x : α) (a' : Act) (W : World), Ib pre x W → Ax x a' W → body.wpIn (F.inRound l) (n - 1 - 1) P (Off I (pre ++ [x]) W) a' W)
    (hdone : ∀ (D : Nat) (xs : List α) (W : World), w.heap.size ≤ D → S xs → I xs W → W.heap[D]? = some (.deferred (some [])) → Q .normal { a with defers := { target := .collected D, args := #[] } :: a.defers } W) :
    (Code.rangeFunc g ps assign body).wpIn F n P Q a w := by
  refine wpIn_rangeFunc fun fn hfn => ?_
  rw [hro]
  obtain ⟨R, hR⟩ : ∃ R : LoopState → Option Code → Loop, R = fun st pe => { state := st, pending := pe, fn, tmps := a.tmps, params := ps, assign, body, defers := w.heap.size } := ⟨_, rfl⟩
  obtain ⟨W1, hW1⟩ : ∃ W1, (w.alloc (.deferred (some []))).alloc (.loop (R .ready none)) = W1 := ⟨_, rfl⟩
  have hb1 : Bk (w.heap.size + 1) w.heap.size (R .ready none) W1 := by
    rw [← hW1]
    refine ⟨?_, (Below.heap_alloc _ _ _ (by simp)).trans (World.alloc_heap_new w _)⟩
    have h := World.alloc_heap_new (w.alloc (.deferred (some []))) (.loop (R .ready none))
    rwa [World.size_alloc] at h
  have hI1 : I [] W1 := by rw [← hW1]; exact aI _ _ _ (aI _ _ _ h0)
  refine ⟨w.heap.size + 1, [{ target := .collected w.heap.size, args := #[] }], W1, { target := .fn (.func gf) lb, args := fi ++ #[.func (.yield (w.heap.size + 1)) #[] #[]] }, W1, gf, fi ++ #[.func (.yield (w.heap.size + 1)) #[] #[]] ++ lb, W1, ?_, ?_, ?_, ?_, fun _ => h1, ?_⟩
  · rw [← hW1, hR]
    exact run_enterLoop_outer _ _ _ _ _
  · simp only [resolve, hg]
    simp [go_sem]
  · intro f' hf'
    simp [Target.leads] at hf'
    subst hf'
    exact hFg
  · simp [invoke, go_sem, eg]
  · refine (hiter _ _ (R .ready none) W1 (fun pre x W hi hb => ?_) hI1 hb1).mono ?_
    · obtain ⟨hl, hD⟩ := hb
      have hy := run_yield (P := P) (args := encs x) hl (by rw [hR]; exact hps x)
      rw [hR] at hy
      refine ⟨fn, _, assign, body, hy, roundIn_of_wpIn hfn (hassign _ pre x W _ hi fun a' W2 hk hi2 hax => ?_)⟩
      have hl2 := hk.same _ _ hl rfl
      have hD2 := hk.same _ _ hD rfl
      refine ⟨_, run_beginRound hl2 (by rw [hR]), ?_⟩
      have hl3 : (W2.putObj (w.heap.size + 1) (.loop { R .ready none with state := .busy })).heap[w.heap.size + 1]? = some (.loop { R .ready none with state := .busy }) := World.putObj_heap_same (Array.getElem?_eq_some_iff.1 hl2).1
      have hD3 : (W2.putObj (w.heap.size + 1) (.loop { R .ready none with state := .busy })).heap[w.heap.size]? = some (.deferred (some [])) := (World.putObj_heap_other (by omega)).trans hD2
      obtain ⟨hi3, hax3⟩ := pB _ _ _ _ (w.heap.size + 1) _ (.loop { R .ready none with state := .busy }) hi2 hax (by omega) hl2 rfl
      refine wpIn_mono (hbody _ pre x a' _ hi3 hax3) ?_
      intro e a3 W3 hp
      cases e with
      | normal =>
        obtain ⟨hk3, hi4⟩ := hp
        have hl4 := hk3.same _ _ hl3 rfl
        have hD4 := hk3.same _ _ hD3 rfl
        have hend := run_endRound (P := P) none hl4
        refine ⟨_, _, hend, rfl, pI _ _ _ _ _ hi4 (by omega) hl4 rfl, ?_, (World.putObj_heap_other (by omega)).trans hD4⟩
        rw [World.putObj_heap_same (Array.getElem?_eq_some_iff.1 hl4).1, hR]
        rfl
      | ret => exact hp.elim
      | exit id => exact hp.elim
      | goto t => exact hp.elim
      | panic ch => exact hp.elim
      | outgrown => exact hp.elim
    · rintro e W2 ⟨⟨v, rfl⟩, xs, hS, hi, hl, hD⟩
      have hend := run_endLoop (P := P) hl (by rw [hR]; simp)
      refine ⟨_, _, hend, ?_⟩
      rw [hR]
      exact hdone _ xs _ (Nat.le_refl _) hS (pI _ _ _ _ _ hi (by omega) hl rfl) ((World.putObj_heap_other (by omega)).trans hD)
end Go.Proofs.YtgddfclclibcgaaDoor.rng
