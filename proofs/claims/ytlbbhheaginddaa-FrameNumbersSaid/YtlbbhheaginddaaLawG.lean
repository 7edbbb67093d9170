/-
  The frames' laws: what is scanned, as frames that are put and held side by side.
-/
import Derived.Test.YtlbbhheaginddaaAwakeG
namespace Go.Proofs.Ytlbbhheaginddaa.fr
open Go.RowKit Go.Proofs.Ytlbbhheaginddaa.mem Go.Proofs.Ytlbbhheaginddaa.kit Go.Proofs.Ytlbbhheaginddaa.wire Go.Proofs.Ytlbbhheaginddaa.crc
set_option linter.unusedVariables false

def itF (x : It) : Fi := ⟨(x.1.1.toNat : Int), x.2.1, x.2.2, x.1.2⟩
theorem itF_fr (x : It) : (itF x).fr = x.1 := by
  unfold itF Fi.fr
  simp
theorem itF_C (xs : List It) : fiCs (xs.map itF) = (xs.map itC).flatten := by
  unfold fiCs
  rw [List.map_map]
  rfl
theorem itF_map (xs : List It) : (xs.map itF).map Fi.fr = xs.map (·.1) := by
  rw [List.map_map]
  exact List.map_congr_left (fun x _ => itF_fr x)

/-- What a scan tells, as frames. -/
def ScF (w : World) (l : List UInt8) (e : Ending) (w' : World) : Prop :=
  ∃ (gs : List Fi) (A : Option Addr) (c : Nat), gs.map Fi.fr = told l ∧ (∀ i (h : i < gs.length), gs[i].Ok) ∧ e = .returned (.tuple #[.slice A gs.length c, .int .i64 ((fbs (told l)).length : Int), .bool (st (crc.left l) == 2)]) ∧ FrArr w' A gs ∧ New w w'
theorem ScD.frames {w w' : World} {l : List UInt8} {e : Ending} (h : ScD w l e w') : ScF w l e w' := by
  obtain ⟨xs, A, c, h1, rfl, ho, hr⟩ := h
  have hlen : (xs.map itF).length = xs.length := by simp
  refine ⟨xs.map itF, A, c, by rw [itF_map, h1], fun i hi => ?_, by rw [hlen], ?_, hr.new⟩
  · have hi' : i < xs.length := by simpa using hi
    have hok := (scan_back l.length l (Nat.le_refl _)).2.1
    rw [List.getElem_map]
    refine ⟨by unfold itF; simp only; omega, by unfold itF; have := xs[i].1.1.toNat_lt; simp only; omega, ?_⟩
    exact hok xs[i].1 (by rw [← h1]; exact List.mem_map.2 ⟨xs[i], List.getElem_mem hi', rfl⟩)
  · intro i hi
    have hi' : i < xs.length := by simpa using hi
    rcases ho.2 with ⟨e, e0⟩ | ⟨g, cap, cur, e, _⟩
    · omega
    · simp only [Value.slice.injEq] at e
      obtain ⟨rfl, -, -⟩ := e
      refine frArr_of (n := xs.length) (fs := xs.map itF) (by rw [itF_C]; exact (own_typed ho).2.1) hlen.symm (fun j hj => ?_) i hi
      have hj' : j < xs.length := by simpa using hj
      have hrow := (hr.row j (by simpa using hj')).2
      simp only [List.getElem_map] at hrow ⊢
      exact (own_typed hrow).2.1
theorem scan_fr (A : Option Addr) (n c : Nat) (l : List UInt8) (w : World) (hn : n = l.length) (hl : l.length ≤ 1099511627776) (hc : n ≤ c ∧ c ≤ maxLen) (hA : Reads w w.heap.size 1 A n (vb l)) :
    Calls Try.prog 6 #[.slice A n c] w (ScF w l) := by
  subst hn
  exact (scan_any A c l w hl hc hA).mono fun e w' h => h.frames

theorem kd_of_fr {x : Fi} (h : x.Ok) : x.kd = ((x.fr.1.toNat : Int), x.fr.2) := by
  unfold Fi.kd
  rw [← h.kind]
  rfl
theorem kds_of_frs {gs fs : List Fi} (hg : ∀ i (h : i < gs.length), gs[i].Ok) (hf : ∀ i (h : i < fs.length), fs[i].Ok) (h : gs.map Fi.fr = fs.map Fi.fr) : gs.map Fi.kd = fs.map Fi.kd := by
  have e : ∀ l : List Fi, (∀ i (h : i < l.length), l[i].Ok) → l.map Fi.kd = (l.map Fi.fr).map (fun p => ((p.1.toNat : Int), p.2)) := fun l hl => by
    rw [List.map_map]
    exact List.map_congr_left (fun x hx => by
      obtain ⟨i, hi, rfl⟩ := List.getElem_of_mem hx
      exact kd_of_fr (hl i hi))
  rw [e gs hg, e fs hf, h]
theorem frs_of_kds {gs fs : List Fi} (h : gs.map Fi.kd = fs.map Fi.kd) : gs.map Fi.fr = fs.map Fi.fr := by
  have e : ∀ l : List Fi, l.map Fi.fr = (l.map Fi.kd).map (fun p => (UInt8.ofNat p.1.toNat, p.2)) := fun l => by
    rw [List.map_map]
    rfl
  rw [e gs, e fs, h]
/-- Frames of the same kinds and Data may be, or may not be, alike. -/
theorem ok_of_kds {gs fs : List Fi} (h : gs.map Fi.kd = fs.map Fi.kd) (hf : ∀ i (h : i < fs.length), fs[i].Ok) : ∀ i (h : i < gs.length), gs[i].Ok := fun i hi => by
  have hl : gs.length = fs.length := by have := congrArg List.length h; simpa using this
  have e : Fi.kd gs[i] = Fi.kd (fs[i]'(by omega)) := by
    have h' := congrArg (fun l => l[i]?) h
    simpa [List.getElem?_map, List.getElem?_eq_getElem hi, List.getElem?_eq_getElem (show i < fs.length by omega)] using h'
  simp only [Fi.kd, Prod.mk.injEq] at e
  have := hf i (by omega)
  unfold Fi.Ok at this ⊢
  rw [e.1, e.2]
  exact this
/-- All may be, or there is a first one that may not. -/
theorem ok_or_wrong (fs : List Fi) : (∀ i (h : i < fs.length), fs[i].Ok) ∨ ∃ j, ∃ hj : j < fs.length, (∀ i (h : i < fs.length), i < j → fs[i].Ok) ∧ ∃ y, fs[j].Wrong y := by
  induction fs with
  | nil => exact Or.inl (fun i h => absurd h (by simp))
  | cons a t ih =>
    by_cases ha : a.Ok
    · rcases ih with hT | ⟨j, hj, h1, h2⟩
      · refine Or.inl (fun i h => ?_)
        cases i with
        | zero => exact ha
        | succ i => exact hT i (by simpa using h)
      · refine Or.inr ⟨j + 1, by simpa using hj, fun i h hij => ?_, by simpa using h2⟩
        cases i with
        | zero => exact ha
        | succ i => exact h1 i (by simpa using h) (by omega)
    · refine Or.inr ⟨0, by simp, fun i h hij => absurd hij (by omega), ?_⟩
      unfold Fi.Ok at ha
      simp only [List.getElem_cons_zero]
      by_cases hk : a.kind < 0 ∨ 255 < a.kind
      · exact ⟨2, Or.inl ⟨rfl, hk⟩⟩
      · exact ⟨3, Or.inr ⟨rfl, by omega, by omega, by omega⟩⟩
end Go.Proofs.Ytlbbhheaginddaa.fr
