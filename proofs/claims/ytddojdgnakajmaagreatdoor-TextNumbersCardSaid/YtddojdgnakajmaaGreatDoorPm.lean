/-
  The document's Parse: what a line's parts make, as relations.
-/
import Derived.Test.YtddojdgnakajmaaGreatDoorPl
namespace Go.Proofs.YtddojdgnakajmaaGreatDoor.txt
open Go.RowKit Go.Proofs.YtddojdgnakajmaaGreatDoor.mem Go.Proofs.YtddojdgnakajmaaGreatDoor.kit Go.Proofs.YtddojdgnakajmaaGreatDoor.ins
set_option linter.unusedVariables false
set_option linter.unusedSimpArgs false

abbrev regS (s : Ls) : Ls := badS (tkS s) !(regOf (nx s)).isSome
def CelR (s : Ls) (n : Int) (s' : Ls) : Prop := ∃ f, (∀ m, regOf (nx (celS s).1) = some m → n = m) ∧ (∀ m, numOf (nx (tkS (celS s).2.1)) = some m → f = negI (nx (celS s).2.1 == [45]) m) ∧ s' = mustS [93] (inI (celS s).2.2 { s.i with off := f })
def CelE (C : Cl) (s : Ls) (e : Ending) (w' : World) : Prop := ∃ n s', e = .returned (.int .i64 n) ∧ CelR s n s' ∧ SL C s' w'
theorem lcell_e (C : Cl) (s : Ls) (w : World) (h : SL C s w) (hk : s.k ≤ 800) : Calls Tryz.prog 115 #[.pointer (some ⟨C.g, 0, none⟩), .pointer (some ⟨C.gi, 0, none⟩)] w (CelE C s) :=
  (lcell_any C s w h hk).mono fun e w' h => by
    obtain ⟨n, f, rfl, h1, h2, h3⟩ := h
    exact ⟨n, _, rfl, ⟨f, h1, h2, rfl⟩, h3⟩
def ToR (s : Ls) (u : Bs) (s' : Ls) : Prop :=
  (isLab (nx s) = true ∧ u = nx s ∧ s' = tkS s) ∨ (isLab (nx s) = false ∧ u = [] ∧ ∃ f, (∀ m, numOf (nx (tkS s)) = some m → f = negI (nx s == [45]) m) ∧ s' = inI (sgnS s) { s.i with off := f })
def ToE (C : Cl) (s : Ls) (e : Ending) (w' : World) : Prop := ∃ u s', e = .returned (.string ⟨u.toArray⟩) ∧ ToR s u s' ∧ SL C s' w'
theorem lto_e (C : Cl) (s : Ls) (w : World) (h : SL C s w) (hk : s.k ≤ 800) : Calls Tryz.prog 113 #[.pointer (some ⟨C.g, 0, none⟩), .pointer (some ⟨C.gi, 0, none⟩)] w (ToE C s) :=
  (lto_any C s w h hk).mono fun e w' h => by
    rcases h with ⟨h1, rfl, h3⟩ | ⟨h1, rfl, f, h2, h3⟩
    · exact ⟨_, _, rfl, .inl ⟨h1, rfl, rfl⟩, h3⟩
    · exact ⟨[], _, rfl, .inr ⟨h1, rfl, f, h2, rfl⟩, h3⟩
theorem Sec.kle {s s' : Ls} (h : Sec s s') : s'.k ≤ s.k + 2 := by
  rcases h with ⟨n, _, rfl⟩ | ⟨_, _, n, _, rfl⟩ | ⟨_, _, n, _, rfl⟩
  · show s.k + 1 ≤ _; omega
  · show s.k + 1 + 1 ≤ _; omega
  · show s.k + 1 ≤ _; omega
theorem CelR.keq {s s' : Ls} {n : Int} (h : CelR s n s') : s'.k = s.k + 5 := by
  obtain ⟨f, _, _, rfl⟩ := h
  rfl
theorem SL.i7 {C : Cl} {s : Ls} {w : World} (h : SL C s w) : w.cell? ⟨C.gi, 7, none⟩ = some (.int .i64 s.i.siz) ∧ w.frozen? ⟨C.gi, 7, none⟩ = false := ⟨(h.i.cell 7).trans rfl, h.i.frozen 7⟩
/-- What an instruction's reading tells, its way given. -/
def WayD (W : Bs → Ls → Prop) (s : Ls) (j : In) (u : Bs) (s' : Ls) : Prop := ∃ s1, W u s1 ∧ j = s1.i ∧ s' = inI (badS s1 (decide (s1.k ≠ s1.ts.length))) s.i
theorem src_set (j : In) (n : Int) : (icell j).setIfInBounds 3 (.int .i64 n) = icell { j with src := n } := rfl
theorem dst_set (j : In) (n : Int) : (icell j).setIfInBounds 2 (.int .i64 n) = icell { j with dst := n } := rfl

/-- An instruction, as the document takes it: the reader behind its parts. -/
def WayR (s : Ls) (u : Bs) (s1 : Ls) : Prop :=
  (∃ n, OpIs (nx s) 13 n ∧ u = [] ∧ ∃ d, (∀ m, regOf (nx (tkS s)) = some m → d = m) ∧ s1 = inI (regS (tkS s)) ⟨13, n, d, 0, false, 0, 0, 0⟩) ∨
  (∃ o n, OpIs (nx s) o n ∧ 17 ≤ o ∧ o ≤ 27 ∧ ∃ d s3, (∀ m, regOf (nx (tkS s)) = some m → d = m) ∧ Sec (mustS [44] (inI (regS (tkS s)) ⟨o, n, d, 0, false, 0, 0, 0⟩)) s3 ∧ ToR (mustS [44] s3) u s1) ∨
  (∃ o n, OpIs (nx s) o n ∧ 1 ≤ o ∧ o < 17 ∧ ¬ o = 13 ∧ u = [] ∧ ∃ d, (∀ m, regOf (nx (tkS s)) = some m → d = m) ∧ Sec (mustS [44] (inI (regS (tkS s)) ⟨o, n, d, 0, false, 0, 0, 0⟩)) s1) ∨
  (OpIs (nx s) 0 false ∧ ∃ z, szM (nx s) [108, 111, 97, 100] = z ∧ 1 ≤ z ∧ u = [] ∧ ∃ d n, (∀ m, regOf (nx (tkS s)) = some m → d = m) ∧ ∃ s3, CelR (mustS [44] (inI (regS (tkS s)) ⟨14, false, d, 0, false, 0, 0, z⟩)) n s3 ∧ s1 = inI s3 { s3.i with src := n }) ∨
  (OpIs (nx s) 0 false ∧ szM (nx s) [108, 111, 97, 100] = 0 ∧ ∃ z, szM (nx s) [112, 117, 116] = z ∧ 1 ≤ z ∧ u = [] ∧ ∃ d s3, CelR (inI (tkS (inI s zI)) ⟨15, false, 0, 0, false, 0, 0, z⟩) d s3 ∧ Sec (mustS [44] (inI s3 { s3.i with dst := d })) s1) ∨
  (OpIs (nx s) 0 false ∧ szM (nx s) [108, 111, 97, 100] = 0 ∧ szM (nx s) [112, 117, 116] = 0 ∧ nx s = [106, 117, 109, 112] ∧ ToR (inI (tkS (inI s zI)) ⟨16, false, 0, 0, false, 0, 0, 0⟩) u s1) ∨
  (OpIs (nx s) 0 false ∧ szM (nx s) [108, 111, 97, 100] = 0 ∧ szM (nx s) [112, 117, 116] = 0 ∧ nx s = [101, 120, 105, 116] ∧ u = [] ∧ s1 = inI (tkS (inI s zI)) ⟨28, false, 0, 0, false, 0, 0, 0⟩) ∨
  (OpIs (nx s) 0 false ∧ szM (nx s) [108, 111, 97, 100] = 0 ∧ szM (nx s) [112, 117, 116] = 0 ∧ nx s ≠ [106, 117, 109, 112] ∧ nx s ≠ [101, 120, 105, 116] ∧ u = [] ∧ s1 = badS (inI (tkS (inI s zI)) zI) true)
def InstR (s : Ls) (j : In) (u : Bs) (s' : Ls) : Prop := ∃ s1, WayR s u s1 ∧ j = s1.i ∧ s' = inI (badS s1 (decide (s1.k ≠ s1.ts.length))) s.i
theorem szM_is (t v : Bs) : szM t v = 0 ∨ (1 ≤ szM t v ∧ szM t v ≤ 8) := by
  unfold szM
  split
  · right; decide
  · split
    · right; decide
    · split
      · right; decide
      · split
        · right; decide
        · left; rfl
theorem OpIs.rng {t : Bs} {o : Int} {n : Bool} (h : OpIs t o n) : (1 ≤ o ∧ o ≤ 27) ∨ (o = 0 ∧ n = false) := by
  rcases h with ⟨k, hk, _, _, rfl⟩ | ⟨_, rfl, rfl⟩
  · left; omega
  · right; exact ⟨rfl, rfl⟩
end Go.Proofs.YtddojdgnakajmaaGreatDoor.txt
