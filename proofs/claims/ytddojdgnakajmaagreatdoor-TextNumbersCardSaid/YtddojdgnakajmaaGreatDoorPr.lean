/-
  The document's Parse: an instruction is what the language's line says.
-/
import Derived.Test.YtddojdgnakajmaaGreatDoorPq
namespace Go.Proofs.YtddojdgnakajmaaGreatDoor.txt
open Go.RowKit Go.Proofs.YtddojdgnakajmaaGreatDoor.mem Go.Proofs.YtddojdgnakajmaaGreatDoor.kit Go.Proofs.YtddojdgnakajmaaGreatDoor.ins
set_option linter.unusedVariables false
set_option linter.unusedSimpArgs false

theorem findW_mem {k : Bs} {x : Wd} : ∀ {l : List Wd}, findW k l = some x → x ∈ l ∧ k = x.key
  | [], h => by cases h
  | y :: l, h => by
    simp only [findW] at h
    split at h
    · rename_i e
      cases h
      exact ⟨List.mem_cons_self .., e⟩
    · obtain ⟨h1, h2⟩ := findW_mem h
      exact ⟨List.mem_cons_of_mem _ h1, h2⟩
def kdW (o : Nat) : Nat := if o = 13 then 1 else if 17 ≤ o then 5 else 0
def w32 (n : Bool) : Bs := if n then [51, 50] else []
theorem findW_ops : ∀ (k : Fin 27) (n : Bool), rws.getD k.val [] = [] ∨ findW (rws.getD k.val [] ++ w32 n) wl = some ⟨k.val + 1, n, 0, kdW (k.val + 1)⟩ := by decide +kernel
theorem opHit_some {t : Bs} {k : Nat} {n : Bool} (h : opHit t k = some n) : rws.getD k [] ≠ [] ∧ t = rws.getD k [] ++ w32 n := by
  unfold opHit at h
  split at h
  · cases h
  · rename_i h0
    split at h
    · rename_i e
      cases h
      exact ⟨h0, by rw [e]; simp [w32]⟩
    · split at h
      · rename_i e
        cases h
        exact ⟨h0, e⟩
      · cases h
theorem findW_op {t : Bs} {o : Int} {n : Bool} (h : OpIs t o n) (h1 : 1 ≤ o) : ∃ m : Nat, o = (m : Int) ∧ findW t wl = some ⟨m, n, 0, kdW m⟩ := by
  rcases h with ⟨k, hk, hh, _, rfl⟩ | ⟨_, rfl, _⟩
  · obtain ⟨h0, e⟩ := opHit_some hh
    refine ⟨k + 1, rfl, ?_⟩
    rcases findW_ops ⟨k, hk⟩ n with h | h
    · exact absurd h h0
    · rw [e]; exact h
  · omega
theorem itoa_1 : Lib.itoa ((2 ^ 0 : Nat) : Int) = [49] := by decide +kernel
theorem itoa_2 : Lib.itoa ((2 ^ 1 : Nat) : Int) = [50] := by decide +kernel
theorem itoa_4 : Lib.itoa ((2 ^ 2 : Nat) : Int) = [52] := by decide +kernel
theorem itoa_8 : Lib.itoa ((2 ^ 3 : Nat) : Int) = [56] := by decide +kernel
def szN (t v : Bs) : Nat := if t = v ++ [49] then 1 else if t = v ++ [50] then 2 else if t = v ++ [52] then 4 else if t = v ++ [56] then 8 else 0
theorem szM_N (t v : Bs) : szM t v = (szN t v : Int) := by
  unfold szM szN
  rw [itoa_1, itoa_2, itoa_4, itoa_8]
  split
  · rfl
  · split
    · rfl
    · split
      · rfl
      · split <;> rfl
theorem szN_is {t v : Bs} {z : Nat} (h : szN t v = z) (h1 : 1 ≤ z) : (z = 1 ∧ t = v ++ [49]) ∨ (z = 2 ∧ t = v ++ [50]) ∨ (z = 4 ∧ t = v ++ [52]) ∨ (z = 8 ∧ t = v ++ [56]) := by
  unfold szN at h
  split at h
  · exact .inl ⟨h.symm, ‹_›⟩
  · split at h
    · exact .inr (.inl ⟨h.symm, ‹_›⟩)
    · split at h
      · exact .inr (.inr (.inl ⟨h.symm, ‹_›⟩))
      · split at h
        · exact .inr (.inr (.inr ⟨h.symm, ‹_›⟩))
        · omega
theorem findW_ld : findW ([108, 111, 97, 100] ++ [49]) wl = some ⟨14, false, 1, 2⟩ ∧ findW ([108, 111, 97, 100] ++ [50]) wl = some ⟨14, false, 2, 2⟩ ∧ findW ([108, 111, 97, 100] ++ [52]) wl = some ⟨14, false, 4, 2⟩ ∧ findW ([108, 111, 97, 100] ++ [56]) wl = some ⟨14, false, 8, 2⟩ := by decide +kernel
theorem findW_pt : findW ([112, 117, 116] ++ [49]) wl = some ⟨15, false, 1, 3⟩ ∧ findW ([112, 117, 116] ++ [50]) wl = some ⟨15, false, 2, 3⟩ ∧ findW ([112, 117, 116] ++ [52]) wl = some ⟨15, false, 4, 3⟩ ∧ findW ([112, 117, 116] ++ [56]) wl = some ⟨15, false, 8, 3⟩ := by decide +kernel
theorem findW_load {t : Bs} {z : Int} (h : szM t [108, 111, 97, 100] = z) (h1 : 1 ≤ z) : ∃ m : Nat, z = (m : Int) ∧ findW t wl = some ⟨14, false, m, 2⟩ := by
  rw [szM_N] at h
  refine ⟨_, h.symm, ?_⟩
  rcases szN_is (t := t) (v := [108, 111, 97, 100]) rfl (by omega) with ⟨e, rfl⟩ | ⟨e, rfl⟩ | ⟨e, rfl⟩ | ⟨e, rfl⟩ <;> rw [e]
  · exact findW_ld.1
  · exact findW_ld.2.1
  · exact findW_ld.2.2.1
  · exact findW_ld.2.2.2
theorem findW_put {t : Bs} {z : Int} (h : szM t [112, 117, 116] = z) (h1 : 1 ≤ z) : ∃ m : Nat, z = (m : Int) ∧ findW t wl = some ⟨15, false, m, 3⟩ := by
  rw [szM_N] at h
  refine ⟨_, h.symm, ?_⟩
  rcases szN_is (t := t) (v := [112, 117, 116]) rfl (by omega) with ⟨e, rfl⟩ | ⟨e, rfl⟩ | ⟨e, rfl⟩ | ⟨e, rfl⟩ <;> rw [e]
  · exact findW_pt.1
  · exact findW_pt.2.1
  · exact findW_pt.2.2.1
  · exact findW_pt.2.2.2
theorem findW_jump : findW [106, 117, 109, 112] wl = some ⟨16, false, 0, 4⟩ := by decide +kernel
theorem findW_exit : findW [101, 120, 105, 116] wl = some ⟨28, false, 0, 6⟩ := by decide +kernel
def opN (t : Bs) : Nat → Option Nat
  | 0 => none
  | m + 1 => match opHit t m with
    | some _ => some m
    | none => opN t m
theorem opN_none {t : Bs} : ∀ {m : Nat}, (∀ j, j < m → opHit t j = none) → opN t m = none
  | 0, _ => rfl
  | m + 1, h => by
    simp only [opN]
    rw [h m (by omega)]
    exact opN_none fun j hj => h j (by omega)
theorem wl_all : ∀ k : Fin 58, opN (wl[k.val]'(by rw [wl_length]; exact k.isLt)).key 27 ≠ none ∨ szN (wl[k.val]'(by rw [wl_length]; exact k.isLt)).key [108, 111, 97, 100] ≠ 0 ∨ szN (wl[k.val]'(by rw [wl_length]; exact k.isLt)).key [112, 117, 116] ≠ 0 ∨ (wl[k.val]'(by rw [wl_length]; exact k.isLt)).key = [106, 117, 109, 112] ∨ (wl[k.val]'(by rw [wl_length]; exact k.isLt)).key = [101, 120, 105, 116] := by decide +kernel
theorem findW_no {t : Bs} (h0 : OpIs t 0 false) (hl : szM t [108, 111, 97, 100] = 0) (hp : szM t [112, 117, 116] = 0) (hj : t ≠ [106, 117, 109, 112]) (he : t ≠ [101, 120, 105, 116]) : findW t wl = none := by
  cases hf : findW t wl with
  | none => rfl
  | some x =>
    exfalso
    obtain ⟨hm, rfl⟩ := findW_mem hf
    obtain ⟨k, hk, rfl⟩ := List.mem_iff_getElem.1 hm
    rw [wl_length] at hk
    rcases wl_all ⟨k, hk⟩ with h | h | h | h | h
    · rcases h0 with ⟨j, _, _, _, e⟩ | ⟨hno, _, _⟩
      · omega
      · exact h (opN_none hno)
    · rw [szM_N] at hl
      exact h (Int.ofNat.inj hl)
    · rw [szM_N] at hp
      exact h (Int.ofNat.inj hp)
    · exact hj h
    · exact he h

/-- What the words and the parts say; whether it is right is not asked yet. -/
def rawI (w : Bs) (L : List Bs) : Option (In × Bs × List Bs) := (findW w wl).bind fun x => pRest x.k x.ins L
theorem pIns_raw (w : Bs) (L : List Bs) : pIns w L = (rawI w L).bind fun r => if ok r.1 then some r else none := by
  unfold pIns rawI
  cases findW w wl <;> rfl
/-- A step's end: nothing, or what is left. -/
def Way (q : Option (In × Bs × List Bs)) (u : Bs) (s1 : Ls) : Prop := LfS (q.map (·.2.2)) s1 ∧ ∀ p, q = some p → s1.i = p.1 ∧ u = p.2.1
theorem Way.none_ {u : Bs} {s1 : Ls} (h : s1.bad = true) : Way none u s1 := ⟨h, fun p h => by cases h⟩
theorem way_any {s : Ls} {u : Bs} {s1 : Ls} {t : Bs} {r : List Bs} (h : WayR s u s1) (hs : LfS (some (t :: r)) s) : Way (rawI t r) u s1 := by
  have ht := hs.take
  have hn : nx s = t := hs.nxe
  unfold WayR at h
  rw [hn] at h
  unfold rawI
  have hreg := ht.reg
  rcases h with ⟨n, ho, rfl, d, hd1, rfl⟩ | ⟨o, n, ho, h17, h27, d, s3, hd1, hse, hto⟩ | ⟨o, n, ho, h1, h17, h13, rfl, d, hd1, hse⟩ | ⟨ho, z, hz, hz1, rfl, d, n, hd1, s3, hce, rfl⟩ | ⟨ho, hl, z, hz, hz1, rfl, d, s3, hce, hse⟩ | ⟨ho, hl, hp, hj, hto⟩ | ⟨ho, hl, hp, he, rfl, rfl⟩ | ⟨ho, hl, hp, hj, he, rfl, rfl⟩
  · obtain ⟨m, hm, hf⟩ := findW_op ho (by omega)
    obtain rfl : m = 13 := by omega
    rw [hf]
    show Way ((pReg r).map fun a => ({ (⟨13, n, 0, 0, false, 0, 0, 0⟩ : In) with dst := a.1 }, [], a.2)) [] _
    cases hp : pReg r with
    | none => rw [hp] at hreg; exact .none_ hreg.1
    | some a =>
      rw [hp] at hreg
      refine ⟨hreg.1.inI _, fun p h => ?_⟩
      cases h
      exact ⟨by show (⟨13, n, d, 0, false, 0, 0, 0⟩ : In) = _; rw [hd1 _ (hreg.2 a rfl)], rfl⟩
  · obtain ⟨m, hm, hf⟩ := findW_op ho (by omega)
    have hk : kdW m = 5 := by unfold kdW; rw [if_neg (by omega), if_pos (by omega)]
    rw [hf, hk]
    show Way ((pReg r).bind fun a => (pOne 44 a.2).bind fun b => (pSec { (⟨(m : Int), n, 0, 0, false, 0, 0, 0⟩ : In) with dst := a.1 } b).bind fun c => (pOne 44 c.2).bind fun d => pTo c.1 d) u s1
    rw [← hm]
    cases hp : pReg r with
    | none => rw [hp] at hreg; exact .none_ (hto.stick (mustS_bad (hse.stick (mustS_bad (inI_bad hreg.1 _) _)) _))
    | some a =>
      rw [hp] at hreg
      have hA : LfS (some a.2) (inI (regS (tkS s)) ⟨o, n, d, 0, false, 0, 0, 0⟩) := hreg.1.inI _
      have hB := hA.must 44
      simp only [Option.bind_some]
      cases hp2 : pOne 44 a.2 with
      | none => rw [hp2] at hB; exact .none_ (hto.stick (mustS_bad (hse.stick hB) _))
      | some b =>
        rw [hp2] at hB
        have hC := hse.st hB
        rw [show (mustS [44] (inI (regS (tkS s)) ⟨o, n, d, 0, false, 0, 0, 0⟩)).i = { (⟨o, n, 0, 0, false, 0, 0, 0⟩ : In) with dst := a.1 } by show (⟨o, n, d, 0, false, 0, 0, 0⟩ : In) = _; rw [hd1 _ (hreg.2 a rfl)]] at hC
        simp only [Option.bind_some]
        cases hp3 : pSec { (⟨o, n, 0, 0, false, 0, 0, 0⟩ : In) with dst := a.1 } b with
        | none => rw [hp3] at hC; exact .none_ (hto.stick (mustS_bad hC.1 _))
        | some c =>
          rw [hp3] at hC
          have hC1 : LfS (some c.2) s3 := hC.1
          have hD := hC1.must 44
          simp only [Option.bind_some]
          cases hp4 : pOne 44 c.2 with
          | none => rw [hp4] at hD; exact .none_ (hto.stick hD)
          | some e =>
            rw [hp4] at hD
            have hE := hto.st hD
            rw [show (mustS [44] s3).i = c.1 from hC.2 c rfl] at hE
            simp only [Option.bind_some]
            exact hE
  · obtain ⟨m, hm, hf⟩ := findW_op ho h1
    have hk : kdW m = 0 := by unfold kdW; rw [if_neg (by omega), if_neg (by omega)]
    rw [hf, hk]
    show Way ((pReg r).bind fun a => (pOne 44 a.2).bind fun b => (pSec { (⟨(m : Int), n, 0, 0, false, 0, 0, 0⟩ : In) with dst := a.1 } b).map fun c => (c.1, [], c.2)) [] s1
    rw [← hm]
    cases hp : pReg r with
    | none => rw [hp] at hreg; exact .none_ (hse.stick (mustS_bad (inI_bad hreg.1 _) _))
    | some a =>
      rw [hp] at hreg
      have hA : LfS (some a.2) (inI (regS (tkS s)) ⟨o, n, d, 0, false, 0, 0, 0⟩) := hreg.1.inI _
      have hB := hA.must 44
      simp only [Option.bind_some]
      cases hp2 : pOne 44 a.2 with
      | none => rw [hp2] at hB; exact .none_ (hse.stick hB)
      | some b =>
        rw [hp2] at hB
        have hC := hse.st hB
        rw [show (mustS [44] (inI (regS (tkS s)) ⟨o, n, d, 0, false, 0, 0, 0⟩)).i = { (⟨o, n, 0, 0, false, 0, 0, 0⟩ : In) with dst := a.1 } by show (⟨o, n, d, 0, false, 0, 0, 0⟩ : In) = _; rw [hd1 _ (hreg.2 a rfl)]] at hC
        simp only [Option.bind_some]
        cases hp3 : pSec { (⟨o, n, 0, 0, false, 0, 0, 0⟩ : In) with dst := a.1 } b with
        | none => rw [hp3] at hC; exact .none_ hC.1
        | some c =>
          rw [hp3] at hC
          exact ⟨hC.1, fun p h => by cases h; exact ⟨hC.2 c rfl, rfl⟩⟩
  · obtain ⟨m, hm, hf⟩ := findW_load hz hz1
    rw [hf]
    show Way ((pReg r).bind fun a => (pOne 44 a.2).bind fun b => (pCell b).map fun c => ({ (⟨14, false, 0, 0, false, 0, 0, (m : Int)⟩ : In) with dst := a.1, src := c.1, off := c.2.1 }, [], c.2.2)) [] _
    rw [← hm]
    cases hp : pReg r with
    | none => rw [hp] at hreg; exact .none_ (inI_bad (hce.stick (mustS_bad (inI_bad hreg.1 _) _)) _)
    | some a =>
      rw [hp] at hreg
      have hA : LfS (some a.2) (inI (regS (tkS s)) ⟨14, false, d, 0, false, 0, 0, z⟩) := hreg.1.inI _
      have hB := hA.must 44
      simp only [Option.bind_some]
      cases hp2 : pOne 44 a.2 with
      | none => rw [hp2] at hB; exact .none_ (inI_bad (hce.stick hB) _)
      | some b =>
        rw [hp2] at hB
        have hC := hce.st hB
        simp only [Option.bind_some]
        cases hp3 : pCell b with
        | none => rw [hp3] at hC; exact .none_ (inI_bad hC.1 _)
        | some c =>
          rw [hp3] at hC
          refine ⟨hC.1.inI _, fun p h => ?_⟩
          cases h
          obtain ⟨e1, e2⟩ := hC.2 c rfl
          refine ⟨?_, rfl⟩
          show ({ s3.i with src := n } : In) = _
          rw [e2, e1]
          show (⟨14, false, d, c.1, false, c.2.1, 0, z⟩ : In) = _
          rw [hd1 _ (hreg.2 a rfl)]
  · obtain ⟨m, hm, hf⟩ := findW_put hz hz1
    rw [hf]
    show Way ((pCell r).bind fun c => (pOne 44 c.2.2).bind fun b => (pSec { (⟨15, false, 0, 0, false, 0, 0, (m : Int)⟩ : In) with dst := c.1, off := c.2.1 } b).map fun d => (d.1, [], d.2)) [] s1
    rw [← hm]
    have hA : LfS (some r) (inI (tkS (inI s zI)) ⟨15, false, 0, 0, false, 0, 0, z⟩) := ht.inI _
    have hB := hce.st hA
    cases hp : pCell r with
    | none => rw [hp] at hB; exact .none_ (hse.stick (mustS_bad (inI_bad hB.1 _) _))
    | some c =>
      rw [hp] at hB
      obtain ⟨e1, e2⟩ := hB.2 c rfl
      have hB1 : LfS (some c.2.2) (inI s3 { s3.i with dst := d }) := hB.1.inI _
      have hC := hB1.must 44
      simp only [Option.bind_some]
      cases hp2 : pOne 44 c.2.2 with
      | none => rw [hp2] at hC; exact .none_ (hse.stick hC)
      | some b =>
        rw [hp2] at hC
        have hD := hse.st hC
        rw [show (mustS [44] (inI s3 { s3.i with dst := d })).i = { (⟨15, false, 0, 0, false, 0, 0, z⟩ : In) with dst := c.1, off := c.2.1 } by show ({ s3.i with dst := d } : In) = _; rw [e2, e1]; rfl] at hD
        simp only [Option.bind_some]
        cases hp3 : pSec { (⟨15, false, 0, 0, false, 0, 0, z⟩ : In) with dst := c.1, off := c.2.1 } b with
        | none => rw [hp3] at hD; exact .none_ hD.1
        | some e =>
          rw [hp3] at hD
          exact ⟨hD.1, fun p h => by cases h; exact ⟨hD.2 e rfl, rfl⟩⟩
  · subst hj
    rw [findW_jump]
    have hA : LfS (some r) (inI (tkS (inI s zI)) ⟨16, false, 0, 0, false, 0, 0, 0⟩) := ht.inI _
    exact hto.st hA
  · subst he
    rw [findW_exit]
    exact ⟨ht.inI _, fun p h => by cases h; exact ⟨rfl, rfl⟩⟩
  · rw [findW_no ho hl hp hj he]
    exact .none_ (st_true _)

/-- What an instruction's reading tells of a line. -/
theorem inst_sent {s s' : Ls} {u : Bs} {j : In} {t : Bs} {r : List Bs} (h : InstR s j u s') (hs : LfS (some (t :: r)) s) (hl : ¬ (r = [[58]] ∧ isLab t = true)) :
    sent (t :: r) = if s'.bad = false ∧ ok j = true then some (.ins j u) else none := by
  obtain ⟨s1, hw, rfl, rfl⟩ := h
  obtain ⟨h1, h2⟩ := way_any hw hs
  have hb : (inI (badS s1 (decide (s1.k ≠ s1.ts.length))) s.i).bad = (s1.bad || decide (s1.k ≠ s1.ts.length)) := rfl
  rw [hb]
  have hsent : sent (t :: r) = if hd r = [58] then (if isLab t ∧ r.tail = [] then some (.lab t) else Option.none) else (pIns t r).bind fun p => if p.2.2 = [] then some (.ins p.1 p.2.1) else Option.none := rfl
  rw [hsent, pIns_raw]
  cases hq : rawI t r with
  | none =>
    rw [hq] at h1
    have e : s1.bad = true := h1
    have hr0 : ∀ X : Option Sd, (if (true || decide (s1.k ≠ s1.ts.length)) = false ∧ ok s1.i = true then X else none) = none := fun X => if_neg (by rintro ⟨e, _⟩; cases e)
    rw [e, hr0]
    by_cases h58 : hd r = [58]
    · rw [if_pos h58, if_neg]
      rintro ⟨e1, e2⟩
      refine hl ⟨?_, e1⟩
      cases r with
      | nil => cases h58
      | cons a b => rw [show a = [58] from h58, show b = [] from e2]
    · rw [if_neg h58]; rfl
  | some p =>
    rw [hq] at h1
    obtain ⟨e1, e2⟩ := h2 p hq
    obtain ⟨b1, b2, b3⟩ : s1.bad = false ∧ s1.k ≤ s1.ts.length ∧ s1.ts.drop s1.k = p.2.2 := h1
    have b4 : s1.k = s1.ts.length ↔ p.2.2 = [] := by
      rw [← b3, List.drop_eq_nil_iff]
      omega
    rw [b1, e1, Bool.false_or, e2]
    by_cases h58 : hd r = [58]
    · rw [if_pos h58, if_neg (by
        rintro ⟨g1, g2⟩
        refine hl ⟨?_, g1⟩
        cases r with
        | nil => cases h58
        | cons a b => rw [show a = [58] from h58, show b = [] from g2])]
      rw [if_neg]
      rintro ⟨g1, g2⟩
      have g3 : s1.k = s1.ts.length := by simpa using g1
      have g4 := b4.1 g3
      -- nothing begins with a colon
      cases r with
      | nil => cases h58
      | cons a b =>
        obtain rfl : a = [58] := h58
        unfold rawI at hq
        cases hf : findW t wl with
        | none => rw [hf] at hq; cases hq
        | some x =>
          rw [hf] at hq
          have hreg : pReg ([58] :: b) = none := rfl
          have hcell : pCell ([58] :: b) = none := rfl
          have hto : ∀ i, pTo i ([58] :: b) = none := fun i => rfl
          change pRest x.k x.ins ([58] :: b) = some p at hq
          unfold pRest at hq
          split at hq
          · rw [hreg] at hq; cases hq
          · rw [hreg] at hq; cases hq
          · rw [hreg] at hq; cases hq
          · rw [hcell] at hq; cases hq
          · rw [hto] at hq; cases hq
          · rw [hreg] at hq; cases hq
          · cases hq; cases g4
    · rw [if_neg h58]
      show (if ok p.1 = true then some p else none).bind (fun p => if p.2.2 = [] then some (Sd.ins p.1 p.2.1) else Option.none) = _
      by_cases hk : ok p.1 = true
      · rw [if_pos hk]
        show (if p.2.2 = [] then some (Sd.ins p.1 p.2.1) else Option.none) = _
        by_cases h5 : p.2.2 = []
        · rw [if_pos h5, if_pos ⟨by simpa using b4.2 h5, hk⟩]
        · rw [if_neg h5, if_neg]
          rintro ⟨g, _⟩
          exact h5 (b4.1 (by simpa using g))
      · rw [if_neg hk, if_neg (fun h => hk h.2)]
        rfl
end Go.Proofs.YtddojdgnakajmaaGreatDoor.txt
