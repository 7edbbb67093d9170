/-
  The document's Parse: jumps to labels.
-/
import Derived.Test.YtddojdgnakajmaaGreatDoorPs
namespace Go.Proofs.YtddojdgnakajmaaGreatDoor.txt
open Go.RowKit Go.Proofs.YtddojdgnakajmaaGreatDoor.mem Go.Proofs.YtddojdgnakajmaaGreatDoor.kit Go.Proofs.YtddojdgnakajmaaGreatDoor.ins
set_option linter.unusedVariables false
set_option linter.unusedSimpArgs false

theorem wl_k : ∀ k : Fin 58, ((wl[k.val]'(by rw [wl_length]; exact k.isLt)).k = 4 → (wl[k.val]'(by rw [wl_length]; exact k.isLt)).o = 16) ∧ ((wl[k.val]'(by rw [wl_length]; exact k.isLt)).k = 5 → 17 ≤ (wl[k.val]'(by rw [wl_length]; exact k.isLt)).o ∧ (wl[k.val]'(by rw [wl_length]; exact k.isLt)).o ≤ 27) := by decide +kernel
theorem pTo_op {i : In} {L : List Bs} {p : In × Bs × List Bs} (h : pTo i L = some p) : p.1.op = i.op := by
  unfold pTo at h
  split at h
  · cases hq : pSgn L with
    | none => rw [hq] at h; cases h
    | some q => rw [hq] at h; cases h; rfl
  · split at h
    · split at h
      · cases h; rfl
      · cases h
    · cases h
theorem pSec_op {i : In} {L : List Bs} {p : In × List Bs} (h : pSec i L = some p) : p.1.op = i.op := by
  unfold pSec at h
  split at h
  · cases hq : pReg L with
    | none => rw [hq] at h; cases h
    | some q => rw [hq] at h; cases h; rfl
  · split at h
    · cases hq : pSgn L with
      | none => rw [hq] at h; cases h
      | some q => rw [hq] at h; cases h; rfl
    · cases hq : pNum L with
      | none => rw [hq] at h; cases h
      | some q => rw [hq] at h; cases h; rfl
theorem rest_jump {x : Wd} {L : List Bs} {p : In × Bs × List Bs} (hx : x ∈ wl) (h : pRest x.k x.ins L = some p) (hu : p.2.1 ≠ []) : jumps p.1 = true := by
  obtain ⟨k, hk, rfl⟩ := List.mem_iff_getElem.1 hx
  have hk' : k < 58 := by rwa [wl_length] at hk
  obtain ⟨w4, w5⟩ := wl_k ⟨k, hk'⟩
  simp only at w4 w5
  generalize wl[k] = x at *
  unfold pRest at h
  split at h
  · exfalso
    cases h1 : pReg L with
    | none => rw [h1] at h; cases h
    | some a =>
      rw [h1] at h
      simp only [Option.bind_some] at h
      cases h2 : pOne 44 a.2 with
      | none => rw [h2] at h; cases h
      | some b =>
        rw [h2] at h
        simp only [Option.bind_some] at h
        cases h3 : pSec { x.ins with dst := a.1 } b with
        | none => rw [h3] at h; cases h
        | some c => rw [h3] at h; cases h; exact hu rfl
  · exfalso
    cases h1 : pReg L with
    | none => rw [h1] at h; cases h
    | some a => rw [h1] at h; cases h; exact hu rfl
  · exfalso
    cases h1 : pReg L with
    | none => rw [h1] at h; cases h
    | some a =>
      rw [h1] at h
      simp only [Option.bind_some] at h
      cases h2 : pOne 44 a.2 with
      | none => rw [h2] at h; cases h
      | some b =>
        rw [h2] at h
        simp only [Option.bind_some] at h
        cases h3 : pCell b with
        | none => rw [h3] at h; cases h
        | some c => rw [h3] at h; cases h; exact hu rfl
  · exfalso
    cases h1 : pCell L with
    | none => rw [h1] at h; cases h
    | some a =>
      rw [h1] at h
      simp only [Option.bind_some] at h
      cases h2 : pOne 44 a.2.2 with
      | none => rw [h2] at h; cases h
      | some b =>
        rw [h2] at h
        simp only [Option.bind_some] at h
        cases h3 : pSec { x.ins with dst := a.1, off := a.2.1 } b with
        | none => rw [h3] at h; cases h
        | some c => rw [h3] at h; cases h; exact hu rfl
  · rename_i hk4
    have e := pTo_op h
    have e2 : x.ins.op = (x.o : Int) := rfl
    have := w4 hk4
    unfold jumps
    simp only [Bool.and_eq_true, decide_eq_true_eq]
    omega
  · rename_i hk5
    obtain ⟨g1, g2⟩ := w5 hk5
    cases h1 : pReg L with
    | none => rw [h1] at h; cases h
    | some a =>
      rw [h1] at h
      simp only [Option.bind_some] at h
      cases h2 : pOne 44 a.2 with
      | none => rw [h2] at h; cases h
      | some b =>
        rw [h2] at h
        simp only [Option.bind_some] at h
        cases h3 : pSec { x.ins with dst := a.1 } b with
        | none => rw [h3] at h; cases h
        | some c =>
          rw [h3] at h
          simp only [Option.bind_some] at h
          have e3 := pSec_op h3
          cases h4 : pOne 44 c.2 with
          | none => rw [h4] at h; cases h
          | some d =>
            rw [h4] at h
            simp only [Option.bind_some] at h
            have e := pTo_op h
            have e2 : x.ins.op = (x.o : Int) := rfl
            have e4 : ({ x.ins with dst := a.1 } : In).op = x.ins.op := rfl
            unfold jumps
            simp only [Bool.and_eq_true, decide_eq_true_eq]
            omega
  · exfalso
    cases h
    exact hu rfl
theorem line_jump {l : Bs} {i : In} {u : Bs} (h : lineB l = some (.ins i u)) (hu : u ≠ []) : jumps i = true := by
  unfold lineB at h
  cases ht : toks l with
  | none => rw [ht] at h; cases h
  | some ts =>
    rw [ht] at h
    simp only [Option.bind_some] at h
    cases ts with
    | nil => cases h
    | cons w r =>
      change (if hd r = [58] then (if isLab w = true ∧ r.tail = [] then some (Sd.lab w) else Option.none) else (pIns w r).bind fun p => if p.2.2 = [] then some (Sd.ins p.1 p.2.1) else Option.none) = some (.ins i u) at h
      split at h
      · split at h <;> cases h
      · cases hp : pIns w r with
        | none => rw [hp] at h; cases h
        | some p =>
          rw [hp] at h
          simp only [Option.bind_some] at h
          split at h
          · cases h
            unfold pIns at hp
            cases hf : findW w wl with
            | none => rw [hf] at hp; cases hp
            | some x =>
              rw [hf] at hp
              simp only [Option.bind_some] at hp
              cases hq : pRest x.k x.ins r with
              | none => rw [hq] at hp; cases hp
              | some q =>
                rw [hq] at hp
                simp only [Option.bind_some] at hp
                split at hp
                · cases hp
                  exact rest_jump (findW_mem hf).1 hq hu
                · cases hp
          · cases h
/-- Where jumps to labels stand there are jumps, which are right. -/
def Jok (is : List In) (js : List (Int × Nat × Bs)) : Prop := ∀ p ∈ js, ∃ i, is[p.2.1]? = some i ∧ jumps i = true ∧ ok i = true
theorem addM_jok {n : Int} {l : Bs} {s : FM} (h : Jok s.is s.js) : Jok (addM n (lineB l) s).2.is (addM n (lineB l) s).2.js := by
  cases hd : lineB l with
  | none => exact h
  | some d =>
    cases d with
    | none => exact h
    | lab x =>
      simp only [addM]
      split
      · exact h
      · exact h
    | ins i t =>
      have hok : ok i = true := line_ok hd
      simp only [addM]
      split
      · exact h
      · have hold : ∀ p ∈ s.js, ∃ i', (s.is ++ [i])[p.2.1]? = some i' ∧ jumps i' = true ∧ ok i' = true := fun p hp => by
          obtain ⟨i', h1, h2⟩ := h p hp
          exact ⟨i', by rw [List.getElem?_append_left (List.getElem?_eq_some_iff.1 h1).1]; exact h1, h2⟩
        intro p hp
        simp only at hp ⊢
        split at hp
        · exact hold p hp
        · rename_i hne
          rcases List.mem_append.1 hp with hp | hp
          · exact hold p hp
          · simp only [List.mem_singleton] at hp
            subst hp
            exact ⟨i, by simp, line_jump hd hne, hok⟩
theorem parseL_jok : ∀ (L : List Bs) (n : Nat) (s s' : FM), Jok s.is s.js → parseL n L s = .inr s' → Jok s'.is s'.js
  | [], n, s, s', h, e => by cases e; exact h
  | l :: L, n, s, s', h, e => by
    unfold parseL at e
    split at e
    · exact parseL_jok L (n + 1) _ s' (addM_jok h) e
    · cases e
theorem setO_get : ∀ (l : List In) (k : Nat) (f : Int) (q : Nat), (setO l k f)[q]? = if q = k then l[q]?.map (fun i => { i with off := f }) else l[q]?
  | [], k, f, q => by simp [setO]
  | i :: l, 0, f, 0 => rfl
  | i :: l, 0, f, q + 1 => by simp [setO]
  | i :: l, k + 1, f, 0 => by simp [setO]
  | i :: l, k + 1, f, q + 1 => by
    have := setO_get l k f q
    simp only [setO, List.getElem?_cons_succ, this, Nat.add_right_cancel_iff]
theorem ok_off {i : In} {f : Int} (hj : jumps i = true) (h : ok i = true) (hf : far f = true) : ok { i with off := f } = true := by
  unfold jumps at hj
  simp only [Bool.and_eq_true, decide_eq_true_eq] at hj
  unfold ok at h ⊢
  rw [if_neg (by omega), if_neg (by omega), if_neg (by omega), if_neg (by omega)] at h
  simp only
  rw [if_neg (by omega), if_neg (by omega), if_neg (by omega), if_neg (by omega)]
  by_cases h16 : i.op = 16
  · rw [if_pos h16] at h ⊢
    simp only [Bool.and_eq_true] at h ⊢
    exact ⟨hf, h.2⟩
  · rw [if_neg h16, if_pos (by omega)] at h ⊢
    simp only [Bool.and_eq_true] at h ⊢
    exact ⟨h.1, hf, h.2.2⟩
theorem Jok.set {is : List In} {js : List (Int × Nat × Bs)} (h : Jok is js) {k : Nat} {f : Int} (hf : far f = true) : Jok (setO is k f) js := fun p hp => by
  obtain ⟨i, h1, h2, h3⟩ := h p hp
  rw [setO_get]
  by_cases e : p.2.1 = k
  · rw [if_pos e, h1]
    exact ⟨_, rfl, h2, ok_off h2 h3 hf⟩
  · rw [if_neg e]
    exact ⟨i, h1, h2, h3⟩
theorem joinM_none {ls : List (Bs × Nat)} {is : List In} {j : Int × Nat × Bs} {r : List (Int × Nat × Bs)} (h : lab j.2.2 ls = none) : (joinM ls is (j :: r)).1 = 121 ∧ (joinM ls is (j :: r)).2.1 = j.1 := by
  unfold joinM
  rw [h]
  exact ⟨rfl, rfl⟩
theorem joinM_some {ls : List (Bs × Nat)} {is : List In} {j : Int × Nat × Bs} {r : List (Int × Nat × Bs)} {a : Nat} (h : lab j.2.2 ls = some a) (hj : Jok is (j :: r)) (hf : far ((a : Int) - ((j.2.1 : Int) + 1)) = true) : joinM ls is (j :: r) = joinM ls (setO is j.2.1 ((a : Int) - ((j.2.1 : Int) + 1))) r := by
  obtain ⟨i, h1, h2, h3⟩ := hj j (List.mem_cons_self ..)
  conv => lhs; unfold joinM
  rw [h]
  simp only [Option.getD_some, Option.isSome_some, Bool.true_and]
  rw [setO_get, if_pos rfl, h1]
  simp only [Option.map_some, Option.getD_some]
  rw [if_pos (ok_off h2 h3 hf)]
/-- An Off is set, in memory. -/
theorem QS.seto {w0 w : World} {is : List In} {ls : List (Bs × Nat)} {js : List (Int × Nat × Bs)} {b c : Nat} {vj vm vl : Value} {L : List Bs} (h : QS w0 ⟨is, ls, js⟩ (.slice (some ⟨b, 0, none⟩) is.length c) vj vm vl L w) (k : Nat) (f : Int) (hk : k < is.length) :
    QS w0 ⟨setO is k f, ls, js⟩ (.slice (some ⟨b, 0, none⟩) is.length c) vj vm vl L (w.setCell ⟨b, k * 8 + 5, none⟩ (.int .i64 f)) ∧ w.frozen? ⟨b, k * 8 + 5, none⟩ = false := by
  have hob : Value.ownBlock (.slice (some ⟨b, 0, none⟩) is.length c) = some b := rfl
  obtain ⟨hB, cs, hb⟩ := own_cells h.lo hob
  have c2 : Ch (fun j => j = b) w (w.setCell ⟨b, k * 8 + 5, none⟩ (.int .i64 f)) := (Ch.refl (fun j => j = b) w).setCell (p := ⟨b, k * 8 + 5, none⟩) (fun _ => rfl) _
  have hne : ∀ {n sz : Nat} {e : TypeId} {v : Value} {xs : List Value}, w.ownsRow w0.heap.size e sz v n xs → e ≠ 41 → (w.setCell ⟨b, k * 8 + 5, none⟩ (.int .i64 f)).ownsRow w0.heap.size e sz v n xs := fun ho he => own_ch ho c2 (fun j hj e => by
    have e' : j = b := e
    subst e'
    exact own_blk_not ho hb he hj.symm)
  refine ⟨⟨((Ch.of_new (S := fun j => j = b) h.new).then c2 (fun _ _ e => e)).below (Nat.le_refl _) (fun j hj e => by have e' : j = b := e; omega), ?_, hne h.jo (by decide), hne h.mo (by decide), hne h.li (by decide), h.r.ch c2 (fun e => by have e' : w0.heap.size = b := e; exact h.r.ne_ (by rw [e']; exact hb) (by decide) rfl), h.p0⟩, hb.frozen _⟩
  have hs := own_set h.lo (k * 8 + 5) (.int .i64 f)
  show World.ownsRow _ _ _ _ _ (txt.setO is k f).length (vi (txt.setO is k f))
  rw [← vi_setO is k f hk, setO_length]
  exact hs
end Go.Proofs.YtddojdgnakajmaaGreatDoor.txt
