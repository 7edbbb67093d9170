/-
  Contracts of text: a line is gone through.
-/
import Derived.Test.YtddojdgnakajmaaGreatDoorTX
namespace Go.Proofs.YtddojdgnakajmaaGreatDoor.txt
open Go.RowKit Go.Proofs.YtddojdgnakajmaaGreatDoor.mem Go.Proofs.YtddojdgnakajmaaGreatDoor.kit Go.Proofs.YtddojdgnakajmaaGreatDoor.ins
set_option linter.unusedVariables false
set_option linter.unusedSimpArgs false

/-- What a line does: the error, and what is there behind it. -/
def addM (n : Int) (o : Option Sd) (s : FM) : Int × FM :=
  match o with
  | none => (120, s)
  | some .none => (0, s)
  | some (.lab x) => if (lab x s.ls).isSome then (121, s) else (0, ⟨s.is, s.ls ++ [(x, s.is.length)], s.js⟩)
  | some (.ins i t) => if s.is.length = 4096 then (3, s) else (0, ⟨s.is ++ [i], s.ls, if t = [] then s.js else s.js ++ [(n, s.is.length, t)]⟩)
theorem mark_any (g bm bl : Nat) (n : Int) (s : FM) (x : Bs) (w0 w : World) (h : FX w0 g bm bl s w) :
    Calls Tryz.prog 46 #[.pointer (some ⟨g, 0, none⟩), .string ⟨x.toArray⟩] w (StD w0 g bm bl (addM n (some (.lab x)) s).1 (addM n (some (.lab x)) s).2) := by
  cases hl : lab x s.ls with
  | none =>
    have e : addM n (some (.lab x)) s = (0, ⟨s.is, s.ls ++ [(x, s.is.length)], s.js⟩) := by simp [addM, hl]
    rw [e]
    exact mark_new g bm bl s x w0 w h hl
  | some m =>
    have e : addM n (some (.lab x)) s = (121, s) := by simp [addM, hl]
    rw [e]
    exact mark_old g bm bl m s x w0 w h hl
theorem put_any (g bm bl : Nat) (n : Int) (s : FM) (i : In) (t : Bs) (w0 w : World) (h : FX w0 g bm bl s w) (hi : s.is.length ≤ 4096) (hj : s.js.length ≤ s.is.length) :
    Calls Tryz.prog 47 #[.pointer (some ⟨g, 0, none⟩), .int .i64 n, .agg (sdv (.ins i t))] w (StD w0 g bm bl (addM n (some (.ins i t)) s).1 (addM n (some (.ins i t)) s).2) := by
  by_cases hl : s.is.length = 4096
  · have e : addM n (some (.ins i t)) s = (3, s) := by simp [addM, hl]
    rw [e]
    exact put_long g bm bl s n i t w0 w h hl
  · have e : addM n (some (.ins i t)) s = (0, ⟨s.is ++ [i], s.ls, if t = [] then s.js else s.js ++ [(n, s.is.length, t)]⟩) := by simp [addM, hl]
    rw [e]
    cases t with
    | nil => exact put_plain g bm bl s n i w0 w h (by omega)
    | cons c r => exact put_jump g bm bl s.is s.ls s.js n i (c :: r) w0 w h (by omega) (by omega) rfl

/-- What read tells is as it may be. -/
def SdOk : Sd → Prop
  | .none => True
  | .lab x => x ≠ []
  | .ins i t => ok i = true
theorem sent_ok {L : List Bs} {d : Sd} (h : sent L = some d) : SdOk d := by
  cases L with
  | nil =>
    injection h with h
    subst h
    trivial
  | cons f r =>
    change (if hd r = [58] then (if isLab f = true ∧ r.tail = [] then some (Sd.lab f) else Option.none) else (pIns f r).bind fun p => if p.2.2 = [] then some (Sd.ins p.1 p.2.1) else Option.none) = some d at h
    split at h
    · split at h
      · rename_i hl
        injection h with h
        subst h
        intro e
        have := hl.1
        rw [show f = [] from e] at this
        simp [isLab] at this
      · cases h
    · cases hp : pIns f r with
      | none => rw [hp] at h; cases h
      | some p =>
        rw [hp] at h
        simp only [Option.bind] at h
        split at h
        · injection h with h
          subst h
          unfold pIns at hp
          cases hf : findW f wl with
          | none => rw [hf] at hp; cases hp
          | some x =>
            rw [hf] at hp
            simp only [Option.bind] at hp
            cases hr : pRest x.k x.ins r with
            | none => rw [hr] at hp; cases hp
            | some y =>
              rw [hr] at hp
              simp only at hp
              split at hp
              · rename_i ho
                injection hp with hp
                subst hp
                exact ho
              · cases hp
        · cases h
theorem line_ok {l : Bs} {d : Sd} (h : lineB l = some d) : SdOk d := by
  unfold lineB at h
  cases ht : toks l with
  | none => rw [ht] at h; cases h
  | some L => rw [ht] at h; exact sent_ok h

theorem said_put (w1 : World) (d : Sd) : Blk ((w1.alloc (.cells #[.string ⟨#[]⟩, .int .u8 0, .bool false, .int .i64 0, .int .i64 0, .bool false, .int .i64 0, .int .i64 0, .int .i64 0, .string ⟨#[]⟩] 107)).setRow w1.heap.size (sdv d)) w1.heap.size 107 (sdv d) := setRow_heap _ _ _ _ _ _ (Blk.new w1 107 (sdv .none))
theorem said_new (w1 : World) (d : Sd) : New w1 ((w1.alloc (.cells #[.string ⟨#[]⟩, .int .u8 0, .bool false, .int .i64 0, .int .i64 0, .bool false, .int .i64 0, .int .i64 0, .int .i64 0, .string ⟨#[]⟩] 107)).setRow w1.heap.size (sdv d)) := new_row (new1 w1 _) _ _ (Nat.le_refl _)
theorem said_none {w : World} {b : Nat} (h : Blk w b 107 (sdv .none)) :
    w.cell? ⟨b, 0, none⟩ = some (.string ⟨#[]⟩) ∧ w.cell? ⟨b, 1, none⟩ = some (.int .u8 0) ∧ w.cell? ⟨b, 2, none⟩ = some (.bool false) ∧ w.cell? ⟨b, 3, none⟩ = some (.int .i64 0) ∧ w.cell? ⟨b, 4, none⟩ = some (.int .i64 0) ∧ w.cell? ⟨b, 5, none⟩ = some (.bool false) ∧ w.cell? ⟨b, 6, none⟩ = some (.int .i64 0) ∧ w.cell? ⟨b, 7, none⟩ = some (.int .i64 0) ∧ w.cell? ⟨b, 8, none⟩ = some (.int .i64 0) ∧ w.cell? ⟨b, 9, none⟩ = some (.string ⟨#[]⟩) :=
  ⟨(h.cell 0).trans rfl, (h.cell 1).trans rfl, (h.cell 2).trans rfl, (h.cell 3).trans rfl, (h.cell 4).trans rfl, (h.cell 5).trans rfl, (h.cell 6).trans rfl, (h.cell 7).trans rfl, (h.cell 8).trans rfl, (h.cell 9).trans rfl⟩
theorem said_lab {w : World} {b : Nat} {x : Bs} (h : Blk w b 107 (sdv (.lab x))) :
    w.cell? ⟨b, 0, none⟩ = some (.string ⟨x.toArray⟩) ∧ w.cell? ⟨b, 1, none⟩ = some (.int .u8 0) ∧ w.cell? ⟨b, 2, none⟩ = some (.bool false) ∧ w.cell? ⟨b, 3, none⟩ = some (.int .i64 0) ∧ w.cell? ⟨b, 4, none⟩ = some (.int .i64 0) ∧ w.cell? ⟨b, 5, none⟩ = some (.bool false) ∧ w.cell? ⟨b, 6, none⟩ = some (.int .i64 0) ∧ w.cell? ⟨b, 7, none⟩ = some (.int .i64 0) ∧ w.cell? ⟨b, 8, none⟩ = some (.int .i64 0) ∧ w.cell? ⟨b, 9, none⟩ = some (.string ⟨#[]⟩) :=
  ⟨(h.cell 0).trans rfl, (h.cell 1).trans rfl, (h.cell 2).trans rfl, (h.cell 3).trans rfl, (h.cell 4).trans rfl, (h.cell 5).trans rfl, (h.cell 6).trans rfl, (h.cell 7).trans rfl, (h.cell 8).trans rfl, (h.cell 9).trans rfl⟩
theorem said_0 {w : World} {b : Nat} {i : In} {t : Bs} (h : Blk w b 107 (sdv (.ins i t))) : w.cell? ⟨b, 0, none⟩ = some (.string ⟨#[]⟩) := (h.cell 0).trans rfl

set_option maxRecDepth 100000 in
set_option maxHeartbeats 1000000 in
theorem add_any (T : TypeId) (q : Addr) (g bm bl : Nat) (n : Int) (s : FM) (line : Bs) (w0 w : World) (h : FX w0 g bm bl s w) (hl : line.length ≤ 1000000000) (hm : MaxT w) (hE : ErrT w T q) (hi : s.is.length ≤ 4096) (hj : s.js.length ≤ s.is.length) :
    Calls Tryz.prog 16 #[.pointer (some ⟨g, 0, none⟩), .int .i64 n, .string ⟨line.toArray⟩] w (StD w0 g bm bl (addM n (lineB line) s).1 (addM n (lineB line) s).2) := by
  have hx := h
  obtain ⟨vl, vj, h⟩ := h
  obtain ⟨c0, c1, c2, c3⟩ := h.cells
  have hr := read_any T q line bm w hl hm hE h.wm
  have hok := fun d => line_ok (l := line) (d := d)
  clear h hm hE
  generalize lineB line = o at *
  cases o with
  | none =>
    have HR := Lib.hid hr
    clear hr hok
    go_enter Tryz.func16, Tryz.ntmps16
    go_wp2_with (first
        | (go_at_call 45; refine HR.out.mono ?_; rintro e w1 ⟨rfl, hn⟩; have HX := Lib.hid ((hx.keep hn).keep (said_new w1 .none)); have HB := Lib.hid (said_put w1 .none); clear hn)
        | (refine wpList_store_row rfl 107 _ _ rfl _ (sdv .none) rfl rfl 107 (sdv .none) (Blk.new _ 107 (sdv .none)) (sdv_info .none) ((sdv_size _).trans (sdv_size .none).symm) (sdv_cells .none) ?_))
    go_ret
    exact ⟨rfl, HX.out⟩
  | some d =>
    cases d with
    | none =>
      have HR := Lib.hid hr
      clear hr hok
      go_enter Tryz.func16, Tryz.ntmps16
      go_wp2_with (first
        | (go_at_call 45; refine HR.out.mono ?_; rintro e w1 ⟨rfl, hn⟩; have HX := Lib.hid ((hx.keep hn).keep (said_new w1 .none)); have HB := Lib.hid (said_put w1 .none); clear hn)
        | (refine wpList_store_row rfl 107 _ _ rfl _ (sdv .none) rfl rfl 107 (sdv .none) (Blk.new _ 107 (sdv .none)) (sdv_info .none) ((sdv_size _).trans (sdv_size .none).symm) (sdv_cells .none) ?_; obtain ⟨b0, b1, b2, b3, b4, b5, b6, b7, b8, b9⟩ := said_none HB.out))
      go_ret
      exact ⟨rfl, HX.out⟩
    | lab x =>
      have HR := Lib.hid hr
      have hxe : x.isEmpty = false := by
        have := hok _ rfl
        cases x with
        | nil => exact absurd rfl this
        | cons _ _ => rfl
      clear hr hok
      go_enter Tryz.func16, Tryz.ntmps16
      go_wp2_with (first
        | (go_at_call 45; refine HR.out.mono ?_; rintro e w1 ⟨rfl, hn⟩; have HX := Lib.hid ((hx.keep hn).keep (said_new w1 (.lab x))); have HB := Lib.hid (said_put w1 (.lab x)); clear hn)
        | (refine wpList_store_row rfl 107 _ _ rfl _ (sdv (.lab x)) rfl rfl 107 (sdv .none) (Blk.new _ 107 (sdv .none)) (sdv_info (.lab x)) ((sdv_size _).trans (sdv_size (.lab x)).symm) (sdv_cells (.lab x)) ?_; obtain ⟨b0, b1, b2, b3, b4, b5, b6, b7, b8, b9⟩ := said_lab HB.out)
        | (go_at_call 46; refine (mark_any g bm bl n s x w0 _ HX.out).mono ?_; rintro e w2 ⟨rfl, hx2⟩))
      go_ret
      exact ⟨rfl, hx2⟩
    | ins i t =>
      have HR := Lib.hid hr
      have hio : 1 ≤ i.op := (ok_facts i (hok _ rfl)).2.2.2.2.2.2.1
      clear hr hok
      obtain ⟨io, inr, id, isr, iu, iof, iim, isz⟩ := i
      have hop : ¬ io = 0 := by have h : 1 ≤ io := hio; omega
      clear hio
      go_enter Tryz.func16, Tryz.ntmps16
      go_wp2_with (first
        | (go_at_call 45; refine HR.out.mono ?_; rintro e w1 ⟨rfl, hn⟩; have HX := Lib.hid ((hx.keep hn).keep (said_new w1 (.ins ⟨io, inr, id, isr, iu, iof, iim, isz⟩ t))); have HB := Lib.hid (said_put w1 (.ins ⟨io, inr, id, isr, iu, iof, iim, isz⟩ t)); clear hn)
        | (refine wpList_store_row rfl 107 _ _ rfl _ (sdv (.ins ⟨io, inr, id, isr, iu, iof, iim, isz⟩ t)) rfl rfl 107 (sdv .none) (Blk.new _ 107 (sdv .none)) (sdv_info (.ins ⟨io, inr, id, isr, iu, iof, iim, isz⟩ t)) ((sdv_size _).trans (sdv_size (.ins ⟨io, inr, id, isr, iu, iof, iim, isz⟩ t)).symm) (sdv_cells (.ins ⟨io, inr, id, isr, iu, iof, iim, isz⟩ t)) ?_; have b0 := said_0 HB.out; obtain ⟨b1, b2, b3, b4, b5, b6, b7, b8, b9⟩ := said_cells HB.out)
        | (refine wpList_load_row rfl 107 _ rfl _ rfl 107 (sdv (.ins ⟨io, inr, id, isr, iu, iof, iim, isz⟩ t)) (0, 0) _ HB.out Tryz.underlying107 rfl (sdv_info _) ?_)
        | (go_at_call 47; refine (put_any g bm bl n s ⟨io, inr, id, isr, iu, iof, iim, isz⟩ t w0 _ HX.out hi hj).mono ?_; rintro e w2 ⟨rfl, hx2⟩))
      go_ret
      exact ⟨rfl, hx2⟩
end Go.Proofs.YtddojdgnakajmaaGreatDoor.txt

namespace Go.Proofs.YtddojdgnakajmaaGreatDoor.txt
open Go.RowKit Go.Proofs.YtddojdgnakajmaaGreatDoor.mem Go.Proofs.YtddojdgnakajmaaGreatDoor.kit Go.Proofs.YtddojdgnakajmaaGreatDoor.ins
set_option linter.unusedVariables false
set_option linter.unusedSimpArgs false

theorem own_set {w : World} {base n size g cap : Nat} {e : TypeId} {xs : List Value} (h : w.ownsRow base e size (.slice (some ⟨g, 0, none⟩) n cap) n xs) (k : Nat) (u : Value) : (w.setCell ⟨g, k, none⟩ u).ownsRow base e size (.slice (some ⟨g, 0, none⟩) n cap) n (xs.set k u) := by
  obtain ⟨h1, h2⟩ := h
  refine ⟨by simpa using h1, ?_⟩
  rcases h2 with ⟨h2, _⟩ | ⟨g', cap', cur, e', hb, hg, hn, hc, hs, ht⟩
  · cases h2
  · simp only [Value.slice.injEq, Option.some.injEq, Addr.mk.injEq, and_true, true_and] at e'
    obtain ⟨rfl, rfl⟩ := e'
    refine Or.inr ⟨g, cap, cur.setIfInBounds k u, rfl, hb, Blk.set_ (t := e) hg k u, hn, hc, by simpa using hs, ?_⟩
    rw [Array.toList_setIfInBounds, List.take_set, ht]
theorem jv_at : ∀ (l : List (Int × Nat × Bs)) (k : Nat) (h : k < l.length), (jv l)[k * 3]? = some (.int .i64 l[k].1) ∧ (jv l)[k * 3 + 1]? = some (.int .i64 (l[k].2.1 : Int)) ∧ (jv l)[k * 3 + 2]? = some (.string ⟨l[k].2.2.toArray⟩)
  | [], k, h => by simp at h
  | i :: l, 0, h => ⟨rfl, rfl, rfl⟩
  | i :: l, k + 1, h => by
    have h' : k < l.length := by simpa using h
    have e : ∀ j, (jv (i :: l))[(k + 1) * 3 + j]? = (jv l)[k * 3 + j]? := fun j => by
      rw [show (k + 1) * 3 + j = (k * 3 + j) + 1 + 1 + 1 by omega]
      simp only [jv, List.getElem?_cons_succ]
    have e0 := e 0
    simp only [Nat.add_zero] at e0
    rw [e0, e, e]
    simpa using jv_at l k h'
/-- An Off is set. -/
def setO : List In → Nat → Int → List In
  | [], _, _ => []
  | i :: l, 0, f => { i with off := f } :: l
  | i :: l, k + 1, f => i :: setO l k f
theorem setO_length : ∀ (l : List In) (k : Nat) (f : Int), (setO l k f).length = l.length
  | [], _, _ => rfl
  | i :: l, 0, f => rfl
  | i :: l, k + 1, f => by simp only [setO, List.length_cons, setO_length l k f]
theorem setO_at : ∀ (l : List In) (k : Nat) (f : Int) (h : k < l.length), (setO l k f)[k]'(by rw [setO_length]; exact h) = { l[k] with off := f }
  | [], _, _, h => by simp at h
  | i :: l, 0, f, h => rfl
  | i :: l, k + 1, f, h => by
    have := setO_at l k f (by simpa using h)
    simpa [setO] using this
theorem vi_setO : ∀ (l : List In) (k : Nat) (f : Int), k < l.length → (vi l).set (k * 8 + 5) (.int .i64 f) = vi (setO l k f)
  | [], _, _, h => by simp at h
  | i :: l, 0, f, h => rfl
  | i :: l, k + 1, f, h => by
    have := vi_setO l k f (by simpa using h)
    rw [show (k + 1) * 8 + 5 = (k * 8 + 5) + 1 + 1 + 1 + 1 + 1 + 1 + 1 + 1 by omega]
    simp only [vi, setO, List.set_cons_succ, this]
/-- The jumps to labels get their Offs: the error, its line, and the instructions. -/
def joinM (ls : List (Bs × Nat)) : List In → List (Int × Nat × Bs) → Int × Int × List In
  | is, [] => (0, 0, is)
  | is, j :: r =>
    if (lab j.2.2 ls).isSome && ((setO is j.2.1 (((lab j.2.2 ls).getD 0 : Nat) - ((j.2.1 : Int) + 1)))[j.2.1]?.map ok).getD false
    then joinM ls (setO is j.2.1 (((lab j.2.2 ls).getD 0 : Nat) - ((j.2.1 : Int) + 1))) r
    else (121, j.1, setO is j.2.1 (((lab j.2.2 ls).getD 0 : Nat) - ((j.2.1 : Int) + 1)))

section
variable {w0 w w' : World} {g bm bl : Nat} {s : FM} {vl vj : Value}
/-- An Off of an instruction is set, in memory. -/
theorem FS.setO {is : List In} {ls : List (Bs × Nat)} {js : List (Int × Nat × Bs)} {b c : Nat} (h : FS w0 g bm bl ⟨is, ls, js⟩ (.slice (some ⟨b, 0, none⟩) is.length c) vj w) (k : Nat) (f : Int) (hk : k < is.length) :
    FS w0 g bm bl ⟨setO is k f, ls, js⟩ (.slice (some ⟨b, 0, none⟩) is.length c) vj (w.setCell ⟨b, k * 8 + 5, none⟩ (.int .i64 f)) ∧ w.frozen? ⟨b, k * 8 + 5, none⟩ = false := by
  have hob : Value.ownBlock (.slice (some ⟨b, 0, none⟩) is.length c) = some b := rfl
  obtain ⟨hB, cs, hb⟩ := own_cells h.lo hob
  have c2 : Ch (fun j => j = b) w (w.setCell ⟨b, k * 8 + 5, none⟩ (.int .i64 f)) := (Ch.refl (fun j => j = b) w).setCell (p := ⟨b, k * 8 + 5, none⟩) (fun _ => rfl) _
  refine ⟨⟨h.fb.ch c2 (fun e => h.fb.ne_ hb (by decide) e), ?_, own_ch h.jo c2 (fun j hj e => own_own_ne h.jo h.lo (by decide) j hj (by rw [hob]; exact congrArg some e)), h.wm.ch c2 (fun e => h.wm.ne hb e), h.lm.ch c2 (fun e => h.lm.ne hb e), h.ne, h.new.then c2 (fun j hj e => by have e' : j = b := e; omega)⟩, hb.frozen _⟩
  have hs := own_set h.lo (k * 8 + 5) (.int .i64 f)
  show World.ownsRow _ _ _ _ _ (txt.setO is k f).length (vi (txt.setO is k f))
  rw [← vi_setO is k f hk, setO_length]
  exact hs
/-- The list's block, where there is one. -/
theorem FS.some_ {is : List In} {ls : List (Bs × Nat)} {js : List (Int × Nat × Bs)} (h : FS w0 g bm bl ⟨is, ls, js⟩ vl vj w) (h0 : 0 < is.length) : ∃ b c, vl = .slice (some ⟨b, 0, none⟩) is.length c := by
  rcases h.lo.2 with ⟨_, e⟩ | ⟨b, c, _, e, _⟩
  · have e' : is.length = 0 := e
    omega
  · exact ⟨b, c, e⟩
theorem FS.somej {is : List In} {ls : List (Bs × Nat)} {js : List (Int × Nat × Bs)} (h : FS w0 g bm bl ⟨is, ls, js⟩ vl vj w) (h0 : 0 < js.length) : ∃ b c, vj = .slice (some ⟨b, 0, none⟩) js.length c := by
  rcases h.jo.2 with ⟨_, e⟩ | ⟨b, c, _, e, _⟩
  · have e' : js.length = 0 := e
    omega
  · exact ⟨b, c, e⟩
end
end Go.Proofs.YtddojdgnakajmaaGreatDoor.txt
