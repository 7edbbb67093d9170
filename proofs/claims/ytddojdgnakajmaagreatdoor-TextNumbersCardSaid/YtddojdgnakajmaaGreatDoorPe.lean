/-
  The document's Parse: a line's reader.
-/
import Derived.Test.YtddojdgnakajmaaGreatDoorPd
namespace Go.Proofs.YtddojdgnakajmaaGreatDoor.txt
open Go.RowKit Go.Proofs.YtddojdgnakajmaaGreatDoor.mem Go.Proofs.YtddojdgnakajmaaGreatDoor.kit Go.Proofs.YtddojdgnakajmaaGreatDoor.ins
set_option linter.unusedVariables false
set_option linter.unusedSimpArgs false

/-- What a line's reader stands at: the tokens, the next one's place, whether the language has it not; the instruction under way. -/
structure Ls where
  ts : List Bs
  k : Nat
  bad : Bool
  i : In
def nx (s : Ls) : Bs := s.ts.getD s.k []
def tkS (s : Ls) : Ls := { s with k := s.k + 1 }
structure Cl where
  w0 : World
  g : Nat
  gi : Nat
def Cl.S (C : Cl) : Nat → Prop := fun j => j = C.g ∨ j = C.gi
structure SL (C : Cl) (s : Ls) (w : World) : Prop where
  row : ∃ v base, Blk w C.g 122 #[v, .int .i64 (s.k : Int), .bool s.bad] ∧ w.ownsRow base 9 1 v s.ts.length (vs s.ts)
  few : s.ts.length ≤ 1000000000
  tok : ∀ t ∈ s.ts, t.length ≤ 1000000000
  i : Blk w C.gi 41 (icell s.i)
  ch : Ch C.S C.w0 w
  pow : PowT w
theorem pow_ch {w w' : World} {g : Nat} {t : TypeId} {cs : Array Value} (h : PowT w) (hc : Ch (fun j => j = g) w w') (hb : Blk w g t cs) (hs : cs.size ≠ 20) : PowT w' := by
  unfold PowT Lib.TabIs World.var? at h ⊢
  obtain ⟨gp, hg⟩ : ∃ gp, Tryz.prog.globalNamed "internal/strconv.uint64pow10" = some gp := by
    cases hq : Tryz.prog.globalNamed "internal/strconv.uint64pow10" with
    | none => rw [hq] at h; simp at h
    | some gp => exact ⟨gp, rfl⟩
  rw [hg] at h ⊢
  simp only [Option.bind_some] at h ⊢
  have hlt : gp < w.heap.size := by
    rcases Nat.lt_or_ge gp w.heap.size with h' | h'
    · exact h'
    · rw [Array.getElem?_eq_none h'] at h; cases h
  by_cases e : gp = g
  · exfalso
    subst e
    unfold Blk at hb
    rw [hb] at h
    simp only [Option.some.injEq] at h
    rw [h] at hs
    exact hs rfl
  · rw [hc.block gp hlt e]
    exact h
theorem SL.ne {C : Cl} {s : Ls} {w : World} (h : SL C s w) : C.g ≠ C.gi := by
  obtain ⟨v, base, hb, -⟩ := h.row
  exact hb.ne_ h.i (by decide)
theorem SL.new {C : Cl} {s : Ls} {w w' : World} (h : SL C s w) (hn : New w w') : SL C s w' := by
  obtain ⟨v, base, hb, ho⟩ := h.row
  exact ⟨⟨v, base, hb.below hn hb.lt, own_new ho hn⟩, h.few, h.tok, h.i.below hn h.i.lt, h.ch.then (Ch.of_new (S := fun _ => False) hn) (fun _ _ hf => hf.elim), h.pow.new hn⟩

set_option maxRecDepth 100000 in
theorem lnext_any (C : Cl) (s : Ls) (w : World) (h : SL C s w) : Calls Tryz.prog 174 #[.pointer (some ⟨C.g, 0, none⟩)] w fun e w' => e = .returned (.string ⟨(nx s).toArray⟩) ∧ New w w' := by
  obtain ⟨v, base, hb, ho⟩ := h.row
  obtain ⟨ts, k, bad, i⟩ := s
  simp only at hb ho
  have c0 : w.cell? ⟨C.g, 0, none⟩ = some v := (hb.cell 0).trans rfl
  have c1 : w.cell? ⟨C.g, 1, none⟩ = some (.int .i64 (k : Int)) := (hb.cell 1).trans rfl
  obtain ⟨A, c, rfl, h1, h2, -⟩ := own_len ho
  by_cases hk : k < ts.length
  · have t1 : ¬ (ts.length : Int) ≤ (k : Int) := by omega
    have t2 : (k : Int) < (ts.length : Int) := by omega
    have t3 : (0 : Int) ≤ (k : Int) := by omega
    obtain ⟨b, cap, e⟩ := own_some ho (by omega)
    injection e with eA _ ec
    subst eA
    subst ec
    have hx : w.cell? ⟨b, k, none⟩ = some (sv ts[k]) := by
      have := World.ownsRow.cellAt ho (j := k) (by omega)
      rw [vs_get ts k hk] at this
      exact this
    have HN : Hid (nx ⟨ts, k, bad, i⟩ = ts[k]) := Lib.hid (by simp [nx, hk])
    generalize ts[k] = y at *
    generalize ts.length = n at *
    clear hb ho h
    go_enter Tryz.func174, Tryz.ntmps174
    go_wp2
    go_quiet (fail)
    go_wp2
    go_quiet (fail)
    go_wp2
    go_ret
    exact ⟨by rw [HN.out]; rfl, ((new_refl w).drewN _).drewN _⟩
  · have t1 : (ts.length : Int) ≤ (k : Int) := by omega
    have HN : Hid (nx ⟨ts, k, bad, i⟩ = []) := Lib.hid (by show ts.getD k [] = []; rw [List.getD_eq_getElem?_getD, List.getElem?_eq_none (by omega)]; rfl)
    generalize ts.length = n at *
    clear hb ho h
    go_enter Tryz.func174, Tryz.ntmps174
    go_wp2
    go_quiet (fail)
    go_wp2
    go_ret
    exact ⟨by rw [HN.out]; rfl, (new_refl w).drewN _⟩

/-- Behind a store into the reader's own block. -/
theorem SL.to {C : Cl} {s s' : Ls} {w w' : World} (h : SL C s w) (v : Value) (base : Nat) (hc : Ch (fun j => j = C.g) w w') (hb : Blk w' C.g 122 #[v, .int .i64 (s'.k : Int), .bool s'.bad])
    (ho : w.ownsRow base 9 1 v s.ts.length (vs s.ts)) (h1 : s'.ts = s.ts) (h2 : s'.i = s.i) : SL C s' w' := by
  obtain ⟨v0, base0, hb0, -⟩ := h.row
  refine ⟨⟨v, base, hb, ?_⟩, by rw [h1]; exact h.few, by rw [h1]; exact h.tok, by rw [h2]; exact h.i.ch hc (fun e => h.ne e.symm), h.ch.then hc (fun _ _ e => Or.inl e), ?_⟩
  · rw [h1]
    refine own_ch ho hc (fun g e hg => ?_)
    obtain ⟨-, cs, hcs⟩ := own_cells ho e
    exact (hcs.ne_ hb0 (by decide)) hg
  · exact pow_ch h.pow hc hb0 (by simp)
def LsD (C : Cl) (v : Value) (s : Ls) (e : Ending) (w' : World) : Prop := e = .returned v ∧ SL C s w'

set_option maxRecDepth 100000 in
theorem ltake_any (C : Cl) (s : Ls) (w : World) (h : SL C s w) (hk : s.k ≤ 1000) : Calls Tryz.prog 108 #[.pointer (some ⟨C.g, 0, none⟩)] w (LsD C (.string ⟨(nx s).toArray⟩) (tkS s)) := by
  have H := Lib.hid h
  clear h
  go_enter Tryz.func108, Tryz.ntmps108
  go_wp2_with (go_at_call 174; (with_reducible refine (lnext_any C s _ H.out).mono ?_); rintro e w1 ⟨rfl, hn1⟩; have H1 := Lib.hid (H.out.new hn1); clear hn1; obtain ⟨v, base, hb, ho⟩ := H1.out.row; have HB := Lib.hid hb; have HO := Lib.hid ho; clear ho; have c1 : w1.cell? ⟨C.g, 1, none⟩ = some (.int .i64 (s.k : Int)) := (hb.cell 1).trans rfl; have z1 := hb.frozen 1; clear hb)
  go_ret
  refine ⟨rfl, H1.out.to v base ((Ch.refl (fun j => j = C.g) _).setCell (p := ⟨C.g, 1, none⟩) (fun _ => rfl) _) (HB.out.set_ 1 _) HO.out rfl rfl⟩
end Go.Proofs.YtddojdgnakajmaaGreatDoor.txt
