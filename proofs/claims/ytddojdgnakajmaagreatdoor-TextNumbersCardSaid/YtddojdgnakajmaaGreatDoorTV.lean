/-
  Contracts of text: what the lines say that were gone through; a label is put.
-/
import Derived.Test.YtddojdgnakajmaaGreatDoorTT
import Derived.Test.YtddojdgnakajmaaGreatDoorInL
namespace Go.Proofs.YtddojdgnakajmaaGreatDoor.txt
open Go.RowKit Go.Proofs.YtddojdgnakajmaaGreatDoor.mem Go.Proofs.YtddojdgnakajmaaGreatDoor.kit Go.Proofs.YtddojdgnakajmaaGreatDoor.ins
set_option linter.unusedVariables false
set_option linter.unusedSimpArgs false

/-- A filter while it is read: its instructions, labels, jumps to labels (line, place, label). -/
structure FM where
  is : List In
  ls : List (Bs × Nat)
  js : List (Int × Nat × Bs)
def jv : List (Int × Nat × Bs) → List Value
  | [] => []
  | j :: l => .int .i64 j.1 :: .int .i64 (j.2.1 : Int) :: .string ⟨j.2.2.toArray⟩ :: jv l
theorem jv_length : ∀ (l : List (Int × Nat × Bs)), (jv l).length = l.length * 3
  | [] => rfl
  | i :: l => by simp only [jv, List.length_cons, jv_length l]; omega
theorem jv_append : ∀ (a b : List (Int × Nat × Bs)), jv (a ++ b) = jv a ++ jv b
  | [], b => rfl
  | i :: a, b => by simp only [List.cons_append, jv, jv_append a b]
def lv (l : List (Bs × Nat)) : List (Bs × Value) := l.map fun p => (p.1, .int .i64 (p.2 : Int))
def lab (k : Bs) : List (Bs × Nat) → Option Nat
  | [] => none
  | p :: l => if k = p.1 then some p.2 else lab k l
theorem look_lv (k : Bs) : ∀ l : List (Bs × Nat), look k (lv l) = (lab k l).map fun n => .int .i64 (n : Int)
  | [] => rfl
  | p :: l => by
    simp only [lv, List.map_cons, look, lab]
    split
    · rfl
    · exact look_lv k l
theorem lv_snoc (l : List (Bs × Nat)) (k : Bs) (n : Nat) : lv (l ++ [(k, n)]) = lv l ++ [(k, .int .i64 (n : Int))] := by simp [lv]
theorem ins_info : (Tryz.prog.info? 41).map (fun i => (i.zero, i.size, i.bytes)) = some (some (.agg #[.int .u8 0, .bool false, .int .i64 0, .int .i64 0, .bool false, .int .i64 0, .int .i64 0, .int .i64 0]), 8, 56) := by kernel_rfl
theorem jump_info : (Tryz.prog.info? 113).map (fun i => (i.zero, i.size, i.bytes)) = some (some (.agg #[.int .i64 0, .int .i64 0, .string ⟨#[]⟩]), 3, 32) := by kernel_rfl

/-- The filter in memory, in block g; its rows were made since w0. -/
structure FS (w0 : World) (g bm bl : Nat) (s : FM) (vl vj : Value) (w : World) : Prop where
  fb : Blk w g 49 #[.map (some bm), vl, .map (some bl), vj]
  lo : w.ownsRow w0.heap.size 41 8 vl s.is.length (vi s.is)
  jo : w.ownsRow w0.heap.size 113 3 vj s.js.length (jv s.js)
  wm : MapAt w bm wlv
  lm : MapAt w bl (lv s.ls)
  ne : bm ≠ bl
  new : Ch (fun j => j = g ∨ j = bl) w0 w
def FX (w0 : World) (g bm bl : Nat) (s : FM) (w : World) : Prop := ∃ vl vj, FS w0 g bm bl s vl vj w
section
variable {w0 w w' w7 w9 W : World} {g bm bl : Nat} {s : FM} {vl vj v9 : Value}
theorem FS.keep (h : FS w0 g bm bl s vl vj w) (hn : New w w') : FS w0 g bm bl s vl vj w' :=
  ⟨h.fb.below hn h.fb.lt, own_new h.lo hn, own_new h.jo hn, h.wm.new hn, h.lm.new hn, h.ne, h.new.then (Ch.of_new (S := fun _ => False) hn) (fun _ _ e => e.elim)⟩
theorem FX.keep (h : FX w0 g bm bl s w) (hn : New w w') : FX w0 g bm bl s w' := by
  obtain ⟨vl, vj, h⟩ := h
  exact ⟨vl, vj, h.keep hn⟩
theorem own_map_ne {base n size b : Nat} {e : TypeId} {v : Value} {xs : List Value} {l : List (Bs × Value)} (h : w.ownsRow base e size v n xs) (hm : MapAt w b l) : ∀ j, v.ownBlock = some j → ¬ j = b := fun j hj e => by
  obtain ⟨_, cs, hb⟩ := own_cells h hj
  exact hm.ne hb e.symm
/-- A label more. -/
theorem FS.mark (h : FS w0 g bm bl s vl vj w) (k : Bs) (n : Nat) (hm : MapAt W bl (lv s.ls ++ [(k, .int .i64 (n : Int))])) (hc : Ch (fun j => j = bl) w W) : FS w0 g bm bl ⟨s.is, s.ls ++ [(k, n)], s.js⟩ vl vj W :=
  ⟨h.fb.ch hc (fun e => h.lm.ne h.fb e.symm), own_ch h.lo hc (own_map_ne h.lo h.lm), own_ch h.jo hc (own_map_ne h.jo h.lm), h.wm.ch hc h.ne, by rw [lv_snoc]; exact hm, h.ne,
    h.new.then hc (fun _ _ e => Or.inr e)⟩
theorem FS.cells (h : FS w0 g bm bl s vl vj w) : w.cell? ⟨g, 0, none⟩ = some (.map (some bm)) ∧ w.cell? ⟨g, 1, none⟩ = some vl ∧ w.cell? ⟨g, 2, none⟩ = some (.map (some bl)) ∧ w.cell? ⟨g, 3, none⟩ = some vj :=
  ⟨(h.fb.cell 0).trans rfl, (h.fb.cell 1).trans rfl, (h.fb.cell 2).trans rfl, (h.fb.cell 3).trans rfl⟩
end
/-- What a step answers, and what is there behind it. -/
def StD (w0 : World) (g bm bl : Nat) (y : Int) (s : FM) (e : Ending) (w' : World) : Prop := e = .returned (.int .i64 y) ∧ FX w0 g bm bl s w'
theorem zero_int : ∀ w, (zeroValue 3).run Tryz.prog w = .ok (.int .i64 0) w := fun w => by kernel_rfl

set_option maxRecDepth 100000 in
set_option maxHeartbeats 1000000 in
theorem mark_old (g bm bl m : Nat) (s : FM) (k : Bs) (w0 w : World) (h : FX w0 g bm bl s w) (hk : lab k s.ls = some m) :
    Calls Tryz.prog 46 #[.pointer (some ⟨g, 0, none⟩), .string ⟨k.toArray⟩] w (StD w0 g bm bl 121 s) := by
  obtain ⟨vl, vj, h⟩ := h
  obtain ⟨c0, c1, c2, c3⟩ := h.cells
  have hl : look k (lv s.ls) = some (.int .i64 (m : Int)) := by rw [look_lv, hk]; rfl
  have hask := (run_ask (P := Tryz.prog) (T := 46) Tryz.underlying46 Tryz.underlying9 _ zero_int w bl (lv s.ls) k h.lm).1 _ hl
  have H := Lib.hid h
  clear h hl hk
  go_enter Tryz.func46, Tryz.ntmps46
  go_wp2
  go_ret
  exact ⟨rfl, vl, vj, H.out⟩
set_option maxRecDepth 100000 in
set_option maxHeartbeats 1000000 in
theorem mark_new (g bm bl : Nat) (s : FM) (k : Bs) (w0 w : World) (h : FX w0 g bm bl s w) (hk : lab k s.ls = none) :
    Calls Tryz.prog 46 #[.pointer (some ⟨g, 0, none⟩), .string ⟨k.toArray⟩] w (StD w0 g bm bl 0 ⟨s.is, s.ls ++ [(k, s.is.length)], s.js⟩) := by
  obtain ⟨vl, vj, h⟩ := h
  obtain ⟨A, c, rfl, -, -, -⟩ := own_len h.lo
  obtain ⟨c0, c1, c2, c3⟩ := h.cells
  have hl : look k (lv s.ls) = none := by rw [look_lv, hk]; rfl
  have hask := (run_ask (P := Tryz.prog) (T := 46) Tryz.underlying46 Tryz.underlying9 _ zero_int w bl (lv s.ls) k h.lm).2 hl
  have h2 := h.keep (Below.drew (new_refl w))
  obtain ⟨W, hmu, hmw, hch, hsz⟩ := run_put (P := Tryz.prog) (T := 46) (K := 9) (E := 3) Tryz.underlying46 Tryz.underlying9 w.drew bl (lv s.ls) k (.int .i64 (s.is.length : Int)) h2.lm hl
  have H := Lib.hid (h2.mark k s.is.length hmw hch)
  clear h hl hk h2 hmw hch
  go_enter Tryz.func46, Tryz.ntmps46
  go_wp2
  go_region
  all_goals go_wp2
  all_goals go_ret
  all_goals exact ⟨rfl, _, vj, H.out⟩
end Go.Proofs.YtddojdgnakajmaaGreatDoor.txt

namespace Go.Proofs.YtddojdgnakajmaaGreatDoor.txt
open Go.RowKit Go.Proofs.YtddojdgnakajmaaGreatDoor.mem Go.Proofs.YtddojdgnakajmaaGreatDoor.kit Go.Proofs.YtddojdgnakajmaaGreatDoor.ins
set_option linter.unusedVariables false
set_option linter.unusedSimpArgs false

section
variable {w0 w w' w7 w9 W : World} {g bm bl : Nat} {s : FM} {vl vj v9 : Value}
theorem own_own_ne {b1 n1 s1 b2 n2 s2 : Nat} {e1 e2 : TypeId} {v1 v2 : Value} {x1 x2 : List Value} (h1 : w.ownsRow b1 e1 s1 v1 n1 x1) (h2 : w.ownsRow b2 e2 s2 v2 n2 x2) (he : e1 ≠ e2) : ∀ j, v1.ownBlock = some j → ¬ some j = v2.ownBlock := fun j hj e => by
  obtain ⟨_, c1, hb1⟩ := own_cells h1 hj
  obtain ⟨_, c2, hb2⟩ := own_cells h2 e.symm
  exact hb1.ne_ hb2 he rfl
theorem own_blk_not {b1 n1 s1 k : Nat} {e1 t : TypeId} {v1 : Value} {x1 : List Value} {cs : Array Value} (h1 : w.ownsRow b1 e1 s1 v1 n1 x1) (h2 : Blk w k t cs) (he : e1 ≠ t) : ¬ some k = v1.ownBlock := fun e => by
  obtain ⟨_, c1, hb1⟩ := own_cells h1 e.symm
  exact hb1.ne_ h2 he rfl
theorem own_map_not {b1 n1 s1 k : Nat} {e1 : TypeId} {v1 : Value} {x1 : List Value} {l : List (Bs × Value)} (h1 : w.ownsRow b1 e1 s1 v1 n1 x1) (h2 : MapAt w k l) : ¬ some k = v1.ownBlock := fun e => by
  obtain ⟨_, c1, hb1⟩ := own_cells h1 e.symm
  exact h2.ne hb1 rfl
/-- A jump more. -/
theorem FS.addj (h : FS w0 g bm bl s vl vj w7) (j : Int × Nat × Bs) (hown : w9.ownsRow w0.heap.size 113 3 v9 (s.js.length + 1) (jv s.js ++ [.int .i64 j.1, .int .i64 (j.2.1 : Int), .string ⟨j.2.2.toArray⟩])) (hg9 : w7.grownBy w9 vj.ownBlock) :
    (w9.cell? ⟨g, 3, none⟩ = some vj ∧ w9.frozen? ⟨g, 3, none⟩ = false) ∧ FS w0 g bm bl ⟨s.is, s.ls, s.js ++ [j]⟩ vl v9 (w9.setCell ⟨g, 3, none⟩ v9) ∧ (∀ b t cs, Blk w7 b t cs → 113 ≠ t → t ≠ 49 → Blk (w9.setCell ⟨g, 3, none⟩ v9) b t cs) := by
  have hc := Ch.of_grown hg9
  have fb := h.fb.ch hc (own_blk_not h.jo h.fb (by decide))
  have lo := own_ch h.lo hc (own_own_ne h.lo h.jo (by decide))
  have wm := h.wm.ch hc (own_map_not h.jo h.wm)
  have lm := h.lm.ch hc (own_map_not h.jo h.lm)
  have nw : Ch (fun j => j = g ∨ j = bl) w0 w9 := h.new.then hc (fun j hj e => by have := (own_cells h.jo (j := j) e.symm).1; omega)
  have c2 : Ch (fun j => j = g) w9 (w9.setCell ⟨g, 3, none⟩ v9) := (Ch.refl (fun j => j = g) w9).setCell (p := ⟨g, 3, none⟩) (fun _ => rfl) _
  refine ⟨⟨(fb.cell 3).trans rfl, fb.frozen 3⟩, ⟨fb.set_ 3 v9, own_ch lo c2 (fun j hj e => own_blk_not lo fb (by decide) ((congrArg some (show j = g from e)).symm.trans hj.symm)), ?_, wm.ch c2 (wm.ne fb), lm.ch c2 (lm.ne fb), h.ne, nw.then c2 (fun _ _ e => Or.inl e)⟩, fun b t cs hb ht hf => ?_⟩
  · have e2 : jv (s.js ++ [j]) = jv s.js ++ [.int .i64 j.1, .int .i64 (j.2.1 : Int), .string ⟨j.2.2.toArray⟩] := by rw [jv_append]; rfl
    show World.ownsRow _ _ _ _ _ (s.js ++ [j]).length (jv (s.js ++ [j]))
    rw [e2, List.length_append]
    exact own_ch hown c2 (fun j hj e => own_blk_not hown fb (by decide) ((congrArg some (show j = g from e)).symm.trans hj.symm))
  · have hb9 := hb.ch hc (own_blk_not h.jo hb ht)
    exact hb9.ch c2 (fun e => hb9.ne_ fb hf e)
/-- An instruction more. -/
theorem FS.addi (h : FS w0 g bm bl s vl vj w7) (i : In) (hown : w9.ownsRow w0.heap.size 41 8 v9 (s.is.length + 1) (vi s.is ++ vi [i])) (hg9 : w7.grownBy w9 vl.ownBlock) :
    (w9.cell? ⟨g, 1, none⟩ = some vl ∧ w9.frozen? ⟨g, 1, none⟩ = false) ∧ FS w0 g bm bl ⟨s.is ++ [i], s.ls, s.js⟩ v9 vj (w9.setCell ⟨g, 1, none⟩ v9) := by
  have hc := Ch.of_grown hg9
  have fb := h.fb.ch hc (own_blk_not h.lo h.fb (by decide))
  have jo := own_ch h.jo hc (own_own_ne h.jo h.lo (by decide))
  have wm := h.wm.ch hc (own_map_not h.lo h.wm)
  have lm := h.lm.ch hc (own_map_not h.lo h.lm)
  have nw : Ch (fun j => j = g ∨ j = bl) w0 w9 := h.new.then hc (fun j hj e => by have := (own_cells h.lo (j := j) e.symm).1; omega)
  have c2 : Ch (fun j => j = g) w9 (w9.setCell ⟨g, 1, none⟩ v9) := (Ch.refl (fun j => j = g) w9).setCell (p := ⟨g, 1, none⟩) (fun _ => rfl) _
  refine ⟨⟨(fb.cell 1).trans rfl, fb.frozen 1⟩, ⟨fb.set_ 1 v9, ?_, own_ch jo c2 (fun j hj e => own_blk_not jo fb (by decide) ((congrArg some (show j = g from e)).symm.trans hj.symm)), wm.ch c2 (wm.ne fb), lm.ch c2 (lm.ne fb), h.ne, nw.then c2 (fun _ _ e => Or.inl e)⟩⟩
  show World.ownsRow _ _ _ _ _ (s.is ++ [i]).length (vi (s.is ++ [i]))
  rw [vi_append, List.length_append]
  exact own_ch hown c2 (fun j hj e => own_blk_not hown fb (by decide) ((congrArg some (show j = g from e)).symm.trans hj.symm))
theorem said_cells {b : Nat} {i : In} {t : Bs} (h : Blk w b 107 (sdv (.ins i t))) :
    w.cell? ⟨b, 1, none⟩ = some (.int .u8 i.op) ∧ w.cell? ⟨b, 2, none⟩ = some (.bool i.nar) ∧ w.cell? ⟨b, 3, none⟩ = some (.int .i64 i.dst) ∧ w.cell? ⟨b, 4, none⟩ = some (.int .i64 i.src) ∧ w.cell? ⟨b, 5, none⟩ = some (.bool i.use) ∧ w.cell? ⟨b, 6, none⟩ = some (.int .i64 i.off) ∧ w.cell? ⟨b, 7, none⟩ = some (.int .i64 i.imm) ∧ w.cell? ⟨b, 8, none⟩ = some (.int .i64 i.siz) ∧ w.cell? ⟨b, 9, none⟩ = some (.string ⟨t.toArray⟩) :=
  ⟨(h.cell 1).trans rfl, (h.cell 2).trans rfl, (h.cell 3).trans rfl, (h.cell 4).trans rfl, (h.cell 5).trans rfl, (h.cell 6).trans rfl, (h.cell 7).trans rfl, (h.cell 8).trans rfl, (h.cell 9).trans rfl⟩
end
/-- What stands in a block as a row of eight cells. -/
theorem reads_i (w : World) (i : In) : Reads (w.alloc (.cells (icell i) 41)) (w.heap.size + 1) 8 (some ⟨w.heap.size, 0, none⟩) 1 (vi [i]) := by
  have h := reads_ins w 41 i.op i.nar i.dst i.src i.use i.off i.imm i.siz
  rw [World.size_alloc] at h
  exact h

set_option maxRecDepth 100000 in
set_option maxHeartbeats 1000000 in
theorem put_long (g bm bl : Nat) (s : FM) (n : Int) (i : In) (t : Bs) (w0 w : World) (h : FX w0 g bm bl s w) (hk : s.is.length = 4096) :
    Calls Tryz.prog 47 #[.pointer (some ⟨g, 0, none⟩), .int .i64 n, .agg (sdv (.ins i t))] w (StD w0 g bm bl 3 s) := by
  obtain ⟨vl, vj, h⟩ := h
  obtain ⟨A, c, rfl, -, -, -⟩ := own_len h.lo
  have h1 := h.keep (new1 w (.cells (sdv (.ins i t)) 107))
  obtain ⟨c0, c1, c2, c3⟩ := h1.cells
  have H := Lib.hid h1
  have hkn : (s.is.length : Int) = 4096 := by omega
  clear h h1
  go_enter Tryz.func47, Tryz.ntmps47
  go_wp2
  go_ret
  exact ⟨rfl, _, vj, H.out⟩

set_option maxRecDepth 100000 in
set_option maxHeartbeats 1000000 in
theorem put_plain (g bm bl : Nat) (s : FM) (n : Int) (i : In) (w0 w : World) (h : FX w0 g bm bl s w) (hk : s.is.length < 4096) :
    Calls Tryz.prog 47 #[.pointer (some ⟨g, 0, none⟩), .int .i64 n, .agg (sdv (.ins i []))] w (StD w0 g bm bl 0 ⟨s.is ++ [i], s.ls, s.js⟩) := by
  obtain ⟨i0, hi, hz0, hz1, hz2⟩ := info_parts' ins_info
  obtain ⟨vl, vj, h⟩ := h
  obtain ⟨A, c, rfl, -, -, -⟩ := own_len h.lo
  have h1 := h.keep (new1 w (.cells (sdv (.ins i [])) 107))
  obtain ⟨c0, c1, c2, c3⟩ := h1.cells
  obtain ⟨b1, b2, b3, b4, b5, b6, b7, b8, b9⟩ := said_cells (Blk.new w 107 (sdv (.ins i [])))
  obtain ⟨is, ls, js⟩ := s
  simp only at *
  have H7 := Lib.hid (h1.keep (Below.drew (new1 (w.alloc (.cells (sdv (.ins i [])) 107)) (.cells (icell i) 41))))
  obtain ⟨d0, d1, d2, d3⟩ := H7.out.cells
  have HRD : Hid (Reads ((w.alloc (.cells (sdv (.ins i [])) 107)).alloc (.cells (icell i) 41)).drew (w.heap.size + 1 + 1) 8 (some ⟨w.heap.size + 1, 0, none⟩) 1 (vi [i])) := Lib.hid (by
    have h := reads_i (w.alloc (.cells (sdv (.ins i [])) 107)) i
    rw [World.size_alloc] at h
    exact h)
  have hkn : (is.length : Int) ≠ 4096 := by omega
  clear h h1
  go_enter Tryz.func47, Tryz.ntmps47
  go_wp2
  go_region_law (refine step_append_any _ (by rfl) (.tmp 38) (.tmp 41) 23 (by rfl) w0.heap.size 41 i0 _ 8 56 Tryz.underlying23 hi hz0 hz1 hz2 rfl (by omega) _ is.length (vi is) (by rfl) H7.out.lo (w.heap.size + 1 + 1) (some ⟨w.heap.size + 1, 0, none⟩) 1 1 (vi [i]) (by rfl) HRD.out (vi_one [i]) (by unfold maxLen; omega) (by omega) (by have := H7.out.new.size; exact this) ?_; intro v9 w9 hown9 hg9 hat9; obtain ⟨⟨s0, s1⟩, hf⟩ := H7.out.addi i hown9 hg9; obtain ⟨A9, c9, rfl, -, -, -⟩ := own_len hown9; have HF := Lib.hid hf; clear hf hown9 hg9 hat9)
  all_goals go_wp2
  all_goals go_ret
  all_goals exact ⟨rfl, _, vj, HF.out⟩
end Go.Proofs.YtddojdgnakajmaaGreatDoor.txt
