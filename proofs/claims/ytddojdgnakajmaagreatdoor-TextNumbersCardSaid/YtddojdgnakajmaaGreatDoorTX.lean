/-
  Contracts of text: a jump to a label is put; a line is gone through.
-/
import Derived.Test.YtddojdgnakajmaaGreatDoorTV
namespace Go.Proofs.YtddojdgnakajmaaGreatDoor.txt
open Go.RowKit Go.Proofs.YtddojdgnakajmaaGreatDoor.mem Go.Proofs.YtddojdgnakajmaaGreatDoor.kit Go.Proofs.YtddojdgnakajmaaGreatDoor.ins
set_option linter.unusedVariables false
set_option linter.unusedSimpArgs false

theorem reads_j (w : World) (a b : Int) (t : Bs) : Reads (w.alloc (.cells #[.int .i64 a, .int .i64 b, .string ⟨t.toArray⟩] 113)) (w.heap.size + 1) 3 (some ⟨w.heap.size, 0, none⟩) 1 [.int .i64 a, .int .i64 b, .string ⟨t.toArray⟩] :=
  ⟨rfl, fun _ => ⟨_, rfl, by simp, fun j v hv => by
    rw [Addr.add_lit, Nat.zero_add, (Blk.new w 113 #[.int .i64 a, .int .i64 b, .string ⟨t.toArray⟩]).cell j]
    rw [← hv]
    simp only [List.getElem?_toArray]⟩⟩

set_option maxRecDepth 100000 in
set_option maxHeartbeats 2000000 in
theorem put_jump (g bm bl : Nat) (is : List In) (ls : List (Bs × Nat)) (js : List (Int × Nat × Bs)) (n : Int) (i : In) (t : Bs) (w0 w : World) (h : FX w0 g bm bl ⟨is, ls, js⟩ w) (hk : is.length < 4096) (hj : js.length < 4096) (ht : t.isEmpty = false) :
    Calls Tryz.prog 47 #[.pointer (some ⟨g, 0, none⟩), .int .i64 n, .agg (sdv (.ins i t))] w (StD w0 g bm bl 0 ⟨is ++ [i], ls, js ++ [(n, is.length, t)]⟩) := by
  obtain ⟨i0, hi, hz0, hz1, hz2⟩ := info_parts' ins_info
  obtain ⟨i1, gi, gz0, gz1, gz2⟩ := info_parts' jump_info
  obtain ⟨vl, vj, h⟩ := h
  obtain ⟨A, c, rfl, -, -, -⟩ := own_len h.lo
  obtain ⟨B, d, rfl, -, -, -⟩ := own_len h.jo
  simp only at *
  have h1 := h.keep (new1 w (.cells (sdv (.ins i t)) 107))
  obtain ⟨c0, c1, c2, c3⟩ := h1.cells
  have hb := Blk.new w 107 (sdv (.ins i t))
  obtain ⟨-, -, -, -, -, -, -, -, b9⟩ := said_cells hb
  have H7 := Lib.hid (h1.keep (Below.drew (new1 (w.alloc (.cells (sdv (.ins i t)) 107)) (.cells #[.int .i64 n, .int .i64 (is.length : Int), .string ⟨t.toArray⟩] 113))))
  have HB7 := Lib.hid (hb.below (Below.drew (new1 (w.alloc (.cells (sdv (.ins i t)) 107)) (.cells #[.int .i64 n, .int .i64 (is.length : Int), .string ⟨t.toArray⟩] 113))) hb.lt)
  obtain ⟨d0, d1, d2, d3⟩ := H7.out.cells
  have HRD : Hid (Reads ((w.alloc (.cells (sdv (.ins i t)) 107)).alloc (.cells #[.int .i64 n, .int .i64 (is.length : Int), .string ⟨t.toArray⟩] 113)).drew (w.heap.size + 1 + 1) 3 (some ⟨w.heap.size + 1, 0, none⟩) 1 [.int .i64 n, .int .i64 (is.length : Int), .string ⟨t.toArray⟩]) := Lib.hid (by
    have h := reads_j (w.alloc (.cells (sdv (.ins i t)) 107)) n is.length t
    rw [World.size_alloc] at h
    exact h)
  have hkn : (is.length : Int) ≠ 4096 := by omega
  clear h h1 hb
  go_enter Tryz.func47, Tryz.ntmps47
  go_wp2
  go_region_law (refine step_append_any _ (by rfl) (.tmp 20) (.tmp 30) 47 (by rfl) w0.heap.size 113 i1 _ 3 32 Tryz.underlying47 gi gz0 gz1 gz2 rfl (by omega) _ js.length (jv js) (by rfl) H7.out.jo (w.heap.size + 1 + 1) (some ⟨w.heap.size + 1, 0, none⟩) 1 1 [.int .i64 n, .int .i64 (is.length : Int), .string ⟨t.toArray⟩] (by rfl) HRD.out (by simp [Value.oneCell']) (by unfold maxLen; omega) (by omega) (by have := H7.out.new.size; exact this) ?_; intro v9 w9 hown9 hg9 hat9; obtain ⟨⟨s0, s1⟩, hf, hk9⟩ := H7.out.addj (n, is.length, t) hown9 hg9; obtain ⟨A9, c9, rfl, -, -, -⟩ := own_len hown9; have HF := Lib.hid hf; have HB := Lib.hid (hk9 w.heap.size _ _ HB7.out (by decide) (by decide)); clear hf hown9 hg9 hat9 hk9)
  all_goals
    clear c0 c1 c2 c3 d0 d1 d2 d3 b9 s0 s1
    generalize (w9.setCell ⟨g, 3, none⟩ (.slice A9 (js.length + 1) c9)) = wa at *
    obtain ⟨e0, e1, e2, e3⟩ := HF.out.cells
    obtain ⟨b1, b2, b3, b4, b5, b6, b7, b8, b9⟩ := said_cells HB.out
    have HG := Lib.hid (HF.out.keep (Below.drew (new1 wa (.cells (icell i) 41))))
    have HRE : Hid (Reads (wa.alloc (.cells (icell i) 41)).drew (wa.heap.size + 1) 8 (some ⟨wa.heap.size, 0, none⟩) 1 (vi [i])) := Lib.hid (reads_i wa i)
    obtain ⟨d0, d1, d2, d3⟩ := HG.out.cells
    go_wp2
    go_region_law (refine step_append_any _ (by rfl) (.tmp 38) (.tmp 41) 23 (by rfl) w0.heap.size 41 i0 _ 8 56 Tryz.underlying23 hi hz0 hz1 hz2 rfl (by omega) _ is.length (vi is) (by rfl) HG.out.lo (wa.heap.size + 1) (some ⟨wa.heap.size, 0, none⟩) 1 1 (vi [i]) (by rfl) HRE.out (vi_one [i]) (by unfold maxLen; omega) (by omega) (by have := HG.out.new.size; exact this) ?_; intro v8 w8 hown8 hg8 hat8; obtain ⟨⟨s0, s1⟩, hf⟩ := HG.out.addi i hown8 hg8; obtain ⟨A8, c8, rfl, -, -, -⟩ := own_len hown8; have HH := Lib.hid hf; clear hf hown8 hg8 hat8)
    all_goals go_wp2
    all_goals go_ret
    all_goals exact ⟨rfl, _, _, HH.out⟩
end Go.Proofs.YtddojdgnakajmaaGreatDoor.txt

