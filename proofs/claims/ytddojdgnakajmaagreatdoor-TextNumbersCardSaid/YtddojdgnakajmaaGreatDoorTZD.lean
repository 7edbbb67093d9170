/-
  Contracts of text's Show: numbers, registers, cells.
-/
import Derived.Test.YtddojdgnakajmaaGreatDoorTZB
import Derived.Lib.ItoaLen
import Derived.Deep.RegionHeld3
namespace Go.Proofs.YtddojdgnakajmaaGreatDoor.txt
open Go.RowKit Go.Proofs.YtddojdgnakajmaaGreatDoor.mem Go.Proofs.YtddojdgnakajmaaGreatDoor.kit Go.Proofs.YtddojdgnakajmaaGreatDoor.ins
set_option linter.unusedVariables false
set_option linter.unusedSimpArgs false

/-- The library's powers of ten. -/
def PowT (w : World) : Prop := Lib.TabIs Tryz.prog w "internal/strconv.uint64pow10" .u64 Lib.pow10Tab
theorem tab_below {P : Program} {n : String} {g : Nat} {k : IntKind} {zs : List Int} {w w' : World} (hg : P.globalNamed n = some g) (h : Lib.TabIs P w n k zs) (hb : Below w.heap.size w w') : Lib.TabIs P w' n k zs := by
  unfold Lib.TabIs World.var? at h ⊢
  rw [hg] at h ⊢
  simp only [Option.bind_some] at h ⊢
  have hlt : g < w.heap.size := by
    rcases Nat.lt_or_ge g w.heap.size with h' | h'
    · exact h'
    · rw [Array.getElem?_eq_none h'] at h; cases h
  rw [hb.block g hlt]
  exact h
theorem PowT.new {w w' : World} (h : PowT w) (hn : New w w') : PowT w' := by
  obtain ⟨g, hg⟩ : ∃ g, Tryz.prog.globalNamed "internal/strconv.uint64pow10" = some g := by
    unfold PowT Lib.TabIs World.var? at h
    cases hq : Tryz.prog.globalNamed "internal/strconv.uint64pow10" with
    | none => rw [hq] at h; simp at h
    | some g => exact ⟨g, rfl⟩
  exact tab_below hg h hn
theorem new_grow {w : World} (k : Nat) (os : Array Obj) : New w (Go.Sort.grow (w.drewN k) os) :=
  ⟨rfl, rfl, rfl, by simp [Go.Sort.grow, World.drewN], fun j hj => by
    show (w.heap ++ os)[j]? = w.heap[j]?
    rw [Array.getElem?_append_left hj]⟩
def I64 (n : Int) : Prop := -9223372036854775808 ≤ n ∧ n ≤ 9223372036854775807
theorem itoa_any (n : Int) (w : World) (hn : I64 n) (hP : PowT w) : Calls Tryz.prog 93 #[.int .i64 n] w fun e w' => e = .returned (.string ⟨(Lib.itoa n).toArray⟩) ∧ New w w' := by
  refine (Tryz.strconv_Itoa n hn.1 hn.2 w hP).mono ?_
  rintro e w' ⟨rfl, k, os, rfl⟩
  exact ⟨rfl, new_grow k os⟩
theorem itoa_le (n : Int) (h : I64 n) : (Lib.itoa n).length ≤ 21 := Lib.itoa_length_le n h.1 h.2

def regB (n : Int) : Bs := [114] ++ Lib.itoa n
def sgnB (n : Int) : Bs := if n < 0 then Lib.itoa n else [43] ++ Lib.itoa n
def celB (r f : Int) : Bs := [91] ++ regB r ++ (if f < 0 then [32, 45, 32] else [32, 43, 32]) ++ Lib.itoa (if f < 0 then -f else f) ++ [93]
theorem regB_le (n : Int) (h : I64 n) : (regB n).length ≤ 22 := by have := itoa_le n h; simp [regB]; omega

set_option maxRecDepth 100000 in
theorem registerOf_any (n : Int) (w : World) (hn : I64 n) (hP : PowT w) : Calls Tryz.prog 158 #[.int .i64 n] w fun e w' => e = .returned (.string ⟨(regB n).toArray⟩) ∧ New w w' := by
  have HI := Lib.hid (itoa_any n w hn hP)
  have hl := itoa_le n hn
  unfold regB
  generalize Lib.itoa n = x at *
  have a1 := fun W => add_str [114] x (by simp; omega) W
  go_enter Tryz.func158, Tryz.ntmps158
  go_wp2_with (go_at_call 93; refine HI.out.mono ?_; rintro e w1 ⟨rfl, hn1⟩)
  go_ret
  exact ⟨rfl, hn1⟩
set_option maxRecDepth 100000 in
theorem signedOf_any (n : Int) (w : World) (hn : I64 n) (hP : PowT w) : Calls Tryz.prog 157 #[.int .i64 n] w fun e w' => e = .returned (.string ⟨(sgnB n).toArray⟩) ∧ New w w' := by
  have HI := Lib.hid (itoa_any n w hn hP)
  have hl := itoa_le n hn
  obtain ⟨x, hx⟩ : ∃ x, Lib.itoa n = x := ⟨_, rfl⟩
  rw [hx] at HI hl
  have a1 := fun W => add_str [43] x (by simp; omega) W
  by_cases h : n < 0
  · have e : sgnB n = x := by simp [sgnB, h, hx]
    rw [e]
    clear e hx
    go_enter Tryz.func157, Tryz.ntmps157
    go_wp2_with (go_at_call 93; refine HI.out.mono ?_; rintro e w1 ⟨rfl, hn1⟩)
    go_ret
    exact ⟨rfl, hn1⟩
  · have e : sgnB n = [43] ++ x := by simp [sgnB, h, hx]
    rw [e]
    clear e hx
    go_enter Tryz.func157, Tryz.ntmps157
    go_wp2_with (go_at_call 93; refine HI.out.mono ?_; rintro e w1 ⟨rfl, hn1⟩)
    go_ret
    exact ⟨rfl, hn1⟩
set_option maxRecDepth 100000 in
theorem cellOf_any (r f : Int) (w : World) (hr : I64 r) (hf : -32768 ≤ f ∧ f ≤ 32767) (hP : PowT w) : Calls Tryz.prog 159 #[.int .i64 r, .int .i64 f] w fun e w' => e = .returned (.string ⟨(celB r f).toArray⟩) ∧ New w w' := by
  have HR := Lib.hid (registerOf_any r w hr hP)
  have hl := regB_le r hr
  have HP := Lib.hid hP
  obtain ⟨f0, f1⟩ := hf
  by_cases h : f < 0
  · have hi : I64 (-f) := ⟨by omega, by omega⟩
    have HI := Lib.hid (fun W hW => itoa_any (-f) W hi hW)
    have hl2 := itoa_le (-f) hi
    unfold celB
    rw [if_pos h, if_pos h]
    generalize regB r = x at *
    generalize Lib.itoa (-f) = y at *
    have a1 := fun W => add_str [91] x (by simp; omega) W
    have a2 := fun W => add_str ([91] ++ x) [32, 45, 32] (by simp; omega) W
    have a3 := fun W => add_str ([91] ++ x ++ [32, 45, 32]) y (by simp; omega) W
    have a4 := fun W => add_str ([91] ++ x ++ [32, 45, 32] ++ y) [93] (by simp; omega) W
    clear hP hi hr
    go_enter Tryz.func159, Tryz.ntmps159
    go_wp2_with (first
      | (go_at_call 158; refine HR.out.mono ?_; rintro e w1 ⟨rfl, hn1⟩)
      | (go_at_call 93; refine (HI.out _ (HP.out.new hn1)).mono ?_; rintro e w2 ⟨rfl, hn2⟩))
    go_ret
    exact ⟨rfl, New.then hn1 hn2⟩
  · have hi : I64 f := ⟨by omega, by omega⟩
    have HI := Lib.hid (fun W hW => itoa_any f W hi hW)
    have hl2 := itoa_le f hi
    unfold celB
    rw [if_neg h, if_neg h]
    generalize regB r = x at *
    generalize Lib.itoa f = y at *
    have a1 := fun W => add_str [91] x (by simp; omega) W
    have a2 := fun W => add_str ([91] ++ x) [32, 43, 32] (by simp; omega) W
    have a3 := fun W => add_str ([91] ++ x ++ [32, 43, 32]) y (by simp; omega) W
    have a4 := fun W => add_str ([91] ++ x ++ [32, 43, 32] ++ y) [93] (by simp; omega) W
    clear hP hi hr
    go_enter Tryz.func159, Tryz.ntmps159
    go_wp2_with (first
      | (go_at_call 158; refine HR.out.mono ?_; rintro e w1 ⟨rfl, hn1⟩)
      | (go_at_call 93; refine (HI.out _ (HP.out.new hn1)).mono ?_; rintro e w2 ⟨rfl, hn2⟩))
    go_ret
    exact ⟨rfl, New.then hn1 hn2⟩
def secB (i : In) : Bs := if i.use then Lib.itoa i.imm else regB i.src
set_option maxRecDepth 100000 in
theorem secondOf_any (i : In) (w : World) (hm : I64 i.imm) (hs : I64 i.src) (hP : PowT w) : Calls Tryz.prog 160 #[.agg (icell i)] w fun e w' => e = .returned (.string ⟨(secB i).toArray⟩) ∧ New w w' := by
  have n1 := new1 w (.cells (icell i) 41)
  have HN := Lib.hid n1
  have HI := Lib.hid (itoa_any i.imm _ hm (hP.new n1))
  have HR := Lib.hid (registerOf_any i.src _ hs (hP.new n1))
  obtain ⟨io, inr, id, isr, iu, iof, iim, isz⟩ := i
  clear n1
  cases iu
  all_goals
    go_enter Tryz.func160, Tryz.ntmps160
    go_wp2_with (first
      | (go_at_call 158; refine HR.out.mono ?_; rintro e w1 ⟨rfl, hn1⟩)
      | (go_at_call 93; refine HI.out.mono ?_; rintro e w1 ⟨rfl, hn1⟩))
    go_ret
    exact ⟨rfl, New.then HN.out hn1⟩
end Go.Proofs.YtddojdgnakajmaaGreatDoor.txt

namespace Go.Proofs.YtddojdgnakajmaaGreatDoor.txt
open Go.RowKit Go.Proofs.YtddojdgnakajmaaGreatDoor.mem Go.Proofs.YtddojdgnakajmaaGreatDoor.kit Go.Proofs.YtddojdgnakajmaaGreatDoor.ins
set_option linter.unusedVariables false
set_option linter.unusedSimpArgs false

/-- The parts of a line, in a block of the call's own. -/
def PartsD (w : World) (L : List Bs) (e : Ending) (w' : World) : Prop :=
  ∃ b c, e = .returned (.slice (some ⟨b, 0, none⟩) L.length c) ∧ b < w'.heap.size ∧ L.length ≤ c ∧ (∀ (j : Nat) (x : Bs), L[j]? = some x → w'.cell? ⟨b, j, none⟩ = some (sv x)) ∧ New w w'
theorem parts_mk {w wz : World} (h : New w wz) (L : List Bs) : PartsD w L (.returned (.slice (some ⟨wz.heap.size, 0, none⟩) L.length L.length)) (wz.alloc (.cells (L.map sv).toArray 9)) :=
  ⟨wz.heap.size, L.length, rfl, by simp, Nat.le_refl _, fun j x hx => by
    rw [(Blk.new wz 9 (L.map sv).toArray).cell j]
    simp [hx], New.then h (new1 wz _)⟩
theorem pow_drew {w wz : World} (hP : PowT w) (h : New w wz) : PowT wz.drew := hP.new (Below.drew h)
/-- Numbers as they may be. -/
structure Sm (i : In) : Prop where
  d : I64 i.dst
  s : I64 i.src
  f : -32768 ≤ i.off ∧ i.off ≤ 32767
  m : I64 i.imm
theorem Sm.o {i : In} (h : Sm i) : I64 i.off := ⟨by have := h.f.1; omega, by have := h.f.2; omega⟩
theorem jumps_x (o : Int) (n : Bool) (d s : Int) (u : Bool) (f m z : Int) (B : Bool) (h : jumps ⟨o, n, d, s, u, f, m, z⟩ = B) (w : World) :
    Calls Tryz.prog 161 #[.agg #[.int .u8 o, .bool n, .int .i64 d, .int .i64 s, .bool u, .int .i64 f, .int .i64 m, .int .i64 z]] w fun e w' => e = .returned (.bool B) ∧ New w w' := h ▸ Jumps_any ⟨o, n, d, s, u, f, m, z⟩ w

set_option maxRecDepth 100000 in
set_option maxHeartbeats 4000000 in
theorem parts_neg (inr : Bool) (id isr : Int) (iu : Bool) (iof iim isz : Int) (w : World) (h : Sm ⟨13, inr, id, isr, iu, iof, iim, isz⟩) (hP : PowT w) :
    Calls Tryz.prog 92 #[.agg #[.int .u8 13, .bool inr, .int .i64 id, .int .i64 isr, .bool iu, .int .i64 iof, .int .i64 iim, .int .i64 isz]] w (PartsD w [regB id]) := by
  have n1 := new1 w (.cells #[.int .u8 13, .bool inr, .int .i64 id, .int .i64 isr, .bool iu, .int .i64 iof, .int .i64 iim, .int .i64 isz] 41)
  have HN := Lib.hid n1
  have HP := Lib.hid (hP.new n1)
  have HB := Lib.hid (Blk.new w 41 #[.int .u8 13, .bool inr, .int .i64 id, .int .i64 isr, .bool iu, .int .i64 iof, .int .i64 iim, .int .i64 isz])
  have HNZ := Lib.hid (new_refl (w.alloc (.cells #[.int .u8 13, .bool inr, .int .i64 id, .int .i64 isr, .bool iu, .int .i64 iof, .int .i64 iim, .int .i64 isz] 41)))
  obtain ⟨a0, a1, a2, a3, a4, a5, a6, a7⟩ := cells8 HB.out
  have HD := Lib.hid h.d
  have HS := Lib.hid h.s
  have HF := Lib.hid h.f
  have HIM := Lib.hid h.m
  have HO := Lib.hid h.o
  clear n1 h hP
  go_enter Tryz.func92, Tryz.ntmps92
  go_wp2_with (first
    | (go_at_call 158; (with_reducible refine (registerOf_any id _ HD.out (by first | exact HP.out.new HNZ.out | exact HP.out.new (Below.drew HNZ.out))).mono ?_); rintro e wz ⟨rfl, hnz⟩; have HNZ := Lib.hid (show New (w.alloc (.cells #[.int .u8 13, .bool inr, .int .i64 id, .int .i64 isr, .bool iu, .int .i64 iof, .int .i64 iim, .int .i64 isz] 41)) wz from by first | exact New.then HNZ.out hnz | exact New.then (Below.drew HNZ.out) hnz); clear hnz; obtain ⟨a0, a1, a2, a3, a4, a5, a6, a7⟩ := cells8 (HB.out.below HNZ.out HB.out.lt)))
  go_ret
  exact parts_mk (New.then HN.out HNZ.out) [regB id]

set_option maxRecDepth 100000 in
set_option maxHeartbeats 4000000 in
theorem parts_jump (inr : Bool) (id isr : Int) (iu : Bool) (iof iim isz : Int) (w : World) (h : Sm ⟨16, inr, id, isr, iu, iof, iim, isz⟩) (hP : PowT w) :
    Calls Tryz.prog 92 #[.agg #[.int .u8 16, .bool inr, .int .i64 id, .int .i64 isr, .bool iu, .int .i64 iof, .int .i64 iim, .int .i64 isz]] w (PartsD w [sgnB iof]) := by
  have n1 := new1 w (.cells #[.int .u8 16, .bool inr, .int .i64 id, .int .i64 isr, .bool iu, .int .i64 iof, .int .i64 iim, .int .i64 isz] 41)
  have HN := Lib.hid n1
  have HP := Lib.hid (hP.new n1)
  have HB := Lib.hid (Blk.new w 41 #[.int .u8 16, .bool inr, .int .i64 id, .int .i64 isr, .bool iu, .int .i64 iof, .int .i64 iim, .int .i64 isz])
  have HNZ := Lib.hid (new_refl (w.alloc (.cells #[.int .u8 16, .bool inr, .int .i64 id, .int .i64 isr, .bool iu, .int .i64 iof, .int .i64 iim, .int .i64 isz] 41)))
  obtain ⟨a0, a1, a2, a3, a4, a5, a6, a7⟩ := cells8 HB.out
  have HD := Lib.hid h.d
  have HS := Lib.hid h.s
  have HF := Lib.hid h.f
  have HIM := Lib.hid h.m
  have HO := Lib.hid h.o
  clear n1 h hP
  go_enter Tryz.func92, Tryz.ntmps92
  go_wp2_with (first
    | (go_at_call 157; (with_reducible refine (signedOf_any iof _ HO.out (by first | exact HP.out.new HNZ.out | exact HP.out.new (Below.drew HNZ.out))).mono ?_); rintro e wz ⟨rfl, hnz⟩; have HNZ := Lib.hid (show New (w.alloc (.cells #[.int .u8 16, .bool inr, .int .i64 id, .int .i64 isr, .bool iu, .int .i64 iof, .int .i64 iim, .int .i64 isz] 41)) wz from by first | exact New.then HNZ.out hnz | exact New.then (Below.drew HNZ.out) hnz); clear hnz; obtain ⟨a0, a1, a2, a3, a4, a5, a6, a7⟩ := cells8 (HB.out.below HNZ.out HB.out.lt)))
  go_ret
  exact parts_mk (New.then HN.out HNZ.out) [sgnB iof]

set_option maxRecDepth 100000 in
set_option maxHeartbeats 4000000 in
theorem parts_load (inr : Bool) (id isr : Int) (iu : Bool) (iof iim isz : Int) (w : World) (h : Sm ⟨14, inr, id, isr, iu, iof, iim, isz⟩) (hP : PowT w) :
    Calls Tryz.prog 92 #[.agg #[.int .u8 14, .bool inr, .int .i64 id, .int .i64 isr, .bool iu, .int .i64 iof, .int .i64 iim, .int .i64 isz]] w (PartsD w [regB id, celB isr iof]) := by
  have n1 := new1 w (.cells #[.int .u8 14, .bool inr, .int .i64 id, .int .i64 isr, .bool iu, .int .i64 iof, .int .i64 iim, .int .i64 isz] 41)
  have HN := Lib.hid n1
  have HP := Lib.hid (hP.new n1)
  have HB := Lib.hid (Blk.new w 41 #[.int .u8 14, .bool inr, .int .i64 id, .int .i64 isr, .bool iu, .int .i64 iof, .int .i64 iim, .int .i64 isz])
  have HNZ := Lib.hid (new_refl (w.alloc (.cells #[.int .u8 14, .bool inr, .int .i64 id, .int .i64 isr, .bool iu, .int .i64 iof, .int .i64 iim, .int .i64 isz] 41)))
  obtain ⟨a0, a1, a2, a3, a4, a5, a6, a7⟩ := cells8 HB.out
  have HD := Lib.hid h.d
  have HS := Lib.hid h.s
  have HF := Lib.hid h.f
  have HIM := Lib.hid h.m
  have HO := Lib.hid h.o
  clear n1 h hP
  go_enter Tryz.func92, Tryz.ntmps92
  go_wp2
  go_region_held3 (fun w' => w'.cell? ⟨w.heap.size, 0, none⟩ = some (.int .u8 14) ∧ w'.cell? ⟨w.heap.size, 1, none⟩ = some (.bool inr) ∧ w'.cell? ⟨w.heap.size, 2, none⟩ = some (.int .i64 id) ∧ w'.cell? ⟨w.heap.size, 3, none⟩ = some (.int .i64 isr) ∧ w'.cell? ⟨w.heap.size, 4, none⟩ = some (.bool iu) ∧ w'.cell? ⟨w.heap.size, 5, none⟩ = some (.int .i64 iof) ∧ w'.cell? ⟨w.heap.size, 6, none⟩ = some (.int .i64 iim) ∧ w'.cell? ⟨w.heap.size, 7, none⟩ = some (.int .i64 isz))
    (first | go_keep | exact ⟨a0, a1, a2, a3, a4, a5, a6, a7⟩)
    (first
      | (go_at_call 158; (with_reducible refine (registerOf_any id _ HD.out (by first | exact HP.out.new HNZ.out | exact HP.out.new (Below.drew HNZ.out))).mono ?_); rintro e wz ⟨rfl, hnz⟩; have HNZ := Lib.hid (show New (w.alloc (.cells #[.int .u8 14, .bool inr, .int .i64 id, .int .i64 isr, .bool iu, .int .i64 iof, .int .i64 iim, .int .i64 isz] 41)) wz from by first | exact New.then HNZ.out hnz | exact New.then (Below.drew HNZ.out) hnz); clear hnz; obtain ⟨a0, a1, a2, a3, a4, a5, a6, a7⟩ := cells8 (HB.out.below HNZ.out HB.out.lt))
      | (go_at_call 159; (with_reducible refine (cellOf_any isr iof _ HS.out HF.out (by first | exact HP.out.new HNZ.out | exact HP.out.new (Below.drew HNZ.out))).mono ?_); rintro e wz ⟨rfl, hnz⟩; have HNZ := Lib.hid (show New (w.alloc (.cells #[.int .u8 14, .bool inr, .int .i64 id, .int .i64 isr, .bool iu, .int .i64 iof, .int .i64 iim, .int .i64 isz] 41)) wz from by first | exact New.then HNZ.out hnz | exact New.then (Below.drew HNZ.out) hnz); clear hnz; obtain ⟨a0, a1, a2, a3, a4, a5, a6, a7⟩ := cells8 (HB.out.below HNZ.out HB.out.lt)))
  all_goals go_wp2
  all_goals go_ret
  all_goals exact parts_mk (New.then HN.out HNZ.out) [regB id, celB isr iof]

set_option maxRecDepth 100000 in
set_option maxHeartbeats 4000000 in
theorem parts_put (inr : Bool) (id isr : Int) (iu : Bool) (iof iim isz : Int) (w : World) (h : Sm ⟨15, inr, id, isr, iu, iof, iim, isz⟩) (hP : PowT w) :
    Calls Tryz.prog 92 #[.agg #[.int .u8 15, .bool inr, .int .i64 id, .int .i64 isr, .bool iu, .int .i64 iof, .int .i64 iim, .int .i64 isz]] w (PartsD w [celB id iof, secB ⟨15, inr, id, isr, iu, iof, iim, isz⟩]) := by
  have n1 := new1 w (.cells #[.int .u8 15, .bool inr, .int .i64 id, .int .i64 isr, .bool iu, .int .i64 iof, .int .i64 iim, .int .i64 isz] 41)
  have HN := Lib.hid n1
  have HP := Lib.hid (hP.new n1)
  have HB := Lib.hid (Blk.new w 41 #[.int .u8 15, .bool inr, .int .i64 id, .int .i64 isr, .bool iu, .int .i64 iof, .int .i64 iim, .int .i64 isz])
  have HNZ := Lib.hid (new_refl (w.alloc (.cells #[.int .u8 15, .bool inr, .int .i64 id, .int .i64 isr, .bool iu, .int .i64 iof, .int .i64 iim, .int .i64 isz] 41)))
  obtain ⟨a0, a1, a2, a3, a4, a5, a6, a7⟩ := cells8 HB.out
  have HD := Lib.hid h.d
  have HS := Lib.hid h.s
  have HF := Lib.hid h.f
  have HIM := Lib.hid h.m
  have HO := Lib.hid h.o
  clear n1 h hP
  go_enter Tryz.func92, Tryz.ntmps92
  go_wp2
  go_region_held3 (fun w' => w'.cell? ⟨w.heap.size, 0, none⟩ = some (.int .u8 15) ∧ w'.cell? ⟨w.heap.size, 1, none⟩ = some (.bool inr) ∧ w'.cell? ⟨w.heap.size, 2, none⟩ = some (.int .i64 id) ∧ w'.cell? ⟨w.heap.size, 3, none⟩ = some (.int .i64 isr) ∧ w'.cell? ⟨w.heap.size, 4, none⟩ = some (.bool iu) ∧ w'.cell? ⟨w.heap.size, 5, none⟩ = some (.int .i64 iof) ∧ w'.cell? ⟨w.heap.size, 6, none⟩ = some (.int .i64 iim) ∧ w'.cell? ⟨w.heap.size, 7, none⟩ = some (.int .i64 isz))
    (first | go_keep | exact ⟨a0, a1, a2, a3, a4, a5, a6, a7⟩)
    (first
      | (go_at_call 159; (with_reducible refine (cellOf_any id iof _ HD.out HF.out (by first | exact HP.out.new HNZ.out | exact HP.out.new (Below.drew HNZ.out))).mono ?_); rintro e wz ⟨rfl, hnz⟩; have HNZ := Lib.hid (show New (w.alloc (.cells #[.int .u8 15, .bool inr, .int .i64 id, .int .i64 isr, .bool iu, .int .i64 iof, .int .i64 iim, .int .i64 isz] 41)) wz from by first | exact New.then HNZ.out hnz | exact New.then (Below.drew HNZ.out) hnz); clear hnz; obtain ⟨a0, a1, a2, a3, a4, a5, a6, a7⟩ := cells8 (HB.out.below HNZ.out HB.out.lt))
      | (go_at_call 160; (with_reducible refine (secondOf_any ⟨15, inr, id, isr, iu, iof, iim, isz⟩ _ HIM.out HS.out (by first | exact HP.out.new HNZ.out | exact HP.out.new (Below.drew HNZ.out))).mono ?_); rintro e wz ⟨rfl, hnz⟩; have HNZ := Lib.hid (show New (w.alloc (.cells #[.int .u8 15, .bool inr, .int .i64 id, .int .i64 isr, .bool iu, .int .i64 iof, .int .i64 iim, .int .i64 isz] 41)) wz from by first | exact New.then HNZ.out hnz | exact New.then (Below.drew HNZ.out) hnz); clear hnz; obtain ⟨a0, a1, a2, a3, a4, a5, a6, a7⟩ := cells8 (HB.out.below HNZ.out HB.out.lt)))
  all_goals go_wp2
  all_goals go_ret
  all_goals exact parts_mk (New.then HN.out HNZ.out) [celB id iof, secB ⟨15, inr, id, isr, iu, iof, iim, isz⟩]

set_option maxRecDepth 100000 in
set_option maxHeartbeats 4000000 in
theorem parts_q (io : Int) (inr : Bool) (id isr : Int) (iu : Bool) (iof iim isz : Int) (w : World) (h : Sm ⟨io, inr, id, isr, iu, iof, iim, isz⟩) (hP : PowT w) (h0 : 17 ≤ io) (h1 : io ≤ 27) :
    Calls Tryz.prog 92 #[.agg #[.int .u8 io, .bool inr, .int .i64 id, .int .i64 isr, .bool iu, .int .i64 iof, .int .i64 iim, .int .i64 isz]] w (PartsD w [regB id, secB ⟨io, inr, id, isr, iu, iof, iim, isz⟩, sgnB iof]) := by
  have n1 := new1 w (.cells #[.int .u8 io, .bool inr, .int .i64 id, .int .i64 isr, .bool iu, .int .i64 iof, .int .i64 iim, .int .i64 isz] 41)
  have HN := Lib.hid n1
  have HP := Lib.hid (hP.new n1)
  have HB := Lib.hid (Blk.new w 41 #[.int .u8 io, .bool inr, .int .i64 id, .int .i64 isr, .bool iu, .int .i64 iof, .int .i64 iim, .int .i64 isz])
  have HNZ := Lib.hid (new_refl (w.alloc (.cells #[.int .u8 io, .bool inr, .int .i64 id, .int .i64 isr, .bool iu, .int .i64 iof, .int .i64 iim, .int .i64 isz] 41)))
  obtain ⟨a0, a1, a2, a3, a4, a5, a6, a7⟩ := cells8 HB.out
  have HD := Lib.hid h.d
  have HS := Lib.hid h.s
  have HF := Lib.hid h.f
  have HIM := Lib.hid h.m
  have HO := Lib.hid h.o
  have e28 : ¬ io = 28 := by omega
  have e16 : ¬ io = 16 := by omega
  have e13 : ¬ io = 13 := by omega
  have e14 : ¬ io = 14 := by omega
  have e15 : ¬ io = 15 := by omega
  have HJ := Lib.hid (show jumps ⟨io, inr, id, isr, iu, iof, iim, isz⟩ = true from by simp [jumps]; omega)
  clear h0 h1
  clear n1 h hP
  go_enter Tryz.func92, Tryz.ntmps92
  go_wp2_with (go_at_call 161; (with_reducible refine (jumps_x _ _ _ _ _ _ _ _ true HJ.out _).mono ?_); rintro e wz ⟨rfl, hnz⟩; have HNZ := Lib.hid (show New (w.alloc (.cells #[.int .u8 io, .bool inr, .int .i64 id, .int .i64 isr, .bool iu, .int .i64 iof, .int .i64 iim, .int .i64 isz] 41)) wz from by first | exact New.then HNZ.out hnz | exact New.then (Below.drew HNZ.out) hnz); clear hnz; obtain ⟨a0, a1, a2, a3, a4, a5, a6, a7⟩ := cells8 (HB.out.below HNZ.out HB.out.lt))
  go_region_held3 (fun w' => w'.cell? ⟨w.heap.size, 0, none⟩ = some (.int .u8 io) ∧ w'.cell? ⟨w.heap.size, 1, none⟩ = some (.bool inr) ∧ w'.cell? ⟨w.heap.size, 2, none⟩ = some (.int .i64 id) ∧ w'.cell? ⟨w.heap.size, 3, none⟩ = some (.int .i64 isr) ∧ w'.cell? ⟨w.heap.size, 4, none⟩ = some (.bool iu) ∧ w'.cell? ⟨w.heap.size, 5, none⟩ = some (.int .i64 iof) ∧ w'.cell? ⟨w.heap.size, 6, none⟩ = some (.int .i64 iim) ∧ w'.cell? ⟨w.heap.size, 7, none⟩ = some (.int .i64 isz))
    (first | go_keep | exact ⟨a0, a1, a2, a3, a4, a5, a6, a7⟩)
    (first
      | (go_at_call 158; (with_reducible refine (registerOf_any id _ HD.out (by first | exact HP.out.new HNZ.out | exact HP.out.new (Below.drew HNZ.out))).mono ?_); rintro e wz ⟨rfl, hnz⟩; have HNZ := Lib.hid (show New (w.alloc (.cells #[.int .u8 io, .bool inr, .int .i64 id, .int .i64 isr, .bool iu, .int .i64 iof, .int .i64 iim, .int .i64 isz] 41)) wz from by first | exact New.then HNZ.out hnz | exact New.then (Below.drew HNZ.out) hnz); clear hnz; obtain ⟨a0, a1, a2, a3, a4, a5, a6, a7⟩ := cells8 (HB.out.below HNZ.out HB.out.lt))
      | (go_at_call 160; (with_reducible refine (secondOf_any ⟨io, inr, id, isr, iu, iof, iim, isz⟩ _ HIM.out HS.out (by first | exact HP.out.new HNZ.out | exact HP.out.new (Below.drew HNZ.out))).mono ?_); rintro e wz ⟨rfl, hnz⟩; have HNZ := Lib.hid (show New (w.alloc (.cells #[.int .u8 io, .bool inr, .int .i64 id, .int .i64 isr, .bool iu, .int .i64 iof, .int .i64 iim, .int .i64 isz] 41)) wz from by first | exact New.then HNZ.out hnz | exact New.then (Below.drew HNZ.out) hnz); clear hnz; obtain ⟨a0, a1, a2, a3, a4, a5, a6, a7⟩ := cells8 (HB.out.below HNZ.out HB.out.lt))
      | (go_at_call 157; (with_reducible refine (signedOf_any iof _ HO.out (by first | exact HP.out.new HNZ.out | exact HP.out.new (Below.drew HNZ.out))).mono ?_); rintro e wz ⟨rfl, hnz⟩; have HNZ := Lib.hid (show New (w.alloc (.cells #[.int .u8 io, .bool inr, .int .i64 id, .int .i64 isr, .bool iu, .int .i64 iof, .int .i64 iim, .int .i64 isz] 41)) wz from by first | exact New.then HNZ.out hnz | exact New.then (Below.drew HNZ.out) hnz); clear hnz; obtain ⟨a0, a1, a2, a3, a4, a5, a6, a7⟩ := cells8 (HB.out.below HNZ.out HB.out.lt)))
  all_goals go_wp2
  all_goals go_ret
  all_goals exact parts_mk (New.then HN.out HNZ.out) [regB id, secB ⟨io, inr, id, isr, iu, iof, iim, isz⟩, sgnB iof]

set_option maxRecDepth 100000 in
set_option maxHeartbeats 4000000 in
theorem parts_op (io : Int) (inr : Bool) (id isr : Int) (iu : Bool) (iof iim isz : Int) (w : World) (h : Sm ⟨io, inr, id, isr, iu, iof, iim, isz⟩) (hP : PowT w) (h0 : 1 ≤ io) (h1 : io ≤ 12) :
    Calls Tryz.prog 92 #[.agg #[.int .u8 io, .bool inr, .int .i64 id, .int .i64 isr, .bool iu, .int .i64 iof, .int .i64 iim, .int .i64 isz]] w (PartsD w [regB id, secB ⟨io, inr, id, isr, iu, iof, iim, isz⟩]) := by
  have n1 := new1 w (.cells #[.int .u8 io, .bool inr, .int .i64 id, .int .i64 isr, .bool iu, .int .i64 iof, .int .i64 iim, .int .i64 isz] 41)
  have HN := Lib.hid n1
  have HP := Lib.hid (hP.new n1)
  have HB := Lib.hid (Blk.new w 41 #[.int .u8 io, .bool inr, .int .i64 id, .int .i64 isr, .bool iu, .int .i64 iof, .int .i64 iim, .int .i64 isz])
  have HNZ := Lib.hid (new_refl (w.alloc (.cells #[.int .u8 io, .bool inr, .int .i64 id, .int .i64 isr, .bool iu, .int .i64 iof, .int .i64 iim, .int .i64 isz] 41)))
  obtain ⟨a0, a1, a2, a3, a4, a5, a6, a7⟩ := cells8 HB.out
  have HD := Lib.hid h.d
  have HS := Lib.hid h.s
  have HF := Lib.hid h.f
  have HIM := Lib.hid h.m
  have HO := Lib.hid h.o
  have e28 : ¬ io = 28 := by omega
  have e16 : ¬ io = 16 := by omega
  have e13 : ¬ io = 13 := by omega
  have e14 : ¬ io = 14 := by omega
  have e15 : ¬ io = 15 := by omega
  have HJ := Lib.hid (show jumps ⟨io, inr, id, isr, iu, iof, iim, isz⟩ = false from by simp [jumps]; omega)
  clear h0 h1
  clear n1 h hP
  go_enter Tryz.func92, Tryz.ntmps92
  go_wp2_with (go_at_call 161; (with_reducible refine (jumps_x _ _ _ _ _ _ _ _ false HJ.out _).mono ?_); rintro e wz ⟨rfl, hnz⟩; have HNZ := Lib.hid (show New (w.alloc (.cells #[.int .u8 io, .bool inr, .int .i64 id, .int .i64 isr, .bool iu, .int .i64 iof, .int .i64 iim, .int .i64 isz] 41)) wz from by first | exact New.then HNZ.out hnz | exact New.then (Below.drew HNZ.out) hnz); clear hnz; obtain ⟨a0, a1, a2, a3, a4, a5, a6, a7⟩ := cells8 (HB.out.below HNZ.out HB.out.lt))
  go_region_held3 (fun w' => w'.cell? ⟨w.heap.size, 0, none⟩ = some (.int .u8 io) ∧ w'.cell? ⟨w.heap.size, 1, none⟩ = some (.bool inr) ∧ w'.cell? ⟨w.heap.size, 2, none⟩ = some (.int .i64 id) ∧ w'.cell? ⟨w.heap.size, 3, none⟩ = some (.int .i64 isr) ∧ w'.cell? ⟨w.heap.size, 4, none⟩ = some (.bool iu) ∧ w'.cell? ⟨w.heap.size, 5, none⟩ = some (.int .i64 iof) ∧ w'.cell? ⟨w.heap.size, 6, none⟩ = some (.int .i64 iim) ∧ w'.cell? ⟨w.heap.size, 7, none⟩ = some (.int .i64 isz))
    (first | go_keep | exact ⟨a0, a1, a2, a3, a4, a5, a6, a7⟩)
    (first
      | (go_at_call 158; (with_reducible refine (registerOf_any id _ HD.out (by first | exact HP.out.new HNZ.out | exact HP.out.new (Below.drew HNZ.out))).mono ?_); rintro e wz ⟨rfl, hnz⟩; have HNZ := Lib.hid (show New (w.alloc (.cells #[.int .u8 io, .bool inr, .int .i64 id, .int .i64 isr, .bool iu, .int .i64 iof, .int .i64 iim, .int .i64 isz] 41)) wz from by first | exact New.then HNZ.out hnz | exact New.then (Below.drew HNZ.out) hnz); clear hnz; obtain ⟨a0, a1, a2, a3, a4, a5, a6, a7⟩ := cells8 (HB.out.below HNZ.out HB.out.lt))
      | (go_at_call 160; (with_reducible refine (secondOf_any ⟨io, inr, id, isr, iu, iof, iim, isz⟩ _ HIM.out HS.out (by first | exact HP.out.new HNZ.out | exact HP.out.new (Below.drew HNZ.out))).mono ?_); rintro e wz ⟨rfl, hnz⟩; have HNZ := Lib.hid (show New (w.alloc (.cells #[.int .u8 io, .bool inr, .int .i64 id, .int .i64 isr, .bool iu, .int .i64 iof, .int .i64 iim, .int .i64 isz] 41)) wz from by first | exact New.then HNZ.out hnz | exact New.then (Below.drew HNZ.out) hnz); clear hnz; obtain ⟨a0, a1, a2, a3, a4, a5, a6, a7⟩ := cells8 (HB.out.below HNZ.out HB.out.lt)))
  all_goals go_wp2
  all_goals go_ret
  all_goals exact parts_mk (New.then HN.out HNZ.out) [regB id, secB ⟨io, inr, id, isr, iu, iof, iim, isz⟩]

set_option maxRecDepth 100000 in
theorem parts_exit (inr : Bool) (id isr : Int) (iu : Bool) (iof iim isz : Int) (w : World) :
    Calls Tryz.prog 92 #[.agg #[.int .u8 28, .bool inr, .int .i64 id, .int .i64 isr, .bool iu, .int .i64 iof, .int .i64 iim, .int .i64 isz]] w fun e w' => e = .returned (.slice none 0 0) ∧ New w w' := by
  have n1 := new1 w (.cells #[.int .u8 28, .bool inr, .int .i64 id, .int .i64 isr, .bool iu, .int .i64 iof, .int .i64 iim, .int .i64 isz] 41)
  obtain ⟨a0, a1, a2, a3, a4, a5, a6, a7⟩ := cells8 (Blk.new w 41 #[.int .u8 28, .bool inr, .int .i64 id, .int .i64 isr, .bool iu, .int .i64 iof, .int .i64 iim, .int .i64 isz])
  have HN := Lib.hid n1
  clear n1
  go_enter Tryz.func92, Tryz.ntmps92
  go_wp2
  go_ret
  exact ⟨rfl, HN.out⟩
end Go.Proofs.YtddojdgnakajmaaGreatDoor.txt

