/-
  The document's line of an instruction (made by gen_txZM.py).
-/
import Derived.Test.YtcebfihjcglnoaaGreatDoorTMa
import Derived.Deep.RegionHeld
import Derived.Deep.RegionWith
namespace Go.Proofs.YtcebfihjcglnoaaGreatDoor.txt
open Go.RowKit Go.Proofs.YtcebfihjcglnoaaGreatDoor.mem Go.Proofs.YtcebfihjcglnoaaGreatDoor.kit Go.Proofs.YtcebfihjcglnoaaGreatDoor.ins
set_option linter.unusedVariables false
set_option linter.unusedSimpArgs false

set_option maxRecDepth 100000 in
set_option maxHeartbeats 8000000 in
theorem one_op0 (io : Int) (id isr : Int) (iu : Bool) (iof iim isz : Int) (w : World) (h : Sm ⟨io, false, id, isr, iu, iof, iim, isz⟩) (hz : I64 isz) (hP : PowT w) (k : Nat) (hk : io - 1 = (k : Int)) (h0 : 1 ≤ io) (h1 : io ≤ 12) :
    Calls Tryz.prog 37 #[.agg #[.int .u8 io, .bool false, .int .i64 id, .int .i64 isr, .bool iu, .int .i64 iof, .int .i64 iim, .int .i64 isz]] w fun e w' => e = .returned (.string ⟨((rws.getD k []) ++ ([32]) ++ (regB id) ++ ([44, 32]) ++ (secB ⟨io, false, id, isr, iu, iof, iim, isz⟩)).toArray⟩) ∧ New w w' := by
  have n1 := new1 w (.cells #[.int .u8 io, .bool false, .int .i64 id, .int .i64 isr, .bool iu, .int .i64 iof, .int .i64 iim, .int .i64 isz] 47)
  have HN := Lib.hid n1
  have HP := Lib.hid (hP.new n1)
  have HB := Lib.hid (Blk.new w 47 #[.int .u8 io, .bool false, .int .i64 id, .int .i64 isr, .bool iu, .int .i64 iof, .int .i64 iim, .int .i64 isz])
  have HNZ := Lib.hid (new_refl (w.alloc (.cells #[.int .u8 io, .bool false, .int .i64 id, .int .i64 isr, .bool iu, .int .i64 iof, .int .i64 iim, .int .i64 isz] 47)))
  obtain ⟨a0, a1, a2, a3, a4, a5, a6, a7⟩ := cells8 HB.out
  have HD := Lib.hid h.d
  have HS := Lib.hid h.s
  have HF := Lib.hid h.f
  have HIM := Lib.hid h.m
  have HO := Lib.hid h.o
  have HZI := Lib.hid hz
  have HRD := Lib.hid (fun (W : World) (hW : PowT W) => rr_any id W HD.out hW)
  have hlD := regB_le id HD.out
  have HRE := Lib.hid (fun (W : World) (hW : PowT W) => rsec_any ⟨io, false, id, isr, iu, iof, iim, isz⟩ W HIM.out HS.out hW)
  have hlE := secB_le ⟨io, false, id, isr, iu, iof, iim, isz⟩ h
  have e28 : (io == 28) = false := by simp; omega
  have e16 : (io == 16) = false := by simp; omega
  have e13 : (io == 13) = false := by simp; omega
  have e14 : (io == 14) = false := by simp; omega
  have e15 : (io == 15) = false := by simp; omega
  have ek : IntKind.u8.wrap (k : Int) = (k : Int) := IntWalk.u8_in _ (by omega)
  have k27 : (k : Int) < 27 := by omega
  have l17 : ¬ 17 ≤ io := by omega
  clear h0 h1
  obtain ⟨xw, hxw⟩ : ∃ xw, rws.getD k [] = xw := ⟨_, rfl⟩
  have hxl : xw.length ≤ 4 := by rw [← hxw]; exact rws_le k
  have HXW := Lib.hid hxw
  rw [hxw]
  clear hxw
  clear n1 h hP hz
  generalize regB id = D at *
  generalize secB ⟨io, false, id, isr, iu, iof, iim, isz⟩ = E at *
  have s0 := fun W => add_str (xw) [32] (by simp; omega) W
  have s1 := fun W => add_str (xw ++ [32]) D (by simp; omega) W
  have s2 := fun W => add_str (xw ++ [32] ++ D) [44, 32] (by simp; omega) W
  have s3 := fun W => add_str (xw ++ [32] ++ D ++ [44, 32]) E (by simp; omega) W
  go_enter Tryz.func37, Tryz.ntmps37
  go_wp2
  go_region_with
    (first
      | (go_at_call 101; (with_reducible refine (rwords_any _).mono ?_); rintro e wz ⟨bw, rfl, hcw, hnz⟩; have hck : wz.cell? ⟨bw, k, none⟩ = some (.string ⟨xw.toArray⟩) := (hcw k (by omega)).trans (by rw [HXW.out]); clear hcw; have HNZ := Lib.hid (show New (w.alloc (.cells #[.int .u8 io, .bool false, .int .i64 id, .int .i64 isr, .bool iu, .int .i64 iof, .int .i64 iim, .int .i64 isz] 47)) wz from by first | exact New.then HNZ.out hnz | exact New.then (Below.drew HNZ.out) hnz); clear hnz; obtain ⟨a0, a1, a2, a3, a4, a5, a6, a7⟩ := cells8 (HB.out.below HNZ.out HB.out.lt)))
  all_goals go_wp2
  all_goals go_region_held (fun w' => w'.cell? ⟨w.heap.size, 0, none⟩ = some (.int .u8 io) ∧ w'.cell? ⟨w.heap.size, 1, none⟩ = some (.bool false) ∧ w'.cell? ⟨w.heap.size, 2, none⟩ = some (.int .i64 id) ∧ w'.cell? ⟨w.heap.size, 3, none⟩ = some (.int .i64 isr) ∧ w'.cell? ⟨w.heap.size, 4, none⟩ = some (.bool iu) ∧ w'.cell? ⟨w.heap.size, 5, none⟩ = some (.int .i64 iof) ∧ w'.cell? ⟨w.heap.size, 6, none⟩ = some (.int .i64 iim) ∧ w'.cell? ⟨w.heap.size, 7, none⟩ = some (.int .i64 isz))
    (first | go_keep | exact ⟨a0, a1, a2, a3, a4, a5, a6, a7⟩)
    (first
      | (go_at_call 104; (with_reducible refine (HRD.out _ (by first | exact HP.out.new HNZ.out | exact HP.out.new (Below.drew HNZ.out))).mono ?_); rintro e wz ⟨rfl, hnz⟩; have HNZ := Lib.hid (show New (w.alloc (.cells #[.int .u8 io, .bool false, .int .i64 id, .int .i64 isr, .bool iu, .int .i64 iof, .int .i64 iim, .int .i64 isz] 47)) wz from by first | exact New.then HNZ.out hnz | exact New.then (Below.drew HNZ.out) hnz); clear hnz; obtain ⟨a0, a1, a2, a3, a4, a5, a6, a7⟩ := cells8 (HB.out.below HNZ.out HB.out.lt))
      | (go_at_call 106; (with_reducible refine (HRE.out _ (by first | exact HP.out.new HNZ.out | exact HP.out.new (Below.drew HNZ.out))).mono ?_); rintro e wz ⟨rfl, hnz⟩; have HNZ := Lib.hid (show New (w.alloc (.cells #[.int .u8 io, .bool false, .int .i64 id, .int .i64 isr, .bool iu, .int .i64 iof, .int .i64 iim, .int .i64 isz] 47)) wz from by first | exact New.then HNZ.out hnz | exact New.then (Below.drew HNZ.out) hnz); clear hnz; obtain ⟨a0, a1, a2, a3, a4, a5, a6, a7⟩ := cells8 (HB.out.below HNZ.out HB.out.lt)))
  all_goals go_wp2
  all_goals go_ret
  all_goals exact ⟨by first | (simp; done) | (simp [ba_cat]; done), New.then HN.out HNZ.out⟩
end Go.Proofs.YtcebfihjcglnoaaGreatDoor.txt

namespace Go.Proofs.YtcebfihjcglnoaaGreatDoor.txt
open Go.RowKit Go.Proofs.YtcebfihjcglnoaaGreatDoor.mem Go.Proofs.YtcebfihjcglnoaaGreatDoor.kit Go.Proofs.YtcebfihjcglnoaaGreatDoor.ins
set_option linter.unusedVariables false
set_option linter.unusedSimpArgs false

set_option maxRecDepth 100000 in
set_option maxHeartbeats 8000000 in
theorem one_op1 (io : Int) (id isr : Int) (iu : Bool) (iof iim isz : Int) (w : World) (h : Sm ⟨io, true, id, isr, iu, iof, iim, isz⟩) (hz : I64 isz) (hP : PowT w) (k : Nat) (hk : io - 1 = (k : Int)) (h0 : 1 ≤ io) (h1 : io ≤ 12) :
    Calls Tryz.prog 37 #[.agg #[.int .u8 io, .bool true, .int .i64 id, .int .i64 isr, .bool iu, .int .i64 iof, .int .i64 iim, .int .i64 isz]] w fun e w' => e = .returned (.string ⟨((rws.getD k []) ++ ([51, 50]) ++ ([32]) ++ (regB id) ++ ([44, 32]) ++ (secB ⟨io, true, id, isr, iu, iof, iim, isz⟩)).toArray⟩) ∧ New w w' := by
  have n1 := new1 w (.cells #[.int .u8 io, .bool true, .int .i64 id, .int .i64 isr, .bool iu, .int .i64 iof, .int .i64 iim, .int .i64 isz] 47)
  have HN := Lib.hid n1
  have HP := Lib.hid (hP.new n1)
  have HB := Lib.hid (Blk.new w 47 #[.int .u8 io, .bool true, .int .i64 id, .int .i64 isr, .bool iu, .int .i64 iof, .int .i64 iim, .int .i64 isz])
  have HNZ := Lib.hid (new_refl (w.alloc (.cells #[.int .u8 io, .bool true, .int .i64 id, .int .i64 isr, .bool iu, .int .i64 iof, .int .i64 iim, .int .i64 isz] 47)))
  obtain ⟨a0, a1, a2, a3, a4, a5, a6, a7⟩ := cells8 HB.out
  have HD := Lib.hid h.d
  have HS := Lib.hid h.s
  have HF := Lib.hid h.f
  have HIM := Lib.hid h.m
  have HO := Lib.hid h.o
  have HZI := Lib.hid hz
  have HRD := Lib.hid (fun (W : World) (hW : PowT W) => rr_any id W HD.out hW)
  have hlD := regB_le id HD.out
  have HRE := Lib.hid (fun (W : World) (hW : PowT W) => rsec_any ⟨io, true, id, isr, iu, iof, iim, isz⟩ W HIM.out HS.out hW)
  have hlE := secB_le ⟨io, true, id, isr, iu, iof, iim, isz⟩ h
  have e28 : (io == 28) = false := by simp; omega
  have e16 : (io == 16) = false := by simp; omega
  have e13 : (io == 13) = false := by simp; omega
  have e14 : (io == 14) = false := by simp; omega
  have e15 : (io == 15) = false := by simp; omega
  have ek : IntKind.u8.wrap (k : Int) = (k : Int) := IntWalk.u8_in _ (by omega)
  have k27 : (k : Int) < 27 := by omega
  have l17 : ¬ 17 ≤ io := by omega
  clear h0 h1
  obtain ⟨xw, hxw⟩ : ∃ xw, rws.getD k [] = xw := ⟨_, rfl⟩
  have hxl : xw.length ≤ 4 := by rw [← hxw]; exact rws_le k
  have HXW := Lib.hid hxw
  rw [hxw]
  clear hxw
  clear n1 h hP hz
  generalize regB id = D at *
  generalize secB ⟨io, true, id, isr, iu, iof, iim, isz⟩ = E at *
  have s0 := fun W => add_str (xw) [51, 50] (by simp; omega) W
  have s1 := fun W => add_str (xw ++ [51, 50]) [32] (by simp; omega) W
  have s2 := fun W => add_str (xw ++ [51, 50] ++ [32]) D (by simp; omega) W
  have s3 := fun W => add_str (xw ++ [51, 50] ++ [32] ++ D) [44, 32] (by simp; omega) W
  have s4 := fun W => add_str (xw ++ [51, 50] ++ [32] ++ D ++ [44, 32]) E (by simp; omega) W
  go_enter Tryz.func37, Tryz.ntmps37
  go_wp2
  go_region_with
    (first
      | (go_at_call 101; (with_reducible refine (rwords_any _).mono ?_); rintro e wz ⟨bw, rfl, hcw, hnz⟩; have hck : wz.cell? ⟨bw, k, none⟩ = some (.string ⟨xw.toArray⟩) := (hcw k (by omega)).trans (by rw [HXW.out]); clear hcw; have HNZ := Lib.hid (show New (w.alloc (.cells #[.int .u8 io, .bool true, .int .i64 id, .int .i64 isr, .bool iu, .int .i64 iof, .int .i64 iim, .int .i64 isz] 47)) wz from by first | exact New.then HNZ.out hnz | exact New.then (Below.drew HNZ.out) hnz); clear hnz; obtain ⟨a0, a1, a2, a3, a4, a5, a6, a7⟩ := cells8 (HB.out.below HNZ.out HB.out.lt)))
  all_goals go_wp2
  all_goals go_region_held (fun w' => w'.cell? ⟨w.heap.size, 0, none⟩ = some (.int .u8 io) ∧ w'.cell? ⟨w.heap.size, 1, none⟩ = some (.bool true) ∧ w'.cell? ⟨w.heap.size, 2, none⟩ = some (.int .i64 id) ∧ w'.cell? ⟨w.heap.size, 3, none⟩ = some (.int .i64 isr) ∧ w'.cell? ⟨w.heap.size, 4, none⟩ = some (.bool iu) ∧ w'.cell? ⟨w.heap.size, 5, none⟩ = some (.int .i64 iof) ∧ w'.cell? ⟨w.heap.size, 6, none⟩ = some (.int .i64 iim) ∧ w'.cell? ⟨w.heap.size, 7, none⟩ = some (.int .i64 isz))
    (first | go_keep | exact ⟨a0, a1, a2, a3, a4, a5, a6, a7⟩)
    (first
      | (go_at_call 104; (with_reducible refine (HRD.out _ (by first | exact HP.out.new HNZ.out | exact HP.out.new (Below.drew HNZ.out))).mono ?_); rintro e wz ⟨rfl, hnz⟩; have HNZ := Lib.hid (show New (w.alloc (.cells #[.int .u8 io, .bool true, .int .i64 id, .int .i64 isr, .bool iu, .int .i64 iof, .int .i64 iim, .int .i64 isz] 47)) wz from by first | exact New.then HNZ.out hnz | exact New.then (Below.drew HNZ.out) hnz); clear hnz; obtain ⟨a0, a1, a2, a3, a4, a5, a6, a7⟩ := cells8 (HB.out.below HNZ.out HB.out.lt))
      | (go_at_call 106; (with_reducible refine (HRE.out _ (by first | exact HP.out.new HNZ.out | exact HP.out.new (Below.drew HNZ.out))).mono ?_); rintro e wz ⟨rfl, hnz⟩; have HNZ := Lib.hid (show New (w.alloc (.cells #[.int .u8 io, .bool true, .int .i64 id, .int .i64 isr, .bool iu, .int .i64 iof, .int .i64 iim, .int .i64 isz] 47)) wz from by first | exact New.then HNZ.out hnz | exact New.then (Below.drew HNZ.out) hnz); clear hnz; obtain ⟨a0, a1, a2, a3, a4, a5, a6, a7⟩ := cells8 (HB.out.below HNZ.out HB.out.lt)))
  all_goals go_wp2
  all_goals go_ret
  all_goals exact ⟨by first | (simp; done) | (simp [ba_cat]; done), New.then HN.out HNZ.out⟩
end Go.Proofs.YtcebfihjcglnoaaGreatDoor.txt
