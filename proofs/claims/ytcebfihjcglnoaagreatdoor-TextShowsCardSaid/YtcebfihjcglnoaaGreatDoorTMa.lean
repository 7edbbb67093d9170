/-
  The document's line of an instruction (made by gen_txZM.py).
-/
import Derived.Test.YtcebfihjcglnoaaGreatDoorTZK
import Derived.Test.YtcebfihjcglnoaaGreatDoorTZF
import Derived.Deep.RegionHeld3
import Derived.Deep.RegionWith
namespace Go.Proofs.YtcebfihjcglnoaaGreatDoor.txt
open Go.RowKit Go.Proofs.YtcebfihjcglnoaaGreatDoor.mem Go.Proofs.YtcebfihjcglnoaaGreatDoor.kit Go.Proofs.YtcebfihjcglnoaaGreatDoor.ins
set_option linter.unusedVariables false
set_option linter.unusedSimpArgs false

theorem ba_cat (a b : Bs) : ((⟨a.toArray⟩ : ByteArray) ++ (⟨b.toArray⟩ : ByteArray)) = ⟨(a ++ b).toArray⟩ := by
  first
  | rfl
  | (apply ByteArray.ext; simp)
  | (congr 1; simp)
theorem rws_le (k : Nat) : (rws.getD k []).length ≤ 4 := by
  by_cases h : k < 27
  · have : ∀ j : Fin 27, (rws.getD j.val []).length ≤ 4 := by decide +kernel
    exact this ⟨k, h⟩
  · have hl : rws.length ≤ k := by show 27 ≤ k; omega
    rw [List.getD_eq_getElem?_getD, List.getElem?_eq_none hl]
    simp

set_option maxRecDepth 100000 in
set_option maxHeartbeats 8000000 in
theorem one_neg0 (id isr : Int) (iu : Bool) (iof iim isz : Int) (w : World) (h : Sm ⟨13, false, id, isr, iu, iof, iim, isz⟩) (hz : I64 isz) (hP : PowT w) :
    Calls Tryz.prog 37 #[.agg #[.int .u8 13, .bool false, .int .i64 id, .int .i64 isr, .bool iu, .int .i64 iof, .int .i64 iim, .int .i64 isz]] w fun e w' => e = .returned (.string ⟨((rws.getD 12 []) ++ ([32]) ++ (regB id)).toArray⟩) ∧ New w w' := by
  have n1 := new1 w (.cells #[.int .u8 13, .bool false, .int .i64 id, .int .i64 isr, .bool iu, .int .i64 iof, .int .i64 iim, .int .i64 isz] 47)
  have HN := Lib.hid n1
  have HP := Lib.hid (hP.new n1)
  have HB := Lib.hid (Blk.new w 47 #[.int .u8 13, .bool false, .int .i64 id, .int .i64 isr, .bool iu, .int .i64 iof, .int .i64 iim, .int .i64 isz])
  have HNZ := Lib.hid (new_refl (w.alloc (.cells #[.int .u8 13, .bool false, .int .i64 id, .int .i64 isr, .bool iu, .int .i64 iof, .int .i64 iim, .int .i64 isz] 47)))
  obtain ⟨a0, a1, a2, a3, a4, a5, a6, a7⟩ := cells8 HB.out
  have HD := Lib.hid h.d
  have HS := Lib.hid h.s
  have HF := Lib.hid h.f
  have HIM := Lib.hid h.m
  have HO := Lib.hid h.o
  have HZI := Lib.hid hz
  have HRD := Lib.hid (fun (W : World) (hW : PowT W) => rr_any id W HD.out hW)
  have hlD := regB_le id HD.out
  obtain ⟨xw, hxw⟩ : ∃ xw, rws.getD 12 [] = xw := ⟨_, rfl⟩
  have hxl : xw.length ≤ 4 := by rw [← hxw]; exact rws_le 12
  have HXW := Lib.hid hxw
  rw [hxw]
  clear hxw
  clear n1 h hP hz
  generalize regB id = D at *
  have s0 := fun W => add_str (xw) [32] (by simp; omega) W
  have s1 := fun W => add_str (xw ++ [32]) D (by simp; omega) W
  go_enter Tryz.func37, Tryz.ntmps37
  go_wp2
  go_region_with
    (first
      | (go_at_call 101; (with_reducible refine (rwords_any _).mono ?_); rintro e wz ⟨bw, rfl, hcw, hnz⟩; have hck : wz.cell? ⟨bw, 12, none⟩ = some (.string ⟨xw.toArray⟩) := (hcw 12 (by omega)).trans (by rw [HXW.out]); clear hcw; have HNZ := Lib.hid (show New (w.alloc (.cells #[.int .u8 13, .bool false, .int .i64 id, .int .i64 isr, .bool iu, .int .i64 iof, .int .i64 iim, .int .i64 isz] 47)) wz from by first | exact New.then HNZ.out hnz | exact New.then (Below.drew HNZ.out) hnz); clear hnz; obtain ⟨a0, a1, a2, a3, a4, a5, a6, a7⟩ := cells8 (HB.out.below HNZ.out HB.out.lt)))
  all_goals go_wp2_with (first
    | (go_at_call 104; (with_reducible refine (HRD.out _ (by first | exact HP.out.new HNZ.out | exact HP.out.new (Below.drew HNZ.out))).mono ?_); rintro e wz ⟨rfl, hnz⟩; have HNZ := Lib.hid (show New (w.alloc (.cells #[.int .u8 13, .bool false, .int .i64 id, .int .i64 isr, .bool iu, .int .i64 iof, .int .i64 iim, .int .i64 isz] 47)) wz from by first | exact New.then HNZ.out hnz | exact New.then (Below.drew HNZ.out) hnz); clear hnz; obtain ⟨a0, a1, a2, a3, a4, a5, a6, a7⟩ := cells8 (HB.out.below HNZ.out HB.out.lt)))
  all_goals go_ret
  all_goals exact ⟨by first | (simp; done) | (simp [ba_cat]; done), New.then HN.out HNZ.out⟩

set_option maxRecDepth 100000 in
set_option maxHeartbeats 8000000 in
theorem one_neg1 (id isr : Int) (iu : Bool) (iof iim isz : Int) (w : World) (h : Sm ⟨13, true, id, isr, iu, iof, iim, isz⟩) (hz : I64 isz) (hP : PowT w) :
    Calls Tryz.prog 37 #[.agg #[.int .u8 13, .bool true, .int .i64 id, .int .i64 isr, .bool iu, .int .i64 iof, .int .i64 iim, .int .i64 isz]] w fun e w' => e = .returned (.string ⟨((rws.getD 12 []) ++ ([51, 50]) ++ ([32]) ++ (regB id)).toArray⟩) ∧ New w w' := by
  have n1 := new1 w (.cells #[.int .u8 13, .bool true, .int .i64 id, .int .i64 isr, .bool iu, .int .i64 iof, .int .i64 iim, .int .i64 isz] 47)
  have HN := Lib.hid n1
  have HP := Lib.hid (hP.new n1)
  have HB := Lib.hid (Blk.new w 47 #[.int .u8 13, .bool true, .int .i64 id, .int .i64 isr, .bool iu, .int .i64 iof, .int .i64 iim, .int .i64 isz])
  have HNZ := Lib.hid (new_refl (w.alloc (.cells #[.int .u8 13, .bool true, .int .i64 id, .int .i64 isr, .bool iu, .int .i64 iof, .int .i64 iim, .int .i64 isz] 47)))
  obtain ⟨a0, a1, a2, a3, a4, a5, a6, a7⟩ := cells8 HB.out
  have HD := Lib.hid h.d
  have HS := Lib.hid h.s
  have HF := Lib.hid h.f
  have HIM := Lib.hid h.m
  have HO := Lib.hid h.o
  have HZI := Lib.hid hz
  have HRD := Lib.hid (fun (W : World) (hW : PowT W) => rr_any id W HD.out hW)
  have hlD := regB_le id HD.out
  obtain ⟨xw, hxw⟩ : ∃ xw, rws.getD 12 [] = xw := ⟨_, rfl⟩
  have hxl : xw.length ≤ 4 := by rw [← hxw]; exact rws_le 12
  have HXW := Lib.hid hxw
  rw [hxw]
  clear hxw
  clear n1 h hP hz
  generalize regB id = D at *
  have s0 := fun W => add_str (xw) [51, 50] (by simp; omega) W
  have s1 := fun W => add_str (xw ++ [51, 50]) [32] (by simp; omega) W
  have s2 := fun W => add_str (xw ++ [51, 50] ++ [32]) D (by simp; omega) W
  go_enter Tryz.func37, Tryz.ntmps37
  go_wp2
  go_region_with
    (first
      | (go_at_call 101; (with_reducible refine (rwords_any _).mono ?_); rintro e wz ⟨bw, rfl, hcw, hnz⟩; have hck : wz.cell? ⟨bw, 12, none⟩ = some (.string ⟨xw.toArray⟩) := (hcw 12 (by omega)).trans (by rw [HXW.out]); clear hcw; have HNZ := Lib.hid (show New (w.alloc (.cells #[.int .u8 13, .bool true, .int .i64 id, .int .i64 isr, .bool iu, .int .i64 iof, .int .i64 iim, .int .i64 isz] 47)) wz from by first | exact New.then HNZ.out hnz | exact New.then (Below.drew HNZ.out) hnz); clear hnz; obtain ⟨a0, a1, a2, a3, a4, a5, a6, a7⟩ := cells8 (HB.out.below HNZ.out HB.out.lt)))
  all_goals go_wp2_with (first
    | (go_at_call 104; (with_reducible refine (HRD.out _ (by first | exact HP.out.new HNZ.out | exact HP.out.new (Below.drew HNZ.out))).mono ?_); rintro e wz ⟨rfl, hnz⟩; have HNZ := Lib.hid (show New (w.alloc (.cells #[.int .u8 13, .bool true, .int .i64 id, .int .i64 isr, .bool iu, .int .i64 iof, .int .i64 iim, .int .i64 isz] 47)) wz from by first | exact New.then HNZ.out hnz | exact New.then (Below.drew HNZ.out) hnz); clear hnz; obtain ⟨a0, a1, a2, a3, a4, a5, a6, a7⟩ := cells8 (HB.out.below HNZ.out HB.out.lt)))
  all_goals go_ret
  all_goals exact ⟨by first | (simp; done) | (simp [ba_cat]; done), New.then HN.out HNZ.out⟩

set_option maxRecDepth 100000 in
set_option maxHeartbeats 8000000 in
theorem one_jump (id isr : Int) (iu : Bool) (iof iim isz : Int) (w : World) (h : Sm ⟨16, false, id, isr, iu, iof, iim, isz⟩) (hz : I64 isz) (hP : PowT w) :
    Calls Tryz.prog 37 #[.agg #[.int .u8 16, .bool false, .int .i64 id, .int .i64 isr, .bool iu, .int .i64 iof, .int .i64 iim, .int .i64 isz]] w fun e w' => e = .returned (.string ⟨(([106, 117, 109, 112, 32]) ++ (sgnB iof)).toArray⟩) ∧ New w w' := by
  have n1 := new1 w (.cells #[.int .u8 16, .bool false, .int .i64 id, .int .i64 isr, .bool iu, .int .i64 iof, .int .i64 iim, .int .i64 isz] 47)
  have HN := Lib.hid n1
  have HP := Lib.hid (hP.new n1)
  have HB := Lib.hid (Blk.new w 47 #[.int .u8 16, .bool false, .int .i64 id, .int .i64 isr, .bool iu, .int .i64 iof, .int .i64 iim, .int .i64 isz])
  have HNZ := Lib.hid (new_refl (w.alloc (.cells #[.int .u8 16, .bool false, .int .i64 id, .int .i64 isr, .bool iu, .int .i64 iof, .int .i64 iim, .int .i64 isz] 47)))
  obtain ⟨a0, a1, a2, a3, a4, a5, a6, a7⟩ := cells8 HB.out
  have HD := Lib.hid h.d
  have HS := Lib.hid h.s
  have HF := Lib.hid h.f
  have HIM := Lib.hid h.m
  have HO := Lib.hid h.o
  have HZI := Lib.hid hz
  have HRF := Lib.hid (fun (W : World) (hW : PowT W) => rfar_any iof W HO.out hW)
  have hlF := sgnB_le iof HO.out
  obtain ⟨xw, hxw⟩ : ∃ xw, rws.getD 15 [] = xw := ⟨_, rfl⟩
  have hxl : xw.length ≤ 4 := by rw [← hxw]; exact rws_le 15
  have HXW := Lib.hid hxw
  clear hxw
  clear n1 h hP hz
  generalize sgnB iof = F at *
  have s0 := fun W => add_str ([106, 117, 109, 112, 32]) F (by simp; omega) W
  go_enter Tryz.func37, Tryz.ntmps37
  go_wp2
  go_region_with
    (first
      | (go_at_call 101; (with_reducible refine (rwords_any _).mono ?_); rintro e wz ⟨bw, rfl, hcw, hnz⟩; have hck : wz.cell? ⟨bw, 15, none⟩ = some (.string ⟨xw.toArray⟩) := (hcw 15 (by omega)).trans (by rw [HXW.out]); clear hcw; have HNZ := Lib.hid (show New (w.alloc (.cells #[.int .u8 16, .bool false, .int .i64 id, .int .i64 isr, .bool iu, .int .i64 iof, .int .i64 iim, .int .i64 isz] 47)) wz from by first | exact New.then HNZ.out hnz | exact New.then (Below.drew HNZ.out) hnz); clear hnz; obtain ⟨a0, a1, a2, a3, a4, a5, a6, a7⟩ := cells8 (HB.out.below HNZ.out HB.out.lt)))
  all_goals go_wp2_with (first
    | (go_at_call 102; (with_reducible refine (HRF.out _ (by first | exact HP.out.new HNZ.out | exact HP.out.new (Below.drew HNZ.out))).mono ?_); rintro e wz ⟨rfl, hnz⟩; have HNZ := Lib.hid (show New (w.alloc (.cells #[.int .u8 16, .bool false, .int .i64 id, .int .i64 isr, .bool iu, .int .i64 iof, .int .i64 iim, .int .i64 isz] 47)) wz from by first | exact New.then HNZ.out hnz | exact New.then (Below.drew HNZ.out) hnz); clear hnz; obtain ⟨a0, a1, a2, a3, a4, a5, a6, a7⟩ := cells8 (HB.out.below HNZ.out HB.out.lt)))
  all_goals go_ret
  all_goals exact ⟨by first | (simp; done) | (simp [ba_cat]; done), New.then HN.out HNZ.out⟩
end Go.Proofs.YtcebfihjcglnoaaGreatDoor.txt

