/-
  The document's Parse: lines.
-/
import Derived.Test.YtddojdgnakajmaaGreatDoorPi
namespace Go.Proofs.YtddojdgnakajmaaGreatDoor.txt
open Go.RowKit Go.Proofs.YtddojdgnakajmaaGreatDoor.mem Go.Proofs.YtddojdgnakajmaaGreatDoor.kit Go.Proofs.YtddojdgnakajmaaGreatDoor.ins
set_option linter.unusedVariables false
set_option linter.unusedSimpArgs false

structure LQ (s : Bs) (w : World) (f i : Nat) (D : List Bs) (v : Value) (wr : World) : Prop where
  l1 : f ≤ i
  l2 : i ≤ s.length
  own : wr.ownsRow w.heap.size 9 1 v D.length (vs D)
  few : D.length ≤ f
  is : linesB s = D ++ linesB (s.drop f)
  no : (10 : UInt8) ∉ (s.drop f).take (i - f)
  n : New w wr
theorem drop_mid {s : Bs} {f i : Nat} (h : f ≤ i) : s.drop f = (s.drop f).take (i - f) ++ s.drop i := by
  conv => lhs; rw [← List.take_append_drop (i - f) (s.drop f)]
  rw [List.drop_drop]
  congr 2
  omega
theorem LQ.hit {s : Bs} {w wr wn : World} {f i : Nat} {D : List Bs} {v v' : Value} (h : LQ s w f i D v wr) (hl : i < s.length) (hc : s[i] = 10) (ho : wn.ownsRow w.heap.size 9 1 v' (D.length + 1) (vs D ++ [sv ((s.drop f).take (i - f))])) (hn : New w wn) :
    LQ s w (i + 1) (i + 1) (D ++ [(s.drop f).take (i - f)]) v' wn := by
  refine ⟨Nat.le_refl _, hl, ?_, ?_, ?_, by simp, hn⟩
  · have e : vs (D ++ [(s.drop f).take (i - f)]) = vs D ++ [sv ((s.drop f).take (i - f))] := by simp [vs]
    rw [e, List.length_append]
    exact ho
  · have := h.few
    have := h.l1
    simp
    omega
  · have e : s.drop f = (s.drop f).take (i - f) ++ 10 :: s.drop (i + 1) := by
      conv => lhs; rw [drop_mid h.l1, drop_at hl, hc]
    have e2 : linesB (s.drop f) = (s.drop f).take (i - f) :: linesB (s.drop (i + 1)) := by
      conv => lhs; rw [e]
      exact lines_hit h.no
    rw [h.is, e2]
    simp
theorem LQ.miss {s : Bs} {w wr : World} {f i : Nat} {D : List Bs} {v : Value} (h : LQ s w f i D v wr) (hl : i < s.length) (hc : s[i] ≠ 10) : LQ s w f (i + 1) D v wr := by
  refine ⟨Nat.le_succ_of_le h.l1, hl, h.own, h.few, h.is, ?_, h.n⟩
  have h1 := h.l1
  rw [show i + 1 - f = (i - f) + 1 by omega, List.take_succ_eq_append_getElem (by simp; omega)]
  have e : (s.drop f)[i - f]'(by simp; omega) = s[i] := by
    rw [List.getElem_drop]
    congr 1
    omega
  rw [e]
  intro hm
  rcases List.mem_append.1 hm with hm | hm
  · exact h.no hm
  · exact hc (List.mem_singleton.1 hm).symm
theorem LQ.last {s : Bs} {w wr : World} {f : Nat} {D : List Bs} {v : Value} (h : LQ s w f s.length D v wr) : linesB s = D ++ [s.drop f] := by
  have hn := h.no
  rw [List.take_of_length_le (by simp)] at hn
  rw [h.is, lines_no hn]
theorem ext_mid (s : Bs) (f i : Nat) : (⟨s.toArray⟩ : ByteArray).extract f i = ⟨((s.drop f).take (i - f)).toArray⟩ := by rw [Lib.extract_eq]
theorem slice_from (s : Bs) (f : Nat) (h : f ≤ s.length) (W : World) : (Instr.slice 9 (.string ⟨s.toArray⟩) (some (.int .i64 (f : Int))) none none).run Tryz.prog W = .ok (.string ⟨(s.drop f).toArray⟩) W := by
  have hs : (⟨s.toArray⟩ : ByteArray).size = s.length := by show s.toArray.size = _; simp
  have e : (⟨s.toArray⟩ : ByteArray).extract f (⟨s.toArray⟩ : ByteArray).size = ⟨(s.drop f).toArray⟩ := by
    rw [hs, ext_mid, List.take_of_length_le (by simp)]
  rw [run_slice_string_l W 9 ⟨s.toArray⟩ Tryz.underlying9 .i64 _ (by omega) (by rw [hs]; omega), Int.toNat_natCast, e]

set_option maxRecDepth 100000 in
set_option maxHeartbeats 2000000 in
theorem rlines_any (s : Bs) (w : World) (hs : s.length ≤ 1000000000) : Calls Tryz.prog 48 #[.string ⟨s.toArray⟩] w fun e w' => ∃ v, e = .returned v ∧ w'.ownsRow w.heap.size 9 1 v (linesB s).length (vs (linesB s)) ∧ New w w' := by
  obtain ⟨i0, hi, hz0, hz1, hz2⟩ := info_parts' str_info
  go_enter Tryz.func48, Tryz.ntmps48
  go_wp2
  go_loopw [3, 4, 5] (fun v fv iv wr => ∃ (f i : Nat) (D : List Bs), fv = .int .i64 f ∧ iv = .int .i64 i ∧ LQ s w f i D v wr) (fun _ _ iv _ => s.length - (intOf iv).toNat)
  case atStart => exact ⟨0, 0, [], rfl, rfl, ⟨Nat.le_refl _, Nat.zero_le _, World.ownsRow_nil _ _ _ _, Nat.le_refl _, by simp, by simp, new_refl w⟩⟩
  case round =>
    obtain ⟨f, i, D, rfl, rfl, hq⟩ := hrel
    have HQ := Lib.hid hq
    have l1 := hq.l1
    have l2 := hq.l2
    have HOW := Lib.hid (fun W (h : New wr W) => own_new HQ.out.own h)
    clear hq
    by_cases hlt : i < s.length
    · have t3 : (i : Int) < (s.length : Int) := by omega
      have t3b : (0 : Int) ≤ (i : Int) := by omega
      obtain ⟨c, hc⟩ : ∃ c, s[i] = c := ⟨_, rfl⟩
      have HC := Lib.hid hc
      have hx : (⟨s.toArray⟩ : ByteArray)[i]'(by show i < s.toArray.size; simpa using hlt) = c := by show s.toArray[i] = c; simpa using hc
      clear hc
      by_cases h10 : c = 10
      · have t4 : (c.toNat : Int) = 10 := by rw [h10]; rfl
        have hsl := fun W => slice_at s f i l1 l2 W
        have HEX := Lib.hid (ext_mid s f i)
        have HCC : Hid (s[i] = 10) := Lib.hid (HC.out.trans h10)
        clear h10
        go_wp2_with (at_builtin; refine wpList_append_any _ rfl (.tmp 16) (.tmp 21) 32 rfl w.heap.size 9 i0 (.string ⟨#[]⟩) 1 16 Tryz.underlying32 hi hz0 hz1 hz2 rfl (by omega) _ D.length (vs D) rfl (HOW.out _ (new1 wr _)) (wr.heap.size + 1) (some ⟨wr.heap.size, 0, none⟩) 1 1 [.string ((⟨s.toArray⟩ : ByteArray).extract f i)] rfl ((reads_new wr 9 _).more (by simp)) (by simp [Value.oneCell']) (by have := HQ.out.few; unfold maxLen; omega) (by have := HQ.out.few; omega) (by have := HQ.out.n.size; simp; omega) ?_; intro v9 w9 hown9 hg9 hat9; have HN9 : Hid (New w w9) := Lib.hid ((New.then HQ.out.n (new1 wr _)).grown hg9 (by have := HQ.out.n.size; simp; omega) (fun j hj => (HQ.out.own.lt j hj).1)); rw [HEX.out] at hown9; have HO9 := Lib.hid hown9; clear hown9 hg9 hat9)
        go_roundw
        case rel => exact ⟨i + 1, i + 1, D ++ [(s.drop f).take (i - f)], by go_num, by go_num, HQ.out.hit hlt HCC.out (by simpa using HO9.out) HN9.out⟩
        case measure => simp [intOf]; omega
      · have t4 : ¬ (c.toNat : Int) = 10 := fun e => h10 (by rw [← UInt8.toNat_inj]; exact Int.ofNat.inj e)
        have HQ2 := Lib.hid (HQ.out.miss hlt (by rw [HC.out]; exact h10))
        clear h10
        go_wp2
        go_roundw
        case rel => exact ⟨f, i + 1, D, rfl, by go_num, HQ2.out⟩
        case measure => simp [intOf]; omega
    · obtain rfl : i = s.length := by omega
      have t3 : ¬ (s.length : Int) < (s.length : Int) := by omega
      have hsl := fun W => slice_from s f l1 W
      have HE := Lib.hid HQ.out.last
      go_wp2_with (at_builtin; refine wpList_append_any _ rfl (.tmp 25) (.tmp 29) 32 rfl w.heap.size 9 i0 (.string ⟨#[]⟩) 1 16 Tryz.underlying32 hi hz0 hz1 hz2 rfl (by omega) _ D.length (vs D) rfl (HOW.out _ (new1 wr _)) (wr.heap.size + 1) (some ⟨wr.heap.size, 0, none⟩) 1 1 [.string ⟨(s.drop f).toArray⟩] rfl ((reads_new wr 9 _).more (by simp)) (by simp [Value.oneCell']) (by have := HQ.out.few; unfold maxLen; omega) (by have := HQ.out.few; omega) (by have := HQ.out.n.size; simp; omega) ?_; intro v9 w9 hown9 hg9 hat9; have HN9 : Hid (New w w9) := Lib.hid ((New.then HQ.out.n (new1 wr _)).grown hg9 (by have := HQ.out.n.size; simp; omega) (fun j hj => (HQ.out.own.lt j hj).1)); have HO9 := Lib.hid hown9; clear hown9 hg9 hat9)
      go_ret
      have e : vs (D ++ [s.drop f]) = vs D ++ [sv (s.drop f)] := by simp [vs]
      refine ⟨v9, rfl, ?_, HN9.out⟩
      rw [HE.out, e, List.length_append]
      exact HO9.out
end Go.Proofs.YtddojdgnakajmaaGreatDoor.txt
