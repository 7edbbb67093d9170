/-
  sha's laws against the document: ShaSums, ShaEnds.
-/
import Derived.Test.YtnmjgbkifglleaaDoorShaS
import Derived.Test.YtnmjgbkifglleaaDoorKitC
namespace Go.Proofs.YtnmjgbkifglleaaDoor.sha
open Go.RowKit Go.Proofs.YtnmjgbkifglleaaDoor.mem Go.Proofs.YtnmjgbkifglleaaDoor.kit
set_option linter.unusedVariables false
/-- A lent list reads as the list. -/
theorem lent_reads {w : World} {g : Nat} {l : List UInt8} (h : Blk w g 5 (vb (l ++ marks 1 12)).toArray) : Reads w w.heap.size 1 (some ⟨g, 0, none⟩) l.length (vb l) :=
  ⟨by rw [vb_length, Nat.mul_one], fun _ => ⟨_, rfl, h.lt, fun j u hu => by
    have hj : j < l.length := by
      rcases Nat.lt_or_ge j l.length with h' | h'
      · exact h'
      · rw [List.getElem?_eq_none (by rw [vb_length]; exact h')] at hu; cases hu
    rw [vb_get l j hj] at hu
    rw [Addr.add_lit, Nat.zero_add, h.cell j, lm_left l _ j hj]
    exact hu⟩⟩
theorem same_32 (A B : Option Addr) (c d : Nat) (D : List UInt8) (w : World) (hD : D.length = 32) (hA : Reads w w.heap.size 1 A 32 (vb D)) (hB : Reads w w.heap.size 1 B 32 (vb D)) :
    Calls Tryd.prog 10 #[.slice A 32 c, .slice B 32 d] w fun e w' => e = .returned (.bool true) ∧ New w w' := by
  rw [← hD] at hA hB ⊢
  exact same_any A B c d D w (by omega) hA hB
theorem Dig.at32 {w w' : World} {l D : List UInt8} {e : Ending} (h : Dig w l e w') (he : l = D) (hD : D.length = 32) : ∃ A c, e = .returned (.slice A 32 c) ∧ w'.ownsRow w.heap.size 5 1 (.slice A 32 c) 32 (vb D) ∧ New w w' := by
  subst he
  obtain ⟨A, c, he, ho, hn⟩ := h
  rw [hD] at he ho
  exact ⟨A, c, he, ho, hn⟩

set_option maxRecDepth 100000 in
set_option maxHeartbeats 4000000 in
theorem ShaSums_any (A : Option Addr) (n c : Nat) (l : List UInt8) (w : World) (h : GAt w) (hn : n = l.length) (hn1 : n ≤ 140737488351232) (hc : n ≤ c ∧ c ≤ maxLen) (hA : Reads w w.heap.size 1 A n (vb l)) :
    Calls Tryd.prog 3 #[.slice A n c] w fun e w' => e = .returned (.bool true) ∧ New w w' := by
  have HAW := Lib.hid (awake_any w h)
  by_cases hbig : 3000 < n
  · have hbi : (3000 : Int) < (n : Int) := by omega
    clear hA hn hc hbig h
    go_enter Tryd.func3, Tryd.ntmps3
    go_wp2_with (first
      | (go_at_call 8; (with_reducible refine HAW.out.mono ?_); rintro e w1 ⟨rfl, hn1⟩; have HN1 := Lib.hid hn1; clear hn1)
      | fail)
    go_ret
    exact ⟨rfl, HN1.out⟩
  · have hbi : ¬ (3000 : Int) < (n : Int) := by omega
    obtain ⟨D, hD⟩ : ∃ D, sum l = D := ⟨_, rfl⟩
    have hDl : D.length = 32 := by rw [← hD]; exact sum_length _
    have HLE : Hid (∀ W, New w W → Calls Tryd.prog 9 #[.slice A n c] W fun e w' => (e = .returned (.slice (some ⟨W.heap.size, 0, none⟩) n (n + 12)) ∧ Blk w' W.heap.size 5 (vb (l ++ marks 1 12)).toArray) ∧ New W w') := Lib.hid (fun W hW => by
      have hr := hA.new hW
      rw [hn] at hr ⊢
      exact lent_any A c l W (by omega) hr)
    have HSX : Hid (∀ W g, New w W → Blk W g 5 (vb (l ++ marks 1 12)).toArray → Calls Tryd.prog 11 #[.slice (some ⟨g, 0, none⟩) n (n + 12)] W fun e w' => ∃ A4 c4, e = .returned (.slice A4 32 c4) ∧ w'.ownsRow W.heap.size 5 1 (.slice A4 32 c4) 32 (vb D) ∧ New W w') := Lib.hid (fun W g hW hb => by
      have hr := lent_reads hb
      rw [← hn] at hr
      exact (sum_any (some ⟨g, 0, none⟩) n (n + 12) l W hn (by omega) ⟨by omega, by unfold maxLen; omega⟩ (h.new hW).s (h.new hW).k hr).mono fun e w' k => k.at32 hD hDl)
    have HRX : Hid (∀ W, New w W → Calls Tryd.prog 12 #[.slice A n c] W fun e w' => ∃ A4 c4, e = .returned (.slice A4 32 c4) ∧ Reads w' w'.heap.size 1 A4 32 (vb D) ∧ New W w') := Lib.hid (fun W hW => (rsum_any A n c l W hn (by omega) (hA.new hW)).mono fun e w' k => by
      obtain ⟨v, rfl, hab⟩ := k
      rw [hD] at hab
      obtain ⟨A4, c4, rfl, -, hr⟩ := hab.len 32 hDl
      exact ⟨A4, c4, rfl, hr, hab.new⟩)
    have HKE : Hid (∀ W g, New w W → Blk W g 5 (vb (l ++ marks 1 12)).toArray → Calls Tryd.prog 13 #[.slice (some ⟨g, 0, none⟩) n (n + 12), .slice A n c] W fun e w' => e = .returned (.bool true) ∧ New W w') := Lib.hid (fun W g hW hb => by
      have hr := hA.new hW
      rw [hn] at hr ⊢
      exact kept_any g A c l W (by omega) hb hr)
    have HDL := Lib.hid hDl
    clear hA hn hc hbig h hD hDl
    go_enter Tryd.func3, Tryd.ntmps3
    go_wp2_with (first
      | (go_at_call 8; (with_reducible refine HAW.out.mono ?_); rintro e w1 ⟨rfl, hn1⟩; have HN1 := Lib.hid hn1; have HL1 := Lib.hid (HLE.out w1 hn1); clear hn1)
      | (go_at_call 9; (with_reducible refine HL1.out.mono ?_); rintro e w2 ⟨⟨rfl, hb2⟩, hn2⟩; have HB2 := Lib.hid hb2; have HN2 := Lib.hid (New.then HN1.out hn2); have HS2 := Lib.hid (HSX.out w2 _ (New.then HN1.out hn2) hb2); clear hb2 hn2)
      | (go_at_call 11; (with_reducible refine HS2.out.mono ?_); rintro e w3 ⟨A3, c3, rfl, ho3, hn3⟩; have HO3 := Lib.hid ho3; have HN3 := Lib.hid (New.then HN2.out hn3); have HB3 := Lib.hid (HB2.out.below hn3 HB2.out.lt); have HR3 := Lib.hid (HRX.out w3 HN3.out); clear ho3 hn3)
      | (go_at_call 12; (with_reducible refine HR3.out.mono ?_); rintro e w4 ⟨A4, c4, rfl, hr4, hn4⟩; have HN4 := Lib.hid (New.then HN3.out hn4); have HB4 := Lib.hid (HB3.out.below hn4 HB3.out.lt); have HM4 := Lib.hid (same_32 A3 A4 c3 c4 D w4 HDL.out ((Reads.of_own HO3.out).new hn4) hr4); clear hr4 hn4)
      | (go_at_call 10; (with_reducible refine HM4.out.mono ?_); rintro e w5 ⟨rfl, hn5⟩; have HN5 := Lib.hid (New.then HN4.out hn5); have HK5 := Lib.hid (HKE.out w5 _ HN5.out (HB4.out.below hn5 HB4.out.lt)); clear hn5)
      | (go_at_call 13; (with_reducible refine HK5.out.mono ?_); rintro e w6 ⟨rfl, hn6⟩; have HN6 := Lib.hid (New.then HN5.out hn6); clear hn6)
      | fail)
    go_ret
    exact ⟨rfl, HN6.out⟩

def fills (f : Nat) (k : Nat) : List UInt8 := (List.range k).map fun j => UInt8.ofNat (f + j)
theorem fills_length (f k : Nat) : (fills f k).length = k := by simp [fills]
theorem fills_succ (f k : Nat) : fills f (k + 1) = fills f k ++ [UInt8.ofNat (f + k)] := by simp [fills, List.range_succ]

set_option maxRecDepth 100000 in
set_option maxHeartbeats 4000000 in
theorem ShaEnds_any (x y : Int) (w : World) (h : GAt w) (x1 : -9223372036854775808 ≤ x) (x2 : x ≤ 9223372036854775807) (y1 : 0 ≤ y) (y2 : y ≤ 255) :
    Calls Tryd.prog 4 #[.int .i64 x, .int .u8 y] w fun e w' => e = .returned (.bool true) ∧ New w w' := by
  have HAW := Lib.hid (awake_any w h)
  have HG := Lib.hid h
  obtain ⟨N, hN⟩ : ∃ N : Nat, x % 200 = (N : Int) := ⟨(x % 200).toNat, by omega⟩
  have hN2 : N < 200 := by omega
  have HPK : Hid (∀ W, Calls Tryd.prog 14 #[.int .i64 x, .int .i64 200] W fun e w' => e = .returned (.int .i64 (N : Int)) ∧ W = w') := Lib.hid (fun W => by rw [← hN]; exact pick_any x 200 W (by omega) (by omega) x1 x2)
  obtain ⟨f, rfl⟩ : ∃ f : Nat, y = (f : Int) := ⟨y.toNat, by omega⟩
  clear h hN
  go_enter Tryd.func4, Tryd.ntmps4
  go_wp2_with (first
    | (go_at_call 8; (with_reducible refine HAW.out.mono ?_); rintro e w1 ⟨rfl, hn1⟩; have HN1 := Lib.hid hn1; clear hn1)
    | fail)
  obtain ⟨wx, hwx⟩ : ∃ wx : World, wx = w1 := ⟨_, rfl⟩
  have HX1 : Hid (New w wx) := Lib.hid (by rw [hwx]; exact HN1.out)
  rw [← hwx]
  clear hwx HN1 HAW
  go_loopw [5, 6] (fun vb vi wr => ∃ k : Nat, ∃ A c, k ≤ N ∧ vi = .int .i64 (k : Int) ∧ vb = .slice A k c ∧ Hid (Ab wx (.slice A k c) (fills f k) wr)) (fun _ vi _ => N - (intOf vi).toNat)
  case atStart => exact ⟨0, none, 0, Nat.zero_le _, rfl, rfl, Lib.hid (Ab.nil wx)⟩
  case round =>
    obtain ⟨k, A, c, hk, rfl, rfl, HB⟩ := hrel
    by_cases hlt : k < N
    · have hki : (k : Int) < (N : Int) := by omega
      have hk200 : k < 200 := by omega
      go_wp2_with (first
        | (go_at_call 14; (with_reducible refine (HPK.out _).mono ?_); rintro e w2 ⟨rfl, rfl⟩)
        | (at_builtin; refine wpl_ab (w0 := wx) (z := fills f k) (l := [UInt8.ofNat (f + k)]) rfl (.tmp 15) (.tmp 20) rfl (HB.out.keep (alloc_new wr _)) rfl rfl (reads_b1 wr _ _ (by rw [UInt8.toNat_ofNat']; omega)) (by rw [fills_length]; simp; omega) ?_; intro v8 w8 hM8; obtain ⟨A8, c8, rfl, -, -⟩ := hM8.len (k + 1) (by simp [fills_length]); have HM8 := Lib.hid hM8; clear hM8)
        | fail)
      go_roundw
      case rel => exact ⟨k + 1, A8, c8, by omega, by go_num, rfl, Lib.hid (by rw [fills_succ]; exact HM8.out)⟩
      case measure => simp [intOf]; omega
    · obtain rfl : k = N := by omega
      obtain ⟨D, hD⟩ : ∃ D, sum (fills f k) = D := ⟨_, rfl⟩
      have hDl : D.length = 32 := by rw [← hD]; exact sum_length _
      have HDL := Lib.hid hDl
      obtain ⟨A', c', hv, hc, hr⟩ := HB.out.len k (fills_length f k)
      simp only [Value.slice.injEq, true_and] at hv
      obtain ⟨rfl, rfl⟩ := hv
      have hNr := New.then HX1.out HB.out.new
      have HNR := Lib.hid hNr
      have HSX : Hid (Calls Tryd.prog 11 #[.slice A k c] wr fun e w' => ∃ A4 c4, e = .returned (.slice A4 32 c4) ∧ w'.ownsRow wr.heap.size 5 1 (.slice A4 32 c4) 32 (vb D) ∧ New wr w') := Lib.hid ((sum_any A k c (fills f k) wr (fills_length f k).symm (by omega) hc (HG.out.new hNr).s (HG.out.new hNr).k hr).mono fun e w' q => q.at32 hD hDl)
      have HRX : Hid (∀ W, New wr W → Calls Tryd.prog 12 #[.slice A k c] W fun e w' => ∃ A4 c4, e = .returned (.slice A4 32 c4) ∧ Reads w' w'.heap.size 1 A4 32 (vb D) ∧ New W w') := Lib.hid (fun W hW => (rsum_any A k c (fills f k) W (fills_length f k).symm (by omega) (hr.new hW)).mono fun e w' q => by
        obtain ⟨v, rfl, hab⟩ := q
        rw [hD] at hab
        obtain ⟨A4, c4, rfl, -, hr⟩ := hab.len 32 hDl
        exact ⟨A4, c4, rfl, hr, hab.new⟩)
      clear hD hDl hr hNr
      go_wp2_with (first
        | (go_at_call 14; (with_reducible refine (HPK.out _).mono ?_); rintro e w2 ⟨rfl, rfl⟩)
        | (go_at_call 11; (with_reducible refine HSX.out.mono ?_); rintro e w3 ⟨A3, c3, rfl, ho3, hn3⟩; have HO3 := Lib.hid ho3; have HN3 := Lib.hid hn3; have HR3 := Lib.hid (HRX.out w3 hn3); clear ho3 hn3)
        | (go_at_call 12; (with_reducible refine HR3.out.mono ?_); rintro e w4 ⟨A4, c4, rfl, hr4, hn4⟩; have HN4 := Lib.hid (New.then HN3.out hn4); have HM4 := Lib.hid (same_32 A3 A4 c3 c4 D w4 HDL.out ((Reads.of_own HO3.out).new hn4) hr4); clear hr4 hn4)
        | (go_at_call 10; (with_reducible refine HM4.out.mono ?_); rintro e w5 ⟨rfl, hn5⟩; have HN5 := Lib.hid (New.then HN4.out hn5); clear hn5)
        | fail)
      go_ret
      exact ⟨rfl, New.then HNR.out HN5.out⟩
end Go.Proofs.YtnmjgbkifglleaaDoor.sha
