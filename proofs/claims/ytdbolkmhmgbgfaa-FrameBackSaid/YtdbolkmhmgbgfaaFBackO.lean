/-
  FrameBack, where frames may be.
-/
import Derived.Test.YtdbolkmhmgbgfaaCutF
namespace Go.Proofs.Ytdbolkmhmgbgfaa.fr
open Go.RowKit Go.Proofs.Ytdbolkmhmgbgfaa.mem Go.Proofs.Ytdbolkmhmgbgfaa.kit Go.Proofs.Ytdbolkmhmgbgfaa.wire Go.Proofs.Ytdbolkmhmgbgfaa.crc
set_option linter.unusedVariables false

set_option maxRecDepth 100000 in
set_option maxHeartbeats 8000000 in
theorem back_ok (A B : Option Addr) (n c d : Nat) (cut : Int) (fs : List Fi) (bs : List UInt8) (w : World) (hn : n = fs.length) (hc : n ≤ c ∧ c ≤ maxLen) (hnl : n + tot fs ≤ 20000) (hdl : ∀ i (h : i < fs.length), fs[i].data.length ≤ 1099511627776) (hA : FrOf w A fs)
    (hok : ∀ i (h : i < fs.length), fs[i].Ok) (hx1 : -9223372036854775808 ≤ cut) (hx2 : cut ≤ 9223372036854775807)
    (hbl : bs.length ≤ 20000) (hd : bs.length ≤ d ∧ d ≤ maxLen) (hB : Reads w w.heap.size 1 B bs.length (vb bs)) :
    Calls Try.prog 6 #[.slice A n c, .int .i64 cut, .slice B bs.length d] w fun e w' => e = .returned (.bool true) ∧ New w w' := by
  have hU : (fbs (told bs)).length ≤ bs.length := by
    have := congrArg List.length (scan_back bs.length bs (Nat.le_refl _)).1
    rw [List.length_append] at this
    omega
  have hT : bs.take (fbs (told bs)).length = fbs (told bs) := by
    have h := congrArg (List.take (fbs (told bs)).length) (scan_back bs.length bs (Nat.le_refl _)).1
    rwa [List.take_left' rfl] at h
  obtain ⟨K, hK⟩ : ∃ K, (fbs (fs.map Fi.fr)).length = K := ⟨_, rfl⟩
  have hKt := flen_tot fs
  rw [hK] at hKt
  obtain ⟨t, ht⟩ : ∃ t : Nat, cut % ((K : Int) + 1) = (t : Int) := ⟨(cut % ((K : Int) + 1)).toNat, by have := Int.emod_nonneg cut (show ((K : Int) + 1) ≠ 0 by omega); omega⟩
  have htK : t ≤ K := by have := Int.emod_lt_of_pos cut (show (0 : Int) < (K : Int) + 1 by omega); omega
  have HAW := Lib.hid (awake_any w)
  have HGR : Hid (∀ W, New w W → Calls Try.prog 8 #[.slice A n c] W fun e w' => e = .returned (.bool false) ∧ w' = W) := Lib.hid (fun W hW => by
    have h := great_any A n c fs W hn (by omega) (fun i h => Nat.le_trans (hdl i h) (by decide)) (hA.new hW)
    rwa [show decide (20000 < n + tot fs) = false by simp; omega] at h)
  have HOW : Hid (∀ W, New w W → Calls Try.prog 10 #[.slice A n c] W (OwnD W fs)) := Lib.hid (fun W hW => own_any A n c fs W hn (by omega) hdl (hA.new hW))
  have HPE : Hid (∀ (W : World) (gs : List Fi) (A' : Option Addr) (c' : Nat), gs.map Fi.kd = fs.map Fi.kd → FrArr W A' gs → Calls Try.prog 11 #[.slice A' gs.length c'] W (fun e w' => ∃ A4 c4, e = .returned (.tuple #[.slice A4 K c4, .int .i64 0]) ∧ (K ≤ c4 ∧ c4 ≤ maxLen) ∧ Reads w' w'.heap.size 1 A4 K (vb (fbs (fs.map Fi.fr))) ∧ New W w')) := Lib.hid (fun W gs A' c' hk hf => by
    have hl : gs.length = fs.length := by have := congrArg List.length hk; simpa using this
    have hfr := frs_of_kds hk
    refine (put_ok A' gs.length c' gs W rfl (ok_of_kds hk hok) (by omega) (by rw [hfr, hK]; omega) hf).mono fun e w' k => ?_
    obtain ⟨A4, c4, rfl, ho, hn⟩ := k
    rw [hfr, hK] at ho ⊢
    exact ⟨A4, c4, rfl, (own_typed ho).1, (own_typed ho).2.1, hn⟩)
  have HS1 : Hid (∀ (W : World) (A4 : Option Addr) (c4 : Nat), (K ≤ c4 ∧ c4 ≤ maxLen) → Reads W W.heap.size 1 A4 K (vb (fbs (fs.map Fi.fr))) → Calls Try.prog 20 #[.slice A4 K c4] W (fun e w' => ∃ (gs : List Fi) (A5 : Option Addr) (c5 : Nat), gs.length = n ∧ gs.map Fi.kd = fs.map Fi.kd ∧ e = .returned (.tuple #[.slice A5 n c5, .int .i64 K, .bool false]) ∧ FrArr w' A5 gs ∧ New W w')) := Lib.hid (fun W A4 c4 hc4 hr => by
    refine (scan_fr A4 K c4 _ W hK.symm (by rw [hK]; omega) hc4 hr).mono fun e w' k => ?_
    obtain ⟨gs, A5, c5, h1, h2, rfl, h3, h4⟩ := k
    obtain ⟨t1, t2⟩ := all_told fs hok
    rw [t1] at h1
    have hl : gs.length = n := by have := congrArg List.length h1; rw [hn]; simpa using this
    rw [t1, t2, hK, hl]
    exact ⟨gs, A5, c5, hl, kds_of_frs h2 hok h1, rfl, h3, h4⟩)
  have HS2 : Hid (∀ (W : World) (A4 : Option Addr) (c4 k p : Nat), (K ≤ c4 ∧ c4 ≤ maxLen) → Reads W W.heap.size 1 A4 K (vb (fbs (fs.map Fi.fr))) → k ≤ n → p = flen fs k → p ≤ t → (k = n ∨ k < n ∧ t < flen fs (k + 1)) → Calls Try.prog 20 #[.slice A4 t c4] W (fun e w' => ∃ (gs : List Fi) (A6 : Option Addr) (c6 : Nat), gs.length = k ∧ gs.map Fi.kd = (fs.take k).map Fi.kd ∧ e = .returned (.tuple #[.slice A6 k c6, .int .i64 p, .bool false]) ∧ FrArr w' A6 gs ∧ New W w')) := Lib.hid (fun W A4 c4 k p hc4 hr hk hp hpt hlast => by
    have hl0 : ((fbs (fs.map Fi.fr)).take t).length = t := by rw [List.length_take, hK]; omega
    refine (scan_fr A4 t c4 ((fbs (fs.map Fi.fr)).take t) W hl0.symm (by rw [hl0]; omega) (by omega) (reads_take hr htK)).mono fun e w' q => ?_
    obtain ⟨gs, A5, c5, h1, h2, rfl, h3, h4⟩ := q
    obtain ⟨t1, t2⟩ := cut_at fs hok k t (by omega) (by omega) (by rcases hlast with h | h; exact Or.inl ⟨by omega, by rw [flen_all, hK]; exact htK⟩; exact Or.inr ⟨by omega, h.2⟩)
    rw [t1] at h1
    have hl : gs.length = k := by have := congrArg List.length h1; simp at this; omega
    have e : (fbs ((fs.take k).map Fi.fr)).length = p := hp.symm
    rw [t1, t2, e, hl]
    refine ⟨gs, A5, c5, hl, kds_of_frs h2 (fun i hi => ?_) h1, rfl, h3, h4⟩
    rw [List.getElem_take]
    exact hok i (by rw [List.length_take] at hi; omega))
  have HSA : Hid (∀ (W : World) (gs : List Fi) (A5 : Option Addr) (c5 k cc : Nat), New w W → k ≤ n → gs.length = k → gs.map Fi.kd = (fs.take k).map Fi.kd → FrArr W A5 gs → Calls Try.prog 22 #[.slice A5 k c5, .slice A k cc] W fun e w' => e = .returned (.bool true) ∧ New W w') := Lib.hid (fun W gs A5 c5 k cc hW hk hl hkd hf =>
    same_frames A5 A k c5 cc gs (fs.take k) W hl.symm (by rw [List.length_take]; omega) (by omega) hkd (fun i hi => by rw [List.getElem_take]; exact hdl i (by rw [List.length_take] at hi; omega)) hf ((hA.new hW).take k))
  have HPK := Lib.hid (fun W => pick_any cut ((K : Int) + 1) W (by omega) (by omega) hx1 hx2)
  rw [ht] at HPK
  have hlb : decide ((20000 : Int) < (bs.length : Int)) = false := by simp; omega
  have HA := Lib.hid hA
  have HN := Lib.hid hn
  have HB := Lib.hid hB
  have HD := Lib.hid hd
  have HBL := Lib.hid hbl
  have HT := Lib.hid hT
  have HDL := Lib.hid hdl
  have HF0 := Lib.hid (flen_zero fs)
  have HFS := Lib.hid (flen_succ fs)
  have HTN : Hid (fs.take n = fs) := Lib.hid (by rw [hn, List.take_length])
  have HSC : Hid (∀ W, New w W → Calls Try.prog 20 #[.slice B bs.length d] W (ScF W bs)) := Lib.hid (fun W hW => scan_fr B bs.length d bs W rfl (by omega) hd (hB.new hW))
  obtain ⟨U, hUe⟩ : ∃ U, (fbs (told bs)).length = U := ⟨_, rfl⟩
  have HUE := Lib.hid hUe
  rw [hUe] at hU
  have hU1 : (U : Int) ≤ (bs.length : Int) := by omega
  have hU2 : U ≤ d := by omega
  have hU3 : (U : Int) ≤ (d : Int) := by omega
  have hn2 : n ≤ 20000 := by omega
  have hK2 : K ≤ 200000 := by omega
  have hcn := hc.1
  clear hn hnl hdl hA hok hbl hd hB hT hUe hK hKt ht hx1 hx2 hc
  go_enter Try.func6, Try.ntmps6
  go_wp2_with (first
    | (go_at_call 9; (with_reducible refine HAW.out.mono ?_); rintro e w1 ⟨rfl, hn1⟩; have HN1 := Lib.hid hn1; clear hn1)
    | (go_at_call 8; (with_reducible refine (HGR.out w1 HN1.out).mono ?_); rintro e w2 ⟨rfl, rfl⟩)
    | (go_at_call 10; (with_reducible refine (HOW.out _ HN1.out).mono ?_); rintro e w3 ⟨gs, A3, c3, hgk, rfl, hf3, hn3⟩; have HP3 := Lib.hid (HPE.out w3 gs A3 c3 hgk hf3); have HN3 := Lib.hid (New.then HN1.out hn3); clear hn3 hf3 hgk)
    | (go_at_call 11; (with_reducible refine HP3.out.mono ?_); rintro e w4 ⟨A4, c4, rfl, hc4, hr4, hn4⟩; have HN4 := Lib.hid (New.then HN3.out hn4); have HR4 := Lib.hid hr4; have HC4 := Lib.hid hc4; have HS1' := Lib.hid (HS1.out w4 A4 c4 hc4 hr4); clear hn4 hr4 hc4)
    | (go_at_call 20; (with_reducible refine HS1'.out.mono ?_); rintro e w5 ⟨gs5, A5, c5, hl5, hk5, rfl, hf5, hn5⟩; have HN5 := Lib.hid (New.then HN4.out hn5); have HR5 := Lib.hid (HR4.out.new hn5); have HSA5 := Lib.hid (HSA.out w5 gs5 A5 c5 n c HN5.out (Nat.le_refl _) hl5 (by rw [HTN.out]; exact hk5) hf5); clear hn5 hf5 hk5 hl5)
    | (go_at_call 22; (with_reducible refine HSA5.out.mono ?_); rintro e w6 ⟨rfl, hn6⟩; have HN6 := Lib.hid (New.then HN5.out hn6); have HR6 := Lib.hid (HR5.out.new hn6); clear hn6)
    | (go_at_call 23; (with_reducible refine (HPK.out _).mono ?_); rintro e w7 ⟨rfl, rfl⟩))
  go_loopw [12, 13] (fun v i wr => ∃ k p : Nat, k ≤ n ∧ v = .int .i64 k ∧ i = .int .i64 p ∧ p = flen fs k ∧ p ≤ t ∧ wr = w6) (fun v _ _ => n - (intOf v).toNat)
  case atStart => exact ⟨0, 0, Nat.zero_le _, rfl, rfl, HF0.out.symm, Nat.zero_le _, rfl⟩
  case round =>
    obtain ⟨k, p, hk, rfl, rfl, hp, hpt, rfl⟩ := hrel
    have HPF := Lib.hid hp
    clear hp
    have hc4K := HC4.out.1
    have ht4 : (t : Int) ≤ (c4 : Int) := by omega
    have ht4' : t ≤ c4 := by omega
    have hkc : (k : Int) ≤ (c : Int) := by omega
    have hkc' : k ≤ c := by omega
    by_cases hlt : k < n
    · have hlf : k < fs.length := by have := HN.out; omega
      obtain ⟨g, o, hAe, hg, g0, g1, -⟩ := HA.out k hlf
      subst hAe
      have k1 := (HN6.out.cell (p := ⟨g, o + k * 2 + 1, none⟩) hg).trans g1
      have hx1 := HDL.out k hlf
      have HX := Lib.hid (HFS.out k hlf)
      obtain ⟨x, hx⟩ : ∃ x, fs[k] = x := ⟨_, rfl⟩
      rw [hx] at k1 hx1 HX
      clear g0 g1 hx
      obtain ⟨dl, hdl⟩ : ∃ dl, x.data.length = dl := ⟨_, rfl⟩
      rw [hdl] at k1 hx1 HX
      clear hdl
      by_cases hgo : p + 9 + dl ≤ t
      · have hgo' : (p : Int) + 9 + (dl : Int) ≤ (t : Int) := by omega
        go_wp2
        go_roundw
        case rel => exact ⟨k + 1, p + 9 + dl, by omega, by go_num, by go_num, by rw [HX.out, ← HPF.out], hgo, by trivial⟩
        case measure => simp [intOf]; omega
      · have hgo' : ¬ (p : Int) + 9 + (dl : Int) ≤ (t : Int) := by omega
        have HS2' := Lib.hid (HS2.out wr A4 c4 k p HC4.out HR6.out hk HPF.out hpt (Or.inr ⟨hlt, by rw [HX.out, ← HPF.out]; omega⟩))
        go_wp2_with (first
          | (go_at_call 20; (with_reducible refine HS2'.out.mono ?_); rintro e w8 ⟨gs8, A8, c8, hl8, hk8, rfl, hf8, hn8⟩; have HN8 := Lib.hid (New.then HN6.out hn8); have HSA8 := Lib.hid (fun cc => HSA.out w8 gs8 A8 c8 k cc HN8.out hk hl8 hk8 hf8); clear hn8 hf8 hk8 hl8)
          | (go_at_call 22; (with_reducible refine (HSA8.out _).mono ?_); rintro e w9 ⟨rfl, hn9⟩; have HN9 := Lib.hid (New.then HN8.out hn9); clear hn9)
          | (go_at_call 20; (with_reducible refine (HSC.out w9 HN9.out).mono ?_); rintro e w10 ⟨hs, A10, c10, hk5, hok5, rfl, hf5, hn5⟩; rw [HUE.out]; have HN10 := Lib.hid (New.then HN9.out hn5); have HP5 := Lib.hid (put_back (c := c10) HBL.out hk5 hok5 hf5); rw [HUE.out] at HP5; clear hn5 hk5 hok5 hf5)
          | (go_at_call 11; (with_reducible refine HP5.out.mono ?_); rintro e w11 ⟨A11, c11, rfl, hr6, hn6⟩; have HN11 := Lib.hid (New.then HN10.out hn6); have HSMT := Lib.hid (fun (cc dd : Nat) => same_any A11 B cc dd (fbs (told bs)) w11 (by have := HBL.out; have := HUE.out; omega) (by rw [HUE.out]; exact hr6) (by rw [HUE.out, ← HT.out, HUE.out]; exact reads_take (HB.out.new HN11.out) (by omega))); rw [HUE.out] at HSMT; clear hn6 hr6)
          | (go_at_call 14; (with_reducible refine (HSMT.out _ _).mono ?_); rintro e w12 ⟨rfl, hn7⟩; have HN12 := Lib.hid (New.then HN11.out hn7)))
        go_ret
        exact ⟨rfl, HN12.out⟩
    · obtain rfl : k = n := by omega
      have HS2' := Lib.hid (HS2.out wr A4 c4 k p HC4.out HR6.out hk HPF.out hpt (Or.inl rfl))
      go_wp2_with (first
        | (go_at_call 20; (with_reducible refine HS2'.out.mono ?_); rintro e w8 ⟨gs8, A8, c8, hl8, hk8, rfl, hf8, hn8⟩; have HN8 := Lib.hid (New.then HN6.out hn8); have HSA8 := Lib.hid (fun cc => HSA.out w8 gs8 A8 c8 k cc HN8.out hk hl8 hk8 hf8); clear hn8 hf8 hk8 hl8)
        | (go_at_call 22; (with_reducible refine (HSA8.out _).mono ?_); rintro e w9 ⟨rfl, hn9⟩; have HN9 := Lib.hid (New.then HN8.out hn9); clear hn9)
        | (go_at_call 20; (with_reducible refine (HSC.out w9 HN9.out).mono ?_); rintro e w10 ⟨hs, A10, c10, hk5, hok5, rfl, hf5, hn5⟩; rw [HUE.out]; have HN10 := Lib.hid (New.then HN9.out hn5); have HP5 := Lib.hid (put_back (c := c10) HBL.out hk5 hok5 hf5); rw [HUE.out] at HP5; clear hn5 hk5 hok5 hf5)
        | (go_at_call 11; (with_reducible refine HP5.out.mono ?_); rintro e w11 ⟨A11, c11, rfl, hr6, hn6⟩; have HN11 := Lib.hid (New.then HN10.out hn6); have HSMT := Lib.hid (fun (cc dd : Nat) => same_any A11 B cc dd (fbs (told bs)) w11 (by have := HBL.out; have := HUE.out; omega) (by rw [HUE.out]; exact hr6) (by rw [HUE.out, ← HT.out, HUE.out]; exact reads_take (HB.out.new HN11.out) (by omega))); rw [HUE.out] at HSMT; clear hn6 hr6)
        | (go_at_call 14; (with_reducible refine (HSMT.out _ _).mono ?_); rintro e w12 ⟨rfl, hn7⟩; have HN12 := Lib.hid (New.then HN11.out hn7)))
      go_ret
      exact ⟨rfl, HN12.out⟩
end Go.Proofs.Ytdbolkmhmgbgfaa.fr
