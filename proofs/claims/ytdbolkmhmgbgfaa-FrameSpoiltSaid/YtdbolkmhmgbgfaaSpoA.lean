/-
  FrameSpoilt, whole.
-/
import Derived.Test.YtdbolkmhmgbgfaaSpo
namespace Go.Proofs.Ytdbolkmhmgbgfaa.fr
open Go.RowKit Go.Proofs.Ytdbolkmhmgbgfaa.mem Go.Proofs.Ytdbolkmhmgbgfaa.kit Go.Proofs.Ytdbolkmhmgbgfaa.wire Go.Proofs.Ytdbolkmhmgbgfaa.crc
set_option linter.unusedVariables false

set_option maxRecDepth 100000 in
set_option maxHeartbeats 4000000 in
theorem spoilt_err (A : Option Addr) (n c : Nat) (which pl y : Int) (tn j jj : Nat) (fs : List Fi) (w : World) (hn : n = fs.length) (hc : n ≤ c ∧ c ≤ maxLen) (hnl : n + tot fs ≤ 20000) (hdl : ∀ i (h : i < fs.length), fs[i].data.length ≤ 1099511627776) (hA : FrOf w A fs)
    (hjj : jj < fs.length) (hok : ∀ i (h : i < fs.length), i < jj → fs[i].Ok) (hbad : ∀ (h : jj < fs.length), fs[jj].Wrong y) (hx1 : -9223372036854775808 ≤ which) (hx2 : which ≤ 9223372036854775807)
    (ht0 : tn ≠ 0) (hjn : j < n) (hj : which % (n : Int) = (j : Int)) :
    Calls Try.prog 7 #[.slice A n c, .int .i64 which, .int .i64 pl, .int .u32 tn] w fun e w' => e = .returned (.bool true) ∧ New w w' := by
  have hy : (y == 0) = false := by
    rcases hbad hjj with ⟨rfl, _⟩ | ⟨rfl, _⟩ <;> rfl
  have hyn : ¬ y = 0 := by
    rcases hbad hjj with ⟨rfl, _⟩ | ⟨rfl, _⟩ <;> decide
  have hyb : (y != 0) = true := by
    rcases hbad hjj with ⟨rfl, _⟩ | ⟨rfl, _⟩ <;> rfl
  have hjf : j < fs.length := by omega
  have HAW := Lib.hid (awake_any w)
  have HGR : Hid (∀ W, New w W → Calls Try.prog 8 #[.slice A n c] W fun e w' => e = .returned (.bool false) ∧ w' = W) := Lib.hid (fun W hW => by
    have h := great_any A n c fs W hn (by omega) (fun i h => Nat.le_trans (hdl i h) (by decide)) (hA.new hW)
    rwa [show decide (20000 < n + tot fs) = false by simp; omega] at h)
  have HOW : Hid (∀ W, New w W → Calls Try.prog 10 #[.slice A n c] W (OwnD W fs)) := Lib.hid (fun W hW => own_any A n c fs W hn (by omega) hdl (hA.new hW))
  have HPE : Hid (∀ (W : World) (gs : List Fi) (A' : Option Addr) (c' : Nat), gs.map Fi.kd = fs.map Fi.kd → FrArr W A' gs → Calls Try.prog 11 #[.slice A' gs.length c'] W (PutErr W y)) := Lib.hid (fun W gs A' c' hk hf => by
    have hl : gs.length = fs.length := by have := congrArg List.length hk; simpa using this
    have hat : ∀ i (h : i < gs.length) (h' : i < fs.length), gs[i].kind = fs[i].kind ∧ gs[i].data = fs[i].data := fun i h h' => by
      have e := congrArg (fun l => l[i]?) hk
      have e : Fi.kd gs[i] = Fi.kd fs[i] := by simpa [List.getElem?_map, List.getElem?_eq_getElem h, List.getElem?_eq_getElem h'] using e
      simpa [Fi.kd] using e
    refine put_err A' gs.length c' gs jj y W rfl (by omega) (fun i h hij => ?_) (fun h => ?_) (by omega) hf
    · have h1 := hok i (by omega) hij
      have h2 := hat i h (by omega)
      unfold Fi.Ok at h1 ⊢
      rw [h2.1, h2.2]
      exact h1
    · have h1 := hbad hjj
      have h2 := hat jj h hjj
      unfold Fi.Wrong at h1 ⊢
      rw [h2.1, h2.2]
      exact h1)
  have HPK1 := Lib.hid (fun W => pick_any which (n : Int) W (by omega) (by omega) hx1 hx2)
  rw [hj] at HPK1
  have hz1 : ((n : Int) == 0) = false := by simp; omega
  have hz2 : ((tn : Int) == 0) = false := by simp; omega
  have hjc : (j : Int) < (n : Int) := by omega
  obtain ⟨ga, o, hAe, hga, g0, g1, -⟩ := hA j hjf
  obtain ⟨xA, hxA⟩ : ∃ a, fs[j].A = a := ⟨_, rfl⟩
  obtain ⟨xc, hxc⟩ : ∃ a, fs[j].c = a := ⟨_, rfl⟩
  have hDl := hdl j hjf
  obtain ⟨D, hD⟩ : ∃ D, fs[j].data.length = D := ⟨_, rfl⟩
  rw [hxA, hxc, hD] at g1
  rw [hD] at hDl
  subst hAe
  clear hn hnl hdl hA hok hx1 hx2 hc hj hjf hD g0 hxA hxc ht0 hbad hjj
  go_enter Try.func7, Try.ntmps7
  go_wp2_with (first
    | (go_at_call 9; (with_reducible refine HAW.out.mono ?_); rintro e w1 ⟨rfl, hn1⟩; have HN1 := Lib.hid hn1; have k1 := (hn1.cell (p := ⟨ga, o + j * 2 + 1, none⟩) hga).trans g1; clear hn1)
    | (go_at_call 8; (with_reducible refine (HGR.out w1 HN1.out).mono ?_); rintro e w2 ⟨rfl, rfl⟩)
    | (go_at_call 23; (with_reducible refine (HPK1.out _).mono ?_); rintro e w7 ⟨rfl, rfl⟩)
    | (go_at_call 10; (with_reducible refine (HOW.out _ HN1.out).mono ?_); rintro e w3 ⟨gs, A3, c3, hgk, rfl, hf3, hn3⟩; have HP3 := Lib.hid (HPE.out w3 gs A3 c3 hgk hf3); have HN3 := Lib.hid (New.then HN1.out hn3); clear hn3 hf3 hgk)
    | (go_at_call 11; (with_reducible refine HP3.out.mono ?_); rintro e w4 ⟨rfl, hn4⟩; have HN4 := Lib.hid (New.then HN3.out hn4); clear hn4))
  go_ret
  exact ⟨rfl, HN4.out⟩

set_option maxRecDepth 100000 in
set_option maxHeartbeats 4000000 in
theorem spoilt_short (A : Option Addr) (n c : Nat) (which pl : Int) (tn j : Nat) (fs : List Fi) (w : World) (hn : n = fs.length) (hc : n ≤ c ∧ c ≤ maxLen) (hnl : n + tot fs ≤ 20000) (hdl : ∀ i (h : i < fs.length), fs[i].data.length ≤ 1099511627776) (hA : FrOf w A fs)
    (hok : ∀ i (h : i < fs.length), fs[i].Ok) (hx1 : -9223372036854775808 ≤ which) (hx2 : which ≤ 9223372036854775807)
    (ht0 : tn ≠ 0) (hjn : j < n) (hj : which % (n : Int) = (j : Int)) (hD4 : ∀ (h : j < fs.length), fs[j].data.length < 4) :
    Calls Try.prog 7 #[.slice A n c, .int .i64 which, .int .i64 pl, .int .u32 tn] w fun e w' => e = .returned (.bool true) ∧ New w w' := by
  have hjf : j < fs.length := by omega
  have hD4' := hD4 hjf
  have HAW := Lib.hid (awake_any w)
  have HGR : Hid (∀ W, New w W → Calls Try.prog 8 #[.slice A n c] W fun e w' => e = .returned (.bool false) ∧ w' = W) := Lib.hid (fun W hW => by
    have h := great_any A n c fs W hn (by omega) (fun i h => Nat.le_trans (hdl i h) (by decide)) (hA.new hW)
    rwa [show decide (20000 < n + tot fs) = false by simp; omega] at h)
  have HOW : Hid (∀ W, New w W → Calls Try.prog 10 #[.slice A n c] W (OwnD W fs)) := Lib.hid (fun W hW => own_any A n c fs W hn (by omega) hdl (hA.new hW))
  have hKt := flen_tot fs
  have HPE : Hid (∀ (W : World) (gs : List Fi) (A' : Option Addr) (c' : Nat), gs.map Fi.kd = fs.map Fi.kd → FrArr W A' gs → Calls Try.prog 11 #[.slice A' gs.length c'] W (fun e w' => ∃ A4 K4 c4, e = .returned (.tuple #[.slice A4 K4 c4, .int .i64 0]) ∧ New W w')) := Lib.hid (fun W gs A' c' hk hf => by
    have hl : gs.length = fs.length := by have := congrArg List.length hk; simpa using this
    have hfr := frs_of_kds hk
    refine (put_ok A' gs.length c' gs W rfl (ok_of_kds hk hok) (by omega) (by rw [hfr]; omega) hf).mono fun e w' k => ?_
    obtain ⟨A4, c4, rfl, ho, hn⟩ := k
    exact ⟨A4, _, c4, rfl, hn⟩)
  have HPK1 := Lib.hid (fun W => pick_any which (n : Int) W (by omega) (by omega) hx1 hx2)
  rw [hj] at HPK1
  have hz1 : ((n : Int) == 0) = false := by simp; omega
  have hz2 : ((tn : Int) == 0) = false := by simp; omega
  have hjc : (j : Int) < (n : Int) := by omega
  obtain ⟨ga, o, hAe, hga, g0, g1, -⟩ := hA j hjf
  obtain ⟨xA, hxA⟩ : ∃ a, fs[j].A = a := ⟨_, rfl⟩
  obtain ⟨xc, hxc⟩ : ∃ a, fs[j].c = a := ⟨_, rfl⟩
  obtain ⟨D, hD⟩ : ∃ D, fs[j].data.length = D := ⟨_, rfl⟩
  rw [hxA, hxc, hD] at g1
  rw [hD] at hD4'
  have hD4i : (D : Int) < 4 := by omega
  subst hAe
  clear hn hnl hdl hA hok hx1 hx2 hc hj hjf hD g0 hxA hxc ht0 hD4 hKt
  go_enter Try.func7, Try.ntmps7
  go_wp2_with (first
    | (go_at_call 9; (with_reducible refine HAW.out.mono ?_); rintro e w1 ⟨rfl, hn1⟩; have HN1 := Lib.hid hn1; have k1 := (hn1.cell (p := ⟨ga, o + j * 2 + 1, none⟩) hga).trans g1; clear hn1)
    | (go_at_call 8; (with_reducible refine (HGR.out w1 HN1.out).mono ?_); rintro e w2 ⟨rfl, rfl⟩)
    | (go_at_call 23; (with_reducible refine (HPK1.out _).mono ?_); rintro e w7 ⟨rfl, rfl⟩)
    | (go_at_call 10; (with_reducible refine (HOW.out _ HN1.out).mono ?_); rintro e w3 ⟨gs, A3, c3, hgk, rfl, hf3, hn3⟩; have HP3 := Lib.hid (HPE.out w3 gs A3 c3 hgk hf3); have HN3 := Lib.hid (New.then HN1.out hn3); clear hn3 hf3 hgk)
    | (go_at_call 11; (with_reducible refine HP3.out.mono ?_); rintro e w4 ⟨A4, K4, c4, rfl, hn4⟩; have HN4 := Lib.hid (New.then HN3.out hn4); clear hn4))
  go_ret
  exact ⟨rfl, HN4.out⟩

set_option maxRecDepth 100000 in
set_option maxHeartbeats 4000000 in
theorem spoilt_any (A : Option Addr) (n c : Nat) (which pl : Int) (tn : Nat) (fs : List Fi) (w : World) (hn : n = fs.length) (hc : n ≤ c ∧ c ≤ maxLen) (hnl : n ≤ 4398046511104) (hdl : ∀ i (h : i < fs.length), fs[i].data.length ≤ 140737488351232) (hA : FrOf w A fs)
    (hx1 : -9223372036854775808 ≤ which) (hx2 : which ≤ 9223372036854775807) (hy1 : -9223372036854775808 ≤ pl) (hy2 : pl ≤ 9223372036854775807) (ht1 : tn < 4294967296) :
    Calls Try.prog 7 #[.slice A n c, .int .i64 which, .int .i64 pl, .int .u32 tn] w fun e w' => e = .returned (.bool true) ∧ New w w' := by
  by_cases hg : 20000 < n + tot fs ∨ n = 0 ∨ tn = 0
  · have HAW := Lib.hid (awake_any w)
    obtain ⟨q, hq⟩ : ∃ q, decide (20000 < n + tot fs) = q := ⟨_, rfl⟩
    have HGR : Hid (∀ W, New w W → Calls Try.prog 8 #[.slice A n c] W fun e w' => e = .returned (.bool q) ∧ w' = W) := Lib.hid (fun W hW => by
      have h := great_any A n c fs W hn hnl hdl (hA.new hW)
      rwa [hq] at h)
    cases q with
    | true =>
      clear hc hA hdl hn hg hq
      go_enter Try.func7, Try.ntmps7
      go_wp2_with (first
        | (go_at_call 9; (with_reducible refine HAW.out.mono ?_); rintro e w1 ⟨rfl, hn1⟩; have HN1 := Lib.hid hn1; clear hn1)
        | (go_at_call 8; (with_reducible refine (HGR.out w1 HN1.out).mono ?_); rintro e w2 ⟨rfl, rfl⟩))
      go_ret
      exact ⟨rfl, HN1.out⟩
    | false =>
      have hl : n = 0 ∨ tn = 0 := by
        rcases hg with h | h
        · simp at hq; omega
        · exact h
      by_cases h0 : n = 0
      · have hz1 : ((n : Int) == 0) = true := by simp; omega
        clear hc hA hdl hn hg hq hl h0
        go_enter Try.func7, Try.ntmps7
        go_wp2_with (first
          | (go_at_call 9; (with_reducible refine HAW.out.mono ?_); rintro e w1 ⟨rfl, hn1⟩; have HN1 := Lib.hid hn1; clear hn1)
          | (go_at_call 8; (with_reducible refine (HGR.out w1 HN1.out).mono ?_); rintro e w2 ⟨rfl, rfl⟩))
        go_ret
        exact ⟨rfl, HN1.out⟩
      · have hz1 : ((n : Int) == 0) = false := by simp; omega
        have hz2 : ((tn : Int) == 0) = true := by simp; omega
        clear hc hA hdl hn hg hq hl h0
        go_enter Try.func7, Try.ntmps7
        go_wp2_with (first
          | (go_at_call 9; (with_reducible refine HAW.out.mono ?_); rintro e w1 ⟨rfl, hn1⟩; have HN1 := Lib.hid hn1; clear hn1)
          | (go_at_call 8; (with_reducible refine (HGR.out w1 HN1.out).mono ?_); rintro e w2 ⟨rfl, rfl⟩))
        go_ret
        exact ⟨rfl, HN1.out⟩
  · have hdl' : ∀ i (h : i < fs.length), fs[i].data.length ≤ 1099511627776 := fun i h => by have := le_tot fs i h; omega
    have hn0 : 0 < n := by omega
    obtain ⟨j, hj⟩ : ∃ j : Nat, which % (n : Int) = (j : Int) := ⟨(which % (n : Int)).toNat, by have := Int.emod_nonneg which (show (n : Int) ≠ 0 by omega); omega⟩
    have hjn : j < n := by have := Int.emod_lt_of_pos which (show (0 : Int) < (n : Int) by omega); omega
    rcases ok_or_wrong fs with hok | ⟨jj, hjj, h1, y, h2⟩
    · by_cases hD : ∀ (h : j < fs.length), fs[j].data.length < 4
      · exact spoilt_short A n c which pl tn j fs w hn hc (by omega) hdl' hA hok hx1 hx2 (by omega) hjn hj hD
      · exact spoilt_ok A n c which pl tn j fs w hn hc (by omega) hdl' hA hok hx1 hx2 hy1 hy2 (by omega) ht1 hjn hj (fun h => Nat.le_of_not_lt (fun h' => hD (fun _ => h')))
    · exact spoilt_err A n c which pl y tn j jj fs w hn hc (by omega) hdl' hA hjj h1 (fun _ => h2) hx1 hx2 (by omega) hjn hj
end Go.Proofs.Ytdbolkmhmgbgfaa.fr
