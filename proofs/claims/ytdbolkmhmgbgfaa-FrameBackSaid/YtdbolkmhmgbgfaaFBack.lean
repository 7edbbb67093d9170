/-
  FrameBack, where a frame may not be.
-/
import Derived.Test.YtdbolkmhmgbgfaaLawG
namespace Go.Proofs.Ytdbolkmhmgbgfaa.fr
open Go.RowKit Go.Proofs.Ytdbolkmhmgbgfaa.mem Go.Proofs.Ytdbolkmhmgbgfaa.kit Go.Proofs.Ytdbolkmhmgbgfaa.wire Go.Proofs.Ytdbolkmhmgbgfaa.crc
set_option linter.unusedVariables false

/-- What was scanned, put again. -/
theorem put_back {w : World} {gs : List Fi} {A : Option Addr} {c : Nat} {l : List UInt8} (hl : l.length ≤ 20000) (hg : gs.map Fi.fr = told l) (hok : ∀ i (h : i < gs.length), gs[i].Ok) (hA : FrArr w A gs) :
    Calls Try.prog 11 #[.slice A gs.length c] w fun e w' => ∃ A' c', e = .returned (.tuple #[.slice A' (fbs (told l)).length c', .int .i64 0]) ∧ Reads w' w'.heap.size 1 A' (fbs (told l)).length (vb (fbs (told l))) ∧ New w w' := by
  have hb : (fbs (told l)).length ≤ l.length := by
    have := congrArg List.length (scan_back l.length l (Nat.le_refl _)).1
    rw [List.length_append] at this
    omega
  have h9 : ∀ z : List Fr, 9 * z.length ≤ (fbs z).length := fun z => by
    induction z with
    | nil => simp
    | cons a t ih => rw [fbs_cons, List.length_append, fb_length, List.length_cons]; omega
  have hgl : gs.length = (told l).length := by rw [← hg, List.length_map]
  have := h9 (told l)
  have h := put_ok A gs.length c gs w rfl hok (by omega) (by rw [hg]; omega) hA
  refine h.mono fun e w' k => ?_
  obtain ⟨A', c', rfl, ho, hn⟩ := k
  rw [hg] at ho ⊢
  exact ⟨A', c', rfl, (own_typed ho).2.1, hn⟩

set_option maxRecDepth 100000 in
set_option maxHeartbeats 4000000 in
theorem back_err (A B : Option Addr) (n c d j : Nat) (y cut : Int) (fs : List Fi) (bs : List UInt8) (w : World) (hn : n = fs.length) (hnl : n + tot fs ≤ 20000) (hdl : ∀ i (h : i < fs.length), fs[i].data.length ≤ 1099511627776) (hA : FrOf w A fs)
    (hj : j < fs.length) (hok : ∀ i (h : i < fs.length), i < j → fs[i].Ok) (hbad : ∀ (h : j < fs.length), fs[j].Wrong y)
    (hbl : bs.length ≤ 20000) (hd : bs.length ≤ d ∧ d ≤ maxLen) (hB : Reads w w.heap.size 1 B bs.length (vb bs)) :
    Calls Try.prog 6 #[.slice A n c, .int .i64 cut, .slice B bs.length d] w fun e w' => e = .returned (.bool true) ∧ New w w' := by
  have hy : (y == 0) = false := by
    rcases hbad hj with ⟨rfl, _⟩ | ⟨rfl, _⟩ <;> rfl
  have hU : (fbs (told bs)).length ≤ bs.length := by
    have := congrArg List.length (scan_back bs.length bs (Nat.le_refl _)).1
    rw [List.length_append] at this
    omega
  have hT : bs.take (fbs (told bs)).length = fbs (told bs) := by
    have h := congrArg (List.take (fbs (told bs)).length) (scan_back bs.length bs (Nat.le_refl _)).1
    rwa [List.take_left' rfl] at h
  have HAW := Lib.hid (awake_any w)
  have HGR : Hid (∀ W, New w W → Calls Try.prog 8 #[.slice A n c] W fun e w' => e = .returned (.bool false) ∧ w' = W) := Lib.hid (fun W hW => by
    have h := great_any A n c fs W hn (by omega) (fun i h => Nat.le_trans (hdl i h) (by decide)) (hA.new hW)
    rwa [show decide (20000 < n + tot fs) = false by simp; omega] at h)
  have HOW : Hid (∀ W, New w W → Calls Try.prog 10 #[.slice A n c] W (OwnD W fs)) := Lib.hid (fun W hW =>
    own_any A n c fs W hn (by omega) hdl (hA.new hW))
  have HPE : Hid (∀ (W : World) (gs : List Fi) (A' : Option Addr) (c' : Nat), gs.map Fi.kd = fs.map Fi.kd → FrArr W A' gs → Calls Try.prog 11 #[.slice A' gs.length c'] W (PutErr W y)) := Lib.hid (fun W gs A' c' hk hf => by
    have hl : gs.length = fs.length := by have := congrArg List.length hk; simpa using this
    have hat : ∀ i (h : i < gs.length) (h' : i < fs.length), gs[i].kind = fs[i].kind ∧ gs[i].data = fs[i].data := fun i h h' => by
      have e := congrArg (fun l => l[i]?) hk
      have e : Fi.kd gs[i] = Fi.kd fs[i] := by simpa [List.getElem?_map, List.getElem?_eq_getElem h, List.getElem?_eq_getElem h'] using e
      simpa [Fi.kd] using e
    refine put_err A' gs.length c' gs j y W rfl (by omega) (fun i h hij => ?_) (fun h => ?_) (by omega) hf
    · have h1 := hok i (by omega) hij
      have h2 := hat i h (by omega)
      unfold Fi.Ok at h1 ⊢
      rw [h2.1, h2.2]
      exact h1
    · have h1 := hbad hj
      have h2 := hat j h hj
      unfold Fi.Wrong at h1 ⊢
      rw [h2.1, h2.2]
      exact h1)
  have hlb : decide ((20000 : Int) < (bs.length : Int)) = false := by simp; omega
  have HB := Lib.hid hB
  have HD := Lib.hid hd
  have HBL := Lib.hid hbl
  have HT := Lib.hid hT
  have HSC : Hid (∀ W, New w W → Calls Try.prog 20 #[.slice B bs.length d] W (ScF W bs)) := Lib.hid (fun W hW => scan_fr B bs.length d bs W rfl (by omega) hd (hB.new hW))
  obtain ⟨U, hUe⟩ : ∃ U, (fbs (told bs)).length = U := ⟨_, rfl⟩
  have HUE := Lib.hid hUe
  rw [hUe] at hU
  have hU1 : (U : Int) ≤ (bs.length : Int) := by omega
  have hU2 : U ≤ d := by omega
  have hU3 : (U : Int) ≤ (d : Int) := by omega
  clear hn hnl hdl hA hj hok hbad hbl hd hB hT hUe
  go_enter Try.func6, Try.ntmps6
  go_wp2_with (first
    | (go_at_call 9; (with_reducible refine HAW.out.mono ?_); rintro e w1 ⟨rfl, hn1⟩; have HN1 := Lib.hid hn1; clear hn1)
    | (go_at_call 8; (with_reducible refine (HGR.out w1 HN1.out).mono ?_); rintro e w2 ⟨rfl, rfl⟩)
    | (go_at_call 10; (with_reducible refine (HOW.out _ HN1.out).mono ?_); rintro e w3 ⟨gs, A3, c3, hgk, rfl, hf3, hn3⟩; have HP3 := Lib.hid (HPE.out w3 gs A3 c3 hgk hf3); have HN3 := Lib.hid (New.then HN1.out hn3); clear hn3 hf3 hgk)
    | (go_at_call 11; (with_reducible refine HP3.out.mono ?_); rintro e w4 ⟨rfl, hn4⟩; have HN4 := Lib.hid (New.then HN3.out hn4); clear hn4)
    | (go_at_call 20; (with_reducible refine (HSC.out w4 HN4.out).mono ?_); rintro e w5 ⟨hs, A5, c5, hk5, hok5, rfl, hf5, hn5⟩; rw [HUE.out]; have HN5 := Lib.hid (New.then HN4.out hn5); have HP5 := Lib.hid (put_back (c := c5) HBL.out hk5 hok5 hf5); rw [HUE.out] at HP5; clear hn5 hk5 hok5 hf5)
    | (go_at_call 11; (with_reducible refine HP5.out.mono ?_); rintro e w6 ⟨A6, c6, rfl, hr6, hn6⟩; have HN6 := Lib.hid (New.then HN5.out hn6); have HSM := Lib.hid (fun (cc dd : Nat) => same_any A6 B cc dd (fbs (told bs)) w6 (by have := HBL.out; have := HUE.out; omega) (by rw [HUE.out]; exact hr6) (by rw [HUE.out, ← HT.out, HUE.out]; exact reads_take (HB.out.new HN6.out) (by omega))); rw [HUE.out] at HSM; clear hn6 hr6)
    | (go_at_call 14; (with_reducible refine (HSM.out _ _).mono ?_); rintro e w7 ⟨rfl, hn7⟩; have HN7 := Lib.hid (New.then HN6.out hn7)))
  go_ret
  exact ⟨rfl, HN7.out⟩
end Go.Proofs.Ytdbolkmhmgbgfaa.fr
