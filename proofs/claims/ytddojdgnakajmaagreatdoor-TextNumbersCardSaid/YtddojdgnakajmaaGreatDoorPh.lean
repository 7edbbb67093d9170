/-
  The document's Parse: where a jump goes; words.
-/
import Derived.Test.YtddojdgnakajmaaGreatDoorPg
import Derived.Test.YtddojdgnakajmaaGreatDoorTZK
namespace Go.Proofs.YtddojdgnakajmaaGreatDoor.txt
open Go.RowKit Go.Proofs.YtddojdgnakajmaaGreatDoor.mem Go.Proofs.YtddojdgnakajmaaGreatDoor.kit Go.Proofs.YtddojdgnakajmaaGreatDoor.ins
set_option linter.unusedVariables false
set_option linter.unusedSimpArgs false

def sgnS (s : Ls) : Ls := badS (tkS (badS (tkS s) (nx s != [43] && nx s != [45]))) !(numOf (nx (tkS s))).isSome
def ToD (C : Cl) (s : Ls) (e : Ending) (w' : World) : Prop :=
  (isLab (nx s) = true ∧ e = .returned (.string ⟨(nx s).toArray⟩) ∧ SL C (tkS s) w') ∨
  (isLab (nx s) = false ∧ e = .returned (.string ⟨#[]⟩) ∧ ∃ f, (∀ m, numOf (nx (tkS s)) = some m → f = negI (nx s == [45]) m) ∧ SL C (inI (sgnS s) { s.i with off := f }) w')
set_option maxRecDepth 100000 in
set_option maxHeartbeats 1000000 in
theorem lto_any (C : Cl) (s : Ls) (w : World) (h : SL C s w) (hk : s.k ≤ 800) : Calls Tryz.prog 113 #[.pointer (some ⟨C.g, 0, none⟩), .pointer (some ⟨C.gi, 0, none⟩)] w (ToD C s) := by
  have H := Lib.hid h
  have k0 : s.k ≤ 1000 := by omega
  have k1 : s.k ≤ 900 := by omega
  have HTK : Hid (∀ W, SL C s W → Calls Tryz.prog 108 #[.pointer (some ⟨C.g, 0, none⟩)] W (LsD C (.string ⟨(nx s).toArray⟩) (tkS s))) := Lib.hid (fun W h2 => ltake_any C s W h2 k0)
  have HSG : Hid (∀ W, SL C s W → Calls Tryz.prog 178 #[.pointer (some ⟨C.g, 0, none⟩)] W (LsgD C s)) := Lib.hid (fun W h2 => lsigned_any C s W h2 k1)
  have HN : Hid (Calls Tryz.prog 174 #[.pointer (some ⟨C.g, 0, none⟩)] w fun e w' => e = .returned (.string ⟨(nx s).toArray⟩) ∧ New w w') := Lib.hid (lnext_any C s w h)
  obtain ⟨B, hB⟩ : ∃ B, isLab (nx s) = B := ⟨_, rfl⟩
  have HL : Hid (∀ W, Calls Tryz.prog 50 #[.string ⟨(nx s).toArray⟩] W fun e w' => e = .returned (.bool B) ∧ W = w') := Lib.hid (fun W => hB ▸ rlabel_any (nx s) W h.nxl)
  have HB := Lib.hid hB
  clear h hB
  cases B with
  | true =>
    go_enter Tryz.func113, Tryz.ntmps113
    go_wp2_with (first
      | (go_at_call 174; (with_reducible refine HN.out.mono ?_); rintro e w1 ⟨rfl, hn1⟩; have H1 := Lib.hid (H.out.new hn1); clear hn1)
      | (go_at_call 50; (with_reducible refine (HL.out _).mono ?_); rintro e w2 ⟨rfl, rfl⟩)
      | (go_at_call 108; (with_reducible refine (HTK.out _ H1.out).mono ?_); rintro e w3 ⟨rfl, h3⟩; have H3 := Lib.hid h3; clear h3))
    go_ret
    exact .inl ⟨HB.out, rfl, H3.out⟩
  | false =>
    go_enter Tryz.func113, Tryz.ntmps113
    go_wp2_with (first
      | (go_at_call 174; (with_reducible refine HN.out.mono ?_); rintro e w1 ⟨rfl, hn1⟩; have H1 := Lib.hid (H.out.new hn1); clear hn1)
      | (go_at_call 50; (with_reducible refine (HL.out _).mono ?_); rintro e w2 ⟨rfl, rfl⟩)
      | (go_at_call 178; (with_reducible refine (HSG.out _ H1.out).mono ?_); rintro e w3 ⟨n3, rfl, hi3, hm3, h3⟩; have HM3 := Lib.hid hm3; obtain ⟨c5, z5⟩ := h3.i5; have H3 : Hid (SL C (inI (sgnS s) { s.i with off := n3 }) (w3.setCell ⟨C.gi, 5, none⟩ (.int .i64 n3))) := Lib.hid (h3.seti 5 (.int .i64 n3) { s.i with off := n3 } rfl); clear hi3 hm3 h3))
    go_ret
    exact .inr ⟨HB.out, rfl, n3, HM3.out, H3.out⟩

/-- A word with its size behind it. -/
def szM (t v : Bs) : Int := if t = v ++ Lib.itoa ((2 ^ 0 : Nat) : Int) then ((2 ^ 0 : Nat) : Int) else if t = v ++ Lib.itoa ((2 ^ 1 : Nat) : Int) then ((2 ^ 1 : Nat) : Int) else if t = v ++ Lib.itoa ((2 ^ 2 : Nat) : Int) then ((2 ^ 2 : Nat) : Int) else if t = v ++ Lib.itoa ((2 ^ 3 : Nat) : Int) then ((2 ^ 3 : Nat) : Int) else 0
set_option maxRecDepth 100000 in
set_option maxHeartbeats 1000000 in
theorem rsized_any (t v : Bs) (w : World) (hv : v.length ≤ 1000) (hP : PowT w) : Calls Tryz.prog 114 #[.string ⟨t.toArray⟩, .string ⟨v.toArray⟩] w fun e w' => e = .returned (.int .i64 (szM t v)) ∧ New w w' := by
  have HP := Lib.hid hP
  clear hP
  go_enter Tryz.func114, Tryz.ntmps114
  go_wp2
  go_loopw [5] (fun i wr => ∃ k : Nat, k ≤ 4 ∧ i = .int .i64 (2 ^ k : Nat) ∧ (∀ j : Nat, j < k → t ≠ v ++ Lib.itoa ((2 ^ j : Nat) : Int)) ∧ New w wr) (fun i _ => 17 - (intOf i).toNat)
  case atStart => exact ⟨0, Nat.zero_le _, rfl, fun j h => by omega, new_refl w⟩
  case round =>
    obtain ⟨k, hk, rfl, hno, hnw⟩ := hrel
    have HNO := Lib.hid hno
    have HNW := Lib.hid hnw
    clear hno hnw
    by_cases hlt : k ≤ 3
    · obtain ⟨p, hp⟩ : ∃ p : Nat, 2 ^ k = p := ⟨_, rfl⟩
      have hp8 : 1 ≤ p ∧ p ≤ 8 := by
        rw [← hp]
        match k, hlt with
        | 0, _ => decide
        | 1, _ => decide
        | 2, _ => decide
        | 3, _ => decide
      have hp2 : 2 ^ (k + 1) = 2 * p := by rw [Nat.pow_succ, hp, Nat.mul_comm]
      rw [hp]
      have t3 : (p : Int) ≤ 8 := by omega
      have HI := Lib.hid (fun W hW => itoa_any (p : Int) W ⟨by omega, by omega⟩ hW)
      have hl := itoa_le (p : Int) ⟨by omega, by omega⟩
      obtain ⟨x, hx⟩ : ∃ x, Lib.itoa (p : Int) = x := ⟨_, rfl⟩
      have HX := Lib.hid hx
      rw [hx] at hl HI
      have a1 := fun W => add_str v x (by omega) W
      clear hx
      by_cases he : t = v ++ x
      · have HSZ : Hid (szM t v = (p : Int)) := Lib.hid (by
          have hn := HNO.out
          rw [he, ← HX.out, ← hp] at hn ⊢
          unfold szM
          match k, hlt with
          | 0, _ => rw [if_pos rfl]
          | 1, _ => rw [if_neg (hn 0 (by omega)), if_pos rfl]
          | 2, _ => rw [if_neg (hn 0 (by omega)), if_neg (hn 1 (by omega)), if_pos rfl]
          | 3, _ => rw [if_neg (hn 0 (by omega)), if_neg (hn 1 (by omega)), if_neg (hn 2 (by omega)), if_pos rfl])
        have hq : (t == v ++ x) = true := beq_iff_eq.2 he
        clear he
        go_wp2_with (go_at_call 93; refine (HI.out _ (HP.out.new HNW.out)).mono ?_; rintro e w1 ⟨rfl, hn1⟩; have HN1 := Lib.hid (New.then HNW.out hn1); clear hn1)
        go_ret
        exact ⟨by rw [HSZ.out]; rfl, HN1.out⟩
      · have hq : (t == v ++ x) = false := beq_eq_false_iff_ne.2 he
        have HE : Hid (t ≠ v ++ Lib.itoa ((2 ^ k : Nat) : Int)) := Lib.hid (by rw [hp, HX.out]; exact he)
        clear he
        go_wp2_with (go_at_call 93; refine (HI.out _ (HP.out.new HNW.out)).mono ?_; rintro e w1 ⟨rfl, hn1⟩; have HN1 := Lib.hid (New.then HNW.out hn1); clear hn1)
        go_roundw
        case rel =>
          refine ⟨k + 1, by omega, by rw [hp2]; go_num, fun j hj => ?_, HN1.out⟩
          by_cases hjk : j = k
          · rw [hjk]; exact HE.out
          · exact HNO.out j (by omega)
        case measure => simp [intOf]; omega
    · obtain rfl : k = 4 := by omega
      have HSZ : Hid (szM t v = 0) := Lib.hid (by
        have hn := HNO.out
        unfold szM
        rw [if_neg (hn 0 (by omega)), if_neg (hn 1 (by omega)), if_neg (hn 2 (by omega)), if_neg (hn 3 (by omega))])
      go_wp2
      go_ret
      exact ⟨by rw [HSZ.out]; rfl, HNW.out⟩
end Go.Proofs.YtddojdgnakajmaaGreatDoor.txt
