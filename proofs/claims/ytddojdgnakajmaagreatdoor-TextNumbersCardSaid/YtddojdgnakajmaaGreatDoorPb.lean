/-
  The document's Parse: a number, a register.
-/
import Derived.Test.YtddojdgnakajmaaGreatDoorPa
namespace Go.Proofs.YtddojdgnakajmaaGreatDoor.txt
open Go.RowKit Go.Proofs.YtddojdgnakajmaaGreatDoor.mem Go.Proofs.YtddojdgnakajmaaGreatDoor.kit Go.Proofs.YtddojdgnakajmaaGreatDoor.ins
set_option linter.unusedVariables false
set_option linter.unusedSimpArgs false

theorem wrap_I64 (x : Int) : I64 (wrap64 x) := by
  unfold wrap64 I64
  omega
theorem vtake {t : Bs} {k : Nat} (hk : k < t.length) : valOf (t.take (k + 1)) = 10 * valOf (t.take k) + (t[k].toNat - 48) := by
  rw [List.take_succ_eq_append_getElem hk, val_end]
theorem dig_take {t : Bs} {k : Nat} (hk : k < t.length) : (t.take (k + 1)).all dig = ((t.take k).all dig && dig t[k]) := by
  rw [List.take_succ_eq_append_getElem hk, List.all_append]
  simp
def NumD (t : Bs) (w : World) (e : Ending) (w' : World) : Prop := ∃ n, e = .returned (.tuple #[.int .i64 n, .bool (numOf t).isSome]) ∧ I64 n ∧ (∀ m, numOf t = some m → n = m) ∧ New w w'
theorem NumD.no {t : Bs} {w w' : World} (h : numOf t = none) (n : Int) (hn : I64 n) (hw : New w w') : NumD t w (.returned (.tuple #[.int .i64 n, .bool false])) w' :=
  ⟨n, by rw [h]; rfl, hn, (fun m e => by rw [h] at e; cases e), hw⟩
theorem NumD.yes {t : Bs} {w w' : World} {m : Int} (h : numOf t = some m) (n : Int) (hn : n = m) (hi : I64 n) (hw : New w w') : NumD t w (.returned (.tuple #[.int .i64 n, .bool true])) w' :=
  ⟨n, by rw [h]; rfl, hi, (fun k e => by rw [h] at e; cases e; exact hn), hw⟩
theorem numo_none {t : Bs} {k : Nat} (hk : k < t.length) (h : dig t[k] = false) : numOf t = none := by
  unfold numOf
  rw [if_neg]
  intro hc
  have := List.all_eq_true.1 hc.2.2.2 _ (List.getElem_mem hk)
  rw [h] at this
  cases this
theorem num_is {t : Bs} (hd : t.all dig = true) : numOf t = if 1 ≤ t.length ∧ t.length ≤ 10 ∧ (t.length = 1 ∨ t.head? ≠ some 48) then some (valOf t : Int) else none := by
  unfold numOf
  by_cases h1 : t.length = 1
  · obtain ⟨c, rfl⟩ := List.length_eq_one_iff.1 h1
    by_cases hc : c = 48
    · subst hc; simp [hd]
    · simp [hd, hc]
  · have h2 : t ≠ [48] := fun e => h1 (by rw [e]; rfl)
    simp only [hd, h1, h2, false_or, and_true]
theorem i0 : I64 0 := ⟨by omega, by omega⟩

set_option maxRecDepth 100000 in
set_option maxHeartbeats 1000000 in
theorem rnumber_any (t : Bs) (w : World) (ht : t.length ≤ 1000000000) : Calls Tryz.prog 203 #[.string ⟨t.toArray⟩] w (NumD t w) := by
  go_enter Tryz.func203, Tryz.ntmps203
  go_wp2
  go_loopw [4, 5] (fun v i wr => ∃ (k : Nat) (n : Int), k ≤ t.length ∧ i = .int .i64 k ∧ v = .int .i64 n ∧ I64 n ∧ (t.take k).all dig = true ∧ (k ≤ 10 → n = (valOf (t.take k) : Int)) ∧ wr = w) (fun _ i _ => t.length - (intOf i).toNat)
  case atStart => exact ⟨0, 0, Nat.zero_le _, rfl, rfl, ⟨by omega, by omega⟩, by simp, fun _ => by simp [valOf], rfl⟩
  case round =>
    obtain ⟨k, n, hk, rfl, rfl, hn, hd, hv, rfl⟩ := hrel
    have HD := Lib.hid hd
    have HV := Lib.hid hv
    have HI := Lib.hid hn
    clear hd hv hn
    by_cases hlt : k < t.length
    · have t3 : (k : Int) < (t.length : Int) := by omega
      have t3b : (0 : Int) ≤ (k : Int) := by omega
      obtain ⟨c, hc⟩ : ∃ c, t[k] = c := ⟨_, rfl⟩
      have HC := Lib.hid hc
      have hx : (⟨t.toArray⟩ : ByteArray)[k]'(by show k < t.toArray.size; simpa using hlt) = c := by show t.toArray[k] = c; simpa using hc
      by_cases h0 : c.toNat < 48
      · have t4 : (c.toNat : Int) < 48 := by omega
        have hno : numOf t = none := numo_none hlt (by rw [hc]; simp [dig]; omega)
        have HNO := Lib.hid hno
        clear hc hno
        go_wp2
        refine bodyPost_ret (v := .tuple #[.int .i64 0, .bool false]) (by simp [results, Tryz.results203, go_sem]) rfl ?_
        exact NumD.no HNO.out 0 i0 (new_refl _)
      · have t4 : ¬ (c.toNat : Int) < 48 := by omega
        by_cases h1 : 57 < c.toNat
        · have t5 : (57 : Int) < (c.toNat : Int) := by omega
          have hno : numOf t = none := numo_none hlt (by rw [hc]; simp [dig]; omega)
          have HNO := Lib.hid hno
          clear hc hno
          go_wp2
          refine bodyPost_ret (v := .tuple #[.int .i64 0, .bool false]) (by simp [results, Tryz.results203, go_sem]) rfl ?_
          exact NumD.no HNO.out 0 i0 (new_refl _)
        · have t5 : ¬ (57 : Int) < (c.toNat : Int) := by omega
          have t6 : IntKind.u8.wrap ((c.toNat : Int) - 48) = (c.toNat : Int) - 48 := IntWalk.u8_in _ (by omega)
          have hdk : dig t[k] = true := by rw [hc]; simp [dig]; omega
          have HDK : Hid ((t.take (k + 1)).all dig = true) := Lib.hid (by rw [dig_take hlt, HD.out, hdk]; rfl)
          by_cases hk9 : k < 10
          · have hv := HV.out (by omega)
            have hb := val_le 9 (t.take k) (by rw [List.length_take]; omega) HD.out
            have hvt : (valOf (t.take (k + 1)) : Int) = 10 * n + ((c.toNat : Int) - 48) := by rw [vtake hlt, hc, hv]; omega
            have HVT := Lib.hid hvt
            have w1 : IntKind.i64.wrap (10 * n) = 10 * n := IntWalk.i64_in _ (by omega)
            have w2 : IntKind.i64.wrap (10 * n + ((c.toNat : Int) - 48)) = 10 * n + ((c.toNat : Int) - 48) := IntWalk.i64_in _ (by omega)
            have hI : I64 (10 * n + ((c.toNat : Int) - 48)) := ⟨by omega, by omega⟩
            have HII := Lib.hid hI
            clear hc hdk hv hb hvt hI
            go_wp2
            go_roundw
            case rel => exact ⟨k + 1, 10 * n + ((c.toNat : Int) - 48), by omega, by go_num, by go_num, HII.out, HDK.out, (fun _ => HVT.out.symm), trivial⟩
            case measure => simp [intOf]; omega
          · clear hc hdk
            go_wp2
            go_roundw
            case rel => exact ⟨k + 1, _, by omega, by go_num, rfl, wrap_I64 _, HDK.out, (fun h => by omega), trivial⟩
            case measure => simp [intOf]; omega
    · obtain rfl : k = t.length := by omega
      have t3 : ¬ (t.length : Int) < (t.length : Int) := by omega
      have hd := HD.out
      have hv := HV.out
      rw [List.take_of_length_le (Nat.le_refl _)] at hd hv
      have HN := Lib.hid (num_is hd)
      have HV2 := Lib.hid hv
      clear hd hv HV HD
      by_cases c1 : 1 ≤ t.length
      · have s1 : (1 : Int) ≤ (t.length : Int) := by omega
        have s1d : decide ((1 : Int) ≤ (t.length : Int)) = true := decide_eq_true s1
        by_cases c2 : t.length ≤ 10
        · have s2 : (t.length : Int) ≤ 10 := by omega
          have s2d : decide ((t.length : Int) ≤ 10) = true := decide_eq_true s2
          by_cases c3 : t.length = 1
          · have s3 : (t.length : Int) = 1 := by omega
            have s3d : ((t.length : Int) == 1) = true := by simp [s3]
            have hn2 : numOf t = some (valOf t : Int) := by rw [HN.out, if_pos ⟨c1, c2, .inl c3⟩]
            have HNO := Lib.hid hn2
            clear hn2
            go_wp2
            go_quiet (fail)
            go_wp2
            refine bodyPost_ret (v := .tuple #[.int .i64 n, .bool true]) (by simp [results, Tryz.results203, go_sem]) rfl ?_
            exact NumD.yes HNO.out n (HV2.out c2) HI.out ((new_refl _).drewN _)
          · have s3 : ¬ (t.length : Int) = 1 := by omega
            have s3d : ((t.length : Int) == 1) = false := by simp; omega
            obtain ⟨c, r, rfl⟩ : ∃ c r, t = c :: r := by
              cases t with
              | nil => simp at c1
              | cons c r => exact ⟨c, r, rfl⟩
            have e1 : ((c :: r).length : Int) = (r.length : Int) + 1 := by simp
            rw [e1] at s1 s1d s2 s2d s3 s3d
            have hx0 : (⟨(c :: r).toArray⟩ : ByteArray)[0]'(by show 0 < (c :: r).toArray.size; simp) = c := rfl
            have p0 : (0 : Int) < (r.length : Int) + 1 := by omega
            by_cases h48 : c = 48
            · have hno : numOf (c :: r) = none := by rw [HN.out, if_neg]; intro h; rcases h.2.2 with h | h; (· exact c3 h); (· exact h (by rw [h48]; rfl))
              have HNO := Lib.hid hno
              have t7 : (c.toNat : Int) = 48 := by rw [h48]; rfl
              have t7d : ((c.toNat : Int) == 48) = true := by rw [t7]; rfl
              have t7e : ((c.toNat : Int) != 48) = false := by rw [t7]; rfl
              clear hno h48
              go_wp2
              go_quiet (fail)
              go_wp2
              refine bodyPost_ret (v := .tuple #[.int .i64 n, .bool false]) (by simp [results, Tryz.results203, go_sem, hx0, t7]) rfl ?_
              exact NumD.no HNO.out n HI.out ((new_refl _).drewN _)
            · have h48n : c.toNat ≠ 48 := fun e => h48 (by rw [← UInt8.toNat_inj]; exact e)
              have hn2 : numOf (c :: r) = some (valOf (c :: r) : Int) := by rw [HN.out, if_pos ⟨c1, c2, .inr (by simpa using h48)⟩]
              have HNO := Lib.hid hn2
              have t7 : ¬ (c.toNat : Int) = 48 := by omega
              have t7d : ((c.toNat : Int) == 48) = false := by simp; omega
              have t7e : ((c.toNat : Int) != 48) = true := by simp; omega
              clear hn2 h48 h48n
              go_wp2
              go_quiet (fail)
              go_wp2
              refine bodyPost_ret (v := .tuple #[.int .i64 n, .bool true]) (by simp [results, Tryz.results203, go_sem, hx0, t7]) rfl ?_
              exact NumD.yes HNO.out n (HV2.out c2) HI.out ((new_refl _).drewN _)
        · have s2 : ¬ (t.length : Int) ≤ 10 := by omega
          have s2d : decide ((t.length : Int) ≤ 10) = false := decide_eq_false s2
          have hno : numOf t = none := by rw [HN.out, if_neg (fun h => c2 h.2.1)]
          have HNO := Lib.hid hno
          clear hno
          go_wp2
          go_quiet (fail)
          go_wp2
          refine bodyPost_ret (v := .tuple #[.int .i64 n, .bool false]) (by simp [results, Tryz.results203, go_sem]) rfl ?_
          exact NumD.no HNO.out n HI.out ((new_refl _).drewN _)
      · have s1 : ¬ (1 : Int) ≤ (t.length : Int) := by omega
        have s1d : decide ((1 : Int) ≤ (t.length : Int)) = false := decide_eq_false s1
        have hno : numOf t = none := by rw [HN.out, if_neg (fun h => c1 h.1)]
        have HNO := Lib.hid hno
        clear hno
        go_wp2
        go_quiet (fail)
        go_wp2
        refine bodyPost_ret (v := .tuple #[.int .i64 n, .bool false]) (by simp [results, Tryz.results203, go_sem]) rfl ?_
        exact NumD.no HNO.out n HI.out ((new_refl _).drewN _)
end Go.Proofs.YtddojdgnakajmaaGreatDoor.txt
