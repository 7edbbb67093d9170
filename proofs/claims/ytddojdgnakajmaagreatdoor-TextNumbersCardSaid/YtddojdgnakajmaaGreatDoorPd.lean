/-
  The document's Parse: tokens.
-/
import Derived.Test.YtddojdgnakajmaaGreatDoorPc
import Derived.Test.YtddojdgnakajmaaGreatDoorTRa
namespace Go.Proofs.YtddojdgnakajmaaGreatDoor.txt
open Go.RowKit Go.Proofs.YtddojdgnakajmaaGreatDoor.mem Go.Proofs.YtddojdgnakajmaaGreatDoor.kit Go.Proofs.YtddojdgnakajmaaGreatDoor.ins
set_option linter.unusedVariables false
set_option linter.unusedSimpArgs false

def RtkD (s : Bs) (w : World) (e : Ending) (w' : World) : Prop :=
  (∃ v ts, toks s = some ts ∧ e = .returned (.tuple #[v, .bool true]) ∧ w'.ownsRow w.heap.size 9 1 v ts.length (vs ts) ∧ New w w') ∨
  (toks s = none ∧ e = .returned (.tuple #[.slice none 0 0, .bool false]) ∧ New w w')
/-- Where tokens are gone through. -/
structure TQ (s : Bs) (w : World) (a : Nat) (D : List Bs) (v : Value) (wr : World) : Prop where
  le : a ≤ s.length
  own : wr.ownsRow w.heap.size 9 1 v D.length (vs D)
  few : D.length ≤ a
  is : toks s = (tks (ahead (s.drop a))).map (D ++ ·)
  n : New w wr
theorem drop_at {s : Bs} {a : Nat} (h : a < s.length) : s.drop a = s[a] :: s.drop (a + 1) := List.drop_eq_getElem_cons h
theorem ahead_cons {c : UInt8} {X : Bs} (h : c ≠ 35) : ahead (c :: X) = c :: ahead X := by
  unfold ahead
  rw [List.takeWhile_cons, if_pos (by simpa using h)]
theorem ahead_hash (X : Bs) : ahead (35 :: X) = [] := by
  unfold ahead
  rw [List.takeWhile_cons, if_neg (by simp)]
theorem TQ.stop {s : Bs} {w wr : World} {a : Nat} {D : List Bs} {v : Value} (h : TQ s w a D v wr) (he : a = s.length ∨ ∃ hl : a < s.length, s[a] = 35) : toks s = some D := by
  have e : ahead (s.drop a) = [] := by
    rcases he with e | ⟨hl, e⟩
    · rw [e, List.drop_length]; rfl
    · rw [drop_at hl, e]; exact ahead_hash _
  rw [h.is, e, tks_end]
  simp
theorem TQ.blank {s : Bs} {w wr : World} {a : Nat} {D : List Bs} {v : Value} (h : TQ s w a D v wr) (hl : a < s.length) (hb : blk s[a] = true) (h35 : s[a] ≠ 35) : TQ s w (a + 1) D v wr :=
  ⟨hl, h.own, Nat.le_succ_of_le h.few, by rw [h.is, drop_at hl, ahead_cons h35, tks_blank hb], h.n⟩
theorem TQ.bad {s : Bs} {w wr : World} {a : Nat} {D : List Bs} {v : Value} (h : TQ s w a D v wr) (hl : a < s.length) (hb : blk s[a] = false) (h35 : s[a] ≠ 35) (hw : wby s[a] = false) (hs : sgn s[a] = false) : toks s = none := by
  have hd : (s[a] :: ahead (s.drop (a + 1))).dropWhile blk = s[a] :: ahead (s.drop (a + 1)) := by rw [List.dropWhile_cons, if_neg (by rw [hb]; decide)]
  rw [h.is, drop_at hl, ahead_cons h35, tks_bad hd hw hs]
  rfl
theorem TQ.sign {s : Bs} {w wr wn : World} {a : Nat} {D : List Bs} {v v' : Value} (h : TQ s w a D v wr) (hl : a < s.length) (hb : blk s[a] = false) (h35 : s[a] ≠ 35) (hw : wby s[a] = false) (hs : sgn s[a] = true)
    (ho : wn.ownsRow w.heap.size 9 1 v' (D.length + 1) (vs D ++ [sv [s[a]]])) (hn : New w wn) : TQ s w (a + 1) (D ++ [[s[a]]]) v' wn := by
  refine ⟨hl, ?_, by simp; exact h.few, ?_, hn⟩
  · have e : vs (D ++ [[s[a]]]) = vs D ++ [sv [s[a]]] := by simp [vs]
    rw [e, List.length_append]
    exact ho
  · rw [h.is, drop_at hl, ahead_cons h35, tks_s hb hw hs, Option.map_map]
    congr 1
    funext l
    simp
theorem wby_35 : wby 35 = false := rfl
theorem TQ.word {s : Bs} {w wr wn : World} {a m : Nat} {D : List Bs} {v v' : Value} (h : TQ s w a D v wr) (hl : a < s.length) (h35 : s[a] ≠ 35) (hw : wby s[a] = true) (hm : a + 1 ≤ m) (hm2 : m ≤ s.length)
    (hall : ((s.drop (a + 1)).take (m - (a + 1))).all wby = true) (hend : m = s.length ∨ ∃ hl : m < s.length, wby s[m] = false)
    (ho : wn.ownsRow w.heap.size 9 1 v' (D.length + 1) (vs D ++ [sv (s[a] :: (s.drop (a + 1)).take (m - (a + 1)))])) (hn : New w wn) : TQ s w m (D ++ [s[a] :: (s.drop (a + 1)).take (m - (a + 1))]) v' wn := by
  have hX : s.drop (a + 1) = (s.drop (a + 1)).take (m - (a + 1)) ++ s.drop m := by
    conv => lhs; rw [← List.take_append_drop (m - (a + 1)) (s.drop (a + 1))]
    rw [List.drop_drop]
    congr 2
    omega
  have hno : (35 : UInt8) ∉ (s.drop (a + 1)).take (m - (a + 1)) := fun hm => by
    have := List.all_eq_true.1 hall _ hm
    rw [wby_35] at this
    cases this
  have hnw : Nw (ahead (s.drop m)) := by
    rcases hend with e | ⟨hlm, e⟩
    · rw [e, List.drop_length]
      exact nw_nil
    · rw [drop_at hlm]
      by_cases h3 : s[m] = 35
      · rw [h3, ahead_hash]; exact nw_nil
      · rw [ahead_cons h3]; exact nw_cons e
  refine ⟨hm2, ?_, by have := h.few; simp; omega, ?_, hn⟩
  · have e : vs (D ++ [s[a] :: (s.drop (a + 1)).take (m - (a + 1))]) = vs D ++ [sv (s[a] :: (s.drop (a + 1)).take (m - (a + 1)))] := by simp [vs]
    rw [e, List.length_append]
    exact ho
  · have e : ahead (s.drop (a + 1)) = (s.drop (a + 1)).take (m - (a + 1)) ++ ahead (s.drop m) := by
      conv => lhs; rw [hX]
      exact ahead_whole hno _
    rw [h.is, drop_at hl, ahead_cons h35, e, ← List.cons_append, tks_w (by simp) (by simp [hw, hall]) hnw, Option.map_map]
    congr 1
    funext l
    simp
theorem ext_at {s : Bs} {a m : Nat} (hl : a < s.length) (hm : a + 1 ≤ m) : (⟨s.toArray⟩ : ByteArray).extract a m = ⟨(s[a] :: (s.drop (a + 1)).take (m - (a + 1))).toArray⟩ := by
  rw [Lib.extract_eq]
  congr 2
  show (s.drop a).take (m - a) = _
  rw [drop_at hl, show m - a = (m - (a + 1)) + 1 by omega, List.take_succ_cons]

theorem word_more {s : Bs} {a m : Nat} (h1 : a + 1 ≤ m) (hl : m < s.length) (h : ((s.drop (a + 1)).take (m - (a + 1))).all wby = true) (hw : wby s[m] = true) : ((s.drop (a + 1)).take (m + 1 - (a + 1))).all wby = true := by
  rw [show m + 1 - (a + 1) = (m - (a + 1)) + 1 by omega, List.take_succ_eq_append_getElem (by simp; omega), List.all_append, h]
  have e : (s.drop (a + 1))[m - (a + 1)]'(by simp; omega) = s[m] := by
    rw [List.getElem_drop]
    congr 1
    omega
  rw [e]
  simp [hw]
theorem slice_at (s : Bs) (a m : Nat) (h1 : a ≤ m) (h2 : m ≤ s.length) (W : World) : (Instr.slice 9 (.string ⟨s.toArray⟩) (some (.int .i64 (a : Int))) (some (.int .i64 (m : Int))) none).run Tryz.prog W = .ok (.string ((⟨s.toArray⟩ : ByteArray).extract a m)) W := by
  have hs : (⟨s.toArray⟩ : ByteArray).size = s.length := by show s.toArray.size = _; simp
  rw [run_slice_string W 9 ⟨s.toArray⟩ .i64 .i64 _ _ Tryz.underlying9 (by omega) (by omega) (by rw [hs]; omega), Int.toNat_natCast, Int.toNat_natCast]

set_option maxRecDepth 100000 in
set_option maxHeartbeats 4000000 in
theorem rtokens_any (s : Bs) (w : World) (hs : s.length ≤ 1000000000) : Calls Tryz.prog 49 #[.string ⟨s.toArray⟩] w (RtkD s w) := by
  obtain ⟨i0, hi, hz0, hz1, hz2⟩ := info_parts' str_info
  go_enter Tryz.func49, Tryz.ntmps49
  go_wp2
  go_loopw [4, 5] (fun v i wr => ∃ (a : Nat) (D : List Bs), i = .int .i64 a ∧ TQ s w a D v wr) (fun _ i _ => s.length - (intOf i).toNat)
  case atStart => exact ⟨0, [], rfl, ⟨Nat.zero_le _, World.ownsRow_nil _ _ _ _, Nat.zero_le _, by rw [List.drop_zero]; cases h : toks s <;> simp_all [toks_eq], new_refl w⟩⟩
  case round =>
    obtain ⟨a, D, rfl, htq⟩ := hrel
    have HQ := Lib.hid htq
    have hle := htq.le
    clear htq
    by_cases hlt : a < s.length
    · have t3 : (a : Int) < (s.length : Int) := by omega
      have t3d : decide ((a : Int) < (s.length : Int)) = true := decide_eq_true t3
      have t3b : (0 : Int) ≤ (a : Int) := by omega
      obtain ⟨c, hc⟩ : ∃ c, s[a] = c := ⟨_, rfl⟩
      have HC := Lib.hid hc
      have hx : (⟨s.toArray⟩ : ByteArray)[a]'(by show a < s.toArray.size; simpa using hlt) = c := by show s.toArray[a] = c; simpa using hc
      clear hc
      by_cases h35 : c = 35
      · have t4 : (c.toNat : Int) = 35 := by rw [h35]; rfl
        have HE := Lib.hid (HQ.out.stop (.inr ⟨hlt, HC.out.trans h35⟩))
        clear h35
        go_wp2
        go_ret2
        exact .inl ⟨_, D, HE.out, rfl, HQ.out.own, HQ.out.n⟩
      · have t4 : ¬ (c.toNat : Int) = 35 := fun e => h35 (by rw [← UInt8.toNat_inj]; exact Int.ofNat.inj e)
        have t4d : ((c.toNat : Int) != 35) = true := by simpa using t4
        have H35 : Hid (s[a] ≠ 35) := Lib.hid (by rw [HC.out]; exact h35)
        have q0 : ((c.toNat : Int) == 9) = decide (c.toNat = 9) := beq_dec c 9
        have q1 : ((c.toNat : Int) == 13) = decide (c.toNat = 13) := beq_dec c 13
        have q2 : ((c.toNat : Int) == 32) = decide (c.toNat = 32) := beq_dec c 32
        have HB : Hid (blk c = (decide (c.toNat = 9) || decide (c.toNat = 13) || decide (c.toNat = 32))) := Lib.hid rfl
        clear h35
        generalize decide (c.toNat = 9) = b0 at *
        generalize decide (c.toNat = 13) = b1 at *
        generalize decide (c.toNat = 32) = b2 at *
        by_cases hbl : (b0 || b1 || b2) = true
        · have HQ2 : Hid (TQ s w (a + 1) D u4 wr) := Lib.hid (HQ.out.blank hlt (by rw [HC.out, HB.out, hbl]) H35.out)
          cases b0 <;> cases b1 <;> cases b2
          case false.false.false => exact absurd hbl (by decide)
          all_goals
            clear hbl
            go_wp2
            go_roundw
            case rel => exact ⟨a + 1, D, by go_num, HQ2.out⟩
            case measure => simp [intOf]; omega
        · have hb0 : b0 = false := by cases b0 <;> simp_all
          have hb1 : b1 = false := by cases b1 <;> simp_all
          have hb2 : b2 = false := by cases b2 <;> simp_all
          subst hb0
          subst hb1
          subst hb2
          have HBL : Hid (blk s[a] = false) := Lib.hid (by rw [HC.out, HB.out]; rfl)
          clear hbl HB
          have HOW := Lib.hid (fun W (h : New wr W) => own_new HQ.out.own h)
          cases hw : wby c with
          | true =>
            have HW : Hid (∀ W, Calls Tryz.prog 106 #[.int .u8 (c.toNat : Int)] W fun e w' => e = .returned (.bool true) ∧ W = w') := Lib.hid (fun W => hw ▸ rwordy_any c W)
            have HWT : Hid (wby s[a] = true) := Lib.hid (by rw [HC.out]; exact hw)
            clear hw
            go_wp2_with (go_at_call 106; (with_reducible refine (HW.out _).mono ?_); rintro e w1 ⟨rfl, rfl⟩)
            go_loopw [7] (fun e wo => ∃ m : Nat, a + 1 ≤ m ∧ m ≤ s.length ∧ e = .int .i64 m ∧ ((s.drop (a + 1)).take (m - (a + 1))).all wby = true ∧ wr = wo) (fun e _ => s.length - (intOf e).toNat)
            case atStart => exact ⟨a + 1, Nat.le_refl _, by omega, by go_num, by simp, rfl⟩
            case round =>
              obtain ⟨m, hm1, hm2, rfl, hall, rfl⟩ := hrel
              have HALL := Lib.hid hall
              have HEX := Lib.hid (ext_at hlt hm1)
              have hsl : ∀ W, (Instr.slice 9 (.string ⟨s.toArray⟩) (some (.int .i64 (a : Int))) (some (.int .i64 (m : Int))) none).run Tryz.prog W = .ok (.string ((⟨s.toArray⟩ : ByteArray).extract a m)) W := fun W => slice_at s a m (by omega) hm2 W
              clear hall
              by_cases hml : m < s.length
              · have m3 : (m : Int) < (s.length : Int) := by omega
                have m3d : decide ((m : Int) < (s.length : Int)) = true := decide_eq_true m3
                have m3b : (0 : Int) ≤ (m : Int) := by omega
                obtain ⟨d, hd⟩ : ∃ d, s[m] = d := ⟨_, rfl⟩
                have HD := Lib.hid hd
                have hx2 : (⟨s.toArray⟩ : ByteArray)[m]'(by show m < s.toArray.size; simpa using hml) = d := by show s.toArray[m] = d; simpa using hd
                clear hd
                cases hwd : wby d with
                | true =>
                  have HW2 : Hid (∀ W, Calls Tryz.prog 106 #[.int .u8 (d.toNat : Int)] W fun e w' => e = .returned (.bool true) ∧ W = w') := Lib.hid (fun W => hwd ▸ rwordy_any d W)
                  have HA2 : Hid (((s.drop (a + 1)).take (m + 1 - (a + 1))).all wby = true) := Lib.hid (word_more hm1 hml HALL.out (by rw [HD.out]; exact hwd))
                  clear hwd
                  go_wp2_with (go_at_call 106; (with_reducible refine (HW2.out _).mono ?_); rintro e w1 ⟨rfl, rfl⟩)
                  go_roundw
                  case rel => exact ⟨m + 1, by omega, by omega, by go_num, HA2.out, trivial⟩
                  case measure => simp [intOf]; omega
                | false =>
                  have HW2 : Hid (∀ W, Calls Tryz.prog 106 #[.int .u8 (d.toNat : Int)] W fun e w' => e = .returned (.bool false) ∧ W = w') := Lib.hid (fun W => hwd ▸ rwordy_any d W)
                  have HWD : Hid (wby s[m] = false) := Lib.hid (by rw [HD.out]; exact hwd)
                  clear hwd
                  go_wp2_with (first
                  | (go_at_call 106; (with_reducible refine (HW2.out _).mono ?_); rintro e w1 ⟨rfl, rfl⟩)
                  | (at_builtin; refine wpList_append_any _ rfl (.tmp 55) (.tmp 60) 32 rfl w.heap.size 9 i0 (.string ⟨#[]⟩) 1 16 Tryz.underlying32 hi hz0 hz1 hz2 rfl (by omega) _ D.length (vs D) rfl (HOW.out _ (new1 wr _)) (wr.heap.size + 1) (some ⟨wr.heap.size, 0, none⟩) 1 1 [.string ((⟨s.toArray⟩ : ByteArray).extract a m)] rfl ((reads_new wr 9 _).more (by simp)) (by simp [Value.oneCell']) (by have := HQ.out.few; unfold maxLen; omega) (by have := HQ.out.few; omega) (by have := HQ.out.n.size; simp; omega) ?_; intro v9 w9 hown9 hg9 hat9; have HN9 : Hid (New w w9) := Lib.hid ((New.then HQ.out.n (new1 wr _)).grown hg9 (by have := HQ.out.n.size; simp; omega) (fun j hj => (HQ.out.own.lt j hj).1)); rw [HEX.out] at hown9; have HO9 := Lib.hid hown9; clear hown9 hg9 hat9))
                  go_roundw
                  case rel => exact ⟨m, D ++ [s[a] :: (s.drop (a + 1)).take (m - (a + 1))], by go_num, HQ.out.word hlt H35.out HWT.out hm1 hm2 HALL.out (.inr ⟨hml, HWD.out⟩) (by simpa using HO9.out) HN9.out⟩
                  case measure => simp [intOf]; omega
              · obtain rfl : m = s.length := by omega
                have m3 : ¬ (s.length : Int) < (s.length : Int) := by omega
                go_wp2_with (first
                  | (at_builtin; refine wpList_append_any _ rfl (.tmp 55) (.tmp 60) 32 rfl w.heap.size 9 i0 (.string ⟨#[]⟩) 1 16 Tryz.underlying32 hi hz0 hz1 hz2 rfl (by omega) _ D.length (vs D) rfl (HOW.out _ (new1 wr _)) (wr.heap.size + 1) (some ⟨wr.heap.size, 0, none⟩) 1 1 [.string ((⟨s.toArray⟩ : ByteArray).extract a s.length)] rfl ((reads_new wr 9 _).more (by simp)) (by simp [Value.oneCell']) (by have := HQ.out.few; unfold maxLen; omega) (by have := HQ.out.few; omega) (by have := HQ.out.n.size; simp; omega) ?_; intro v9 w9 hown9 hg9 hat9; have HN9 : Hid (New w w9) := Lib.hid ((New.then HQ.out.n (new1 wr _)).grown hg9 (by have := HQ.out.n.size; simp; omega) (fun j hj => (HQ.out.own.lt j hj).1)); rw [HEX.out] at hown9; have HO9 := Lib.hid hown9; clear hown9 hg9 hat9))
                go_roundw
                case rel => exact ⟨s.length, D ++ [s[a] :: (s.drop (a + 1)).take (s.length - (a + 1))], by go_num, HQ.out.word hlt H35.out HWT.out hm1 hm2 HALL.out (.inl rfl) (by simpa using HO9.out) HN9.out⟩
                case measure => simp [intOf]; omega
          | false =>
            have HW : Hid (∀ W, Calls Tryz.prog 106 #[.int .u8 (c.toNat : Int)] W fun e w' => e = .returned (.bool false) ∧ W = w') := Lib.hid (fun W => hw ▸ rwordy_any c W)
            have HWF : Hid (wby s[a] = false) := Lib.hid (by rw [HC.out]; exact hw)
            cases hsg : sgn c with
            | false =>
              have HS : Hid (∀ W, Calls Tryz.prog 107 #[.int .u8 (c.toNat : Int)] W fun e w' => e = .returned (.bool false) ∧ W = w') := Lib.hid (fun W => hsg ▸ rsign_any c W)
              have HE := Lib.hid (HQ.out.bad hlt HBL.out H35.out HWF.out (by rw [HC.out]; exact hsg))
              clear hw hsg
              go_wp2_with (first
                | (go_at_call 106; (with_reducible refine (HW.out _).mono ?_); rintro e w1 ⟨rfl, rfl⟩)
                | (go_at_call 107; (with_reducible refine (HS.out _).mono ?_); rintro e w1 ⟨rfl, rfl⟩))
              go_ret2
              exact .inr ⟨HE.out, rfl, HQ.out.n⟩
            | true =>
              have HS : Hid (∀ W, Calls Tryz.prog 107 #[.int .u8 (c.toNat : Int)] W fun e w' => e = .returned (.bool true) ∧ W = w') := Lib.hid (fun W => hsg ▸ rsign_any c W)
              have HSG : Hid (sgn s[a] = true) := Lib.hid (by rw [HC.out]; exact hsg)
              have HEX := Lib.hid (ext_at hlt (Nat.le_refl (a + 1)))
              have hsl : ∀ W, (Instr.slice 9 (.string ⟨s.toArray⟩) (some (.int .i64 (a : Int))) (some (.int .i64 ((a : Int) + 1))) none).run Tryz.prog W = .ok (.string ((⟨s.toArray⟩ : ByteArray).extract a (a + 1))) W := fun W => slice_at s a (a + 1) (by omega) (by omega) W
              clear hw hsg
              go_wp2_with (first
                | (go_at_call 106; (with_reducible refine (HW.out _).mono ?_); rintro e w1 ⟨rfl, rfl⟩)
                | (go_at_call 107; (with_reducible refine (HS.out _).mono ?_); rintro e w1 ⟨rfl, rfl⟩)
                | (at_builtin; refine wpList_append_any _ rfl (.tmp 55) (.tmp 60) 32 rfl w.heap.size 9 i0 (.string ⟨#[]⟩) 1 16 Tryz.underlying32 hi hz0 hz1 hz2 rfl (by omega) _ D.length (vs D) rfl (HOW.out _ (new1 wr _)) (wr.heap.size + 1) (some ⟨wr.heap.size, 0, none⟩) 1 1 [.string ((⟨s.toArray⟩ : ByteArray).extract a (a + 1))] rfl ((reads_new wr 9 _).more (by simp)) (by simp [Value.oneCell']) (by have := HQ.out.few; unfold maxLen; omega) (by have := HQ.out.few; omega) (by have := HQ.out.n.size; simp; omega) ?_; intro v9 w9 hown9 hg9 hat9; have HN9 : Hid (New w w9) := Lib.hid ((New.then HQ.out.n (new1 wr _)).grown hg9 (by have := HQ.out.n.size; simp; omega) (fun j hj => (HQ.out.own.lt j hj).1)); rw [HEX.out] at hown9; have HO9 := Lib.hid hown9; clear hown9 hg9 hat9))
              go_roundw
              case rel => exact ⟨a + 1, D ++ [[s[a]]], by go_num, HQ.out.sign hlt HBL.out H35.out HWF.out HSG.out (by simpa using HO9.out) HN9.out⟩
              case measure => simp [intOf]; omega
    · obtain rfl : a = s.length := by omega
      have HE := Lib.hid (HQ.out.stop (.inl rfl))
      have t3 : ¬ (s.length : Int) < (s.length : Int) := by omega
      go_wp2
      go_ret2
      exact .inl ⟨_, D, HE.out, rfl, HQ.out.own, HQ.out.n⟩
end Go.Proofs.YtddojdgnakajmaaGreatDoor.txt
