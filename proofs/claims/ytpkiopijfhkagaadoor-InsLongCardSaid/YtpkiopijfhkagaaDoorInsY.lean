/-
  InsLong, walked: as many as may be, and one more.
-/
import Derived.Test.YtpkiopijfhkagaaDoorInsX
import Derived.Test.YtpkiopijfhkagaaDoorInsN
import Derived.Test.YtpkiopijfhkagaaDoorWireB
namespace Go.Proofs.YtpkiopijfhkagaaDoor.ins
open Go.RowKit Go.Proofs.YtpkiopijfhkagaaDoor.mem Go.Proofs.YtpkiopijfhkagaaDoor.kit Go.Proofs.YtpkiopijfhkagaaDoor.wire
set_option linter.unusedVariables false

def ex : In := ⟨28, false, 0, 0, false, 0, 0, 0⟩
def exb : In := ⟨28, false, 0, 0, false, 0, 1, 0⟩
def exs (n : Nat) : List In := List.replicate n ex
theorem exs_length (n : Nat) : (exs n).length = n := by simp [exs]
theorem exs_succ (n : Nat) : exs (n + 1) = exs n ++ [ex] := by simp [exs, List.replicate_succ']
theorem exs_cons (n : Nat) : exs (n + 1) = ex :: exs n := by simp [exs, List.replicate_succ]
theorem exs_ok (n : Nat) : (exs n).all ok = true := by
  rw [List.all_eq_true]
  intro i hi
  rw [exs, List.mem_replicate] at hi
  rw [hi.2]
  rfl
theorem exs_bad (n : Nat) : ¬ (exb :: exs n).all ok = true := by
  rw [List.all_cons, show ok exb = false from rfl]
  simp
theorem vb_append (a b : List UInt8) : vb (a ++ b) = vb a ++ vb b := by simp [vb]
def rawL (k m : Nat) : List Value := vb (flat (exs k)) ++ List.replicate (8 * m) (.int .u8 0)
theorem rawL_length (k m : Nat) : (rawL k m).length = 8 * (k + m) := by
  rw [rawL, List.length_append, vb_length, flat_length, exs_length, List.length_replicate]; omega
theorem rawL_set (k m : Nat) : (rawL k (m + 1)).set (8 * k) (.int .u8 28) = rawL (k + 1) m := by
  have hl : (vb (flat (exs k))).length = 8 * k := by rw [vb_length, flat_length, exs_length]
  rw [rawL, List.set_append_right _ _ (by omega), hl, Nat.sub_self, rawL, exs_succ, flat_snoc, vb_append, List.append_assoc]
  rw [show 8 * (m + 1) = 8 * m + 1 + 1 + 1 + 1 + 1 + 1 + 1 + 1 by omega]
  simp only [List.replicate_succ]
  rfl
theorem rawL_at (k m : Nat) : (rawL k (m + 1))[8 * k]? = some (.int .u8 0) := by
  have hl : (vb (flat (exs k))).length = 8 * k := by rw [vb_length, flat_length, exs_length]
  rw [rawL, List.getElem?_append_right (by omega), hl, Nat.sub_self, show 8 * (m + 1) = 8 * m + 7 + 1 by omega, List.replicate_succ]
  rfl
theorem rawL_done (k : Nat) : rawL k 0 = vb (flat (exs k)) := by simp [rawL]
theorem raw_zero (n : Nat) : zrow (.int .u8 0) (8 * n) = (rawL 0 n).toArray := by
  apply Array.ext'
  simp [zrow, madeCells, rawL, exs, flat, vb, Value.cells]
  rw [List.eq_replicate_iff]
  refine ⟨by simp, fun b hb => ?_⟩
  rw [List.mem_map] at hb
  obtain ⟨x, _, rfl⟩ := hb
  rw [Nat.mod_one]
  rfl
theorem getE_exs {n : Nat} (h : n ≤ 4096) : getE (flat (exs n)) = 0 ∧ getL (flat (exs n)) = exs n := get_flat (exs_ok n) (by rw [exs_length]; exact h)
theorem getE_long {n : Nat} (h : 4096 < n) : getE (flat (exs n)) = 3 := by
  unfold getE
  rw [if_pos (by rw [flat_length, exs_length]; omega)]

theorem reads_exs {w : World} {g k : Nat} (h : Blk w g 5 (vb (flat (exs k))).toArray) : Reads w w.heap.size 1 (some ⟨g, 0, none⟩) (8 * k) (vb (flat (exs k))) := by
  have h2 := reads_blk h
  have e : (vb (flat (exs k))).toArray.size = 8 * k := by rw [List.size_toArray, vb_length, flat_length, exs_length]
  rw [e] at h2
  exact h2
/-- The first instruction's number is one. -/
theorem ri_bad {w : World} {base g c n : Nat} (h : w.ownsRow base 47 8 (.slice (some ⟨g, 0, none⟩) (n + 1) c) (n + 1) (vi (exs (n + 1)))) :
    w.cell? ⟨g, 6, none⟩ = some (.int .i64 0) ∧ w.frozen? ⟨g, 6, none⟩ = false ∧ base ≤ g ∧ RI (w.setCell ⟨g, 6, none⟩ (.int .i64 1)) (some ⟨g, 0, none⟩) (exb :: exs n) := by
  rcases h.2 with ⟨h', _⟩ | ⟨g', cap', cur, h', hb, hg, hnc, hcm, hcs, htake⟩
  · simp at h'
  · simp only [Value.slice.injEq, Option.some.injEq, Addr.mk.injEq, and_true, true_and] at h'
    obtain ⟨rfl, rfl⟩ := h'
    have hBlk : Blk w g 47 cur := hg
    have hget : ∀ j u, (vi (exs (n + 1)))[j]? = some u → cur[j]? = some u := fun j u hu => by
      rw [← htake, List.getElem?_take] at hu
      split at hu
      · simpa using hu
      · cases hu
    have e6 : (vi (exs (n + 1)))[6]? = some (.int .i64 0) := by rw [exs_cons]; rfl
    refine ⟨(hBlk.cell 6).trans (hget 6 _ e6), hBlk.frozen 6, hb, ?_⟩
    have hB2 := hBlk.set_ 6 (.int .i64 1)
    refine ⟨vi_length _, fun _ => ⟨_, rfl, hB2.lt, fun j u hu => ?_⟩⟩
    rw [Addr.add_lit, Nat.zero_add, hB2.cell j, Array.getElem?_setIfInBounds]
    have e0 : (exb :: exs n) = (exb :: exs n) := rfl
    by_cases h6 : 6 = j
    · subst h6
      have hs : 6 < cur.size := by
        have := (Array.getElem?_eq_some_iff.1 (hget 6 _ e6)).1
        exact this
      rw [if_pos rfl, if_pos hs]
      exact hu
    · rw [if_neg h6]
      refine hget j u ?_
      rw [exs_cons, ← hu]
      match j, h6 with
      | 0, _ => rfl
      | 1, _ => rfl
      | 2, _ => rfl
      | 3, _ => rfl
      | 4, _ => rfl
      | 5, _ => rfl
      | 6, h => exact absurd rfl h
      | 7, _ => rfl
      | j + 8, _ => rfl

set_option maxRecDepth 100000 in
set_option maxHeartbeats 4000000 in
theorem InsLong_any (n : Int) (bad : Bool) (w : World) (x0 : -9223372036854775808 ≤ n) (x1 : n ≤ 9223372036854775807) (hT : TAt w) :
    Calls Tryd.prog 6 #[.int .i64 n, .bool bad] w fun e w' => e = .returned (.bool true) ∧ New w w' := by
  have HT := Lib.hid hT
  clear hT
  obtain ⟨i0, hi, hz0, hz1, hz2⟩ := info_parts ins_info
  obtain ⟨D, hD⟩ : ∃ D : Nat, n % 12 = (D : Int) := ⟨(n % 12).toNat, by omega⟩
  have hD2 : D < 12 := by omega
  obtain ⟨N, hN⟩ : ∃ N : Nat, N = 4090 + D := ⟨_, rfl⟩
  have HD : Hid (n % 12 = (D : Int)) := Lib.hid hD
  have HNE : Hid ((4090 : Int) + (D : Int) = (N : Int)) := Lib.hid (by omega)
  have hN1 : 4090 ≤ N := by omega
  have hN2 : N ≤ 4101 := by omega
  clear hD hN
  go_enter Tryd.func6, Tryd.ntmps6
  go_wp2_with (go_at_call 29; refine (awake_any _ HT.out).mono ?_; rintro e w1 ⟨rfl, hn1⟩; have HN1 := Lib.hid hn1; clear hn1)
  go_loopw [5, 6] (fun v i wr => ∃ k : Nat, k ≤ N ∧ i = .int .i64 k ∧ wr.ownsRow w.heap.size 47 8 v k (vi (exs k)) ∧ New w wr) (fun _ i _ => N - (intOf i).toNat)
  case atStart => exact ⟨0, Nat.zero_le _, rfl, World.ownsRow_nil .., HN1.out⟩
  case round =>
    obtain ⟨k, hk, rfl, ho, hnw⟩ := hrel
    have HO := Lib.hid ho
    have HNW := Lib.hid hnw
    clear ho hnw
    by_cases hlt : k < N
    · have t1 : ((k : Nat) : Int) < 4090 + (D : Int) := by have := HNE.out; omega
      go_wp2_with (first
        | (go_at_call 15; refine (pick_any _ _ _ (by omega) (by omega) x0 x1).mono ?_; rintro e w4 ⟨rfl, rfl⟩; rw [HD.out])
        | (at_builtin; refine wpList_append_any _ rfl _ _ 43 rfl w.heap.size 47 i0 zins 8 56 Tryd.underlying43 hi hz0 hz1 hz2 rfl (by omega) _ _ _ rfl (HO.out.alloc _) _ _ 1 1 _ rfl (reads_ins wr _ _ _ _ _ _ _ _ _) (by simp [vi, Value.oneCell']) (by unfold maxLen; omega) (by omega) (by have := HNW.out.size; simp; omega) ?_; intro v5 w5 hown5 hg5 _))
      have hb5 : New w w5 := (HNW.out.alloc HNW.out.size _).grown hg5 (by have := HNW.out.size; simp; omega) (fun j hj => (HO.out.lt j hj).1)
      have e5 : vi (exs k) ++ vi [⟨28, false, 0, 0, false, 0, 0, 0⟩] = vi (exs (k + 1)) := by rw [exs_succ, vi_append]; rfl
      rw [e5] at hown5
      go_roundw
      case rel => exact ⟨k + 1, by omega, by go_num, hown5, hb5⟩
      case measure => simp [intOf]; omega
    · have t1 : ¬ ((k : Nat) : Int) < 4090 + (D : Int) := by have := HNE.out; omega
      obtain rfl : k = N := by omega
      obtain ⟨M, hM⟩ : ∃ M, k = M + 1 := ⟨k - 1, by omega⟩
      have ho' := HO.out
      rw [hM] at ho'
      obtain ⟨g, c, hv⟩ := ownsRow_succ ho'
      rw [hv] at ho'
      obtain ⟨r6, f6, hgb, hri⟩ := ri_bad ho'
      have HRG : Hid (RI wr (some ⟨g, 0, none⟩) (exs k)) := Lib.hid (by
        show Reads wr wr.heap.size 8 _ (exs k).length _
        rw [exs_length, hM]
        exact Reads.of_own ho')
      rw [← hM] at hv
      subst hv
      have HRB := Lib.hid hri
      have HGB := Lib.hid hgb
      have HM := Lib.hid hM
      clear hri hgb hM ho'
      by_cases hlong : 4096 < k
      · have t2 : (4096 : Int) < (k : Int) := by omega
        cases bad
        · have hnb : New w wr := HNW.out
          have HNB := Lib.hid hnb
          clear hnb
          have hmk : ∀ W : World, (Instr.makeSlice 22 (.int .i64 (8 * (k : Int))) (.int .i64 (8 * (k : Int)))).run Tryd.prog W = .ok (.slice (some ⟨W.heap.size, 0, none⟩) (8 * k) (8 * k)) (W.alloc (.cells (zrow (.int .u8 0) (8 * k)) 5)) := fun W => by have h := make_bytes (8 * k) (8 * k) (by omega) (by omega) W; rw [show ((8 * k : Nat) : Int) = 8 * (k : Int) by omega] at h; exact h
          go_wp2_with (first | (go_at_call 15; refine (pick_any _ _ _ (by omega) (by omega) x0 x1).mono ?_; rintro e w4 ⟨rfl, rfl⟩; rw [HD.out]) | (go_at_call 39; refine (put_not _ k c (exs k) _ (by rw [exs_length]) (by omega) (fun h => by omega) HRG.out (HT.out.new HNB.out)).mono ?_; rintro e w6 ⟨A6, c6, q6, rfl, hq6, hn6⟩; rw [if_pos (by omega)] at hq6; subst hq6; have HN6 := Lib.hid (New.then HNB.out hn6); clear hn6))
          clear hmk
          have hb6 : Blk (w6.alloc (.cells (zrow (.int .u8 0) (8 * k)) 5)) w6.heap.size 5 (rawL 0 k).toArray := by rw [← raw_zero]; exact Blk.new _ _ _
          have hn7 := HN6.out.alloc HN6.out.size (.cells (zrow (.int .u8 0) (8 * k)) 5)
          go_loopw [11] (fun i wr => ∃ (q m : Nat), q + m = k ∧ i = .int .i64 ((8 * q : Nat) : Int) ∧ Blk wr w6.heap.size 5 (rawL q m).toArray ∧ New w wr) (fun i _ => 8 * k - (intOf i).toNat)
          case atStart => exact ⟨0, k, by omega, rfl, hb6, hn7⟩
          case round =>
            clear hb6 hn7
            obtain ⟨q, m, hq, rfl, hb, hnw⟩ := hrel
            cases m with
            | succ m =>
              obtain ⟨x, hx⟩ : ∃ x : Nat, 8 * q = x := ⟨_, rfl⟩
              have t3 : ((x : Nat) : Int) < 8 * (k : Int) := by omega
              have r8 : wr.cell? ⟨w6.heap.size, x, none⟩ = some (.int .u8 0) := by rw [hb.cell x, ← hx, List.getElem?_toArray]; exact rawL_at q m
              have f8 := hb.frozen x
              have hb8 := hb.set_ x (.int .u8 28)
              rw [List.setIfInBounds_toArray, show (rawL q (m + 1)).set x (.int .u8 28) = rawL (q + 1) m by rw [← hx]; exact rawL_set q m] at hb8
              have hn8 : New w (wr.setCell ⟨w6.heap.size, x, none⟩ (.int .u8 28)) := Below.setCell hnw (p := ⟨w6.heap.size, x, none⟩) HN6.out.size _
              have t4 : x < 8 * k := by omega
              rw [hx]
              go_wp2
              go_roundw
              case rel => exact ⟨q + 1, m, by omega, by go_num, hb8, hn8⟩
              case measure => simp [intOf]; omega
            | zero =>
              obtain rfl : k = q := by omega
              rw [rawL_done] at hb
              have hr9 := reads_exs hb
              go_wp2_with (go_at_call 41; refine (get_not _ (8 * k) _ (flat (exs k)) _ (by rw [flat_length, exs_length]) (by omega) ⟨by omega, by unfold maxLen; omega⟩ (by rw [getE_long hlong]; decide) hr9 (HT.out.new hnw)).mono ?_; rintro e w9 ⟨A9, c9, rfl, hn9⟩; rw [getE_long hlong])
              go_ret
              exact ⟨rfl, New.then hnw hn9⟩
        · have hnb : New w (wr.setCell ⟨g, 6, none⟩ (.int .i64 1)) := Below.setCell HNW.out (p := ⟨g, 6, none⟩) HGB.out _
          have HNB := Lib.hid hnb
          clear hnb
          have hmk : ∀ W : World, (Instr.makeSlice 22 (.int .i64 (8 * (k : Int))) (.int .i64 (8 * (k : Int)))).run Tryd.prog W = .ok (.slice (some ⟨W.heap.size, 0, none⟩) (8 * k) (8 * k)) (W.alloc (.cells (zrow (.int .u8 0) (8 * k)) 5)) := fun W => by have h := make_bytes (8 * k) (8 * k) (by omega) (by omega) W; rw [show ((8 * k : Nat) : Int) = 8 * (k : Int) by omega] at h; exact h
          go_wp2_with (first | (go_at_call 15; refine (pick_any _ _ _ (by omega) (by omega) x0 x1).mono ?_; rintro e w4 ⟨rfl, rfl⟩; rw [HD.out]) | (go_at_call 39; refine (put_not _ k c (exb :: exs M) _ (by rw [List.length_cons, exs_length]; exact HM.out) (by omega) (fun h => by omega) HRB.out (HT.out.new HNB.out)).mono ?_; rintro e w6 ⟨A6, c6, q6, rfl, hq6, hn6⟩; rw [if_pos (by omega)] at hq6; subst hq6; have HN6 := Lib.hid (New.then HNB.out hn6); clear hn6))
          clear hmk
          have hb6 : Blk (w6.alloc (.cells (zrow (.int .u8 0) (8 * k)) 5)) w6.heap.size 5 (rawL 0 k).toArray := by rw [← raw_zero]; exact Blk.new _ _ _
          have hn7 := HN6.out.alloc HN6.out.size (.cells (zrow (.int .u8 0) (8 * k)) 5)
          go_loopw [11] (fun i wr => ∃ (q m : Nat), q + m = k ∧ i = .int .i64 ((8 * q : Nat) : Int) ∧ Blk wr w6.heap.size 5 (rawL q m).toArray ∧ New w wr) (fun i _ => 8 * k - (intOf i).toNat)
          case atStart => exact ⟨0, k, by omega, rfl, hb6, hn7⟩
          case round =>
            clear hb6 hn7
            obtain ⟨q, m, hq, rfl, hb, hnw⟩ := hrel
            cases m with
            | succ m =>
              obtain ⟨x, hx⟩ : ∃ x : Nat, 8 * q = x := ⟨_, rfl⟩
              have t3 : ((x : Nat) : Int) < 8 * (k : Int) := by omega
              have r8 : wr.cell? ⟨w6.heap.size, x, none⟩ = some (.int .u8 0) := by rw [hb.cell x, ← hx, List.getElem?_toArray]; exact rawL_at q m
              have f8 := hb.frozen x
              have hb8 := hb.set_ x (.int .u8 28)
              rw [List.setIfInBounds_toArray, show (rawL q (m + 1)).set x (.int .u8 28) = rawL (q + 1) m by rw [← hx]; exact rawL_set q m] at hb8
              have hn8 : New w (wr.setCell ⟨w6.heap.size, x, none⟩ (.int .u8 28)) := Below.setCell hnw (p := ⟨w6.heap.size, x, none⟩) HN6.out.size _
              have t4 : x < 8 * k := by omega
              rw [hx]
              go_wp2
              go_roundw
              case rel => exact ⟨q + 1, m, by omega, by go_num, hb8, hn8⟩
              case measure => simp [intOf]; omega
            | zero =>
              obtain rfl : k = q := by omega
              rw [rawL_done] at hb
              have hr9 := reads_exs hb
              go_wp2_with (go_at_call 41; refine (get_not _ (8 * k) _ (flat (exs k)) _ (by rw [flat_length, exs_length]) (by omega) ⟨by omega, by unfold maxLen; omega⟩ (by rw [getE_long hlong]; decide) hr9 (HT.out.new hnw)).mono ?_; rintro e w9 ⟨A9, c9, rfl, hn9⟩; rw [getE_long hlong])
              go_ret
              exact ⟨rfl, New.then hnw hn9⟩
      · have t2 : ¬ (4096 : Int) < (k : Int) := by omega
        cases bad
        · have hnb : New w wr := HNW.out
          have HNB := Lib.hid hnb
          clear hnb
          have hmk : ∀ W : World, (Instr.makeSlice 22 (.int .i64 (8 * (k : Int))) (.int .i64 (8 * (k : Int)))).run Tryd.prog W = .ok (.slice (some ⟨W.heap.size, 0, none⟩) (8 * k) (8 * k)) (W.alloc (.cells (zrow (.int .u8 0) (8 * k)) 5)) := fun W => by have h := make_bytes (8 * k) (8 * k) (by omega) (by omega) W; rw [show ((8 * k : Nat) : Int) = 8 * (k : Int) by omega] at h; exact h
          go_wp2_with (first | (go_at_call 15; refine (pick_any _ _ _ (by omega) (by omega) x0 x1).mono ?_; rintro e w4 ⟨rfl, rfl⟩; rw [HD.out]) | (go_at_call 39; refine (put_good _ k c (exs k) _ (by rw [exs_length]) (by omega) (exs_ok _) HRG.out (HT.out.new HNB.out)).mono ?_; rintro e w6 ⟨A6, c6, rfl, -, hn6⟩; have HN6 := Lib.hid (New.then HNB.out hn6); clear hn6))
          clear hmk
          have hb6 : Blk (w6.alloc (.cells (zrow (.int .u8 0) (8 * k)) 5)) w6.heap.size 5 (rawL 0 k).toArray := by rw [← raw_zero]; exact Blk.new _ _ _
          have hn7 := HN6.out.alloc HN6.out.size (.cells (zrow (.int .u8 0) (8 * k)) 5)
          go_loopw [11] (fun i wr => ∃ (q m : Nat), q + m = k ∧ i = .int .i64 ((8 * q : Nat) : Int) ∧ Blk wr w6.heap.size 5 (rawL q m).toArray ∧ New w wr) (fun i _ => 8 * k - (intOf i).toNat)
          case atStart => exact ⟨0, k, by omega, rfl, hb6, hn7⟩
          case round =>
            clear hb6 hn7
            obtain ⟨q, m, hq, rfl, hb, hnw⟩ := hrel
            cases m with
            | succ m =>
              obtain ⟨x, hx⟩ : ∃ x : Nat, 8 * q = x := ⟨_, rfl⟩
              have t3 : ((x : Nat) : Int) < 8 * (k : Int) := by omega
              have r8 : wr.cell? ⟨w6.heap.size, x, none⟩ = some (.int .u8 0) := by rw [hb.cell x, ← hx, List.getElem?_toArray]; exact rawL_at q m
              have f8 := hb.frozen x
              have hb8 := hb.set_ x (.int .u8 28)
              rw [List.setIfInBounds_toArray, show (rawL q (m + 1)).set x (.int .u8 28) = rawL (q + 1) m by rw [← hx]; exact rawL_set q m] at hb8
              have hn8 : New w (wr.setCell ⟨w6.heap.size, x, none⟩ (.int .u8 28)) := Below.setCell hnw (p := ⟨w6.heap.size, x, none⟩) HN6.out.size _
              have t4 : x < 8 * k := by omega
              rw [hx]
              go_wp2
              go_roundw
              case rel => exact ⟨q + 1, m, by omega, by go_num, hb8, hn8⟩
              case measure => simp [intOf]; omega
            | zero =>
              obtain rfl : k = q := by omega
              rw [rawL_done] at hb
              have hr9 := reads_exs hb
              go_wp2_with (go_at_call 41; refine (get_good _ (8 * k) _ k (flat (exs k)) (exs k) _ (by rw [flat_length, exs_length]) (by omega) ⟨by omega, by unfold maxLen; omega⟩ (getE_exs (by omega)).1 (getE_exs (by omega)).2 (by rw [exs_length]) hr9 (HT.out.new hnw)).mono ?_; rintro e w9 ⟨A9, c9, rfl, -, hn9⟩)
              go_ret
              exact ⟨rfl, New.then hnw hn9⟩
        · have hnb : New w (wr.setCell ⟨g, 6, none⟩ (.int .i64 1)) := Below.setCell HNW.out (p := ⟨g, 6, none⟩) HGB.out _
          have HNB := Lib.hid hnb
          clear hnb
          have hmk : ∀ W : World, (Instr.makeSlice 22 (.int .i64 (8 * (k : Int))) (.int .i64 (8 * (k : Int)))).run Tryd.prog W = .ok (.slice (some ⟨W.heap.size, 0, none⟩) (8 * k) (8 * k)) (W.alloc (.cells (zrow (.int .u8 0) (8 * k)) 5)) := fun W => by have h := make_bytes (8 * k) (8 * k) (by omega) (by omega) W; rw [show ((8 * k : Nat) : Int) = 8 * (k : Int) by omega] at h; exact h
          go_wp2_with (first | (go_at_call 15; refine (pick_any _ _ _ (by omega) (by omega) x0 x1).mono ?_; rintro e w4 ⟨rfl, rfl⟩; rw [HD.out]) | (go_at_call 39; refine (put_not _ k c (exb :: exs M) _ (by rw [List.length_cons, exs_length]; exact HM.out) (by omega) (fun h => exs_bad M h.2) HRB.out (HT.out.new HNB.out)).mono ?_; rintro e w6 ⟨A6, c6, q6, rfl, hq6, hn6⟩; rw [if_neg (by omega)] at hq6; subst hq6; have HN6 := Lib.hid (New.then HNB.out hn6); clear hn6))
          clear hmk
          have hb6 : Blk (w6.alloc (.cells (zrow (.int .u8 0) (8 * k)) 5)) w6.heap.size 5 (rawL 0 k).toArray := by rw [← raw_zero]; exact Blk.new _ _ _
          have hn7 := HN6.out.alloc HN6.out.size (.cells (zrow (.int .u8 0) (8 * k)) 5)
          go_loopw [11] (fun i wr => ∃ (q m : Nat), q + m = k ∧ i = .int .i64 ((8 * q : Nat) : Int) ∧ Blk wr w6.heap.size 5 (rawL q m).toArray ∧ New w wr) (fun i _ => 8 * k - (intOf i).toNat)
          case atStart => exact ⟨0, k, by omega, rfl, hb6, hn7⟩
          case round =>
            clear hb6 hn7
            obtain ⟨q, m, hq, rfl, hb, hnw⟩ := hrel
            cases m with
            | succ m =>
              obtain ⟨x, hx⟩ : ∃ x : Nat, 8 * q = x := ⟨_, rfl⟩
              have t3 : ((x : Nat) : Int) < 8 * (k : Int) := by omega
              have r8 : wr.cell? ⟨w6.heap.size, x, none⟩ = some (.int .u8 0) := by rw [hb.cell x, ← hx, List.getElem?_toArray]; exact rawL_at q m
              have f8 := hb.frozen x
              have hb8 := hb.set_ x (.int .u8 28)
              rw [List.setIfInBounds_toArray, show (rawL q (m + 1)).set x (.int .u8 28) = rawL (q + 1) m by rw [← hx]; exact rawL_set q m] at hb8
              have hn8 : New w (wr.setCell ⟨w6.heap.size, x, none⟩ (.int .u8 28)) := Below.setCell hnw (p := ⟨w6.heap.size, x, none⟩) HN6.out.size _
              have t4 : x < 8 * k := by omega
              rw [hx]
              go_wp2
              go_roundw
              case rel => exact ⟨q + 1, m, by omega, by go_num, hb8, hn8⟩
              case measure => simp [intOf]; omega
            | zero =>
              obtain rfl : k = q := by omega
              rw [rawL_done] at hb
              have hr9 := reads_exs hb
              go_wp2_with (go_at_call 41; refine (get_good _ (8 * k) _ k (flat (exs k)) (exs k) _ (by rw [flat_length, exs_length]) (by omega) ⟨by omega, by unfold maxLen; omega⟩ (getE_exs (by omega)).1 (getE_exs (by omega)).2 (by rw [exs_length]) hr9 (HT.out.new hnw)).mono ?_; rintro e w9 ⟨A9, c9, rfl, -, hn9⟩)
              go_ret
              exact ⟨rfl, New.then hnw hn9⟩
end Go.Proofs.YtpkiopijfhkagaaDoor.ins
