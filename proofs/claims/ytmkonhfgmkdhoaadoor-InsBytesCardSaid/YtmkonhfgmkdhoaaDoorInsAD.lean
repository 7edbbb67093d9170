/-
  The document's answer for ins: Get.
-/
import Derived.Test.YtmkonhfgmkdhoaaDoorInsAC
import Derived.Test.YtmkonhfgmkdhoaaDoorInsX
namespace Go.Proofs.YtmkonhfgmkdhoaaDoor.ins
open Go.RowKit Go.Proofs.YtmkonhfgmkdhoaaDoor.mem Go.Proofs.YtmkonhfgmkdhoaaDoor.kit
set_option linter.unusedVariables false
set_option linter.unusedSimpArgs false

theorem rone_x (g o c : Nat) (z0 z1 z2 z3 z4 z5 z6 z7 : UInt8) (xo : Int) (xn : Bool) (xd xs : Int) (xu : Bool) (xf xm xz : Int) (B : Bool) (h : inOf [z0, z1, z2, z3, z4, z5, z6, z7] = ⟨xo, xn, xd, xs, xu, xf, xm, xz⟩) (hB : one [z0, z1, z2, z3, z4, z5, z6, z7] = B) (w : World) (hc : 8 ≤ c ∧ c ≤ maxLen)
    (h8 : B8 w g o (z0.toNat : Int) (z1.toNat : Int) (z2.toNat : Int) (z3.toNat : Int) (z4.toNat : Int) (z5.toNat : Int) (z6.toNat : Int) (z7.toNat : Int)) :
    Calls Tryd.prog 25 #[.slice (some ⟨g, o, none⟩) 8 c] w fun e w' => e = .returned (.tuple #[.agg #[.int .u8 xo, .bool xn, .int .i64 xd, .int .i64 xs, .bool xu, .int .i64 xf, .int .i64 xm, .int .i64 xz], .bool B]) ∧ New w w' := by
  have H := rone_any g o c _ _ _ _ _ _ _ _ w hc (yc_le z0).1 (yc_le z0).2 (yc_le z1).1 (yc_le z1).2 (yc_le z2).1 (yc_le z2).2 (yc_le z3).1 (yc_le z3).2 (yc_le z4).1 (yc_le z4).2 (yc_le z5).1 (yc_le z5).2 (yc_le z6).1 (yc_le z6).2 (yc_le z7).1 (yc_le z7).2 h8 _ _ rfl rfl [z0, z1, z2, z3, z4, z5, z6, z7] ⟨rfl, rfl⟩
  have e : inN (z0.toNat : Int) (z1.toNat : Int) (z2.toNat : Int) (z3.toNat : Int) (z4.toNat : Int) (z5.toNat : Int) (z6.toNat : Int) (z7.toNat : Int) = ⟨xo, xn, xd, xs, xu, xf, xm, xz⟩ := h
  rw [e] at H
  unfold one at hB
  rw [h] at hB
  rw [hB] at H
  exact H

theorem reads_in2 (w : World) (t t' : TypeId) (o : Int) (n : Bool) (d s : Int) (u : Bool) (f m z : Int) : Reads ((w.alloc (.cells #[.int .u8 o, .bool n, .int .i64 d, .int .i64 s, .bool u, .int .i64 f, .int .i64 m, .int .i64 z] t)).alloc (.cells #[.int .u8 o, .bool n, .int .i64 d, .int .i64 s, .bool u, .int .i64 f, .int .i64 m, .int .i64 z] t')) ((w.alloc (.cells #[.int .u8 o, .bool n, .int .i64 d, .int .i64 s, .bool u, .int .i64 f, .int .i64 m, .int .i64 z] t)).alloc (.cells #[.int .u8 o, .bool n, .int .i64 d, .int .i64 s, .bool u, .int .i64 f, .int .i64 m, .int .i64 z] t')).heap.size 8 (some ⟨w.heap.size + 1, 0, none⟩) 1 (vi [⟨o, n, d, s, u, f, m, z⟩]) := by
  have h := reads_ins (w.alloc (.cells #[.int .u8 o, .bool n, .int .i64 d, .int .i64 s, .bool u, .int .i64 f, .int .i64 m, .int .i64 z] t)) t' o n d s u f m z
  have e : (w.alloc (.cells #[.int .u8 o, .bool n, .int .i64 d, .int .i64 s, .bool u, .int .i64 f, .int .i64 m, .int .i64 z] t)).heap.size = w.heap.size + 1 := World.size_alloc _ _
  rw [e] at h
  exact h

set_option maxRecDepth 100000 in
set_option maxHeartbeats 4000000 in
theorem rget_any (A : Option Addr) (n c : Nat) (l : List UInt8) (w : World) (hn : n = l.length) (hl : n ≤ 1099511627776) (hc : n ≤ c ∧ c ≤ maxLen) (hA : Reads w w.heap.size 1 A n (vb l)) :
    Calls Tryd.prog 11 #[.slice A n c] w (GetD w l) := by
  obtain ⟨i0, hi, hz0, hz1, hz2⟩ := info_parts ins_info
  by_cases hg : 32768 < n
  · have hE : getE l = 3 := by simp only [getE]; rw [if_pos (by omega)]
    have HE := Lib.hid hE
    have t1 : (32768 : Int) < (n : Int) := by omega
    clear hE hA hn
    go_enter Tryd.func11, Tryd.ntmps11
    go_wp2
    go_ret2
    exact getD_no HE.out (by decide) (new_refl w)
  · have t1 : ¬ (32768 : Int) < (n : Int) := by omega
    by_cases h8 : n % 8 = 0
    · obtain ⟨g, o, hgo⟩ := reads_spot hA
      obtain ⟨m, hm⟩ : ∃ m, n / 8 = m := ⟨_, rfl⟩
      have hm8 : n = 8 * m := by omega
      have hpl : (pcs l).length = m := by rw [pcs_length]; omega
      have HPL := Lib.hid hpl
      have HN : Hid (8 * m = l.length) := Lib.hid (by omega)
      have HGO := Lib.hid hgo
      have HA := Lib.hid hA
      have HC := Lib.hid hc
      have hc1 := hc.1
      have hc2 : (c : Int) ≤ 9223372036854775807 := by have := hc.2; unfold maxLen at this; omega
      clear hpl hm hgo hA hn hc h8
      subst hm8
      have hm4 : m ≤ 4096 := by omega
      have t2 : ((((8 * m : Nat) : Int) % 8) == 0) = true := by simp
      have t3 : ((((8 * m : Nat) : Int) % 8) != 0) = false := by simp
      go_enter Tryd.func11, Tryd.ntmps11
      go_wp2
      go_loopw [4, 5] (fun v i wr => ∃ k : Nat, k ≤ m ∧ i = .int .i64 ((8 * k : Nat) : Int) ∧ ((pcs l).take k).all one = true ∧ wr.ownsRow w.heap.size 37 8 v k (vi (((pcs l).take k).map inOf)) ∧ New w wr) (fun _ i _ => 8 * m - (intOf i).toNat)
      case atStart => exact ⟨0, Nat.zero_le _, rfl, rfl, World.ownsRow_nil _ _ _ _, new_refl _⟩
      case round =>
        obtain ⟨k, hk, rfl, hall, hown, hnw⟩ := hrel
        have HNW := Lib.hid hnw
        have HALL := Lib.hid hall
        have HOWN := Lib.hid hown
        clear hnw hall hown
        by_cases hlt : k < m
        · have hA1 := HGO.out (by omega)
          have hR1 := HA.out
          rw [hA1] at hR1
          obtain ⟨hgw, z0, z1, z2, z3, z4, z5, z6, z7, hz, c0, c1, c2, c3, c4, c5, c6, c7⟩ := piece_at hR1 HN.out (x := k) (by omega)
          have HB8 : Hid (B8 wr g (o + 8 * k) (z0.toNat : Int) (z1.toNat : Int) (z2.toNat : Int) (z3.toNat : Int) (z4.toNat : Int) (z5.toNat : Int) (z6.toNat : Int) (z7.toNat : Int)) := Lib.hid (B8.new ⟨hgw, c0, c1, c2, c3, c4, c5, c6, c7⟩ HNW.out)
          clear c0 c1 c2 c3 c4 c5 c6 c7 hgw hR1
          subst hA1
          obtain ⟨x, hx⟩ : ∃ x, inOf (pc l k) = x := ⟨_, rfl⟩
          obtain ⟨ox, nx, dx, sx, ux, fx, mx, zx⟩ := x
          obtain ⟨B, hB⟩ : ∃ B, one (pc l k) = B := ⟨_, rfl⟩
          have HI := Lib.hid (hz ▸ hx)
          have HX := Lib.hid hx
          have HO := Lib.hid (hz ▸ hB)
          have HB := Lib.hid hB
          have HKP : Hid (k < (pcs l).length) := Lib.hid (by rw [HPL.out]; exact hlt)
          clear hx hB hz
          have q1 : (8 * k : Nat) + 8 ≤ 8 * m := by omega
          have q2 : ((8 * k : Nat) : Int) < ((8 * m : Nat) : Int) := by omega
          have q3 : ¬ c = 8 * k := by omega
          have q4 : 8 * k + 8 - 8 * k = 8 := by omega
          have HC8 : Hid (8 ≤ c - 8 * k ∧ c - 8 * k ≤ maxLen) := Lib.hid ⟨by omega, by have := HC.out.2; omega⟩
          rcases B with _ | _
          · go_wp2_with (go_at_call 25; (with_reducible refine (rone_x g (o + 8 * k) (c - 8 * k) _ _ _ _ _ _ _ _ _ _ _ _ _ _ _ _ false HI.out HO.out _ HC8.out HB8.out).mono ?_); rintro e w2 ⟨rfl, hn2⟩)
            have hE : getE l = 4 := by unfold getE; rw [if_neg (by have := HN.out; omega), if_neg (by have := HN.out; omega), if_neg (by rw [bad_at HKP.out HB.out]; decide)]
            have HE := Lib.hid hE
            clear hE
            have hN2 := New.then HNW.out hn2
            go_ret2
            exact getD_no HE.out (by decide) (hN2.alloc hN2.size _)
          · go_wp2_with (first
              | (go_at_call 25; (with_reducible refine (rone_x g (o + 8 * k) (c - 8 * k) _ _ _ _ _ _ _ _ _ _ _ _ _ _ _ _ true HI.out HO.out _ HC8.out HB8.out).mono ?_); rintro e w2 ⟨rfl, hn2⟩; have HN2 := Lib.hid (New.then HNW.out hn2); have HOW := Lib.hid (own_new HOWN.out hn2); have HRI := Lib.hid (reads_in2 w2 37 37 ox nx dx sx ux fx mx zx); clear hn2)
              | (at_builtin; refine wpList_append_any _ rfl (.tmp 32) (.tmp 34) 22 rfl w.heap.size 37 i0 _ 8 56 Tryd.underlying22 hi hz0 hz1 hz2 rfl (by omega) _ _ _ rfl ((HOW.out.alloc _).alloc _) _ _ 1 1 _ rfl HRI.out (vi_one _) (by unfold maxLen; omega) (by omega) (by have := HN2.out.size; simp; omega) ?_; intro v4 w4 hown4 hg4 hat4))
            have hNa := (HN2.out.alloc HN2.out.size (.cells #[.int .u8 ox, .bool nx, .int .i64 dx, .int .i64 sx, .bool ux, .int .i64 fx, .int .i64 mx, .int .i64 zx] 37))
            have hNb := hNa.alloc hNa.size (.cells #[.int .u8 ox, .bool nx, .int .i64 dx, .int .i64 sx, .bool ux, .int .i64 fx, .int .i64 mx, .int .i64 zx] 37)
            have hN4 : New w w4 := hNb.grown hg4 hNb.size (fun j hj => (HOW.out.lt j hj).1)
            have e4 : vi (((pcs l).take k).map inOf) ++ vi [⟨ox, nx, dx, sx, ux, fx, mx, zx⟩] = vi (((pcs l).take (k + 1)).map inOf) := by rw [vis_snoc HKP.out, HX.out]
            rw [e4] at hown4
            have hall4 := ones_snoc HKP.out HB.out HALL.out
            clear e4 hNa hNb
            go_roundw
            case rel => exact ⟨k + 1, by omega, by go_num, hall4, hown4, hN4⟩
            case measure => simp [intOf]; omega
        · obtain rfl : k = m := by omega
          have h1 := HALL.out
          have h2 := HOWN.out
          have e0 : (pcs l).take k = pcs l := List.take_of_length_le (by rw [HPL.out]; exact Nat.le_refl _)
          rw [e0] at h1 h2
          have hE : getE l = 0 := by unfold getE; rw [if_neg (by have := HN.out; omega), if_neg (by have := HN.out; omega), if_pos h1]
          have hL : getL l = (pcs l).map inOf := by unfold getL; rw [if_pos hE]
          have hLL : (getL l).length = k := by rw [hL, List.length_map, HPL.out]
          rw [← hL] at h2
          have HE := Lib.hid hE
          have HLL := Lib.hid hLL
          have H2 := Lib.hid h2
          have hnw := HNW.out
          have q2 : ¬ ((8 * k : Nat) : Int) < ((8 * k : Nat) : Int) := by omega
          clear h1 h2 hE hL hLL e0
          go_wp2
          go_ret2
          obtain ⟨A', c', rfl, -, -, -⟩ := own_len H2.out
          refine ⟨A', c', ?_, ?_, hnw⟩
          · rw [HLL.out, HE.out]
            rfl
          · rw [HLL.out]; exact H2.out
    · have hE : getE l = 4 := by simp only [getE]; rw [if_neg (by omega), if_pos (by omega)]
      have HE := Lib.hid hE
      have t2 : (((n : Int) % 8) == 0) = false := by simp; omega
      have t3 : (((n : Int) % 8) != 0) = true := by simp; omega
      clear hE hA hn
      go_enter Tryd.func11, Tryd.ntmps11
      go_wp2
      go_ret2
      exact getD_no HE.out (by decide) (new_refl w)
end Go.Proofs.YtmkonhfgmkdhoaaDoor.ins
