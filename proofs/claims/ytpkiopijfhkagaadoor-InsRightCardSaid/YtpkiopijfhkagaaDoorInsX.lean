/-
  InsBack, walked.
-/
import Derived.Test.YtpkiopijfhkagaaDoorInsW
namespace Go.Proofs.YtpkiopijfhkagaaDoor.ins
open Go.RowKit Go.Proofs.YtpkiopijfhkagaaDoor.mem Go.Proofs.YtpkiopijfhkagaaDoor.kit
set_option linter.unusedVariables false

theorem reads_pre {w : World} {B n k : Nat} {A : Option Addr} {l : List UInt8} (h : Reads w B 1 A n (vb l)) (hk : k ≤ n) : Reads w B 1 A k (vb (l.take k)) := by
  have hn : l.length = n := by have := h.1; simpa [vb] using this
  refine ⟨by simp [vb]; omega, fun h0 => ?_⟩
  obtain ⟨ad, e, hb, hc⟩ := h.2 (by omega)
  refine ⟨ad, e, hb, fun j u hu => hc j u ?_⟩
  have hlt : j < k := by
    have := (List.getElem?_eq_some_iff.1 hu).1
    simp [vb] at this
    omega
  rw [show vb (l.take k) = (vb l).take k by simp [vb], List.getElem?_take, if_pos hlt] at hu
  exact hu
theorem vi_take (l : List In) (k : Nat) : vi (l.take k) = (vi l).take (8 * k) := by
  have e : vi l = vi (l.take k) ++ vi (l.drop k) := by rw [← vi_append, List.take_append_drop]
  by_cases h : k ≤ l.length
  · rw [e, List.take_left']
    rw [vi_length, List.length_take]
    omega
  · rw [List.take_of_length_le (by omega), List.take_of_length_le (by rw [vi_length]; omega)]
theorem reads_pre8 {w : World} {B n k : Nat} {A : Option Addr} {l : List In} (h : Reads w B 8 A n (vi l)) (hk : k ≤ n) : Reads w B 8 A k (vi (l.take k)) := by
  have hn : l.length = n := by have := h.1; rw [vi_length] at this; omega
  refine ⟨by rw [vi_length, List.length_take]; omega, fun h0 => ?_⟩
  obtain ⟨ad, e, hb, hc⟩ := h.2 (by omega)
  refine ⟨ad, e, hb, fun j u hu => hc j u ?_⟩
  rw [vi_take, List.getElem?_take] at hu
  split at hu
  · exact hu
  · cases hu

theorem ri_pre {w : World} {A : Option Addr} {n K : Nat} {l : List In} (hn : n = l.length) (hK : K ≤ n) (h : RI w A l) : RI w A (l.take K) := by
  have h1 := reads_pre8 h (k := K) (by omega)
  have e : (l.take K).length = K := by rw [List.length_take]; omega
  show Reads w w.heap.size 8 A (l.take K).length (vi (l.take K))
  rw [e]
  exact h1
theorem put_good (A : Option Addr) (n c : Nat) (l : List In) (w : World) (hn : n = l.length) (hl : n ≤ 4096) (h : l.all ok = true) (hA : RI w A l) (hT : TAt w) :
    Calls Tryd.prog 39 #[.slice A n c] w fun e w' => ∃ A' c', e = .returned (.tuple #[.slice A' (8 * n) c', .int .i64 0]) ∧ ((8 * n ≤ c' ∧ c' ≤ maxLen) ∧ Reads w' w'.heap.size 1 A' (8 * n) (vb (flat l))) ∧ New w w' :=
  (put_any A n c l w hn (by omega) hA hT).mono fun e w' hh => by
    obtain ⟨A', c', he, ho, hnw⟩ := hh
    have hE : putE l = 0 := by simp only [putE]; rw [if_neg (by omega), if_pos h]
    have hB : putB l = flat l := by simp only [putB]; rw [if_neg (by omega), if_pos h]
    rw [hE, hB, flat_length, ← hn] at he
    rw [hB, flat_length, ← hn] at ho
    exact ⟨A', c', he, own_caps ho, hnw⟩
theorem put_not (A : Option Addr) (n c : Nat) (l : List In) (w : World) (hn : n = l.length) (hl : n ≤ 1099511627776) (h : ¬ (n ≤ 4096 ∧ l.all ok = true)) (hA : RI w A l) (hT : TAt w) :
    Calls Tryd.prog 39 #[.slice A n c] w fun e w' => ∃ A' c' q, e = .returned (.tuple #[.slice A' 0 c', .int .i64 q]) ∧ (q = if 4096 < n then 3 else 4) ∧ New w w' :=
  (put_any A n c l w hn hl hA hT).mono fun e w' hh => by
    obtain ⟨A', c', he, ho, hnw⟩ := hh
    by_cases h1 : 4096 < l.length
    · obtain ⟨hE, hB⟩ := put_long h1
      rw [hE, hB] at he
      exact ⟨A', c', 3, he, by rw [if_pos (by omega)], hnw⟩
    · have ha : ¬ l.all ok = true := fun ha => h ⟨by omega, ha⟩
      have hE : putE l = 4 := by simp only [putE]; rw [if_neg h1, if_neg ha]
      have hB : putB l = [] := by simp only [putB]; rw [if_neg h1, if_neg ha]
      rw [hE, hB] at he
      exact ⟨A', c', 4, he, by rw [if_neg (by omega)], hnw⟩
theorem get_good (A : Option Addr) (n c m : Nat) (b : List UInt8) (l : List In) (w : World) (hn : n = b.length) (hl : n ≤ 1099511627776) (hc : n ≤ c ∧ c ≤ maxLen) (h : getE b = 0) (hL : getL b = l) (hm : m = l.length) (hA : Reads w w.heap.size 1 A n (vb b)) (hT : TAt w) :
    Calls Tryd.prog 41 #[.slice A n c] w fun e w' => ∃ A' c', e = .returned (.tuple #[.slice A' m c', .int .i64 0]) ∧ ((m ≤ c' ∧ c' ≤ maxLen) ∧ RI w' A' l) ∧ New w w' :=
  (get_any A n c b w hn hl hc hA hT).mono fun e w' hh => by
    obtain ⟨A', c', he, ho, hnw⟩ := hh
    rw [h, hL, ← hm] at he
    rw [hL, ← hm] at ho
    obtain ⟨h1, h2⟩ := own_caps ho
    exact ⟨A', c', he, ⟨h1, by rw [hm] at h2; exact h2⟩, hnw⟩
theorem get_not (A : Option Addr) (n c : Nat) (b : List UInt8) (w : World) (hn : n = b.length) (hl : n ≤ 1099511627776) (hc : n ≤ c ∧ c ≤ maxLen) (h : getE b ≠ 0) (hA : Reads w w.heap.size 1 A n (vb b)) (hT : TAt w) :
    Calls Tryd.prog 41 #[.slice A n c] w fun e w' => ∃ A' c', e = .returned (.tuple #[.slice A' 0 c', .int .i64 (getE b)]) ∧ New w w' :=
  (get_any A n c b w hn hl hc hA hT).mono fun e w' hh => by
    obtain ⟨A', c', he, ho, hnw⟩ := hh
    have hL : getL b = [] := by simp only [getL]; rw [if_neg h]
    rw [hL] at he
    exact ⟨A', c', he, hnw⟩

/-- Behind the first half. -/
structure BK (w : World) (Wx : World) (A1 : Option Addr) (m : Nat) (b : List UInt8) : Prop where
  new : New w Wx
  b : Reads Wx Wx.heap.size 1 A1 m (vb b)
  t : TAt Wx

set_option maxRecDepth 100000 in
set_option maxHeartbeats 4000000 in
theorem InsBack_any (A0 A1 : Option Addr) (n c0 m c1 : Nat) (cut : Int) (l : List In) (b : List UInt8) (w : World) (hn : n = l.length) (hm : m = b.length) (hc0 : n ≤ c0 ∧ c0 ≤ maxLen) (hc1 : m ≤ c1 ∧ c1 ≤ maxLen)
    (x0 : -9223372036854775808 ≤ cut) (x1 : cut ≤ 9223372036854775807) (hA : RI w A0 l) (hB : Reads w w.heap.size 1 A1 m (vb b)) (hT : TAt w) :
    Calls Tryd.prog 7 #[.slice A0 n c0, .slice A1 m c1, .int .i64 cut] w fun e w' => e = .returned (.bool true) ∧ New w w' := by
  have HN := Lib.hid hn
  have HM := Lib.hid hm
  have HA := Lib.hid hA
  have HB := Lib.hid hB
  have HT := Lib.hid hT
  have HC0 := Lib.hid hc0
  have HC1 := Lib.hid hc1
  have b0 : n ≤ 9223372036854775807 := by have := hc0; unfold maxLen at this; omega
  have b1 : m ≤ 9223372036854775807 := by have := hc1; unfold maxLen at this; omega
  have b2 : n ≤ c0 := hc0.1
  clear hn hm hA hB hT hc0 hc1
  by_cases h4 : 400 < n ∨ 4000 < m
  · by_cases h5 : 400 < n
    · have t1 : (400 : Int) < (n : Int) := by omega
      clear h4
      go_enter Tryd.func7, Tryd.ntmps7
      go_wp2_with (go_at_call 29; refine (awake_any _ HT.out).mono ?_; rintro e w1 ⟨rfl, hn1⟩)
      go_ret
      exact ⟨rfl, hn1⟩
    · have t1 : ¬ (400 : Int) < (n : Int) := by omega
      have t2 : (4000 : Int) < (m : Int) := by omega
      clear h4
      go_enter Tryd.func7, Tryd.ntmps7
      go_wp2_with (go_at_call 29; refine (awake_any _ HT.out).mono ?_; rintro e w1 ⟨rfl, hn1⟩)
      go_ret
      exact ⟨rfl, hn1⟩
  · have t1 : ¬ (400 : Int) < (n : Int) := by omega
    have t2 : ¬ (4000 : Int) < (m : Int) := by omega
    have n4 : n ≤ 400 := by omega
    have m4 : m ≤ 4000 := by omega
    clear h4
    by_cases hok : l.all ok = true
    · have HOK := Lib.hid hok
      clear hok
      obtain ⟨K, hK⟩ : ∃ K : Nat, cut % ((n : Int) + 1) = (K : Int) := ⟨(cut % ((n : Int) + 1)).toNat, by have := Int.emod_nonneg cut (show ((n : Int) + 1) ≠ 0 by omega); omega⟩
      have hKn : K ≤ n := by have := Int.emod_lt_of_pos cut (show 0 < ((n : Int) + 1) by omega); omega
      have HK := Lib.hid hK
      clear hK
      have hk8 : 8 * K ≤ 8 * n := by omega
      go_enter Tryd.func7, Tryd.ntmps7
      go_wp2_with (go_at_call 29; refine (awake_any _ HT.out).mono ?_; rintro e w1 ⟨rfl, hn1⟩; have HN1 := Lib.hid hn1; clear hn1)
      go_wp2_with (go_at_call 39; refine (put_good A0 n c0 l _ HN.out (by omega) HOK.out (HA.out.new HN1.out) (HT.out.new HN1.out)).mono ?_; rintro e w2 ⟨A2, c2, rfl, ⟨hc2, hr2⟩, hn2⟩)
      have HN2 := Lib.hid (New.then HN1.out hn2)
      have HR2 := Lib.hid hr2
      have HC2 := Lib.hid hc2
      have hc2a : 8 * n ≤ c2 := hc2.1
      clear hn2 hr2 hc2
      go_wp2_with (go_at_call 41; refine (get_good A2 (8 * n) c2 n (flat l) l _ (by rw [flat_length, ← HN.out]) (by omega) HC2.out (get_flat HOK.out (by have := HN.out; omega)).1 (get_flat HOK.out (by have := HN.out; omega)).2 HN.out HR2.out (HT.out.new HN2.out)).mono ?_; rintro e w3 ⟨A3, c3, rfl, ⟨hc3, hr3⟩, hn3⟩)
      have HN3 := Lib.hid (New.then HN2.out hn3)
      have HR3 := Lib.hid hr3
      have HR2b := Lib.hid (HR2.out.new hn3)
      clear hn3 hr3 hc3
      go_wp2_with (first
        | (go_at_call 15; refine (pick_any _ _ _ (by omega) (by omega) x0 x1).mono ?_; rintro e w4 ⟨rfl, rfl⟩; rw [HK.out])
        | (go_at_call 41; refine (get_good A2 (8 * K) c2 K (flat (l.take K)) (l.take K) _ (by rw [flat_length, List.length_take]; have := HN.out; omega) (by omega) ⟨by omega, HC2.out.2⟩ (get_flat (all_take HOK.out K) (by rw [List.length_take]; have := HN.out; omega)).1 (get_flat (all_take HOK.out K) (by rw [List.length_take]; have := HN.out; omega)).2 (by rw [List.length_take]; have := HN.out; omega) (by rw [flat_take_eq l K (by have := HN.out; omega)]; exact reads_pre HR2b.out hk8) (HT.out.new HN3.out)).mono ?_; rintro e w5 ⟨A5, c5, rfl, ⟨hc5, hr5⟩, hn5⟩))
      have HN5 := Lib.hid (New.then HN3.out hn5)
      have HR5 := Lib.hid hr5
      have HR3b := Lib.hid (HR3.out.new hn5)
      have HA5 := Lib.hid (HA.out.new HN5.out)
      clear hn5 hr5 hc5
      go_wp2_with (go_at_call 43; (with_reducible refine (sameIns_any _ _ n _ _ l _ HN.out (by omega) HR3b.out HA5.out).mono ?_); rintro e w6 ⟨rfl, hn6⟩)
      have HN6 := Lib.hid (New.then HN5.out hn6)
      have HR6 := Lib.hid (HR5.out.new hn6)
      have HA6 := Lib.hid (ri_pre HN.out hKn (HA5.out.new hn6))
      clear hn6
      go_wp2_with (go_at_call 43; (with_reducible refine (sameIns_any _ _ K _ _ (l.take K) _ (by rw [List.length_take]; have := HN.out; omega) (by omega) HR6.out HA6.out).mono ?_); rintro e w7 ⟨rfl, hn7⟩)
      have HBK : Hid (BK w w7 A1 m b) := Lib.hid ⟨New.then HN6.out hn7, HB.out.new (New.then HN6.out hn7), HT.out.new (New.then HN6.out hn7)⟩
      clear hn7
      by_cases hg : getE b = 0
      · obtain ⟨pb1, pb2, pb3⟩ := put_back hg
        obtain ⟨hb1, hb2, -⟩ := get_ok hg
        obtain ⟨L, hL⟩ : ∃ L, getL b = L := ⟨_, rfl⟩
        rw [hL] at pb1 pb2 pb3
        obtain ⟨q, hq⟩ : ∃ q, L.length = q := ⟨_, rfl⟩
        rw [hq] at pb3
        have hq4 : q ≤ 4096 := by omega
        have HP1 := Lib.hid pb1
        have HP2 := Lib.hid pb2
        have HQ := Lib.hid hq
        have HG := Lib.hid hg
        have HL := Lib.hid hL
        have HQ8 : Hid (8 * q = m) := Lib.hid (by have := HM.out; omega)
        clear pb1 pb2 pb3 hb1 hb2 hq hg hL
        go_wp2_with (go_at_call 41; refine (get_good A1 m c1 q b L _ HM.out (by omega) HC1.out HG.out HL.out HQ.out.symm HBK.out.b HBK.out.t).mono ?_; rintro e w20 ⟨A20, c20, rfl, ⟨hc20, hr20⟩, hn20⟩)
        have HR20 := Lib.hid hr20
        have HN20 := Lib.hid (New.then HBK.out.new hn20)
        have HB20 := Lib.hid (HBK.out.b.new hn20)
        have HT20 := Lib.hid (HBK.out.t.new hn20)
        clear hc20 hr20 hn20
        go_loopw [16] (fun i wr => ∃ k : Nat, k ≤ q ∧ i = .int .i64 k ∧ New w20 wr) (fun i _ => q - (intOf i).toNat)
        case atStart => exact ⟨0, Nat.zero_le _, rfl, new_refl _⟩
        case round =>
          obtain ⟨k, hk, rfl, hnw⟩ := hrel
          have HNW := Lib.hid hnw
          clear hnw
          by_cases hlt : k < q
          · have hlf : k < L.length := by have := HQ.out; omega
            obtain ⟨g, o, rfl, hgb, ha⟩ := HR20.out.at_ hlf
            have hox := List.all_eq_true.1 HP1.out _ (List.getElem_mem hlf)
            obtain ⟨x, hx⟩ : ∃ x, L[k] = x := ⟨_, rfl⟩
            rw [hx] at ha hox
            clear hx
            obtain ⟨ox, nx, dx, sx, ux, fx, mx, zx⟩ := x
            obtain ⟨a0, a1, a2, a3, a4, a5, a6, a7⟩ := ha.new hgb HNW.out
            simp only at a0 a1 a2 a3 a4 a5 a6 a7
            have HOX := Lib.hid hox
            clear ha hgb hox
            go_wp2_with (go_at_call 30; refine (right_x _ _ _ _ _ _ _ _ true HOX.out _).mono ?_; rintro e w21 ⟨rfl, hn21⟩)
            have hN21 := New.then HNW.out hn21
            go_roundw
            case rel => exact ⟨k + 1, by omega, by go_num, hN21⟩
            case measure => simp [intOf]; omega
          · obtain rfl : k = q := by omega
            go_wp2_with (first
              | (go_at_call 39; refine (put_good A20 k c20 L _ HQ.out.symm (by omega) HP1.out (HR20.out.new HNW.out) (HT20.out.new HNW.out)).mono ?_; rintro e w22 ⟨A22, c22, rfl, ⟨hc22, hr22⟩, hn22⟩; rw [HP2.out] at hr22; rw [HQ8.out] at hr22; rw [HQ8.out]; have HR22 := Lib.hid hr22; have HN22 := Lib.hid (New.then HNW.out hn22); clear hr22 hn22)
              | (go_at_call 19; refine (same_len _ _ m m _ _ b _ HM.out HM.out (by have := HM.out; omega) HR22.out (HB20.out.new HN22.out)).mono ?_; rintro e w23 ⟨rfl, hn23⟩))
            go_ret
            exact ⟨rfl, New.then HN20.out (New.then HN22.out hn23)⟩
      · have hgq : (getE b == 0) = false := by simpa using hg
        have hgq2 : (getE b != 0) = true := by simpa using hg
        have HG := Lib.hid hg
        clear hg
        go_wp2_with (go_at_call 41; refine (get_not A1 m c1 b _ HM.out (by omega) HC1.out HG.out HBK.out.b HBK.out.t).mono ?_; rintro e w20 ⟨A20, c20, rfl, hn20⟩)
        have hN20 := New.then HBK.out.new hn20
        go_ret
        exact ⟨rfl, hN20⟩
    · have HOK := Lib.hid hok
      clear hok
      go_enter Tryd.func7, Tryd.ntmps7
      go_wp2_with (go_at_call 29; refine (awake_any _ HT.out).mono ?_; rintro e w1 ⟨rfl, hn1⟩; have HN1 := Lib.hid hn1; clear hn1)
      go_wp2_with (go_at_call 39; refine (put_not A0 n c0 l _ HN.out (by omega) (fun h => HOK.out h.2) (HA.out.new HN1.out) (HT.out.new HN1.out)).mono ?_; rintro e w2 ⟨A2, c2, q2, rfl, hq2, hn2⟩; rw [if_neg (by omega)] at hq2; subst hq2)
      have HBK : Hid (BK w w2 A1 m b) := Lib.hid ⟨New.then HN1.out hn2, HB.out.new (New.then HN1.out hn2), HT.out.new (New.then HN1.out hn2)⟩
      clear hn2
      by_cases hg : getE b = 0
      · obtain ⟨pb1, pb2, pb3⟩ := put_back hg
        obtain ⟨hb1, hb2, -⟩ := get_ok hg
        obtain ⟨L, hL⟩ : ∃ L, getL b = L := ⟨_, rfl⟩
        rw [hL] at pb1 pb2 pb3
        obtain ⟨q, hq⟩ : ∃ q, L.length = q := ⟨_, rfl⟩
        rw [hq] at pb3
        have hq4 : q ≤ 4096 := by omega
        have HP1 := Lib.hid pb1
        have HP2 := Lib.hid pb2
        have HQ := Lib.hid hq
        have HG := Lib.hid hg
        have HL := Lib.hid hL
        have HQ8 : Hid (8 * q = m) := Lib.hid (by have := HM.out; omega)
        clear pb1 pb2 pb3 hb1 hb2 hq hg hL
        go_wp2_with (go_at_call 41; refine (get_good A1 m c1 q b L _ HM.out (by omega) HC1.out HG.out HL.out HQ.out.symm HBK.out.b HBK.out.t).mono ?_; rintro e w20 ⟨A20, c20, rfl, ⟨hc20, hr20⟩, hn20⟩)
        have HR20 := Lib.hid hr20
        have HN20 := Lib.hid (New.then HBK.out.new hn20)
        have HB20 := Lib.hid (HBK.out.b.new hn20)
        have HT20 := Lib.hid (HBK.out.t.new hn20)
        clear hc20 hr20 hn20
        go_loopw [16] (fun i wr => ∃ k : Nat, k ≤ q ∧ i = .int .i64 k ∧ New w20 wr) (fun i _ => q - (intOf i).toNat)
        case atStart => exact ⟨0, Nat.zero_le _, rfl, new_refl _⟩
        case round =>
          obtain ⟨k, hk, rfl, hnw⟩ := hrel
          have HNW := Lib.hid hnw
          clear hnw
          by_cases hlt : k < q
          · have hlf : k < L.length := by have := HQ.out; omega
            obtain ⟨g, o, rfl, hgb, ha⟩ := HR20.out.at_ hlf
            have hox := List.all_eq_true.1 HP1.out _ (List.getElem_mem hlf)
            obtain ⟨x, hx⟩ : ∃ x, L[k] = x := ⟨_, rfl⟩
            rw [hx] at ha hox
            clear hx
            obtain ⟨ox, nx, dx, sx, ux, fx, mx, zx⟩ := x
            obtain ⟨a0, a1, a2, a3, a4, a5, a6, a7⟩ := ha.new hgb HNW.out
            simp only at a0 a1 a2 a3 a4 a5 a6 a7
            have HOX := Lib.hid hox
            clear ha hgb hox
            go_wp2_with (go_at_call 30; refine (right_x _ _ _ _ _ _ _ _ true HOX.out _).mono ?_; rintro e w21 ⟨rfl, hn21⟩)
            have hN21 := New.then HNW.out hn21
            go_roundw
            case rel => exact ⟨k + 1, by omega, by go_num, hN21⟩
            case measure => simp [intOf]; omega
          · obtain rfl : k = q := by omega
            go_wp2_with (first
              | (go_at_call 39; refine (put_good A20 k c20 L _ HQ.out.symm (by omega) HP1.out (HR20.out.new HNW.out) (HT20.out.new HNW.out)).mono ?_; rintro e w22 ⟨A22, c22, rfl, ⟨hc22, hr22⟩, hn22⟩; rw [HP2.out] at hr22; rw [HQ8.out] at hr22; rw [HQ8.out]; have HR22 := Lib.hid hr22; have HN22 := Lib.hid (New.then HNW.out hn22); clear hr22 hn22)
              | (go_at_call 19; refine (same_len _ _ m m _ _ b _ HM.out HM.out (by have := HM.out; omega) HR22.out (HB20.out.new HN22.out)).mono ?_; rintro e w23 ⟨rfl, hn23⟩))
            go_ret
            exact ⟨rfl, New.then HN20.out (New.then HN22.out hn23)⟩
      · have hgq : (getE b == 0) = false := by simpa using hg
        have hgq2 : (getE b != 0) = true := by simpa using hg
        have HG := Lib.hid hg
        clear hg
        go_wp2_with (go_at_call 41; refine (get_not A1 m c1 b _ HM.out (by omega) HC1.out HG.out HBK.out.b HBK.out.t).mono ?_; rintro e w20 ⟨A20, c20, rfl, hn20⟩)
        have hN20 := New.then HBK.out.new hn20
        go_ret
        exact ⟨rfl, hN20⟩
end Go.Proofs.YtpkiopijfhkagaaDoor.ins
