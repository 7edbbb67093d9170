/-
  InsBytes, walked.
-/
import Derived.Test.YtmkonhfgmkdhoaaDoorInsAD
import Derived.Test.YtmkonhfgmkdhoaaDoorInsO
import Derived.Test.YtmkonhfgmkdhoaaDoorKitC
namespace Go.Proofs.YtmkonhfgmkdhoaaDoor.ins
open Go.RowKit Go.Proofs.YtmkonhfgmkdhoaaDoor.mem Go.Proofs.YtmkonhfgmkdhoaaDoor.kit
set_option linter.unusedVariables false

theorem putB_le (l : List In) : (putB l).length ≤ 32768 := by
  unfold putB
  split
  · simp
  · split
    · rw [flat_length]; omega
    · simp
theorem getL_le (b : List UInt8) : (getL b).length ≤ 4096 := by
  unfold getL
  split
  · rename_i h
    obtain ⟨h1, -, -⟩ := get_ok h
    rw [List.length_map, pcs_length]
    omega
  · simp
theorem put_gen (A : Option Addr) (n c q : Nat) (pe : Int) (l : List In) (w : World) (hn : n = l.length) (hl : n ≤ 1099511627776) (hA : RI w A l) (hT : TAt w) (hq : (putB l).length = q) (he : putE l = pe) :
    Calls Tryd.prog 8 #[.slice A n c] w fun e w' => ∃ A' c', e = .returned (.tuple #[.slice A' q c', .int .i64 pe]) ∧ Reads w' w'.heap.size 1 A' q (vb (putB l)) ∧ New w w' :=
  (put_any A n c l w hn hl hA hT).mono fun e w' h => by
    obtain ⟨A', c', h1, ho, hn⟩ := h
    rw [hq, he] at h1
    rw [hq] at ho
    exact ⟨A', c', h1, Reads.of_own ho, hn⟩
theorem rput_gen (A : Option Addr) (n c q : Nat) (pe : Int) (l : List In) (w : World) (hn : n = l.length) (hl : n ≤ 1099511627776) (hA : RI w A l) (hq : (putB l).length = q) (he : putE l = pe) :
    Calls Tryd.prog 9 #[.slice A n c] w fun e w' => ∃ A' c', e = .returned (.tuple #[.slice A' q c', .int .i64 pe]) ∧ Reads w' w'.heap.size 1 A' q (vb (putB l)) ∧ New w w' :=
  (rput_any A n c l w hn hl hA).mono fun e w' h => by
    obtain ⟨A', c', h1, ho, hn⟩ := h
    rw [hq, he] at h1
    rw [hq] at ho
    exact ⟨A', c', h1, Reads.of_own ho, hn⟩
theorem get_gen (A : Option Addr) (n c q : Nat) (ge : Int) (L : List In) (b : List UInt8) (w : World) (hn : n = b.length) (hl : n ≤ 1099511627776) (hc : n ≤ c ∧ c ≤ maxLen) (hA : Reads w w.heap.size 1 A n (vb b)) (hT : TAt w) (hq : q = L.length) (hL : getL b = L) (he : getE b = ge) :
    Calls Tryd.prog 10 #[.slice A n c] w fun e w' => ∃ A' c', e = .returned (.tuple #[.slice A' q c', .int .i64 ge]) ∧ RI w' A' L ∧ New w w' :=
  (get_any A n c b w hn hl hc hA hT).mono fun e w' h => by
    obtain ⟨A', c', h1, ho, hn⟩ := h
    rw [hL] at h1 ho
    rw [← hq, he] at h1
    exact ⟨A', c', h1, Reads.of_own ho, hn⟩
theorem rget_gen (A : Option Addr) (n c q : Nat) (ge : Int) (L : List In) (b : List UInt8) (w : World) (hn : n = b.length) (hl : n ≤ 1099511627776) (hc : n ≤ c ∧ c ≤ maxLen) (hA : Reads w w.heap.size 1 A n (vb b)) (hq : q = L.length) (hL : getL b = L) (he : getE b = ge) :
    Calls Tryd.prog 11 #[.slice A n c] w fun e w' => ∃ A' c', e = .returned (.tuple #[.slice A' q c', .int .i64 ge]) ∧ RI w' A' L ∧ New w w' :=
  (rget_any A n c b w hn hl hc hA).mono fun e w' h => by
    obtain ⟨A', c', h1, ho, hn⟩ := h
    rw [hL] at h1 ho
    rw [← hq, he] at h1
    exact ⟨A', c', h1, Reads.of_own ho, hn⟩
theorem lent_len (A : Option Addr) (n c : Nat) (l : List UInt8) (w : World) (hn : n = l.length) (hl : n ≤ 1099511627776) (hA : Reads w w.heap.size 1 A n (vb l)) :
    Calls Tryd.prog 7 #[.slice A n c] w fun e w' => (e = .returned (.slice (some ⟨w.heap.size, 0, none⟩) n (n + 12)) ∧ Blk w' w.heap.size 5 (vb (l ++ marks 1 12)).toArray) ∧ New w w' := by
  subst hn
  exact lent_any A c l w hl hA
theorem kept_len (g : Nat) (B : Option Addr) (n d : Nat) (l : List UInt8) (w : World) (hn : n = l.length) (hl : n ≤ 1099511627776) (hg : Blk w g 5 (vb (l ++ marks 1 12)).toArray) (hB : Reads w w.heap.size 1 B n (vb l)) :
    Calls Tryd.prog 15 #[.slice (some ⟨g, 0, none⟩) n (n + 12), .slice B n d] w fun e w' => e = .returned (.bool true) ∧ New w w' := by
  subst hn
  exact kept_any g B d l w hl hg hB
theorem lent_rb {w : World} {g n : Nat} {l : List UInt8} (hn : n = l.length) (h : Blk w g 5 (vb (l ++ marks 1 12)).toArray) : Reads w w.heap.size 1 (some ⟨g, 0, none⟩) n (vb l) :=
  ⟨by rw [vb_length, hn, Nat.mul_one], fun _ => ⟨_, rfl, h.lt, fun j u hu => by
    have hj : j < (vb l).length := (List.getElem?_eq_some_iff.1 hu).1
    rw [Addr.add_lit, Nat.zero_add, h.cell j, ← hu, vb_append]
    simp [List.getElem?_append_left hj]⟩⟩

/-- What stays through the law. -/
structure BY (w W : World) (A0 : Option Addr) (l : List In) (A1 : Option Addr) (m : Nat) (b : List UInt8) : Prop where
  new : New w W
  a : RI W A0 l
  b : Reads W W.heap.size 1 A1 m (vb b)
  t : TAt W
theorem BY.past {w W W' : World} {A0 : Option Addr} {l : List In} {A1 : Option Addr} {m : Nat} {b : List UInt8} (h : BY w W A0 l A1 m b) (hn : New W W') : BY w W' A0 l A1 m b :=
  ⟨New.then h.new hn, h.a.new hn, h.b.new hn, h.t.new hn⟩

set_option maxRecDepth 100000 in
set_option maxHeartbeats 4000000 in
theorem InsBytes_any (A0 A1 : Option Addr) (n c0 m c1 : Nat) (l : List In) (b : List UInt8) (w : World) (hn : n = l.length) (hm : m = b.length) (hc0 : n ≤ c0 ∧ c0 ≤ maxLen) (hc1 : m ≤ c1 ∧ c1 ≤ maxLen)
    (hA : RI w A0 l) (hB : Reads w w.heap.size 1 A1 m (vb b)) (hT : TAt w) :
    Calls Tryd.prog 3 #[.slice A0 n c0, .slice A1 m c1] w fun e w' => e = .returned (.bool true) ∧ New w w' := by
  have HN := Lib.hid hn
  have HM := Lib.hid hm
  have HC0 := Lib.hid hc0
  have HC1 := Lib.hid hc1
  have HB0 : Hid (BY w w A0 l A1 m b) := Lib.hid ⟨new_refl w, hA, hB, hT⟩
  have b0 : n ≤ 9223372036854775807 := by have := hc0; unfold maxLen at this; omega
  have b1 : m ≤ 9223372036854775807 := by have := hc1; unfold maxLen at this; omega
  have HT := Lib.hid hT
  clear hn hm hA hB hT hc0 hc1
  by_cases h4 : 400 < n ∨ 4000 < m
  · by_cases h5 : 400 < n
    · have t1 : (400 : Int) < (n : Int) := by omega
      clear h4
      go_enter Tryd.func3, Tryd.ntmps3
      go_wp2_with (go_at_call 5; refine (awake_any _ HT.out).mono ?_; rintro e w1 ⟨rfl, hn1⟩)
      go_ret
      exact ⟨rfl, hn1⟩
    · have t1 : ¬ (400 : Int) < (n : Int) := by omega
      have t2 : (4000 : Int) < (m : Int) := by omega
      clear h4
      go_enter Tryd.func3, Tryd.ntmps3
      go_wp2_with (go_at_call 5; refine (awake_any _ HT.out).mono ?_; rintro e w1 ⟨rfl, hn1⟩)
      go_ret
      exact ⟨rfl, hn1⟩
  · have t1 : ¬ (400 : Int) < (n : Int) := by omega
    have t2 : ¬ (4000 : Int) < (m : Int) := by omega
    have n4 : n ≤ 400 := by omega
    have m4 : m ≤ 4000 := by omega
    clear h4
    obtain ⟨q, hq⟩ : ∃ q, (putB l).length = q := ⟨_, rfl⟩
    have hq1 : q ≤ 32768 := by rw [← hq]; exact putB_le l
    obtain ⟨pe, hpe⟩ : ∃ pe, putE l = pe := ⟨_, rfl⟩
    obtain ⟨L, hL⟩ : ∃ L, getL b = L := ⟨_, rfl⟩
    obtain ⟨k, hk⟩ : ∃ k, L.length = k := ⟨_, rfl⟩
    have hk1 : k ≤ 4096 := by rw [← hk, ← hL]; exact getL_le b
    obtain ⟨ge, hge⟩ : ∃ ge, getE b = ge := ⟨_, rfl⟩
    have HQ := Lib.hid hq
    have HPE := Lib.hid hpe
    have HL := Lib.hid hL
    have HK := Lib.hid hk
    have HGE := Lib.hid hge
    clear hq hpe hL hk hge
    go_enter Tryd.func3, Tryd.ntmps3
    go_wp2_with (go_at_call 5; (with_reducible refine (awake_any _ HT.out).mono ?_); rintro e w1 ⟨rfl, hn1⟩; have HB1 := Lib.hid (HB0.out.past hn1); clear hn1)
    go_wp2_with (go_at_call 6; (with_reducible refine (lentIns_any A0 n c0 l _ (by omega) HN.out HB1.out.a).mono ?_); rintro e w2 ⟨⟨rfl, hb2⟩, hn2⟩; have HB2 := Lib.hid (HB1.out.past hn2); have HI2 := Lib.hid hb2; clear hb2 hn2)
    obtain ⟨gi, hgi⟩ : ∃ gi, w1.heap.size = gi := ⟨_, rfl⟩
    rw [hgi] at HI2 ⊢
    clear hgi
    go_wp2_with (go_at_call 7; (with_reducible refine (lent_len A1 m c1 b _ HM.out (by omega) HB2.out.b).mono ?_); rintro e w3 ⟨⟨rfl, hb3⟩, hn3⟩; have HB3 := Lib.hid (HB2.out.past hn3); have HI3 := Lib.hid (HI2.out.below hn3 HI2.out.lt); have HO3 := Lib.hid hb3; clear hb3 hn3)
    obtain ⟨go, hgo⟩ : ∃ go, w2.heap.size = go := ⟨_, rfl⟩
    rw [hgo] at HO3 ⊢
    clear hgo HI2 HB2 HB1 HB0
    go_wp2_with (go_at_call 8; (with_reducible refine (put_gen (some ⟨gi, 0, none⟩) n (n + 12) q pe l _ HN.out (by omega) (lent_ri HI3.out) HB3.out.t HQ.out HPE.out).mono ?_); rintro e w4 ⟨A4, c4, rfl, hr4, hn4⟩; have HB4 := Lib.hid (HB3.out.past hn4); have HI4 := Lib.hid (HI3.out.below hn4 HI3.out.lt); have HO4 := Lib.hid (HO3.out.below hn4 HO3.out.lt); have HR4 := Lib.hid hr4; clear hr4 hn4)
    clear HB3 HI3 HO3
    go_wp2_with (go_at_call 9; (with_reducible refine (rput_gen A0 n c0 q pe l _ HN.out (by omega) HB4.out.a HQ.out HPE.out).mono ?_); rintro e w5 ⟨A5, c5, rfl, hr5, hn5⟩; have HB5 := Lib.hid (HB4.out.past hn5); have HI5 := Lib.hid (HI4.out.below hn5 HI4.out.lt); have HO5 := Lib.hid (HO4.out.below hn5 HO4.out.lt); have HP5 := Lib.hid (HR4.out.new hn5); have HR5 := Lib.hid hr5; clear hr5 hn5)
    clear HB4 HI4 HO4 HR4
    go_wp2_with (go_at_call 10; (with_reducible refine (get_gen (some ⟨go, 0, none⟩) m (m + 12) k ge L b _ HM.out (by omega) ⟨by omega, by unfold maxLen; omega⟩ (lent_rb HM.out HO5.out) HB5.out.t HK.out.symm HL.out HGE.out).mono ?_); rintro e w6 ⟨A6, c6, rfl, hr6, hn6⟩; have HB6 := Lib.hid (HB5.out.past hn6); have HI6 := Lib.hid (HI5.out.below hn6 HI5.out.lt); have HO6 := Lib.hid (HO5.out.below hn6 HO5.out.lt); have HP6 := Lib.hid (HP5.out.new hn6); have HR6 := Lib.hid (HR5.out.new hn6); have HG6 := Lib.hid hr6; clear hr6 hn6)
    clear HB5 HI5 HO5 HP5 HR5
    go_wp2_with (go_at_call 11; (with_reducible refine (rget_gen A1 m c1 k ge L b _ HM.out (by omega) HC1.out HB6.out.b HK.out.symm HL.out HGE.out).mono ?_); rintro e w7 ⟨A7, c7, rfl, hr7, hn7⟩; have HB7 := Lib.hid (HB6.out.past hn7); have HI7 := Lib.hid (HI6.out.below hn7 HI6.out.lt); have HO7 := Lib.hid (HO6.out.below hn7 HO6.out.lt); have HP7 := Lib.hid (HP6.out.new hn7); have HR7 := Lib.hid (HR6.out.new hn7); have HG7 := Lib.hid (HG6.out.new hn7); have HH7 := Lib.hid hr7; clear hr7 hn7)
    clear HB6 HI6 HO6 HP6 HR6 HG6
    go_wp2_with (first
      | (go_at_call 12; (with_reducible refine (same_len A4 A5 q q c4 c5 (putB l) _ HQ.out.symm HQ.out.symm (by rw [HQ.out]; omega) HP7.out HR7.out).mono ?_); rintro e w8 ⟨rfl, hn8⟩; have HB8 := Lib.hid (HB7.out.past hn8); have HI8 := Lib.hid (HI7.out.below hn8 HI7.out.lt); have HO8 := Lib.hid (HO7.out.below hn8 HO7.out.lt); have HG8 := Lib.hid (HG7.out.new hn8); have HH8 := Lib.hid (HH7.out.new hn8); clear hn8)
      | (go_at_call 13; (with_reducible refine (sameIns_any A6 A7 k c6 c7 L _ HK.out.symm (by omega) HG8.out HH8.out).mono ?_); rintro e w9 ⟨rfl, hn9⟩; have HB9 := Lib.hid (HB8.out.past hn9); have HI9 := Lib.hid (HI8.out.below hn9 HI8.out.lt); have HO9 := Lib.hid (HO8.out.below hn9 HO8.out.lt); clear hn9)
      | (go_at_call 14; (with_reducible refine (keptIns_any gi A0 n c0 l _ (by omega) HN.out HI9.out HB9.out.a).mono ?_); rintro e w10 ⟨rfl, hn10⟩; have HB10 := Lib.hid (HB9.out.past hn10); have HO10 := Lib.hid (HO9.out.below hn10 HO9.out.lt); clear hn10)
      | (go_at_call 15; (with_reducible refine (kept_len go A1 m c1 b _ HM.out (by omega) HO10.out HB10.out.b).mono ?_); rintro e w11 ⟨rfl, hn11⟩; have HB11 := Lib.hid (HB10.out.past hn11); clear hn11))
    go_ret
    exact ⟨rfl, HB11.out.new⟩
end Go.Proofs.YtmkonhfgmkdhoaaDoor.ins
