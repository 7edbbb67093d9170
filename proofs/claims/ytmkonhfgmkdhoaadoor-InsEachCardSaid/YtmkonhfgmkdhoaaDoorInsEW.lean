/-
  InsEach, walked: the bytes that it tries.
-/
import Derived.Test.YtmkonhfgmkdhoaaDoorInsX
import Derived.Test.YtmkonhfgmkdhoaaDoorInsEM
namespace Go.Proofs.YtmkonhfgmkdhoaaDoor.ins
open Go.RowKit Go.Proofs.YtmkonhfgmkdhoaaDoor.mem Go.Proofs.YtmkonhfgmkdhoaaDoor.kit
set_option linter.unusedVariables false

/-- How many were seen. -/
def sn (a c k : Nat) : Nat := ea a + ec a c + ek a c k
theorem sn_le (a c k : Nat) (ha : a ≤ 256) (hc : c ≤ 256) (hk : k ≤ 4) : sn a c k ≤ 300000 := by
  have h1 := ea_le a
  have h2 := ec_le a c
  have h3 := ek_le a c k
  unfold sn
  omega
theorem sn_c (a c : Nat) : sn a c 4 = sn a (c + 1) 0 := by
  show ea a + ec a c + ek a c 4 = ea a + (ec a c + ek a c 4) + 0
  omega
theorem sn_a (a : Nat) : sn a 256 0 = sn (a + 1) 0 0 := by
  show ea a + ec a 256 + 0 = (ea a + ec a 256) + 0 + 0
  omega
theorem sn_yes {a c k : Nat} (h : one (ech a c k) = true) : sn a c (k + 1) = sn a c k + 1 := by
  have : ek a c (k + 1) = ek a c k + 1 := by simp only [ek, e1]; rw [if_pos h]
  unfold sn
  omega
theorem sn_no {a c k : Nat} (h : one (ech a c k) = false) : sn a c (k + 1) = sn a c k := by
  have : ek a c (k + 1) = ek a c k := by simp only [ek, e1]; rw [if_neg (by rw [h]; decide)]; rfl
  unfold sn
  omega
theorem sn_z (a : Nat) : sn a 0 0 = ea a := by
  show ea a + 0 + 0 = ea a
  omega
theorem sn_all : 5000 < sn 256 0 0 := (sn_z 256).symm ▸ ea_all

theorem ech_length (a c k : Nat) : (ech a c k).length = 8 := rfl
theorem pcs_eight {b : List UInt8} (h : b.length = 8) : pcs b = [b] := by
  apply List.ext_getElem
  · rw [pcs_length]; simp; omega
  · intro k h1 h2
    have : k = 0 := by simp at h2; omega
    subst this
    rw [pcs_get]
    unfold pc
    simp only [Nat.mul_zero, List.drop_zero, List.getElem_cons_zero]
    rw [List.take_of_length_le (by omega)]
theorem each_yes {b : List UInt8} (h : b.length = 8) (ho : one b = true) : getE b = 0 ∧ getL b = [inOf b] := by
  have hE : getE b = 0 := by
    unfold getE
    rw [if_neg (by omega), if_neg (by omega), if_pos (by rw [pcs_eight h]; simp [ho])]
  refine ⟨hE, ?_⟩
  unfold getL
  rw [if_pos hE, pcs_eight h]
  rfl
theorem each_no {b : List UInt8} (h : b.length = 8) (ho : one b = false) : getE b = 4 := by
  unfold getE
  rw [if_neg (by omega), if_neg (by omega), if_neg (by rw [pcs_eight h]; simp [ho])]
theorem b8 {a : Nat} (h : a < 256) : ((UInt8.ofNat a).toNat : Int) = (a : Int) := by
  rw [UInt8.toNat_ofNat']
  omega
theorem ech_0 {a c : Nat} (ha : a < 256) (hc : c < 256) : (#[.int .u8 (a : Int), .int .u8 (c : Int), .int .u8 0, .int .u8 0, .int .u8 0, .int .u8 0, .int .u8 0, .int .u8 0] : Array Value).toList = vb (ech a c 0) := by
  simp only [vb, ech, List.map_cons, List.map_nil, b8 ha, b8 hc]
  rfl
theorem ech_1 {a c : Nat} (ha : a < 256) (hc : c < 256) : (#[.int .u8 (a : Int), .int .u8 (c : Int), .int .u8 255, .int .u8 254, .int .u8 0, .int .u8 0, .int .u8 0, .int .u8 0] : Array Value).toList = vb (ech a c 1) := by
  simp only [vb, ech, List.map_cons, List.map_nil, b8 ha, b8 hc]
  rfl
theorem ech_2 {a c : Nat} (ha : a < 256) (hc : c < 256) : (#[.int .u8 (a : Int), .int .u8 (c : Int), .int .u8 0, .int .u8 0, .int .u8 128, .int .u8 0, .int .u8 0, .int .u8 1] : Array Value).toList = vb (ech a c 2) := by
  simp only [vb, ech, List.map_cons, List.map_nil, b8 ha, b8 hc]
  rfl
theorem ech_3 {a c : Nat} (ha : a < 256) (hc : c < 256) : (#[.int .u8 (a : Int), .int .u8 (c : Int), .int .u8 255, .int .u8 254, .int .u8 128, .int .u8 0, .int .u8 0, .int .u8 1] : Array Value).toList = vb (ech a c 3) := by
  simp only [vb, ech, List.map_cons, List.map_nil, b8 ha, b8 hc]
  rfl
theorem ret_nat {k : IntKind} {a b : Nat} (h : a = b) : Value.int k (a : Int) = .int k (b : Int) := by rw [h]

theorem get_yes (A : Option Addr) (c : Nat) (b : List UInt8) (w : World) (hb : b.length = 8) (hc : 8 ≤ c ∧ c ≤ maxLen) (ho : one b = true) (hA : Reads w w.heap.size 1 A 8 (vb b)) (hT : TAt w) :
    Calls Tryd.prog 10 #[.slice A 8 c] w fun e w' => ∃ A' c', e = .returned (.tuple #[.slice A' 1 c', .int .i64 0]) ∧ RI w' A' [inOf b] ∧ New w w' :=
  (get_good A 8 c 1 b [inOf b] w hb.symm (by omega) hc (each_yes hb ho).1 (each_yes hb ho).2 rfl hA hT).mono fun e w' h => by
    obtain ⟨A', c', he, ⟨_, hr⟩, hn⟩ := h
    exact ⟨A', c', he, hr, hn⟩
theorem get_nay (A : Option Addr) (c : Nat) (b : List UInt8) (w : World) (hb : b.length = 8) (hc : 8 ≤ c ∧ c ≤ maxLen) (ho : one b = false) (hA : Reads w w.heap.size 1 A 8 (vb b)) (hT : TAt w) :
    Calls Tryd.prog 10 #[.slice A 8 c] w fun e w' => ∃ A' c', e = .returned (.tuple #[.slice A' 0 c', .int .i64 4]) ∧ New w w' :=
  (get_not A 8 c b w hb.symm (by omega) hc (by rw [each_no hb ho]; decide) hA hT).mono fun e w' h => by
    obtain ⟨A', c', he, hn⟩ := h
    rw [each_no hb ho] at he
    exact ⟨A', c', he, hn⟩
theorem put_one (A : Option Addr) (c : Nat) (b : List UInt8) (w : World) (hb : b.length = 8) (ho : one b = true) (hA : RI w A [inOf b]) (hT : TAt w) :
    Calls Tryd.prog 8 #[.slice A 1 c] w fun e w' => ∃ A' c', e = .returned (.tuple #[.slice A' 8 c', .int .i64 0]) ∧ Reads w' w'.heap.size 1 A' 8 (vb b) ∧ New w w' :=
  (put_good A 1 c [inOf b] w rfl (by omega) (by simp [(one_spec ho).1]) hA hT).mono fun e w' h => by
    obtain ⟨A', c', he, ⟨_, hr⟩, hn⟩ := h
    have e2 : flat [inOf b] = b := by simp [flat, (one_spec ho).2]
    rw [e2] at hr
    exact ⟨A', c', he, hr, hn⟩

set_option maxRecDepth 100000 in
set_option maxHeartbeats 8000000 in
theorem InsEach_any (w : World) (hT : TAt w) :
    Calls Tryd.prog 4 #[] w fun e w' => e = .returned (.bool true) ∧ New w w' := by
  have HT := Lib.hid hT
  clear hT
  go_enter Tryd.func4, Tryd.ntmps4
  go_wp2_with (go_at_call 5; refine (awake_any _ HT.out).mono ?_; rintro e w1 ⟨rfl, hn1⟩; have HN1 := Lib.hid hn1; clear hn1)
  go_loopw [1, 2] (fun s i wr => ∃ a : Nat, a ≤ 256 ∧ i = .int .i64 a ∧ s = .int .i64 ((sn a 0 0 : Nat) : Int) ∧ New w wr) (fun _ i _ => 256 - (intOf i).toNat)
  case atStart => exact ⟨0, by omega, rfl, rfl, HN1.out⟩
  case round =>
    clear HN1
    obtain ⟨a, ha, rfl, rfl, hna⟩ := hrel
    have HNA := Lib.hid hna
    clear hna
    obtain ⟨wa, rfl⟩ : ∃ wa : World, wa = wr := ⟨_, rfl⟩
    by_cases hla : a < 256
    · have da : decide ((a : Int) < 256) = true := by simp; omega
      go_wp2
      go_loopw [1, 3] (fun s i wr => ∃ c : Nat, c ≤ 256 ∧ i = .int .i64 c ∧ s = .int .i64 ((sn a c 0 : Nat) : Int) ∧ New w wr) (fun _ i _ => 256 - (intOf i).toNat)
      case atStart => exact ⟨0, by omega, rfl, rfl, HNA.out⟩
      case round =>
        clear HNA
        obtain ⟨c, hc, rfl, rfl, hnc⟩ := hrel
        have HNC := Lib.hid hnc
        clear hnc
        obtain ⟨wc, rfl⟩ : ∃ wc : World, wc = wr := ⟨_, rfl⟩
        by_cases hlc : c < 256
        · have dc : decide ((c : Int) < 256) = true := by simp; omega
          go_wp2
          go_loopw [1, 4] (fun s i wr => ∃ k : Nat, k ≤ 4 ∧ i = .int .i64 k ∧ s = .int .i64 ((sn a c k : Nat) : Int) ∧ New w wr) (fun _ i _ => 4 - (intOf i).toNat)
          case atStart => exact ⟨0, by omega, rfl, rfl, HNC.out⟩
          case round =>
            clear HNC
            obtain ⟨k, hk, rfl, rfl, hnk⟩ := hrel
            have HNK := Lib.hid hnk
            clear hnk
            obtain ⟨S, hS⟩ : ∃ S, sn a c k = S := ⟨_, rfl⟩
            have hS1 : S ≤ 300000 := by rw [← hS]; exact sn_le a c k (by omega) (by omega) hk
            rw [hS]
            have HS := Lib.hid hS
            clear hS
            by_cases hlk : k < 4
            · have dk : decide ((k : Int) < 4) = true := by simp; omega
              have hk4 : k = 0 ∨ k = 1 ∨ k = 2 ∨ k = 3 := by omega
              rcases hk4 with hk4 | hk4 | hk4 | hk4
              · have b1 : bits BinOp.and IntKind.i64 ((k : Nat) : Int) 1 = 0 := by subst hk4; decide +kernel
                have b2 : bits BinOp.and IntKind.i64 ((k : Nat) : Int) 2 = 0 := by subst hk4; decide +kernel
                have HK4 := Lib.hid hk4
                have HE := Lib.hid (ech_0 hla hlc)
                clear hk4
                have HR := Lib.hid (reads_new1 wr 5 #[.int .u8 (a : Int), .int .u8 (c : Int), .int .u8 0, .int .u8 0, .int .u8 0, .int .u8 0, .int .u8 0, .int .u8 0] 8 (ech a c 0) rfl HE.out)
                have HN := Lib.hid (New.then HNK.out (new1 wr (.cells #[.int .u8 (a : Int), .int .u8 (c : Int), .int .u8 0, .int .u8 0, .int .u8 0, .int .u8 0, .int .u8 0, .int .u8 0] 5)))
                obtain ⟨B, hB⟩ : ∃ B, one (ech a c 0) = B := ⟨_, rfl⟩
                have HB := Lib.hid hB
                clear hB HE
                rcases B with _ | _
                · go_wp2_with (go_at_call 10; (with_reducible refine (get_nay (some ⟨wr.heap.size, 0, none⟩) 8 (ech a c 0) _ rfl ⟨by omega, by unfold maxLen; omega⟩ HB.out HR.out (HT.out.new HN.out)).mono ?_); rintro e w2 ⟨A2, c2, rfl, hn2⟩)
                  have hN2 := New.then HN.out hn2
                  go_roundw
                  case rel => exact ⟨k + 1, by omega, by go_num, ret_nat (by rw [← HS.out, HK4.out]; exact (sn_no HB.out).symm), hN2⟩
                  case measure => simp [intOf]; omega
                · go_wp2_with (go_at_call 10; (with_reducible refine (get_yes (some ⟨wr.heap.size, 0, none⟩) 8 (ech a c 0) _ rfl ⟨by omega, by unfold maxLen; omega⟩ HB.out HR.out (HT.out.new HN.out)).mono ?_); rintro e w2 ⟨A2, c2, rfl, hr2, hn2⟩; have HR2 := Lib.hid hr2; have HN2 := Lib.hid (New.then HN.out hn2); have HRb := Lib.hid (HR.out.new hn2); clear hr2 hn2)
                  go_wp2_with (first
                    | (go_at_call 8; (with_reducible refine (put_one A2 c2 (ech a c 0) _ rfl HB.out HR2.out (HT.out.new HN2.out)).mono ?_); rintro e w3 ⟨A3, c3, rfl, hr3, hn3⟩; have HR3 := Lib.hid hr3; have HN3 := Lib.hid (New.then HN2.out hn3); have HRc := Lib.hid (HRb.out.new hn3); clear hr3 hn3)
                    | (go_at_call 12; (with_reducible refine (same_len A3 (some ⟨wr.heap.size, 0, none⟩) 8 8 _ _ (ech a c 0) _ rfl rfl (by rw [ech_length]; omega) HR3.out HRc.out).mono ?_); rintro e w4 ⟨rfl, hn4⟩))
                  have hN4 := New.then HN3.out hn4
                  go_roundw
                  case rel => exact ⟨k + 1, by omega, by go_num, ret_nat (by rw [← HS.out, HK4.out]; exact (sn_yes HB.out).symm), hN4⟩
                  case measure => simp [intOf]; omega
              · have b1 : bits BinOp.and IntKind.i64 ((k : Nat) : Int) 1 = 1 := by subst hk4; decide +kernel
                have b2 : bits BinOp.and IntKind.i64 ((k : Nat) : Int) 2 = 0 := by subst hk4; decide +kernel
                have HK4 := Lib.hid hk4
                have HE := Lib.hid (ech_1 hla hlc)
                clear hk4
                have HR := Lib.hid (reads_new1 wr 5 #[.int .u8 (a : Int), .int .u8 (c : Int), .int .u8 255, .int .u8 254, .int .u8 0, .int .u8 0, .int .u8 0, .int .u8 0] 8 (ech a c 1) rfl HE.out)
                have HN := Lib.hid (New.then HNK.out (new1 wr (.cells #[.int .u8 (a : Int), .int .u8 (c : Int), .int .u8 255, .int .u8 254, .int .u8 0, .int .u8 0, .int .u8 0, .int .u8 0] 5)))
                obtain ⟨B, hB⟩ : ∃ B, one (ech a c 1) = B := ⟨_, rfl⟩
                have HB := Lib.hid hB
                clear hB HE
                rcases B with _ | _
                · go_wp2_with (go_at_call 10; (with_reducible refine (get_nay (some ⟨wr.heap.size, 0, none⟩) 8 (ech a c 1) _ rfl ⟨by omega, by unfold maxLen; omega⟩ HB.out HR.out (HT.out.new HN.out)).mono ?_); rintro e w2 ⟨A2, c2, rfl, hn2⟩)
                  have hN2 := New.then HN.out hn2
                  go_roundw
                  case rel => exact ⟨k + 1, by omega, by go_num, ret_nat (by rw [← HS.out, HK4.out]; exact (sn_no HB.out).symm), hN2⟩
                  case measure => simp [intOf]; omega
                · go_wp2_with (go_at_call 10; (with_reducible refine (get_yes (some ⟨wr.heap.size, 0, none⟩) 8 (ech a c 1) _ rfl ⟨by omega, by unfold maxLen; omega⟩ HB.out HR.out (HT.out.new HN.out)).mono ?_); rintro e w2 ⟨A2, c2, rfl, hr2, hn2⟩; have HR2 := Lib.hid hr2; have HN2 := Lib.hid (New.then HN.out hn2); have HRb := Lib.hid (HR.out.new hn2); clear hr2 hn2)
                  go_wp2_with (first
                    | (go_at_call 8; (with_reducible refine (put_one A2 c2 (ech a c 1) _ rfl HB.out HR2.out (HT.out.new HN2.out)).mono ?_); rintro e w3 ⟨A3, c3, rfl, hr3, hn3⟩; have HR3 := Lib.hid hr3; have HN3 := Lib.hid (New.then HN2.out hn3); have HRc := Lib.hid (HRb.out.new hn3); clear hr3 hn3)
                    | (go_at_call 12; (with_reducible refine (same_len A3 (some ⟨wr.heap.size, 0, none⟩) 8 8 _ _ (ech a c 1) _ rfl rfl (by rw [ech_length]; omega) HR3.out HRc.out).mono ?_); rintro e w4 ⟨rfl, hn4⟩))
                  have hN4 := New.then HN3.out hn4
                  go_roundw
                  case rel => exact ⟨k + 1, by omega, by go_num, ret_nat (by rw [← HS.out, HK4.out]; exact (sn_yes HB.out).symm), hN4⟩
                  case measure => simp [intOf]; omega
              · have b1 : bits BinOp.and IntKind.i64 ((k : Nat) : Int) 1 = 0 := by subst hk4; decide +kernel
                have b2 : bits BinOp.and IntKind.i64 ((k : Nat) : Int) 2 = 2 := by subst hk4; decide +kernel
                have HK4 := Lib.hid hk4
                have HE := Lib.hid (ech_2 hla hlc)
                clear hk4
                have HR := Lib.hid (reads_new1 wr 5 #[.int .u8 (a : Int), .int .u8 (c : Int), .int .u8 0, .int .u8 0, .int .u8 128, .int .u8 0, .int .u8 0, .int .u8 1] 8 (ech a c 2) rfl HE.out)
                have HN := Lib.hid (New.then HNK.out (new1 wr (.cells #[.int .u8 (a : Int), .int .u8 (c : Int), .int .u8 0, .int .u8 0, .int .u8 128, .int .u8 0, .int .u8 0, .int .u8 1] 5)))
                obtain ⟨B, hB⟩ : ∃ B, one (ech a c 2) = B := ⟨_, rfl⟩
                have HB := Lib.hid hB
                clear hB HE
                rcases B with _ | _
                · go_wp2_with (go_at_call 10; (with_reducible refine (get_nay (some ⟨wr.heap.size, 0, none⟩) 8 (ech a c 2) _ rfl ⟨by omega, by unfold maxLen; omega⟩ HB.out HR.out (HT.out.new HN.out)).mono ?_); rintro e w2 ⟨A2, c2, rfl, hn2⟩)
                  have hN2 := New.then HN.out hn2
                  go_roundw
                  case rel => exact ⟨k + 1, by omega, by go_num, ret_nat (by rw [← HS.out, HK4.out]; exact (sn_no HB.out).symm), hN2⟩
                  case measure => simp [intOf]; omega
                · go_wp2_with (go_at_call 10; (with_reducible refine (get_yes (some ⟨wr.heap.size, 0, none⟩) 8 (ech a c 2) _ rfl ⟨by omega, by unfold maxLen; omega⟩ HB.out HR.out (HT.out.new HN.out)).mono ?_); rintro e w2 ⟨A2, c2, rfl, hr2, hn2⟩; have HR2 := Lib.hid hr2; have HN2 := Lib.hid (New.then HN.out hn2); have HRb := Lib.hid (HR.out.new hn2); clear hr2 hn2)
                  go_wp2_with (first
                    | (go_at_call 8; (with_reducible refine (put_one A2 c2 (ech a c 2) _ rfl HB.out HR2.out (HT.out.new HN2.out)).mono ?_); rintro e w3 ⟨A3, c3, rfl, hr3, hn3⟩; have HR3 := Lib.hid hr3; have HN3 := Lib.hid (New.then HN2.out hn3); have HRc := Lib.hid (HRb.out.new hn3); clear hr3 hn3)
                    | (go_at_call 12; (with_reducible refine (same_len A3 (some ⟨wr.heap.size, 0, none⟩) 8 8 _ _ (ech a c 2) _ rfl rfl (by rw [ech_length]; omega) HR3.out HRc.out).mono ?_); rintro e w4 ⟨rfl, hn4⟩))
                  have hN4 := New.then HN3.out hn4
                  go_roundw
                  case rel => exact ⟨k + 1, by omega, by go_num, ret_nat (by rw [← HS.out, HK4.out]; exact (sn_yes HB.out).symm), hN4⟩
                  case measure => simp [intOf]; omega
              · have b1 : bits BinOp.and IntKind.i64 ((k : Nat) : Int) 1 = 1 := by subst hk4; decide +kernel
                have b2 : bits BinOp.and IntKind.i64 ((k : Nat) : Int) 2 = 2 := by subst hk4; decide +kernel
                have HK4 := Lib.hid hk4
                have HE := Lib.hid (ech_3 hla hlc)
                clear hk4
                have HR := Lib.hid (reads_new1 wr 5 #[.int .u8 (a : Int), .int .u8 (c : Int), .int .u8 255, .int .u8 254, .int .u8 128, .int .u8 0, .int .u8 0, .int .u8 1] 8 (ech a c 3) rfl HE.out)
                have HN := Lib.hid (New.then HNK.out (new1 wr (.cells #[.int .u8 (a : Int), .int .u8 (c : Int), .int .u8 255, .int .u8 254, .int .u8 128, .int .u8 0, .int .u8 0, .int .u8 1] 5)))
                obtain ⟨B, hB⟩ : ∃ B, one (ech a c 3) = B := ⟨_, rfl⟩
                have HB := Lib.hid hB
                clear hB HE
                rcases B with _ | _
                · go_wp2_with (go_at_call 10; (with_reducible refine (get_nay (some ⟨wr.heap.size, 0, none⟩) 8 (ech a c 3) _ rfl ⟨by omega, by unfold maxLen; omega⟩ HB.out HR.out (HT.out.new HN.out)).mono ?_); rintro e w2 ⟨A2, c2, rfl, hn2⟩)
                  have hN2 := New.then HN.out hn2
                  go_roundw
                  case rel => exact ⟨k + 1, by omega, by go_num, ret_nat (by rw [← HS.out, HK4.out]; exact (sn_no HB.out).symm), hN2⟩
                  case measure => simp [intOf]; omega
                · go_wp2_with (go_at_call 10; (with_reducible refine (get_yes (some ⟨wr.heap.size, 0, none⟩) 8 (ech a c 3) _ rfl ⟨by omega, by unfold maxLen; omega⟩ HB.out HR.out (HT.out.new HN.out)).mono ?_); rintro e w2 ⟨A2, c2, rfl, hr2, hn2⟩; have HR2 := Lib.hid hr2; have HN2 := Lib.hid (New.then HN.out hn2); have HRb := Lib.hid (HR.out.new hn2); clear hr2 hn2)
                  go_wp2_with (first
                    | (go_at_call 8; (with_reducible refine (put_one A2 c2 (ech a c 3) _ rfl HB.out HR2.out (HT.out.new HN2.out)).mono ?_); rintro e w3 ⟨A3, c3, rfl, hr3, hn3⟩; have HR3 := Lib.hid hr3; have HN3 := Lib.hid (New.then HN2.out hn3); have HRc := Lib.hid (HRb.out.new hn3); clear hr3 hn3)
                    | (go_at_call 12; (with_reducible refine (same_len A3 (some ⟨wr.heap.size, 0, none⟩) 8 8 _ _ (ech a c 3) _ rfl rfl (by rw [ech_length]; omega) HR3.out HRc.out).mono ?_); rintro e w4 ⟨rfl, hn4⟩))
                  have hN4 := New.then HN3.out hn4
                  go_roundw
                  case rel => exact ⟨k + 1, by omega, by go_num, ret_nat (by rw [← HS.out, HK4.out]; exact (sn_yes HB.out).symm), hN4⟩
                  case measure => simp [intOf]; omega
            · obtain rfl : k = 4 := by omega
              have HNEW := HNK.out
              have HS2 : Hid (S = sn a (c + 1) 0) := Lib.hid (by rw [← HS.out]; exact sn_c a c)
              go_wp2
              go_roundw
              case rel => exact ⟨c + 1, by omega, by go_num, ret_nat HS2.out, HNEW⟩
              case measure => simp [intOf]; omega
        · obtain rfl : c = 256 := by omega
          have HNEW := HNC.out
          obtain ⟨S, hS⟩ : ∃ S, sn a 256 0 = S := ⟨_, rfl⟩
          rw [hS]
          have HS2 : Hid (S = sn (a + 1) 0 0) := Lib.hid (by rw [← hS]; exact sn_a a)
          clear hS
          go_wp2
          go_roundw
          case rel => exact ⟨a + 1, by omega, by go_num, ret_nat HS2.out, HNEW⟩
          case measure => simp [intOf]; omega
    · obtain rfl : a = 256 := by omega
      have HNEW := HNA.out
      have hS := sn_all
      have hS1 := sn_le 256 0 0 (by omega) (by omega) (by omega)
      generalize sn 256 0 0 = S at *
      have hS2 : decide ((5000 : Int) < (S : Int)) = true := by simp; omega
      go_wp2
      go_ret
      exact ⟨rfl, HNEW⟩
end Go.Proofs.YtmkonhfgmkdhoaaDoor.ins
