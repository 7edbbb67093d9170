/-
  FrameNumbers.
-/
import Derived.Test.YtlbbhheaginddaaFNum
namespace Go.Proofs.Ytlbbhheaginddaa.fr
open Go.RowKit Go.Proofs.Ytlbbhheaginddaa.mem Go.Proofs.Ytlbbhheaginddaa.kit Go.Proofs.Ytlbbhheaginddaa.wire Go.Proofs.Ytlbbhheaginddaa.crc
set_option linter.unusedVariables false
theorem kinds_at (w : World) (i : Nat) (h : i < 10) : ∃ z : Int, (w.alloc (.cells #[.int .i64 (-9223372036854775808), .int .i64 (-256), .int .i64 (-1), .int .i64 0, .int .i64 1, .int .i64 255, .int .i64 256, .int .i64 257, .int .i64 512, .int .i64 9223372036854775807] 3)).cell? ⟨w.heap.size, i, none⟩ = some (.int .i64 z) := by
  have hb := Blk.new w 3 #[.int .i64 (-9223372036854775808), .int .i64 (-256), .int .i64 (-1), .int .i64 0, .int .i64 1, .int .i64 255, .int .i64 256, .int .i64 257, .int .i64 512, .int .i64 9223372036854775807]
  have hc := hb.cell i
  match i, h with
  | 0, _ => exact ⟨_, hc.trans rfl⟩
  | 1, _ => exact ⟨_, hc.trans rfl⟩
  | 2, _ => exact ⟨_, hc.trans rfl⟩
  | 3, _ => exact ⟨_, hc.trans rfl⟩
  | 4, _ => exact ⟨_, hc.trans rfl⟩
  | 5, _ => exact ⟨_, hc.trans rfl⟩
  | 6, _ => exact ⟨_, hc.trans rfl⟩
  | 7, _ => exact ⟨_, hc.trans rfl⟩
  | 8, _ => exact ⟨_, hc.trans rfl⟩
  | 9, _ => exact ⟨_, hc.trans rfl⟩
  | i + 10, h => exact absurd h (by omega)

set_option maxRecDepth 100000 in
set_option maxHeartbeats 8000000 in
theorem FrameNumbers_any (w : World) : Calls Try.prog 3 #[] w fun e w' => e = .returned (.bool true) ∧ New w w' := by
  have hmk0 : ∀ W : World, (Instr.makeSlice 24 (.int .i64 262145) (.int .i64 262145)).run Try.prog W = .ok (.slice (some ⟨W.heap.size, 0, none⟩) 262145 262145) (W.alloc (.cells (zrow (.int .u8 0) 262145) 5)) := fun W => make_bytes 262145 262145 (by omega) (by omega) W
  have hlo0 := fun W => long_any W 262145 (by omega)
  obtain ⟨Z, hZ⟩ : ∃ Z, zrow (.int .u8 0) 262145 = Z := ⟨_, rfl⟩
  have hmk : ∀ W : World, (Instr.makeSlice 24 (.int .i64 262145) (.int .i64 262145)).run Try.prog W = .ok (.slice (some ⟨W.heap.size, 0, none⟩) 262145 262145) (W.alloc (.cells Z 5)) := by rw [← hZ]; exact hmk0
  have HLO : Hid (∀ W : World, ∃ D D2 : List UInt8, D.length = 262144 ∧ D2.length = 262145 ∧ Reads (W.alloc (.cells Z 5)) (W.alloc (.cells Z 5)).heap.size 1 (some ⟨W.heap.size, 1, none⟩) 262144 (vb D) ∧ Reads (W.alloc (.cells Z 5)) (W.alloc (.cells Z 5)).heap.size 1 (some ⟨W.heap.size, 0, none⟩) 262145 (vb D2)) := Lib.hid (by rw [← hZ]; exact hlo0)
  clear hmk0 hlo0 hZ
  have HK := Lib.hid (kinds_at w)
  have HN0 := Lib.hid (alloc_new w (.cells #[.int .i64 (-9223372036854775808), .int .i64 (-256), .int .i64 (-1), .int .i64 0, .int .i64 1, .int .i64 255, .int .i64 256, .int .i64 257, .int .i64 512, .int .i64 9223372036854775807] 3))
  go_enter Try.func3, Try.ntmps3
  go_wp2
  obtain ⟨w0, hw0⟩ : ∃ x, w.alloc (.cells #[.int .i64 (-9223372036854775808), .int .i64 (-256), .int .i64 (-1), .int .i64 0, .int .i64 1, .int .i64 255, .int .i64 256, .int .i64 257, .int .i64 512, .int .i64 9223372036854775807] 3) = x := ⟨_, rfl⟩
  rw [hw0] at HK HN0 ⊢
  have hg0 : w.heap.size < w0.heap.size := by rw [← hw0]; simp
  clear hw0
  go_loopw [2] (fun vi wr => ∃ i : Nat, i ≤ 10 ∧ vi = .int .i64 (i : Int) ∧ New w0 wr) (fun vi _ => 10 - (intOf vi).toNat)
  case atStart => exact ⟨0, Nat.zero_le _, rfl, new_refl _⟩
  case round =>
    obtain ⟨i, hi, rfl, hnw⟩ := hrel
    have HNW := Lib.hid hnw
    by_cases hlt : i < 10
    · obtain ⟨z, hz⟩ := HK.out i hlt
      have c1 := (hnw.cell (p := ⟨w.heap.size, i, none⟩) hg0).trans hz
      have HZ := Lib.hid hz
      have HG0 := Lib.hid hg0
      have hi10 : (i : Int) < 10 := by omega
      have HP1 := Lib.hid (puts_l wr z)
      clear hz hnw hmk
      go_wp2_with (first
        | (go_at_call 4; (with_reducible refine HP1.out.mono ?_); rintro e w2 ⟨rfl, hn2⟩; have HN2 := Lib.hid (New.then HNW.out hn2); have c2 := (HN2.out.cell (p := ⟨w.heap.size, i, none⟩) HG0.out).trans HZ.out; have HP2 := Lib.hid (puts_r w2 z); clear hn2)
        | (go_at_call 4; (with_reducible refine HP2.out.mono ?_); rintro e w3 ⟨rfl, hn3⟩; have HN3 := Lib.hid (New.then HN2.out hn3); clear hn3)
        | fail)
      go_roundw
      case rel => exact ⟨i + 1, by omega, by go_num, HN3.out⟩
      case measure => simp [intOf]; omega
    · obtain rfl : i = 10 := by omega
      obtain ⟨D, D2, hD, hD2, hr1, hr2⟩ := HLO.out wr
      have hpa := put_long (wr.alloc (.cells Z 5)) (some ⟨wr.heap.size, 1, none⟩) 262144 D hD hr1
      rw [show (wr.alloc (.cells Z 5)).heap.size = wr.heap.size + 1 by simp] at hpa
      have HPA := Lib.hid hpa
      have HR2 := Lib.hid hr2
      have HD2 := Lib.hid hD2
      have HNR := Lib.hid (New.then HN0.out hnw)
      clear hpa hr1 hr2 hD hD2 hnw HNW
      go_wp2_with (first
        | (go_at_call 5; (with_reducible refine HPA.out.mono ?_); rintro e w4 ⟨bs, A4, c4, rfl, hbl, ⟨f, hf1, hf2, hf3⟩, hr4, hc4, hn4⟩; have HN4 := Lib.hid (New.then (New.then HNR.out (alloc_new wr (.cells Z 5))) hn4); have HR4 := Lib.hid hr4; have HC4 := Lib.hid hc4; have HBL := Lib.hid hbl; have HF1 := Lib.hid hf1; have HF2 := Lib.hid hf2; have HF3 := Lib.hid hf3; have HPB := Lib.hid (put_longer w4 (some ⟨wr.heap.size, 0, none⟩) 262145 D2 HD2.out (HR2.out.new hn4)); clear hr4 hc4 hn4 hbl hf1 hf2 hf3)
        | (go_at_call 5; (with_reducible refine HPB.out.mono ?_); rintro e w5 ⟨rfl, hn5⟩; have HN5 := Lib.hid (New.then HN4.out hn5); have hsc := scan_any A4 c4 bs w5 (by rw [HBL.out]; omega) (by rw [HBL.out]; exact HC4.out) (by rw [HBL.out]; exact HR4.out.new hn5); rw [HBL.out] at hsc; have HSC := Lib.hid hsc; clear hn5 hsc)
        | (go_at_call 6; (with_reducible refine HSC.out.mono ?_); rintro e w6 hsd; obtain ⟨g6, c6, q6, a6, cc6, rfl, h16, hn6⟩ := scan_long hsd f HF1.out HF2.out HF3.out; have HN6 := Lib.hid (New.then HN5.out hn6); have HRP := Lib.hid (ref_three w6); clear hsd hn6)
        | (go_at_call 7; (with_reducible refine HRP.out.mono ?_); rintro e w7 ⟨b, gb, cb, rfl, hbl7, hr7, hc7, hn7⟩; have HN7 := Lib.hid (New.then HN6.out hn7); have HB7 := Lib.hid hbl7; have HR7 := Lib.hid hr7; have HC7 := Lib.hid hc7; clear hbl7 hr7 hc7 hn7)
        | fail)
      clear HPA HPB HSC HRP HR2 HD2 HR4 HC4 HF1 HF2 HF3 HBL HLO HK
      have hcb : 35 ≤ cb := HC7.out.1
      go_loopw [13] (fun vi wj => ∃ i : Nat, i ≤ 36 ∧ vi = .int .i64 (i : Int) ∧ New w7 wj) (fun vi _ => 36 - (intOf vi).toNat)
      case atStart => exact ⟨0, Nat.zero_le _, rfl, new_refl _⟩
      case round =>
        obtain ⟨i, hi, rfl, hnw⟩ := hrel
        have HNW := Lib.hid hnw
        clear hnw
        by_cases hlt : i < 36
        · have HSA : Hid (Calls Try.prog 8 #[.slice (some ⟨gb, 0, none⟩) i cb] wr fun e w' => e = .returned (.bool true) ∧ New wr w') := Lib.hid (scans_any (some ⟨gb, 0, none⟩) i cb (b.take i) wr (by rw [List.length_take, HB7.out]; omega) (by omega) ⟨by omega, HC7.out.2⟩ (reads_take (HR7.out.new HNW.out) (by omega)))
          have hle : (i : Int) ≤ 35 := by omega
          have hicb : (i : Int) ≤ (cb : Int) := by omega
          have hicbn : i ≤ cb := by omega
          by_cases hcc : cb = i
          · obtain rfl : i = 35 := by omega
            subst hcc
            have HSB : Hid (∀ W, Calls Try.prog 8 #[.slice (some ⟨gb, 0, none⟩) 0 0] W fun e w' => e = .returned (.bool true) ∧ New W w') := Lib.hid (fun W => scans_any (some ⟨gb, 0, none⟩) 0 0 [] W rfl (by omega) ⟨by omega, by unfold maxLen; omega⟩ ⟨by simp [vb], fun h => absurd h (by omega)⟩)
            go_wp2_with (first
              | (go_at_call 8; (with_reducible refine HSA.out.mono ?_); rintro e w8 ⟨rfl, hn8⟩; have HN8 := Lib.hid (New.then HNW.out hn8); clear hn8)
              | (go_at_call 8; (with_reducible refine (HSB.out _).mono ?_); rintro e w9 ⟨rfl, hn9⟩; have HN9 := Lib.hid (New.then HN8.out hn9); clear hn9)
              | fail)
            go_roundw
            case rel => exact ⟨36, by omega, by go_num, HN9.out⟩
            case measure => simp [intOf]
          · have hcci : ¬ (cb : Int) = (i : Int) := by omega
            have HSB : Hid (∀ W, New w7 W → Calls Try.prog 8 #[.slice (some ⟨gb, i, none⟩) (35 - i) (cb - i)] W fun e w' => e = .returned (.bool true) ∧ New W w') := Lib.hid (fun W hW => by
              have h := (HR7.out.new hW).cut (k := i) (cap := cb) (by omega) (by omega)
              rw [if_neg hcc] at h
              refine scans_any (some ⟨gb, i, none⟩) (35 - i) (cb - i) (b.drop i) W (by rw [List.length_drop, HB7.out]) (by omega) ⟨by omega, by have := HC7.out.2; omega⟩ ?_
              simpa [Addr.add_lit, vb, ← List.map_drop] using h)
            go_wp2_with (first
              | (go_at_call 8; (with_reducible refine HSA.out.mono ?_); rintro e w8 ⟨rfl, hn8⟩; have HN8 := Lib.hid (New.then HNW.out hn8); have HSB8 := Lib.hid (HSB.out w8 HN8.out); clear hn8)
              | (go_at_call 8; (with_reducible refine HSB8.out.mono ?_); rintro e w9 ⟨rfl, hn9⟩; have HN9 := Lib.hid (New.then HN8.out hn9); clear hn9)
              | fail)
            go_roundw
            case rel => exact ⟨i + 1, by omega, by go_num, HN9.out⟩
            case measure => simp [intOf]; omega
        · obtain rfl : i = 36 := by omega
          go_wp2
          go_loopw [14] (fun vi wj => ∃ i : Nat, i ≤ 35 ∧ vi = .int .i64 (i : Int) ∧ New w7 wj) (fun vi _ => 35 - (intOf vi).toNat)
          case atStart => exact ⟨0, Nat.zero_le _, rfl, HNW.out⟩
          case round =>
            clear HNW
            obtain ⟨i, hi, rfl, hnw⟩ := hrel
            have HNW := Lib.hid hnw
            clear hnw
            by_cases hlt : i < 35
            · have hi35 : (i : Int) < 35 := by omega
              go_wp2
              go_loopw [15] (fun vk wk => ∃ k : Nat, k ≤ 8 ∧ vk = .int .i64 (k : Int) ∧ New w7 wk) (fun vk _ => 8 - (intOf vk).toNat)
              case atStart => exact ⟨0, Nat.zero_le _, rfl, HNW.out⟩
              case round =>
                clear HNW
                obtain ⟨k, hk, rfl, hnw⟩ := hrel
                have HNW := Lib.hid hnw
                clear hnw
                by_cases hlt8 : k < 8
                · have hk8 : (k : Int) < 8 := by omega
                  obtain ⟨x, hx⟩ : ∃ x, b[i]? = some x := ⟨_, List.getElem?_eq_getElem (by rw [HB7.out]; exact hlt)⟩
                  obtain ⟨y, hy1, hy2, hy3⟩ := turn_u8 x k hlt8
                  have HCP := Lib.hid (copy_any (some ⟨gb, 0, none⟩) 35 cb b wr HB7.out.symm (by omega) (HR7.out.new HNW.out))
                  have HX := Lib.hid hx
                  clear hx
                  go_wp2_with (first
                    | (go_at_call 9; (with_reducible refine HCP.out.mono ?_); rintro e w8 ⟨v8, rfl, hac⟩; obtain ⟨g8, c8, rfl, hc8, hg8, hbu⟩ := bu_of_own hac.own HB7.out (by omega); have d8 := hbu.at_ HX.out; have f8 := hbu.frozen i; have HBU := Lib.hid hbu; have HC8 := Lib.hid hc8; have HNX := Lib.hid (New.then HNW.out (Below.setCell hac.new (p := ⟨g8, i, none⟩) hg8 (.int .u8 (y.toNat : Int)))); have HSY := Lib.hid (scans_any (some ⟨g8, 0, none⟩) 35 c8 (b.set i y) (w8.setCell ⟨g8, i, none⟩ (.int .u8 (y.toNat : Int))) (by rw [List.length_set, HB7.out]) (by omega) hc8 ((hbu.set y).reads 35 (by rw [List.length_set, HB7.out]))); clear hac hc8 hg8 hbu)
                    | (go_at_call 8; (with_reducible refine HSY.out.mono ?_); rintro e w9 ⟨rfl, hn9⟩; have HN9 := Lib.hid (New.then HNX.out hn9); clear hn9)
                    | fail)
                  go_roundw
                  case rel =>
                    (repeat apply Exists.intro)
                    refine ⟨?_, rfl⟩
                    exact ⟨k + 1, by omega, by go_num, HN9.out⟩
                  case measure => simp [intOf]; omega
                · obtain rfl : k = 8 := by omega
                  go_wp2
                  go_roundw
                  case rel => exact ⟨i + 1, by omega, by go_num, HNW.out⟩
                  case measure => simp [intOf]; omega
            · obtain rfl : i = 35 := by omega
              have HL1 : Hid (Calls Try.prog 8 #[.slice (some ⟨wr.heap.size, 0, none⟩) 10 10] (wr.alloc (.cells #[.int .u8 0, .int .u8 0, .int .u8 4, .int .u8 0, .int .u8 0, .int .u8 1, .int .u8 2, .int .u8 3, .int .u8 4, .int .u8 5] 5)) fun e w' => e = .returned (.bool true) ∧ New wr w') := Lib.hid (scans_lit wr [0, 0, 4, 0, 0, 1, 2, 3, 4, 5] 10 rfl (by omega))
              have HL2 : Hid (∀ W : World, Calls Try.prog 8 #[.slice (some ⟨W.heap.size, 0, none⟩) 10 10] (W.alloc (.cells #[.int .u8 0, .int .u8 0, .int .u8 4, .int .u8 0, .int .u8 1, .int .u8 1, .int .u8 2, .int .u8 3, .int .u8 4, .int .u8 5] 5)) fun e w' => e = .returned (.bool true) ∧ New W w') := Lib.hid (fun W => scans_lit W [0, 0, 4, 0, 1, 1, 2, 3, 4, 5] 10 rfl (by omega))
              have HL3 : Hid (∀ W : World, Calls Try.prog 8 #[.slice (some ⟨W.heap.size, 0, none⟩) 8 8] (W.alloc (.cells #[.int .u8 0, .int .u8 0, .int .u8 4, .int .u8 0, .int .u8 1, .int .u8 1, .int .u8 2, .int .u8 3] 5)) fun e w' => e = .returned (.bool true) ∧ New W w') := Lib.hid (fun W => scans_lit W [0, 0, 4, 0, 1, 1, 2, 3] 8 rfl (by omega))
              have HL4 : Hid (∀ W : World, Calls Try.prog 8 #[.slice (some ⟨W.heap.size, 0, none⟩) 10 10] (W.alloc (.cells #[.int .u8 0, .int .u8 255, .int .u8 255, .int .u8 255, .int .u8 255, .int .u8 1, .int .u8 2, .int .u8 3, .int .u8 4, .int .u8 5] 5)) fun e w' => e = .returned (.bool true) ∧ New W w') := Lib.hid (fun W => scans_lit W [0, 255, 255, 255, 255, 1, 2, 3, 4, 5] 10 rfl (by omega))
              go_wp2_with (first
                | (go_at_call 8; (with_reducible refine HL1.out.mono ?_); rintro e x1 ⟨rfl, m1⟩; have HM1 := Lib.hid (New.then HNW.out m1); clear m1)
                | (go_at_call 8; (with_reducible refine (HL2.out _).mono ?_); rintro e x2 ⟨rfl, m2⟩; have HM2 := Lib.hid (New.then HM1.out m2); clear m2)
                | (go_at_call 8; (with_reducible refine (HL3.out _).mono ?_); rintro e x3 ⟨rfl, m3⟩; have HM3 := Lib.hid (New.then HM2.out m3); clear m3)
                | (go_at_call 8; (with_reducible refine (HL4.out _).mono ?_); rintro e x4 ⟨rfl, m4⟩; have HM4 := Lib.hid (New.then HM3.out m4); have HAW := Lib.hid (awake_any x4); clear m4)
                | (go_at_call 10; (with_reducible refine HAW.out.mono ?_); rintro e x5 ⟨rfl, m5⟩; have HM5 := Lib.hid (New.then HM4.out m5); clear m5)
                | fail)
              go_ret
              exact ⟨rfl, New.then HN7.out HM5.out⟩
end Go.Proofs.Ytlbbhheaginddaa.fr
