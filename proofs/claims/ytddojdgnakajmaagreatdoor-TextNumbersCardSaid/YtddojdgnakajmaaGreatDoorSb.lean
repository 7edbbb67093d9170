/-
  The closed law of layer 7: drawn lines, words, bytes, numbers.
-/
import Derived.Test.YtddojdgnakajmaaGreatDoorSa
namespace Go.Proofs.YtddojdgnakajmaaGreatDoor.txt
open Go.RowKit Go.Proofs.YtddojdgnakajmaaGreatDoor.mem Go.Proofs.YtddojdgnakajmaaGreatDoor.kit Go.Proofs.YtddojdgnakajmaaGreatDoor.ins
set_option linter.unusedVariables false
set_option linter.unusedSimpArgs false

theorem asc_of {l : List UInt8} {b : UInt8} (h : l.all (fun b => decide (b.toNat < 128)) = true) (hb : b ∈ l) : b.toNat < 128 := by
  have := List.all_eq_true.1 h b hb
  simpa using this

/-- A row of short plain strings, made. -/
def LinD (w : World) (e : Ending) (w' : World) : Prop := ∃ xs : List Bs, e = .returned (.slice (some ⟨w.heap.size, 0, none⟩) xs.length xs.length) ∧ Blk w' w.heap.size 9 (vs xs).toArray ∧ New w w' ∧ xs.length ≤ 1001 ∧ ∀ x ∈ xs, x.length ≤ 1000 ∧ ∀ b ∈ x, b.toNat < 128
theorem lin_of {w w' : World} {s : Bs} {e : Ending} (h1 : s.length ≤ 1000) (h2 : s.all (fun b => decide (b.toNat < 128)) = true) (h : SpD w s e w') : LinD w e w' := by
  obtain ⟨xs, he, hb, hn, hl, hx⟩ := h
  exact ⟨xs, he, hb, hn, Nat.le_trans hl (Nat.succ_le_succ h1), fun x hx' => ⟨Nat.le_trans (hx x hx').1 h1, fun b hb => asc_of h2 ((hx x hx').2 b hb)⟩⟩
theorem split_lin (w : World) (h : MaxT w) : Calls Tryz.prog 9 #[.string ⟨#[97, 100, 100, 32, 114, 49, 32, 44, 32, 114, 50, 124, 115, 117, 98, 51, 50, 32, 114, 57, 32, 44, 32, 53, 124, 109, 111, 118, 32, 114, 48, 32, 44, 32, 45, 32, 55, 124, 110, 101, 103, 32, 114, 51, 124, 110, 101, 103, 51, 50, 32, 114, 51, 124, 108, 111, 97, 100, 49, 32, 114, 49, 32, 44, 32, 91, 32, 114, 49, 48, 32, 45, 32, 56, 32, 93, 124, 108, 111, 97, 100, 56, 32, 114, 49, 32, 44, 32, 91, 32, 114, 50, 32, 43, 32, 48, 32, 93, 124, 112, 117, 116, 50, 32, 91, 32, 114, 49, 48, 32, 45, 32, 49, 54, 32, 93, 32, 44, 32, 114, 49, 124, 112, 117, 116, 52, 32, 91, 32, 114, 49, 48, 32, 43, 32, 55, 32, 93, 32, 44, 32, 45, 32, 49, 124, 106, 117, 109, 112, 32, 120, 124, 106, 117, 109, 112, 32, 43, 32, 51, 124, 106, 101, 113, 32, 114, 49, 32, 44, 32, 114, 50, 32, 44, 32, 120, 124, 106, 115, 101, 116, 51, 50, 32, 114, 49, 48, 32, 44, 32, 57, 32, 44, 32, 45, 32, 50, 124, 101, 120, 105, 116, 124, 120, 32, 58]⟩, .string ⟨#[124]⟩] w (LinD w) :=
  (split_row ⟨#[97, 100, 100, 32, 114, 49, 32, 44, 32, 114, 50, 124, 115, 117, 98, 51, 50, 32, 114, 57, 32, 44, 32, 53, 124, 109, 111, 118, 32, 114, 48, 32, 44, 32, 45, 32, 55, 124, 110, 101, 103, 32, 114, 51, 124, 110, 101, 103, 51, 50, 32, 114, 51, 124, 108, 111, 97, 100, 49, 32, 114, 49, 32, 44, 32, 91, 32, 114, 49, 48, 32, 45, 32, 56, 32, 93, 124, 108, 111, 97, 100, 56, 32, 114, 49, 32, 44, 32, 91, 32, 114, 50, 32, 43, 32, 48, 32, 93, 124, 112, 117, 116, 50, 32, 91, 32, 114, 49, 48, 32, 45, 32, 49, 54, 32, 93, 32, 44, 32, 114, 49, 124, 112, 117, 116, 52, 32, 91, 32, 114, 49, 48, 32, 43, 32, 55, 32, 93, 32, 44, 32, 45, 32, 49, 124, 106, 117, 109, 112, 32, 120, 124, 106, 117, 109, 112, 32, 43, 32, 51, 124, 106, 101, 113, 32, 114, 49, 32, 44, 32, 114, 50, 32, 44, 32, 120, 124, 106, 115, 101, 116, 51, 50, 32, 114, 49, 48, 32, 44, 32, 57, 32, 44, 32, 45, 32, 50, 124, 101, 120, 105, 116, 124, 120, 32, 58]⟩ 124 w h (by decide +kernel)).mono fun e w' h => lin_of (by decide +kernel) (by decide +kernel) h
theorem split_oth (w : World) (h : MaxT w) : Calls Tryz.prog 9 #[.string ⟨#[114, 48, 32, 114, 49, 48, 32, 114, 49, 49, 32, 48, 32, 55, 32, 48, 55, 32, 57, 57, 57, 57, 57, 57, 57, 57, 57, 57, 32, 57, 57, 57, 57, 57, 57, 57, 57, 57, 57, 57, 32, 44, 32, 91, 32, 93, 32, 43, 32, 45, 32, 58, 32, 120, 32, 121, 32, 97, 100, 100, 32, 108, 111, 97, 100, 51, 32, 110, 101, 103, 32, 101, 120, 105, 116, 32, 95, 32, 35]⟩, .string ⟨#[32]⟩] w (LinD w) :=
  (split_row ⟨#[114, 48, 32, 114, 49, 48, 32, 114, 49, 49, 32, 48, 32, 55, 32, 48, 55, 32, 57, 57, 57, 57, 57, 57, 57, 57, 57, 57, 32, 57, 57, 57, 57, 57, 57, 57, 57, 57, 57, 57, 32, 44, 32, 91, 32, 93, 32, 43, 32, 45, 32, 58, 32, 120, 32, 121, 32, 97, 100, 100, 32, 108, 111, 97, 100, 51, 32, 110, 101, 103, 32, 101, 120, 105, 116, 32, 95, 32, 35]⟩ 32 w h (by decide +kernel)).mono fun e w' h => lin_of (by decide +kernel) (by decide +kernel) h
theorem split_num (w : World) (h : MaxT w) : Calls Tryz.prog 9 #[.string ⟨#[48, 124, 49, 124, 48, 48, 124, 48, 49, 124, 51, 50, 55, 54, 55, 124, 51, 50, 55, 54, 56, 124, 51, 50, 55, 54, 57, 124, 50, 49, 52, 55, 52, 56, 51, 54, 52, 55, 124, 50, 49, 52, 55, 52, 56, 51, 54, 52, 56, 124, 50, 49, 52, 55, 52, 56, 51, 54, 52, 57, 124, 57, 57, 57, 57, 57, 57, 57, 57, 57, 57, 124, 48, 48, 48, 48, 48, 48, 48, 48, 48, 48, 48]⟩, .string ⟨#[124]⟩] w (LinD w) :=
  (split_row ⟨#[48, 124, 49, 124, 48, 48, 124, 48, 49, 124, 51, 50, 55, 54, 55, 124, 51, 50, 55, 54, 56, 124, 51, 50, 55, 54, 57, 124, 50, 49, 52, 55, 52, 56, 51, 54, 52, 55, 124, 50, 49, 52, 55, 52, 56, 51, 54, 52, 56, 124, 50, 49, 52, 55, 52, 56, 51, 54, 52, 57, 124, 57, 57, 57, 57, 57, 57, 57, 57, 57, 57, 124, 48, 48, 48, 48, 48, 48, 48, 48, 48, 48, 48]⟩ 124 w h (by decide +kernel)).mono fun e w' h => lin_of (by decide +kernel) (by decide +kernel) h

set_option maxRecDepth 100000 in
set_option maxHeartbeats 4000000 in
theorem TextNumbers_any (T : TypeId) (q : Addr) (w : World) (h : TW w T q) : Calls Tryz.prog 4 #[] w fun e w' => e = .returned (.bool true) ∧ New w w' := by
  have HT : Hid (∀ W, New w W → TW W T q) := Lib.hid (fun W hW => h.new hW)
  have HPS : Hid (∀ (b : ByteArray) W, New w W → Calls Tryz.prog 7 #[.string b] W fun e w' => e = .returned (.bool true) ∧ New W w') := Lib.hid (fun b W hW => parses_b T q b W (h.new hW))
  clear h
  have HL1 := Lib.hid (split_lin w (HT.out w (new_refl w)).m)
  have HL2 := Lib.hid (fun W hW => split_oth W (HT.out W hW).m)
  go_enter Tryz.func4, Tryz.ntmps4
  go_wp2_with (first
    | (go_at_call 9; (with_reducible refine HL1.out.mono ?_); rintro e w1 ⟨xs, rfl, hb1, hn1, hxl, hx1⟩; have HB1 := Lib.hid hb1; have HN1 := Lib.hid hn1; have HX1 := Lib.hid hx1; clear hb1 hn1 hx1)
    | (go_at_call 9; (with_reducible refine (HL2.out w1 HN1.out).mono ?_); rintro e w2 ⟨zs, rfl, hb2, hn2, hzl, hx2⟩; have HX2 := Lib.hid hx2; have HB2 := Lib.hid hb2; have HB1' := Lib.hid (HB1.out.below hn2 HB1.out.lt); have HN2 := Lib.hid (New.then HN1.out hn2); clear hb2 hn2 hx2)
    | fail)
  go_loopw [3] (fun iv wr => ∃ i : Nat, i ≤ xs.length ∧ iv = .int .i64 (i : Int) ∧ Hid (New w2 wr)) (fun iv _ => xs.length - (intOf iv).toNat)
  case atStart => exact ⟨0, Nat.zero_le _, rfl, Lib.hid (new_refl _)⟩
  case round =>
    obtain ⟨i, hi, rfl, HI⟩ := hrel
    by_cases hlt : i < xs.length
    · have t1 : (i : Int) < (xs.length : Int) := by omega
      obtain ⟨X, hX⟩ : ∃ X, xs[i] = X := ⟨_, rfl⟩
      have hcx : ∀ W, New w2 W → W.cell? ⟨w.heap.size, i, none⟩ = some (.string ⟨X.toArray⟩) := fun W hW => by rw [← hX]; exact ((HB1'.out.below hW HB1'.out.lt).cell i).trans (vs_at hlt)
      have HCX := Lib.hid hcx
      have HXX : Hid (X.length ≤ 1000 ∧ ∀ b ∈ X, b.toNat < 128) := Lib.hid (hX ▸ HX1.out _ (List.getElem_mem hlt))
      have HSP := Lib.hid (split_row ⟨X.toArray⟩ 32 wr (HT.out wr (New.then HN2.out HI.out)).m (Nat.le_trans HXX.out.1 (by decide)))
      have hc0 := HCX.out wr HI.out
      clear hcx hX
      go_wp2_with (first
        | (go_at_call 9; (with_reducible refine HSP.out.mono ?_); rintro e w3 ⟨ps, rfl, hb3, hn3, hl3, hx3⟩; have HB3 := Lib.hid hb3; have HN3 := Lib.hid (New.then HI.out hn3); have HL3 : Hid (ps.length ≤ 1000001 ∧ ∀ x ∈ ps, x.length ≤ 1000000) := Lib.hid ⟨Nat.le_trans hl3 (by have := HXX.out.1; show X.length + 1 ≤ _; omega), fun x hx => Nat.le_trans (hx3 x hx).1 (by have := HXX.out.1; show X.length ≤ _; omega)⟩; clear hb3 hn3 hl3 hx3)
        | fail)
      have HN30 : Hid (New w w3) := Lib.hid (New.then HN2.out HN3.out)
      obtain ⟨gw, hgw⟩ : ∃ gw, wr.heap.size = gw := ⟨_, rfl⟩
      obtain ⟨n, hn⟩ : ∃ n, ps.length = n := ⟨_, rfl⟩
      have HN := Lib.hid hn
      have HLN : Hid (n ≤ 1000001) := Lib.hid (by rw [← hn]; exact HL3.out.1)
      rw [hgw] at HB3
      rw [hgw, hn]
      clear hgw hn
      go_loopw [5] (fun jv wj => ∃ j : Nat, j ≤ n ∧ jv = .int .i64 (j : Int) ∧ Hid (New w3 wj)) (fun jv _ => n - (intOf jv).toNat)
      case atStart => exact ⟨0, Nat.zero_le _, rfl, Lib.hid (new_refl _)⟩
      case round =>
        obtain ⟨j, hj, rfl, HJ⟩ := hrel
        by_cases hlj : j < n
        · have t2 : (j : Int) < (n : Int) := by omega
          have HBW : Hid (∀ W, New w3 W → Blk W gw 9 (vs ps).toArray) := Lib.hid (fun W hW => HB3.out.below hW HB3.out.lt)
          obtain ⟨Y, hY⟩ : ∃ Y, ps[j]'(by rw [HN.out]; exact hlj) = Y := ⟨_, rfl⟩
          have HCY : Hid (∀ W, New w3 W → W.cell? ⟨gw, j, none⟩ = some (.string ⟨Y.toArray⟩)) := Lib.hid (fun W hW => by rw [← hY]; exact ((HBW.out W hW).cell j).trans (vs_at (by rw [HN.out]; exact hlj)))
          have HYL : Hid (Y.length ≤ 1000000) := Lib.hid (hY ▸ HL3.out.2 _ (List.getElem_mem _))
          have hnl := HLN.out
          have HJ1 : Hid (∀ W, New w3 W → Calls Tryz.prog 10 #[.slice (some ⟨gw, 0, none⟩) j n, .string ⟨#[32]⟩] W fun e w' => (∃ s : ByteArray, e = .returned (.string s) ∧ s.size ≤ 140737488355328) ∧ New W w') := Lib.hid (fun W hW => join_row ps _ gw 0 j n W (Or.inr rfl) (HBW.out W hW) (by rw [HN.out]; omega) (by omega) HL3.out.2 HL3.out.1)
          have HD : Hid (New w3 wr.drew) := Lib.hid (Below.drew HJ.out)
          have HA1 := Lib.hid (HJ1.out wr.drew HD.out)
          clear hY
          have e1 : IntKind.i64.wrap ((j : Int) + 1) = (j : Int) + 1 := IntWalk.i64_in _ ⟨by omega, by have := HLN.out; omega⟩
          have e2 : ((j : Int) + 1).toNat = j + 1 := by omega
          have e3 : (0 : Int) ≤ (j : Int) + 1 := by omega
          have e4 : (j : Int) + 1 ≤ (n : Int) := by omega
          have e6 : (j : Int) ≤ (n : Int) := by omega
          have e9 : (j : Int) ≤ (j : Int) + 1 := by omega
          go_wp2_with fail
          go_cut [6, 7] (fun s6 s7 wx => (∃ a b : ByteArray, (s6 = .string a ∧ s7 = .string b) ∧ a.size ≤ 140737488355328 ∧ b.size ≤ 140737488355328) ∧ Hid (New w3 wx))
          case first =>
            by_cases hje : j + 1 = n
            · subst hje
              have HJ2 : Hid (∀ A W, New w3 W → Calls Tryz.prog 10 #[.slice A 0 0, .string ⟨#[32]⟩] W fun e w' => (∃ s : ByteArray, e = .returned (.string s) ∧ s.size ≤ 140737488355328) ∧ New W w') := Lib.hid (fun A W hW => join_row ps A gw 0 0 0 W (Or.inl rfl) (HBW.out W hW) (by rw [HN.out]; omega) (by omega) HL3.out.2 HL3.out.1)
              go_region_held3 (fun _ => True)
                (trivial)
              (first
                  | (go_at_call 10; (with_reducible refine HA1.out.mono ?_); rintro e w5 ⟨⟨s5, rfl, hs5⟩, hn5⟩; have HN5 := Lib.hid (New.then HD.out hn5); clear hn5)
                  | (go_at_call 10; (with_reducible refine (HJ2.out _ w5 HN5.out).mono ?_); rintro e w7 ⟨⟨s7, rfl, hs7⟩, hn7⟩; have HN7 := Lib.hid (New.then HN5.out hn7); clear hn7)
                  | fail)
              go_wp2_with fail
              go_meet
              exact ⟨⟨_, _, ⟨rfl, rfl⟩, hs5, hs7⟩, HN7⟩
            · have HJ2 : Hid (∀ (_ : Unit) W, New w3 W → Calls Tryz.prog 10 #[.slice (some ⟨gw, j + 1, none⟩) (n - (j + 1)) (n - (j + 1)), .string ⟨#[32]⟩] W fun e w' => (∃ s : ByteArray, e = .returned (.string s) ∧ s.size ≤ 140737488355328) ∧ New W w') := Lib.hid (fun _ W hW => join_row ps _ gw (j + 1) (n - (j + 1)) (n - (j + 1)) W (Or.inr rfl) (HBW.out W hW) (by rw [HN.out]; omega) (by omega) HL3.out.2 HL3.out.1)
              have e5 : ¬ n = j + 1 := by omega
              go_region_held3 (fun _ => True)
                (trivial)
              (first
                  | (go_at_call 10; (with_reducible refine HA1.out.mono ?_); rintro e w5 ⟨⟨s5, rfl, hs5⟩, hn5⟩; have HN5 := Lib.hid (New.then HD.out hn5); clear hn5)
                  | (go_at_call 10; (with_reducible refine (HJ2.out () w5 HN5.out).mono ?_); rintro e w7 ⟨⟨s7, rfl, hs7⟩, hn7⟩; have HN7 := Lib.hid (New.then HN5.out hn7); clear hn7)
                  | fail)
              go_wp2_with fail
              go_meet
              exact ⟨⟨_, _, ⟨rfl, rfl⟩, hs5, hs7⟩, HN7⟩
          case rest =>
            obtain ⟨⟨a, b, ⟨rfl, rfl⟩, has, hbs⟩, HC⟩ := hcut
            have HBASE := HN30
            have hy8 := HYL.out
            have z1 : ¬ 9223372036854775807 < 3 + a.size := by omega
            have z2 : ¬ 9223372036854775807 < 3 + a.size + 1 := by omega
            have z3 : ¬ 9223372036854775807 < 3 + a.size + 1 + b.size := by omega
            have z4 : ¬ 9223372036854775807 < a.size + 1 := by omega
            have z5 : ¬ 9223372036854775807 < a.size + 1 + Y.length := by omega
            have z6 : ¬ 9223372036854775807 < a.size + 1 + Y.length + 1 := by omega
            have z7 : ¬ 9223372036854775807 < a.size + 1 + Y.length + 1 + Y.length := by omega
            have z8 : ¬ 9223372036854775807 < a.size + 1 + Y.length + 1 + Y.length + 1 := by omega
            have z9 : ¬ 9223372036854775807 < a.size + 1 + Y.length + 1 + Y.length + 1 + b.size := by omega
            have z10 : ¬ 9223372036854775807 < a.size + 1 + Y.length + 1 + Y.length + 1 + b.size + 3 := by omega
            have HNb : Hid (New w3 wc.drew) := Lib.hid (Below.drew HC.out)
            have hy0 := HCY.out wc.drew HNb.out
            go_wp2_with fail
            go_region_held3 (fun w' => w'.cell? ⟨gw, j, none⟩ = some (.string ⟨Y.toArray⟩))
              (go_keep)
              (first
                | (go_at_call 7; (with_reducible refine (HPS.out _ _ (New.then HBASE.out HNb.out)).mono ?_); rintro e wz ⟨rfl, hnz⟩; have HNb := Lib.hid (New.then HNb.out hnz); have hy1 := HCY.out wz HNb.out; clear hnz)
                | fail)
            go_wp2_with fail
            have HK0 := HNb
            go_loopw [8] (fun kv wk => ∃ k : Nat, k ≤ zs.length ∧ kv = .int .i64 (k : Int) ∧ Hid (New w3 wk)) (fun kv _ => zs.length - (intOf kv).toNat)
            case atStart => exact ⟨0, Nat.zero_le _, rfl, HK0⟩
            case round =>
              clear HNb HK0 HC HJ hy0 hy1
              obtain ⟨k, hk, rfl, HNb⟩ := hrel
              by_cases hlk : k < zs.length
              · have t3 : (k : Int) < (zs.length : Int) := by omega
                have hz0 := ((HB2.out.below (New.then HN3.out HNb.out) HB2.out.lt).cell k).trans (vs_at hlk)
                have hzz := (HX2.out _ (List.getElem_mem hlk)).1
                generalize zs[k] = Z at hz0 hzz
                have z21 : ¬ 9223372036854775807 < a.size + 1 + Z.length := by omega
                have z22 : ¬ 9223372036854775807 < a.size + 1 + Z.length + 1 := by omega
                have z23 : ¬ 9223372036854775807 < a.size + 1 + Z.length + 1 + b.size := by omega
                have z24 : ¬ 9223372036854775807 < a.size + 1 + Z.length + 1 + b.size + 3 := by omega
                go_wp2_with (first
                  | (go_at_call 7; (with_reducible refine (HPS.out _ _ (New.then HBASE.out HNb.out)).mono ?_); rintro e wz ⟨rfl, hnz⟩; have HNb := Lib.hid (New.then HNb.out hnz); clear hnz)
                  | fail)
                go_roundw
                case rel => exact ⟨k + 1, by omega, by go_num, HNb⟩
                case measure => simp [intOf]; omega
              · obtain rfl : k = zs.length := by omega
                go_wp2_with fail
                go_roundw
                case rel => exact ⟨j + 1, by omega, by go_num, HNb⟩
                case measure => simp [intOf]; omega
        · obtain rfl : j = n := by omega
          have HBASE := HN2
          have HNb := Lib.hid (New.then HN3.out HJ.out)
          have hc1 := HCX.out wr HNb.out
          have HRP : Hid (∀ W, New w2 W → Calls Tryz.prog 11 #[.string ⟨X.toArray⟩, .string ⟨#[32]⟩, .string ⟨#[]⟩] W fun e w' => (∃ s : ByteArray, e = .returned (.string s)) ∧ New W w') := Lib.hid (fun W hW => replace_one _ W (HT.out W (New.then HN2.out hW)).m (Nat.le_trans HXX.out.1 (by decide)))
          have HUP : Hid (∀ W, New w2 W → Calls Tryz.prog 12 #[.string ⟨X.toArray⟩] W fun e w' => (∃ s : ByteArray, e = .returned (.string s)) ∧ New W w') := Lib.hid (fun W hW => upper_one _ W (Nat.le_trans HXX.out.1 (by decide)) HXX.out.2)
          go_wp2_with (first
            | (go_at_call 7; (with_reducible refine (HPS.out _ _ (New.then HBASE.out HNb.out)).mono ?_); rintro e wz ⟨rfl, hnz⟩; have HNb := Lib.hid (New.then HNb.out hnz); have hc2 := HCX.out wz HNb.out; clear hnz)
            | (go_at_call 11; (with_reducible refine (HRP.out _ HNb.out).mono ?_); rintro e wz ⟨⟨sz, rfl⟩, hnz⟩; have HNb := Lib.hid (New.then HNb.out hnz); have hc2 := HCX.out wz HNb.out; clear hnz)
            | (go_at_call 12; (with_reducible refine (HUP.out _ HNb.out).mono ?_); rintro e wz ⟨⟨sz, rfl⟩, hnz⟩; have HNb := Lib.hid (New.then HNb.out hnz); have hc2 := HCX.out wz HNb.out; clear hnz)
            | fail)
          go_roundw
          case rel => exact ⟨i + 1, by omega, by go_num, HNb⟩
          case measure => simp [intOf]; omega
    · obtain rfl : i = xs.length := by omega
      have HBASE := HN2
      clear HB1 HN1 HX1 HB2 HB1' HL1 HL2 hi
      go_wp2_with fail
      go_loopw [9] (fun kv wk => ∃ k : Nat, k ≤ 257 ∧ kv = .int .i64 (k : Int) ∧ Hid (New w2 wk)) (fun kv _ => 257 - (intOf kv).toNat)
      case atStart => exact ⟨0, Nat.zero_le _, rfl, HI⟩
      case round =>
        clear HI
        obtain ⟨k, hk, rfl, HNb⟩ := hrel
        by_cases hlk : k < 256
        · have t4 : (k : Int) < 256 := by omega
          have u8 : IntKind.u8.wrap (k : Int) = (k : Int) := IntWalk.u8_in _ ⟨by omega, by omega⟩
          have kc := conv_byte wr k hlk
          have HNb := Lib.hid (New.then HNb.out (new1 wr (.cells #[.int .u8 (k : Int)] 5)))
          go_wp2_with (first
            | (go_at_call 7; (with_reducible refine (HPS.out _ _ (New.then HBASE.out HNb.out)).mono ?_); rintro e wz ⟨rfl, hnz⟩; have HNb := Lib.hid (New.then HNb.out hnz); clear hnz)
            | fail)
          go_roundw
          case rel => exact ⟨k + 1, by omega, by go_num, HNb⟩
          case measure => simp [intOf]; omega
        · have t4 : ¬ (k : Int) < 256 := by omega
          have HL3 := Lib.hid (split_num wr (HT.out wr (New.then HN2.out HNb.out)).m)
          go_wp2_with (first
            | (go_at_call 9; (with_reducible refine HL3.out.mono ?_); rintro e w4 ⟨ns, rfl, hb4, hn4, hnl, hx4⟩; have HX4 := Lib.hid hx4; have HB4 := Lib.hid hb4; have HN4 := Lib.hid (New.then HNb.out hn4); clear hb4 hn4 hx4)
            | fail)
          have HN40 := Lib.hid (New.then HN2.out HN4.out)
          obtain ⟨gn, hgn⟩ : ∃ gn, wr.heap.size = gn := ⟨_, rfl⟩
          rw [hgn] at HB4 ⊢
          clear hgn HBASE HNb HL3
          go_loopw [12] (fun jv wk => ∃ j : Nat, j ≤ ns.length ∧ jv = .int .i64 (j : Int) ∧ Hid (New w4 wk)) (fun jv _ => ns.length - (intOf jv).toNat)
          case atStart => exact ⟨0, Nat.zero_le _, rfl, Lib.hid (new_refl _)⟩
          case round =>
            have HBASE := HN40
            obtain ⟨j, hj, rfl, HNb⟩ := hrel
            by_cases hlj : j < ns.length
            · have t5 : (j : Int) < (ns.length : Int) := by omega
              obtain ⟨Y, hY⟩ : ∃ Y, ns[j] = Y := ⟨_, rfl⟩
              have HCY : Hid (∀ W, New w4 W → W.cell? ⟨gn, j, none⟩ = some (.string ⟨Y.toArray⟩)) := Lib.hid (fun W hW => by rw [← hY]; exact ((HB4.out.below hW HB4.out.lt).cell j).trans (vs_at hlj))
              have HNb : Hid (New w4 wr.drew) := Lib.hid (Below.drew HNb.out)
              have hy0 := HCY.out wr.drew HNb.out
              have hyl : Y.length ≤ 1000 := hY ▸ (HX4.out _ (List.getElem_mem hlj)).1
              have z31 : ¬ 9223372036854775807 < 8 + Y.length := by omega
              have z32 : ¬ 9223372036854775807 < 8 + Y.length + 10 := by omega
              have z33 : ¬ 9223372036854775807 < 8 + Y.length + 10 + Y.length := by omega
              have z34 : ¬ 9223372036854775807 < 9 + Y.length := by omega
              have z35 : ¬ 9223372036854775807 < 6 + Y.length := by omega
              have z36 : ¬ 9223372036854775807 < 16 + Y.length := by omega
              have z37 : ¬ 9223372036854775807 < 16 + Y.length + 1 := by omega
              clear hY
              go_wp2_with fail
              go_region_held3 (fun w' => w'.cell? ⟨gn, j, none⟩ = some (.string ⟨Y.toArray⟩))
                (go_keep)
                (first
                  | (go_at_call 7; (with_reducible refine (HPS.out _ _ (New.then HBASE.out HNb.out)).mono ?_); rintro e wz ⟨rfl, hnz⟩; have HNb := Lib.hid (New.then HNb.out hnz); have hy1 := HCY.out wz HNb.out; clear hnz)
                  | fail)
              go_wp2_with fail
              go_roundw
              case rel => exact ⟨j + 1, by omega, by go_num, HNb⟩
              case measure => simp [intOf]; omega
            · obtain rfl : j = ns.length := by omega
              go_wp2_with fail
              go_loopw [13] (fun kv wk => ∃ k : Nat, k ≤ 33 ∧ kv = .int .i64 (k : Int) ∧ Hid (New w4 wk)) (fun kv _ => 33 - (intOf kv).toNat)
              case atStart => exact ⟨29, by decide, rfl, HNb⟩
              case round =>
                clear HNb
                obtain ⟨k, hk, rfl, HNb⟩ := hrel
                by_cases hlk : k < 32
                · have t6 : (k : Int) < 32 := by omega
                  have HRE : Hid (∀ W, Calls Tryz.prog 13 #[.string ⟨#[97]⟩, .int .i64 (k : Int)] W fun e w' => (∃ s : ByteArray, e = .returned (.string s) ∧ s.size ≤ 140737488355328) ∧ New W w') := Lib.hid (fun W => repeat_one _ k W (by show 1 * k ≤ _; omega) (by omega))
                  go_wp2_with (first
                    | (go_at_call 7; (with_reducible refine (HPS.out _ _ (New.then HBASE.out HNb.out)).mono ?_); rintro e wz ⟨rfl, hnz⟩; have HNb := Lib.hid (New.then HNb.out hnz); clear hnz)
                    | (go_at_call 13; (with_reducible refine (HRE.out _).mono ?_); rintro e wz ⟨⟨sz, rfl, hsz⟩, hnz⟩; have z41 : ¬ 9223372036854775807 < 5 + sz.size := (by omega); have z42 : ¬ 9223372036854775807 < 5 + sz.size + 1 := (by omega); have z43 : ¬ 9223372036854775807 < 5 + sz.size + 1 + sz.size := (by omega); have z44 : ¬ 9223372036854775807 < 5 + sz.size + 1 + sz.size + 1 := (by omega); have z45 : ¬ 9223372036854775807 < sz.size + 2 := (by omega); have z46 : ¬ 9223372036854775807 < sz.size + 2 + sz.size := (by omega); have z47 : ¬ 9223372036854775807 < sz.size + 2 + sz.size + 1 := (by omega); have HNb := Lib.hid (New.then HNb.out hnz); clear hnz)
                    | fail)
                  go_roundw
                  case rel => exact ⟨k + 1, by omega, by go_num, HNb⟩
                  case measure => simp [intOf]; omega
                · have t6 : ¬ (k : Int) < 32 := by omega
                  have HR1 : Hid (∀ W, Calls Tryz.prog 13 #[.string ⟨#[101, 120, 105, 116, 10]⟩, .int .i64 4096] W fun e w' => (∃ s : ByteArray, e = .returned (.string s) ∧ s.size ≤ 140737488355328) ∧ New W w') := Lib.hid (fun W => repeat_one _ 4096 W (by decide) (by decide))
                  have HR2 : Hid (∀ W, Calls Tryz.prog 13 #[.string ⟨#[32]⟩, .int .i64 262144] W fun e w' => (∃ s : ByteArray, e = .returned (.string s) ∧ s.size ≤ 140737488355328) ∧ New W w') := Lib.hid (fun W => repeat_one _ 262144 W (by decide) (by decide))
                  have HAW : Hid (∀ W, New w W → Calls Tryz.prog 5 #[] W fun e w' => e = .returned (.bool true) ∧ New W w') := Lib.hid (fun W hW => awake_any T q W (HT.out W hW))
                  go_wp2_with (first
                    | (go_at_call 7; (with_reducible refine (HPS.out _ _ (New.then HBASE.out HNb.out)).mono ?_); rintro e wz ⟨rfl, hnz⟩; have HNb := Lib.hid (New.then HNb.out hnz); clear hnz)
                    | (go_at_call 13; (with_reducible refine (HR1.out _).mono ?_); rintro e wz ⟨⟨sz, rfl, hsz⟩, hnz⟩; have z51 : ¬ 9223372036854775807 < sz.size + 4 := (by omega); have z52 : ¬ 9223372036854775807 < sz.size + 5 := (by omega); have z53 : ¬ 9223372036854775807 < 7 + sz.size := (by omega); have HNb := Lib.hid (New.then HNb.out hnz); clear hnz)
                    | (go_at_call 13; (with_reducible refine (HR2.out _).mono ?_); rintro e wz ⟨⟨sz, rfl, hsz⟩, hnz⟩; have z55 : ¬ 9223372036854775807 < sz.size + 1 := (by omega); have HNb := Lib.hid (New.then HNb.out hnz); clear hnz)
                    | (go_at_call 5; (with_reducible refine (HAW.out _ (New.then HBASE.out HNb.out)).mono ?_); rintro e wz ⟨rfl, hnz⟩; have HNb := Lib.hid (New.then HNb.out hnz); clear hnz)
                    | fail)
                  go_ret
                  exact ⟨rfl, New.then HBASE.out HNb.out⟩
end Go.Proofs.YtddojdgnakajmaaGreatDoor.txt
