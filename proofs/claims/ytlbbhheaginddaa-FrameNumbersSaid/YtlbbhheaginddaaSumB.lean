/-
  Contracts of the document's sum; words as bytes; frame.Sum.
-/
import Derived.Test.YtlbbhheaginddaaSum
import Derived.Deep.RegionHeld3
namespace Go.Proofs.Ytlbbhheaginddaa.fr
open Go.RowKit Go.Proofs.Ytlbbhheaginddaa.mem Go.Proofs.Ytlbbhheaginddaa.kit Go.Proofs.Ytlbbhheaginddaa.wire Go.Proofs.Ytlbbhheaginddaa.crc
set_option linter.unusedVariables false

theorem half (m : Nat) : (m : Int) / 2 = ((m / 2 : Nat) : Int) := by omega

set_option maxRecDepth 100000 in
theorem rsum_any (A : Option Addr) (c : Nat) (l : List UInt8) (w : World) (hl : l.length ≤ 1099511627776) (hA : Reads w w.heap.size 1 A l.length (vb l)) :
    Calls Try.prog 38 #[.slice A l.length c] w fun e w' => e = .returned (.int .u32 (crc l : Nat)) ∧ w = w' := by
  have HA := Lib.hid hA
  have hb0 : (4294967295 : Nat) < 4294967296 := by decide
  clear hA
  go_enter Try.func38, Try.ntmps38
  go_wp2
  go_loop [3, 4] (fun x i => ∃ k : Nat, k ≤ l.length ∧ i = .int .i64 k ∧ x = .int .u32 (fold 4294967295 (l.take k) : Nat)) (fun _ i => l.length - (intOf i).toNat)
  case atStart => exact ⟨0, by omega, rfl, rfl⟩
  case round =>
    obtain ⟨k, hk, rfl, rfl⟩ := hrel
    have hm := fold_lt (l.take k) 4294967295 hb0
    by_cases hlt : k < l.length
    · have HS := Lib.hid (fold_take l k hlt 4294967295)
      obtain ⟨a, u, rfl, ha, hx, hc⟩ := HA.out.at_ hlt
      rw [vb_get l k hlt] at hx
      injection hx with hx
      subst hx
      generalize fold 4294967295 (l.take k) = m at *
      have hbt := l[k].toNat_lt
      have hxx := xor_two m l[k].toNat hm (by omega)
      obtain ⟨v, hv⟩ : ∃ v, m ^^^ l[k].toNat = v := ⟨_, rfl⟩
      have HV : Hid (v < 4294967296) := Lib.hid (by rw [← hv]; exact Nat.xor_lt_two_pow (n := 32) hm (by omega))
      have HU : Hid (upd m l[k] = sN 8 v) := Lib.hid (by unfold upd; rw [hv])
      rw [hv] at hxx
      have hdk : decide ((k : Int) < (l.length : Int)) = true := by simpa using hlt
      generalize l[k] = b at *
      clear hv
      go_wp2
      go_loop [3, 5, 6] (fun x i o => ∃ j : Nat, j ≤ 8 ∧ i = .int .i64 j ∧ x = .int .u32 (sN j v : Nat)) (fun _ i _ => 8 - (intOf i).toNat)
      case atStart => exact ⟨0, by omega, rfl, rfl⟩
      case round =>
        obtain ⟨j, hj, rfl, rfl⟩ := hrel
        have hm2 := sN_lt j v HV.out
        have hs2 := Lib.hid (sN_succ j v)
        by_cases hlt2 : j < 8
        · generalize sN j v = m2 at *
          have ha1 := and_one m2 hm2
          rcases Nat.mod_two_eq_zero_or_one m2 with hp | hp
          · rw [hp] at ha1
            go_wp2
            go_round
            case rel => exact ⟨j + 1, by omega, by go_num, by rw [hs2.out]; unfold s1; rw [if_neg (by omega), Nat.xor_zero]; go_num⟩
            case measure => simp [intOf]; omega
          · rw [hp] at ha1
            go_wp2
            go_round
            case rel => exact ⟨j + 1, by omega, by go_num, by rw [hs2.out, s1_odd m2 hm2 hp]⟩
            case measure => simp [intOf]; omega
        · obtain rfl : j = 8 := by omega
          clear hs2
          go_wp2
          go_round
          case rel => exact ⟨k + 1, by omega, by go_num, by rw [HS.out, HU.out]⟩
          case measure => simp [intOf]; omega
    · obtain rfl : k = l.length := by omega
      have hnw := Lib.hid (not_word _ hm)
      rw [List.take_length] at hnw ⊢
      go_wp2
      go_ret
      exact ⟨ret_int hnw.out, rfl⟩

theorem byte_of (n : Nat) : (n : Int) % 256 = ((UInt8.ofNat n).toNat : Int) := by rw [UInt8.toNat_ofNat']; omega

/-- A literal row of the call's own. -/
theorem own_lit (w : World) (cs : Array Value) (n : Nat) (l : List UInt8) (hn : n = l.length) (h : cs.toList = vb l) (hm : n ≤ 1000) : (w.alloc (.cells cs 5)).ownsRow w.heap.size 5 1 (.slice (some ⟨w.heap.size, 0, none⟩) n n) n (vb l) := by
  have hs : cs.size = n := by rw [hn, ← vb_length, ← h]; simp
  exact ⟨by rw [vb_length, hn, Nat.mul_one], Or.inr ⟨w.heap.size, n, cs, rfl, Nat.le_refl _, heap_alloc_new _ _, Nat.le_refl _, by unfold maxLen; omega, by omega, by rw [h, List.take_of_length_le (by rw [vb_length]; omega)]⟩⟩

theorem be4_cells (n : Nat) (hn : n < 4294967296) : [Value.int .u8 ((n : Int) / 16777216), .int .u8 ((n : Int) / 65536 % 256), .int .u8 ((n : Int) / 256 % 256), .int .u8 ((n : Int) % 256)] = vb (be4 n) := by
  have h : ∀ k : Nat, ((UInt8.ofNat k).toNat : Int) = ((k % 256 : Nat) : Int) := fun k => by rw [UInt8.toNat_ofNat']
  unfold vb be4
  simp only [List.map_cons, List.map_nil, h]
  congr 1
  · congr 1; omega
theorem bytesOf_any (n : Nat) (w : World) (hn : n < 4294967296) : Calls Try.prog 30 #[.int .u32 n] w (Got w (be4 n)) := by
  go_enter Try.func30, Try.ntmps30
  go_wp2
  go_ret
  exact Got.mk (own_lit w _ 4 (be4 n) rfl (be4_cells n hn) (by omega)) ((new_refl w).alloc (Nat.le_refl _) _)
theorem four_any (n : Nat) (w : World) (hn : n < 4294967296) : Calls Try.prog 37 #[.int .u32 n] w (Got w (be4 n)) := by
  go_enter Try.func37, Try.ntmps37
  go_wp2
  go_ret
  exact Got.mk (own_lit w _ 4 (be4 n) rfl (be4_cells n hn) (by omega)) ((new_refl w).alloc (Nat.le_refl _) _)
theorem or4 (x0 x1 x2 x3 : Nat) (t0 : x0 < 256) (t1 : x1 < 256) (t2 : x2 < 256) (t3 : x3 < 256) :
    bits BinOp.or IntKind.u32 (bits BinOp.or IntKind.u32 (bits BinOp.or IntKind.u32 ((x0 : Int) * 16777216) ((x1 : Int) * 65536)) ((x2 : Int) * 256)) (x3 : Int) = (((x0 * 16777216 + x1 * 65536) + (x2 * 256 + x3) : Nat) : Int) := by
  have e0 : (x0 : Int) * 16777216 = ((x0 * 16777216 : Nat) : Int) := by omega
  have e1 : (x1 : Int) * 65536 = ((x1 * 65536 : Nat) : Int) := by omega
  have e2 : (x2 : Int) * 256 = ((x2 * 256 : Nat) : Int) := by omega
  have h1 : x0 * 16777216 ||| x1 * 65536 = x0 * 16777216 + x1 * 65536 := by
    have := Nat.two_pow_add_eq_or_of_lt (i := 24) (b := x1 * 65536) (by omega) x0
    rw [show 2 ^ 24 * x0 = x0 * 16777216 by omega] at this
    exact this.symm
  have h2 : (x0 * 16777216 + x1 * 65536) ||| x2 * 256 = x0 * 16777216 + x1 * 65536 + x2 * 256 := by
    have := Nat.two_pow_add_eq_or_of_lt (i := 16) (b := x2 * 256) (by omega) (x0 * 256 + x1)
    rw [show 2 ^ 16 * (x0 * 256 + x1) = x0 * 16777216 + x1 * 65536 by omega] at this
    exact this.symm
  have h3 : (x0 * 16777216 + x1 * 65536 + x2 * 256) ||| x3 = x0 * 16777216 + x1 * 65536 + x2 * 256 + x3 := by
    have := Nat.two_pow_add_eq_or_of_lt (i := 8) (b := x3) (by omega) (x0 * 65536 + x1 * 256 + x2)
    rw [show 2 ^ 8 * (x0 * 65536 + x1 * 256 + x2) = x0 * 16777216 + x1 * 65536 + x2 * 256 by omega] at this
    exact this.symm
  rw [e0, e1, e2, u32_or_nat _ _ (by omega) (by omega), h1, u32_or_nat _ _ (by omega) (by omega), h2, u32_or_nat _ _ (by omega) (by omega), h3, Nat.add_assoc (x0 * 16777216 + x1 * 65536)]
theorem wordOf_any (A : Option Addr) (c : Nat) (l : List UInt8) (n : Nat) (hnl : n = l.length) (w : World) (hl : 4 ≤ l.length) (hm : l.length ≤ 1099511627776) (hA : Reads w w.heap.size 1 A l.length (vb l)) :
    Calls Try.prog 36 #[.slice A n c] w fun e w' => e = .returned (.int .u32 (nat4 l : Nat)) ∧ New w w' := by
  obtain ⟨ad, rfl, hb, hc⟩ := hA.2 (by omega)
  have k0 : w.cell? (ad.add 0) = some (.int .u8 (l[0].toNat : Int)) := hc 0 _ (vb_get l 0 (by omega))
  have k1 : w.cell? ⟨ad.block, ad.off + 1, none⟩ = some (.int .u8 (l[1].toNat : Int)) := hc 1 _ (vb_get l 1 (by omega))
  have k2 : w.cell? ⟨ad.block, ad.off + 2, none⟩ = some (.int .u8 (l[2].toNat : Int)) := hc 2 _ (vb_get l 2 (by omega))
  have k3 : w.cell? ⟨ad.block, ad.off + 3, none⟩ = some (.int .u8 (l[3].toNat : Int)) := hc 3 _ (vb_get l 3 (by omega))
  have t0 := l[0].toNat_lt
  have t1 := l[1].toNat_lt
  have t2 := l[2].toNat_lt
  have t3 := l[3].toNat_lt
  have i0 : (0 : Int) < (n : Int) := by omega
  have j0 : 0 < n := by omega
  have j1 : 1 < n := by omega
  have j2 : 2 < n := by omega
  have j3 : 3 < n := by omega
  rw [show ad.add 0 = ad from rfl] at k0
  have i1 : (1 : Int) < (n : Int) := by omega
  have i2 : (2 : Int) < (n : Int) := by omega
  have i3 : (3 : Int) < (n : Int) := by omega
  have HN : Hid (nat4 l = (l[0].toNat * 16777216 + l[1].toNat * 65536) + (l[2].toNat * 256 + l[3].toNat)) := Lib.hid (by unfold nat4; simp [List.getD_eq_getElem?_getD, show 0 < l.length by omega, show 1 < l.length by omega, show 2 < l.length by omega, show 3 < l.length by omega])
  generalize l[0].toNat = x0 at *
  generalize l[1].toNat = x1 at *
  generalize l[2].toNat = x2 at *
  generalize l[3].toNat = x3 at *
  have HNL := Lib.hid hnl
  clear hc hA hnl hl hm
  go_enter Try.func36, Try.ntmps36
  go_wp2
  go_quiet (fail)
  go_wp2
  go_ret
  exact ⟨ret_int (by rw [or4 x0 x1 x2 x3 t0 t1 t2 t3, HN.out]), (new_refl w).drewN _⟩
theorem number_any (A : Option Addr) (c : Nat) (l : List UInt8) (n : Nat) (hnl : n = l.length) (w : World) (hl : 4 ≤ l.length) (hm : l.length ≤ 1099511627776) (hA : Reads w w.heap.size 1 A l.length (vb l)) :
    Calls Try.prog 39 #[.slice A n c] w fun e w' => e = .returned (.int .u32 (nat4 l : Nat)) ∧ New w w' := by
  obtain ⟨ad, rfl, hb, hc⟩ := hA.2 (by omega)
  have k0 : w.cell? (ad.add 0) = some (.int .u8 (l[0].toNat : Int)) := hc 0 _ (vb_get l 0 (by omega))
  have k1 : w.cell? ⟨ad.block, ad.off + 1, none⟩ = some (.int .u8 (l[1].toNat : Int)) := hc 1 _ (vb_get l 1 (by omega))
  have k2 : w.cell? ⟨ad.block, ad.off + 2, none⟩ = some (.int .u8 (l[2].toNat : Int)) := hc 2 _ (vb_get l 2 (by omega))
  have k3 : w.cell? ⟨ad.block, ad.off + 3, none⟩ = some (.int .u8 (l[3].toNat : Int)) := hc 3 _ (vb_get l 3 (by omega))
  have t0 := l[0].toNat_lt
  have t1 := l[1].toNat_lt
  have t2 := l[2].toNat_lt
  have t3 := l[3].toNat_lt
  have i0 : (0 : Int) < (n : Int) := by omega
  have j0 : 0 < n := by omega
  have j1 : 1 < n := by omega
  have j2 : 2 < n := by omega
  have j3 : 3 < n := by omega
  rw [show ad.add 0 = ad from rfl] at k0
  have i1 : (1 : Int) < (n : Int) := by omega
  have i2 : (2 : Int) < (n : Int) := by omega
  have i3 : (3 : Int) < (n : Int) := by omega
  have HN : Hid (nat4 l = (l[0].toNat * 16777216 + l[1].toNat * 65536) + (l[2].toNat * 256 + l[3].toNat)) := Lib.hid (by unfold nat4; simp [List.getD_eq_getElem?_getD, show 0 < l.length by omega, show 1 < l.length by omega, show 2 < l.length by omega, show 3 < l.length by omega])
  generalize l[0].toNat = x0 at *
  generalize l[1].toNat = x1 at *
  generalize l[2].toNat = x2 at *
  generalize l[3].toNat = x3 at *
  have HNL := Lib.hid hnl
  clear hc hA hnl hl hm
  go_enter Try.func39, Try.ntmps39
  go_wp2
  go_quiet (fail)
  go_wp2
  go_ret
  exact ⟨ret_int (by rw [or4 x0 x1 x2 x3 t0 t1 t2 t3, HN.out]), (new_refl w).drewN _⟩
end Go.Proofs.Ytlbbhheaginddaa.fr
