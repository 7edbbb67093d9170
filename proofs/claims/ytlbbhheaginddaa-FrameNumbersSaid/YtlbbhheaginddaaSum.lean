/-
  Contracts of frame's sum, and of the document's.
-/
import Derived.Test.YtlbbhheaginddaaCat
import Derived.Test.YtlbbhheaginddaaScan
import Derived.Laws.BitsAllLaws
namespace Go.Proofs.Ytlbbhheaginddaa.fr
open Go.RowKit Go.Proofs.Ytlbbhheaginddaa.mem Go.Proofs.Ytlbbhheaginddaa.kit Go.Proofs.Ytlbbhheaginddaa.wire Go.Proofs.Ytlbbhheaginddaa.crc
set_option linter.unusedVariables false

theorem sN_succ (k a : Nat) : sN (k + 1) a = s1 (sN k a) := by rw [sN_add]; rfl
theorem and_one (m : Nat) (h : m < 4294967296) : bits BinOp.and IntKind.u32 (m : Int) 1 = ((m % 2 : Nat) : Int) := by
  rw [show (1 : Int) = ((1 : Nat) : Int) from rfl, u32_and_nat _ _ h (by omega)]
  rw [show (1 : Nat) = 2 ^ 1 - 1 from rfl, Nat.and_two_pow_sub_one_eq_mod]
theorem xor_two (m k : Nat) (h : m < 4294967296) (hk : k < 4294967296) : bits BinOp.xor IntKind.u32 (m : Int) (k : Int) = ((m ^^^ k : Nat) : Int) := u32_xor_nat _ _ h hk

theorem s1_even (m : Nat) (h : m < 4294967296) (hp : m % 2 = 0) : bits BinOp.xor IntKind.u32 ((m : Int) / 2) 0 = ((s1 m : Nat) : Int) := by
  rw [show (m : Int) / 2 = ((m / 2 : Nat) : Int) by omega, show (0 : Int) = ((0 : Nat) : Int) from rfl, xor_two _ _ (by omega) (by omega)]
  unfold s1
  rw [if_neg (by omega)]
theorem s1_odd (m : Nat) (h : m < 4294967296) (hp : m % 2 = 1) : bits BinOp.xor IntKind.u32 ((m : Int) / 2) 2197175160 = ((s1 m : Nat) : Int) := by
  rw [show (m : Int) / 2 = ((m / 2 : Nat) : Int) by omega, show (2197175160 : Int) = ((2197175160 : Nat) : Int) from rfl, xor_two _ _ (by omega) (by omega)]
  unfold s1
  rw [if_pos hp]

theorem behind_any (n : Nat) (b : UInt8) (w : World) (hn : n < 4294967296) :
    Calls Try.prog 62 #[.int .u32 n, .int .u8 (b.toNat : Int)] w fun e w' => e = .returned (.int .u32 (upd n b : Nat)) ∧ w = w' := by
  have hb := b.toNat_lt
  have hx := xor_two n b.toNat hn (by omega)
  have hlt : n ^^^ b.toNat < 4294967296 := Nat.xor_lt_two_pow (n := 32) hn (by omega)
  have HX := Lib.hid hlt
  obtain ⟨v, hv⟩ : ∃ v, n ^^^ b.toNat = v := ⟨_, rfl⟩
  rw [hv] at hx HX
  unfold upd
  rw [hv]
  generalize b.toNat = bn at *
  clear hlt hv
  go_enter Try.func62, Try.ntmps62
  go_wp2
  go_loop [0, 5, 10] (fun x f i => ∃ k : Nat, k ≤ 8 ∧ i = .int .i64 k ∧ x = .int .u32 (sN k v : Nat)) (fun _ _ i => 8 - (intOf i).toNat)
  case atStart => exact ⟨0, by omega, rfl, rfl⟩
  case round =>
    obtain ⟨k, hk, rfl, rfl⟩ := hrel
    have hm := sN_lt k v HX.out
    have hs := Lib.hid (sN_succ k v)
    by_cases hlt : k < 8
    · generalize sN k v = m at *
      have ha := and_one m hm
      rcases Nat.mod_two_eq_zero_or_one m with hp | hp
      · rw [hp] at ha
        go_wp2
        go_round
        case rel => exact ⟨k + 1, by omega, by go_num, by rw [hs.out, s1_even m hm hp]⟩
        case measure => simp [intOf]; omega
      · rw [hp] at ha
        go_wp2
        go_round
        case rel => exact ⟨k + 1, by omega, by go_num, by rw [hs.out, s1_odd m hm hp]⟩
        case measure => simp [intOf]; omega
    · obtain rfl : k = 8 := by omega
      clear hs
      go_wp2
      go_ret
      exact ⟨rfl, rfl⟩

theorem not_word (m : Nat) (h : m < 4294967296) : bits BinOp.xor IntKind.u32 4294967295 (m : Int) = ((not32 m : Nat) : Int) := by
  rw [show (4294967295 : Int) = ((4294967295 : Nat) : Int) from rfl, xor_two _ _ (by omega) h]
  unfold not32
  congr 1
  apply Nat.eq_of_testBit_eq
  intro i
  rw [Nat.testBit_xor, show (4294967295 : Nat) = 2 ^ 32 - 1 from rfl, Nat.testBit_two_pow_sub_one, show 2 ^ 32 - 1 - m = 2 ^ 32 - (m + 1) by omega, Nat.testBit_two_pow_sub_succ (by omega : m < 2 ^ 32)]
  by_cases hi : i < 32
  · simp [hi]
  · have : m.testBit i = false := Nat.testBit_lt_two_pow (Nat.lt_of_lt_of_le (by omega : m < 2 ^ 32) (Nat.pow_le_pow_right (by decide) (by omega)))
    simp [hi, this]

theorem foldp_take (ls : List (List UInt8)) (k : Nat) (h : k < ls.length) (x : Nat) : fold x (ls.take (k + 1)).flatten = fold (fold x (ls.take k).flatten) ls[k] := by
  rw [flat_take ls k h, fold_append]
theorem fold_take (l : List UInt8) (k : Nat) (h : k < l.length) (x : Nat) : fold x (l.take (k + 1)) = upd (fold x (l.take k)) l[k] := by
  rw [← List.take_append_getElem h, fold_snoc]

set_option maxRecDepth 100000 in
theorem sumOf_any (A : Option Addr) (n c : Nat) (vs : List Value) (ls : List (List UInt8)) (w : World) (hn : n = ls.length) (hp : Parts w vs ls) (hA : Reads w w.heap.size 1 A n vs) (hk0 : ls.length ≤ 1099511627776) (hk1 : ∀ k (h : k < ls.length), ls[k].length ≤ 1099511627776) :
    Calls Try.prog 31 #[.slice A n c] w fun e w' => e = .returned (.int .u32 (crc ls.flatten : Nat)) ∧ w = w' := by
  subst hn
  have HK := Lib.hid hk1
  have HP := Lib.hid hp
  have HA := Lib.hid hA
  have hb0 : (4294967295 : Nat) < 4294967296 := by decide
  clear hk1 hp hA
  go_enter Try.func31, Try.ntmps31
  go_wp2
  go_loop [3, 10] (fun x i => ∃ k : Nat, k ≤ ls.length ∧ i = .int .i64 k ∧ x = .int .u32 (fold 4294967295 (ls.take k).flatten : Nat)) (fun _ i => ls.length - (intOf i).toNat)
  case atStart => exact ⟨0, by omega, rfl, rfl⟩
  case round =>
    obtain ⟨k, hk, rfl, rfl⟩ := hrel
    have hm := fold_lt (ls.take k).flatten 4294967295 hb0
    by_cases hlt : k < ls.length
    · have HS := Lib.hid (foldp_take ls k hlt 4294967295)
      obtain ⟨a, u, rfl, ha, hx, hc⟩ := HA.out.at_ hlt
      obtain ⟨A', c', hv, hr⟩ := HP.out.2 k hlt
      rw [hx] at hv
      injection hv with hv
      subst hv
      have hlk := HK.out k hlt
      generalize fold 4294967295 (ls.take k).flatten = m at *
      have hdk : decide ((k : Int) < (ls.length : Int)) = true := by simpa using hlt
      generalize ls[k] = l at *
      have HR := Lib.hid hr
      clear hr hx
      go_wp2
      go_loop [3, 16] (fun x i => ∃ j : Nat, j ≤ l.length ∧ i = .int .i64 j ∧ x = .int .u32 (fold m (l.take j) : Nat)) (fun _ i => l.length - (intOf i).toNat)
      case atStart => exact ⟨0, by omega, rfl, rfl⟩
      case round =>
        obtain ⟨j, hj, rfl, rfl⟩ := hrel
        have hm2 := fold_lt (l.take j) m hm
        by_cases hlt2 : j < l.length
        · have HS2 := Lib.hid (fold_take l j hlt2 m)
          obtain ⟨b, u2, rfl, hb, hx2, hc2⟩ := HR.out.at_ hlt2
          rw [vb_get l j hlt2] at hx2
          injection hx2 with hx2
          subst hx2
          generalize fold m (l.take j) = m2 at *
          go_wp2_with (go_at_call 62; refine (behind_any m2 l[j] _ hm2).mono ?_; rintro e w' ⟨rfl, rfl⟩)
          go_round
          case rel => exact ⟨j + 1, by omega, by go_num, by rw [HS2.out]⟩
          case measure => simp [intOf]; omega
        · obtain rfl : j = l.length := by omega
          go_wp2
          go_round
          case rel => exact ⟨k + 1, by omega, by go_num, by rw [HS.out, List.take_length]⟩
          case measure => simp [intOf]; omega
    · obtain rfl : k = ls.length := by omega
      have hnw := Lib.hid (not_word _ hm)
      rw [List.take_length] at hnw ⊢
      go_wp2
      go_ret
      exact ⟨ret_int hnw.out, rfl⟩
end Go.Proofs.Ytlbbhheaginddaa.fr
