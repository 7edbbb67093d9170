/-
  The stage's theorem: what was set is got; all other bytes are as they were.
-/
import Derived.Test.YtgddfclclibcgaaDoorPkI
namespace Go.Proofs.YtgddfclclibcgaaDoor.pk
open Go.RowKit Go.Proofs.YtgddfclclibcgaaDoor.mem Go.Proofs.YtgddfclclibcgaaDoor.kit
set_option linter.unusedVariables false
set_option linter.unusedSimpArgs false

/-- What stands behind the number was set: other bytes as they were, its bytes the number's. -/
theorem putN_get {L : List UInt8} {p k v i : Nat} (h : p + k ≤ L.length) (hi : i < L.length) : ∃ (h2 : i < (putN L p k v k).length), (putN L p k v k)[i] = if p ≤ i ∧ i < p + k then UInt8.ofNat (v / 256 ^ (k - 1 - (i - p))) else L[i] := by
  have h2 : i < (putN L p k v k).length := by rw [putN_length h]; exact hi
  refine ⟨h2, ?_⟩
  have hl : (L.take p).length = p := by rw [List.length_take]; omega
  have hb : (hiB k v k).length = k := hiB_length k v k
  unfold putN at h2 ⊢
  by_cases h1 : i < p
  · rw [if_neg (by omega), List.getElem_append_left (by rw [List.length_append, hl]; omega), List.getElem_append_left (by rw [hl]; exact h1), List.getElem_take]
  · by_cases h3 : i < p + k
    · rw [if_pos ⟨by omega, h3⟩, List.getElem_append_left (by rw [List.length_append, hl, hb]; exact h3), List.getElem_append_right (by rw [hl]; omega)]
      simp only [hl]
      simp [hiB]
    · rw [if_neg (by omega), List.getElem_append_right (by rw [List.length_append, hl, hb]; omega), List.getElem_drop]
      congr 1
      rw [List.length_append, hl, hb]
      omega
theorem piece_put {L : List UInt8} {p k v : Nat} (h : p + k ≤ L.length) : pieceOf (putN L p k v k) p k = beB k v := by
  unfold pieceOf putN beB
  have hl : (L.take p).length = p := by rw [List.length_take]; omega
  rw [List.append_assoc, List.drop_append, hl, Nat.sub_self, List.drop_zero, List.drop_eq_nil_of_le (by omega), List.nil_append, List.take_append_of_le_length (by rw [hiB_length]; exact Nat.le_refl _), List.take_of_length_le (by rw [hiB_length]; exact Nat.le_refl _)]
theorem put_back {L : List UInt8} {p k v : Nat} (h : p + k ≤ L.length) : putN (putN L p k v k) p k (beN (pieceOf L p k)) k = L := by
  have hpl : (pieceOf L p k).length = k := by simp [pieceOf]; omega
  have hb := beB_beN (pieceOf L p k)
  rw [hpl] at hb
  have hl : (L.take p).length = p := by rw [List.length_take]; omega
  have e1 : (putN L p k v k).take p = L.take p := by
    unfold putN
    rw [List.append_assoc, List.take_append_of_le_length (by omega), List.take_take, Nat.min_self]
  have e2 : (putN L p k v k).drop (p + k) = L.drop (p + k) := by
    unfold putN
    rw [List.drop_append, List.drop_eq_nil_of_le (by rw [List.length_append, hl, hiB_length]; exact Nat.le_refl _), List.nil_append, List.length_append, hl, hiB_length, Nat.sub_self, List.drop_zero]
  show (putN L p k v k).take p ++ beB k (beN (pieceOf L p k)) ++ (putN L p k v k).drop (p + k) = L
  rw [e1, e2, hb]
  unfold pieceOf
  rw [List.append_assoc, ← List.drop_drop, List.take_append_drop, List.take_append_drop]
/-- The number, gone through byte by byte. -/
def runN (L : List UInt8) (p k i : Nat) : Nat := if i ≤ p then 0 else beN (pieceOf L p (min k (i - p)))
theorem runN_0 (L : List UInt8) (p k : Nat) : runN L p k 0 = 0 := by simp [runN]
theorem runN_in {L : List UInt8} {p k i : Nat} (h1 : p ≤ i) (h2 : i < p + k) (hp : p + k ≤ L.length) (hi : i < L.length) : runN L p k (i + 1) = 256 * runN L p k i + L[i].toNat := by
  unfold runN
  rw [if_neg (by omega), show min k (i + 1 - p) = (i - p) + 1 by omega]
  have hx : i - p < (L.drop p).length := by rw [List.length_drop]; omega
  have e : pieceOf L p (i - p + 1) = pieceOf L p (i - p) ++ [L[i]] := by
    unfold pieceOf
    rw [List.take_succ_eq_append_getElem hx]
    congr 2
    rw [List.getElem_drop]
    congr 1
    omega
  rw [e, beN_snoc]
  by_cases h3 : i ≤ p
  · rw [if_pos h3, show i - p = 0 by omega]; rfl
  · rw [if_neg h3, show min k (i - p) = i - p by omega]
theorem runN_out {L : List UInt8} {p k i : Nat} (h : i < p ∨ p + k ≤ i) : runN L p k (i + 1) = runN L p k i := by
  unfold runN
  rcases h with h | h
  · rw [if_pos (by omega), if_pos (by omega)]
  · by_cases hk : i ≤ p
    · rw [if_pos hk]
      have e0 : k = 0 := by omega
      subst e0
      rw [if_neg (by omega)]
      simp [pieceOf, beN]
    · rw [if_neg (by omega), if_neg hk, show min k (i + 1 - p) = k by omega, show min k (i - p) = k by omega]
theorem runN_end {L : List UInt8} {p k n : Nat} (hk : 1 ≤ k) (h : p + k ≤ n) : runN L p k n = beN (pieceOf L p k) := by
  unfold runN
  rw [if_neg (by omega), show min k (n - p) = k by omega]
theorem runN_lt {L : List UInt8} {p k i : Nat} (hk : k ≤ 8) : runN L p k i < 18446744073709551616 := by
  unfold runN
  split
  · decide
  · have h := beN_lt (pieceOf L p (min k (i - p)))
    have hl : (pieceOf L p (min k (i - p))).length ≤ 8 := by simp [pieceOf]; omega
    exact Nat.lt_of_lt_of_le h (Nat.le_trans (Nat.pow_le_pow_right (by decide) hl) (by decide))
theorem want_mod {k v : Nat} (hk : k < 8) (hv : v < 18446744073709551616) : v &&& (2 ^ (8 * k) - 1) = v % 256 ^ k := by
  rw [Nat.and_two_pow_sub_one_eq_mod, pow_256]
theorem want_all {v : Nat} (hv : v < 18446744073709551616) : v % 256 ^ 8 = v := Nat.mod_eq_of_lt (by simpa using hv)

set_option maxRecDepth 100000 in
set_option maxHeartbeats 4000000 in
theorem PacketBack_any (A : Option Addr) (n c : Nat) (a1 a2 : Int) (v : Nat) (l : List UInt8) (w : World) (hT : SzT w) (hn : n = l.length) (hv : v < 18446744073709551616) (x1 : -9223372036854775808 ≤ a1 ∧ a1 ≤ 9223372036854775807) (x2 : -9223372036854775808 ≤ a2 ∧ a2 ≤ 9223372036854775807) (hR : Reads w w.heap.size 1 A n (vb l)) :
    Calls Tryd.prog 6 #[.slice A n c, .int .i64 a1, .int .i64 a2, .int .u64 (v : Int)] w fun e w' => e = .returned (.bool true) ∧ New w w' := by
  have HAW := Lib.hid (awake_any w hT)
  by_cases hm : 70000 < n
  · have t1 : (70000 : Int) < (n : Int) := by omega
    have b1 : decide ((70000 : Int) < (n : Int)) = true := decide_eq_true t1
    clear hn hR
    go_enter Tryd.func6, Tryd.ntmps6
    go_wp2_with (go_at_call 7; (with_reducible refine HAW.out.mono ?_); rintro e w1 ⟨rfl, hn1⟩; have HN1 := Lib.hid hn1; clear hn1)
    go_ret
    exact ⟨rfl, HN1.out⟩
  · by_cases h0 : n = 0
    · subst h0
      clear hn hR
      go_enter Tryd.func6, Tryd.ntmps6
      go_wp2_with (go_at_call 7; (with_reducible refine HAW.out.mono ?_); rintro e w1 ⟨rfl, hn1⟩; have HN1 := Lib.hid hn1; clear hn1)
      go_ret
      exact ⟨rfl, HN1.out⟩
    · have t1 : ¬ (70000 : Int) < (n : Int) := by omega
      have b1 : decide ((70000 : Int) < (n : Int)) = false := decide_eq_false t1
      have t2 : ¬ (n : Int) = 0 := by omega
      have b2 : ((n : Int) == 0) = false := by simpa using h0
      have HPK : Hid (∀ W, Calls Tryd.prog 12 #[.int .i64 a2, .int .i64 4] W fun e w' => e = .returned (.int .i64 (a2 % 4)) ∧ W = w') := Lib.hid (fun W => pick_any a2 4 W (by decide) (by decide) x2.1 x2.2)
      have hx0 := Int.emod_nonneg a2 (show (4 : Int) ≠ 0 by decide)
      have hx1 := Int.emod_lt_of_pos a2 (show (0 : Int) < 4 by decide)
      obtain ⟨j, hj⟩ : ∃ j : Nat, a2 % 4 = (j : Int) := ⟨(a2 % 4).toNat, by omega⟩
      rw [hj] at HPK hx1
      obtain ⟨K, hK, hKv⟩ : ∃ K : Nat, isz (K : Int) = true ∧ (#[.int .i64 1, .int .i64 2, .int .i64 4, .int .i64 8] : Array Value)[j]? = some (.int .i64 (K : Int)) := by
        have hj4' : j < 4 := by omega
        match j, hj4' with
        | 0, _ => exact ⟨1, by decide, rfl⟩
        | 1, _ => exact ⟨2, by decide, rfl⟩
        | 2, _ => exact ⟨4, by decide, rfl⟩
        | 3, _ => exact ⟨8, by decide, rfl⟩
      have HKV := Lib.hid hKv
      have hkr := isz_rng hK
      have hK1 : 1 ≤ K := by omega
      have hK8 : K ≤ 8 := by omega
      have HN := Lib.hid hn
      have HR := Lib.hid hR
      obtain ⟨gb, ob, rfl, hgb, hcell⟩ := reads_byte hR hn (by omega)
      have HBC : Hid (∀ (j : Nat) (hj : j < l.length) (W : World), New w W → W.cell? ⟨gb, ob + j, none⟩ = some (.int .u8 (l[j].toNat : Int))) := Lib.hid (fun j hj W hW => (hW.cell (p := ⟨gb, ob + j, none⟩) hgb).trans (hcell j hj))
      clear hgb hcell
      have HCB : Hid (∀ W, New w W → Calls Tryd.prog 14 #[.slice (some ⟨gb, ob, none⟩) n c] W fun e w' => ∃ g cc, e = .returned (.slice (some ⟨g, 0, none⟩) n cc) ∧ n ≤ cc ∧ cc ≤ maxLen ∧ W.heap.size ≤ g ∧ Bq w' g cc l ∧ New W w') := Lib.hid (fun W hW => (copyb_any (some ⟨gb, ob, none⟩) n c l W hn (by omega) (hR.new hW)).mono fun e w' h => by
        obtain ⟨v1, rfl, hab⟩ := h
        obtain ⟨g, cc, rfl, q1, q2, q3, q4⟩ := hab.bq (by omega)
        exact ⟨g, cc, by rw [hn], by omega, q2, q3, q4, hab.new⟩)
      have HKZ := Lib.hid hK
      clear hn hR hj hx0 hK hkr hKv
      by_cases hKn : n < K
      · have t3 : (n : Int) < (K : Int) := by omega
        have HSE : Hid (∀ W g cc, New w W → Bq W g cc l → n ≤ cc → cc ≤ maxLen → Calls Tryd.prog 13 #[.slice (some ⟨g, 0, none⟩) n cc, .int .i64 0, .int .i64 (K : Int), .int .u64 (v : Int)] W fun e w' => e = .returned (.int .i64 112) ∧ Ch (fun j => j = g) W w') := Lib.hid (fun W g cc hW hb h1 h2 => by
          have he : errM n 0 (K : Int) = 112 := by
            unfold errM
            rw [if_neg (by rw [HKZ.out]; decide), if_pos (by omega)]
          exact (set_any g cc n cc 0 (K : Int) v l W (hT.new hW) hb (by rw [← HN.out]; exact Nat.le_refl _) h1 h2 hv).mono fun e w' h => ⟨by rw [h.1, he], h.2.2⟩)
        clear hv
        go_enter Tryd.func6, Tryd.ntmps6
        go_wp2_with (first
          | (go_at_call 7; (with_reducible refine HAW.out.mono ?_); rintro e w1 ⟨rfl, hn1⟩; have HN1 := Lib.hid (New.then hn1 (alloc_new w1 (.cells #[.int .i64 1, .int .i64 2, .int .i64 4, .int .i64 8] 3))); have hcj := ((Blk.new w1 3 #[.int .i64 1, .int .i64 2, .int .i64 4, .int .i64 8]).cell j).trans HKV.out; clear hn1)
          | (go_at_call 12; refine (HPK.out _).mono ?_; rintro e w2 ⟨rfl, rfl⟩)
          | (go_at_call 14; (with_reducible refine (HCB.out _ HN1.out).mono ?_); rintro e w3 ⟨g, cc, rfl, hc1, hc2, hg, hb3, hn3⟩; have HS3 := Lib.hid (HSE.out w3 g cc (New.then HN1.out hn3) hb3 hc1 hc2); have HN3 := Lib.hid (New.then HN1.out hn3); have HG3 := Lib.hid (Nat.le_trans HN1.out.size hg); clear hc1 hc2 hb3 hn3 hg)
          | (go_at_call 13; (with_reducible refine HS3.out.mono ?_); rintro e w4 ⟨rfl, hch⟩; have HN4 : Hid (New w w4) := Lib.hid (((Ch.of_new (S := fun j => j = g) HN3.out).then hch (fun _ _ e => e)).below (Nat.le_refl _) (fun j hj e => by have e' : j = g := e; have := HG3.out; omega)); clear hch)
          | fail)
        go_ret
        exact ⟨rfl, HN4.out⟩
      · have t3 : ¬ (n : Int) < (K : Int) := by omega
        have hq0 := Int.emod_nonneg a1 (show ((n : Int) - (K : Int) + 1) ≠ 0 by omega)
        have hq1 := Int.emod_lt_of_pos a1 (show (0 : Int) < (n : Int) - (K : Int) + 1 by omega)
        obtain ⟨P, hP⟩ : ∃ P : Nat, a1 % ((n : Int) - (K : Int) + 1) = (P : Int) := ⟨(a1 % ((n : Int) - (K : Int) + 1)).toNat, by omega⟩
        have hPK : P + K ≤ n := by omega
        have HP1 : Hid (∀ W, Calls Tryd.prog 12 #[.int .i64 a1, .int .i64 ((n : Int) - (K : Int) + 1)] W fun e w' => e = .returned (.int .i64 (P : Int)) ∧ W = w') := Lib.hid (fun W => by
          have := pick_any a1 ((n : Int) - (K : Int) + 1) W (by omega) (by omega) x1.1 x1.2
          rwa [hP] at this)
        have he : errM n (P : Int) (K : Int) = 0 := errM_ok HKZ.out (by omega) (by omega)
        have hG : ∀ (L : List UInt8) (p k : Nat) (W : World) (g cc : Nat), L.length = n → isz (k : Int) = true → p + k ≤ n → New w W → Bq W g cc L → n ≤ cc → cc ≤ maxLen → Calls Tryd.prog 15 #[.slice (some ⟨g, 0, none⟩) n cc, .int .i64 (p : Int), .int .i64 (k : Int)] W fun e w' => e = .returned (.tuple #[.int .u64 ((beN (pieceOf L p k) : Nat) : Int), .int .i64 0]) ∧ New w w' ∧ Bq w' g cc L := fun L p k W g cc hL hk hp hW hb h1 h2 => by
          have hz : errM L.length (p : Int) (k : Int) = 0 := errM_ok hk (by omega) (by omega)
          have h := get_any (some ⟨g, 0, none⟩) n cc (p : Int) (k : Int) L W (hT.new hW) hL.symm h1 h2 (hb.reads n hL.symm)
          rw [hz] at h
          have e : getN L (p : Int) (k : Int) = beN (pieceOf L p k) := by unfold getN; rw [if_pos hz]; simp
          rw [e] at h
          exact h.mono fun e w' q => ⟨q.1, New.then hW q.2, hb.new q.2⟩
        have hS : ∀ (L : List UInt8) (x : Nat) (W : World) (g cc : Nat), L.length = n → x < 18446744073709551616 → New w W → w.heap.size ≤ g → Bq W g cc L → n ≤ cc → cc ≤ maxLen → Calls Tryd.prog 13 #[.slice (some ⟨g, 0, none⟩) n cc, .int .i64 (P : Int), .int .i64 (K : Int), .int .u64 (x : Int)] W fun e w' => e = .returned (.int .i64 0) ∧ New w w' ∧ Bq w' g cc (putN L P K x K) := fun L x W g cc hL hx hW hg hb h1 h2 => by
          have h := set_any g cc n cc (P : Int) (K : Int) x L W (hT.new hW) hb (by omega) h1 h2 hx
          rw [he] at h
          have e : setN n L (P : Int) (K : Int) x = putN L P K x K := by unfold setN; rw [if_pos he]; simp
          rw [e] at h
          exact h.mono fun e w' q => ⟨q.1, ((Ch.of_new (S := fun j => j = g) hW).then q.2.2 (fun _ _ e => e)).below (Nat.le_refl _) (fun j hj e => by have e' : j = g := e; omega), q.2.1⟩
        obtain ⟨L2, hL2⟩ : ∃ L2, putN l P K v K = L2 := ⟨_, rfl⟩
        have hll : l.length = n := HN.out.symm
        have hL2l : L2.length = n := by rw [← hL2, putN_length (by omega), hll]
        have hwas : beN (pieceOf l P K) < 18446744073709551616 := by
          have h := beN_lt (pieceOf l P K)
          have hl : (pieceOf l P K).length ≤ 8 := by simp [pieceOf]; omega
          exact Nat.lt_of_lt_of_le h (Nat.le_trans (Nat.pow_le_pow_right (by decide) hl) (by decide))
        have hnow : beN (pieceOf L2 P K) = v % 256 ^ K := by rw [← hL2, piece_put (by omega), beB_val]
        have hback : putN L2 P K (beN (pieceOf l P K)) K = l := by rw [← hL2]; exact put_back (by omega)
        have hsame : ∀ i (h1 : i < L2.length) (h2 : i < l.length), ¬ (P ≤ i ∧ i < P + K) → L2[i] = l[i] := fun i h1 h2 h3 => by
          obtain ⟨h4, h5⟩ := putN_get (L := l) (p := P) (k := K) (v := v) (i := i) (by omega) h2
          rw [if_neg h3] at h5
          subst hL2
          exact h5
        have HB1 : Hid (∀ i, ∀ h : i < L2.length, beN (pieceOf L2 i 1) = L2[i].toNat) := Lib.hid (fun i h => by
          have e : pieceOf L2 i 1 = [L2[i]] := by
            unfold pieceOf
            rw [List.drop_eq_getElem_cons h]
            rfl
          rw [e]
          show 256 * 0 + L2[i].toNat = _
          omega)
        obtain ⟨WS, hWS⟩ : ∃ WS, beN (pieceOf l P K) = WS := ⟨_, rfl⟩
        rw [hWS] at hwas hback
        have HG1 := Lib.hid (fun W g cc => hG l P K W g cc hll HKZ.out hPK)
        rw [hWS] at HG1
        have HG2 := Lib.hid (fun W g cc => hG L2 P K W g cc hL2l HKZ.out hPK)
        have HG3 : Hid (∀ (i : Nat) (W : World) (g cc : Nat), i < n → New w W → Bq W g cc L2 → n ≤ cc → cc ≤ maxLen → Calls Tryd.prog 15 #[.slice (some ⟨g, 0, none⟩) n cc, .int .i64 (i : Int), .int .i64 1] W fun e w' => e = .returned (.tuple #[.int .u64 ((beN (pieceOf L2 i 1) : Nat) : Int), .int .i64 0]) ∧ New w w' ∧ Bq w' g cc L2) := Lib.hid (fun i W g cc h => hG L2 i 1 W g cc hL2l (by decide) (by omega))
        have HS1 := Lib.hid (fun W g cc => hS l v W g cc hll hv)
        rw [hL2] at HS1
        have HS2 := Lib.hid (fun W g cc => hS L2 WS W g cc hL2l hwas)
        rw [hback] at HS2
        have HSB : Hid (∀ W g cc, New w W → Bq W g cc l → Calls Tryd.prog 16 #[.slice (some ⟨gb, ob, none⟩) n c, .slice (some ⟨g, 0, none⟩) n cc] W fun e w' => e = .returned (.bool true) ∧ New w w') := Lib.hid (fun W g cc hW hb => by
          have hr := HR.out.new hW
          rw [← hll] at hr ⊢
          exact (same_any (some ⟨gb, ob, none⟩) (some ⟨g, 0, none⟩) c cc l W (by omega) hr (hb.reads l.length rfl)).mono fun e w' q => ⟨q.1, New.then hW q.2⟩)
        have HL2 := Lib.hid hL2l
        have HNOW := Lib.hid hnow
        have HSM := Lib.hid hsame
        rw [hnow] at HG2
        obtain ⟨WN, hWN⟩ : ∃ WN, v % 256 ^ K = WN := ⟨_, rfl⟩
        rw [hWN] at HG2
        have HRE : Hid (runN L2 P K n = WN) := Lib.hid (by rw [runN_end hK1 hPK, hnow, hWN])
        have hwant : K < 8 → bits BinOp.and IntKind.u64 (v : Int) (IntKind.u64.wrap (IntKind.u64.wrap (2 ^ (8 * K)) - 1)) = (WN : Int) := fun h8 => by
          have hz : 2 ^ (8 * K) ≤ 2 ^ 56 := Nat.pow_le_pow_right (by decide) (by omega)
          have hz1 : 1 ≤ 2 ^ (8 * K) := Nat.one_le_two_pow
          have hz2 : (2 : Nat) ^ 56 = 72057594037927936 := by decide
          have e1 : IntKind.u64.wrap (2 ^ (8 * K)) = ((2 ^ (8 * K) : Nat) : Int) := by
            rw [show (2 : Int) ^ (8 * K) = ((2 ^ (8 * K) : Nat) : Int) by push_cast; rfl]
            exact IntWalk.u64_in _ ⟨by omega, by omega⟩
          have e2 : IntKind.u64.wrap (((2 ^ (8 * K) : Nat) : Int) - 1) = ((2 ^ (8 * K) - 1 : Nat) : Int) := by
            rw [show ((2 ^ (8 * K) : Nat) : Int) - 1 = ((2 ^ (8 * K) - 1 : Nat) : Int) by omega]
            exact IntWalk.u64_in _ ⟨by omega, by omega⟩
          rw [e1, e2, u64_and_nat _ _ hv (by omega), want_mod h8 hv, hWN]
        have hwant8 : ¬ K < 8 → WN = v := fun h8 => by
          rw [← hWN, show K = 8 by omega]
          exact want_all hv
        clear hG hS hP hq0 hq1 he hL2 hll hL2l hwas hnow hback hsame hWS x1 hWN
        have hp0 : (0 : Int) ≤ (P : Int) := by omega
        by_cases h8 : K < 8
        · have t8 : (K : Int) < 8 := by omega
          replace hwant := hwant h8
          clear hwant8
          go_enter Tryd.func6, Tryd.ntmps6
          go_wp2_with (first
            | (go_at_call 7; (with_reducible refine HAW.out.mono ?_); rintro e w1 ⟨rfl, hn1⟩; have HN1 := Lib.hid (New.then hn1 (alloc_new w1 (.cells #[.int .i64 1, .int .i64 2, .int .i64 4, .int .i64 8] 3))); have hcj := ((Blk.new w1 3 #[.int .i64 1, .int .i64 2, .int .i64 4, .int .i64 8]).cell j).trans HKV.out; clear hn1)
            | (go_at_call 12; (with_reducible refine (HPK.out _).mono ?_); rintro e w2 ⟨rfl, rfl⟩)
            | (go_at_call 12; (with_reducible refine (HP1.out _).mono ?_); rintro e w2 ⟨rfl, rfl⟩)
            | (go_at_call 14; (with_reducible refine (HCB.out _ HN1.out).mono ?_); rintro e w3 ⟨g, cc, rfl, hc1, hc2, hg, hb3, hn3⟩; have HC1 := Lib.hid hc1; have HC2 := Lib.hid hc2; have HB3 := Lib.hid hb3; have HN3 := Lib.hid (New.then HN1.out hn3); have HG3' := Lib.hid (Nat.le_trans HN1.out.size hg); clear hc1 hc2 hb3 hn3 hg)
            | (go_at_call 15; (with_reducible refine (HG1.out _ g cc HN3.out HB3.out HC1.out HC2.out).mono ?_); rintro e w4 ⟨rfl, hn4, hb4⟩; have HN4 := Lib.hid hn4; have HB4 := Lib.hid hb4; clear hn4 hb4)
            | (go_at_call 13; (with_reducible refine (HS1.out _ g cc HN4.out HG3'.out HB4.out HC1.out HC2.out).mono ?_); rintro e w5 ⟨rfl, hn5, hb5⟩; have HN5 := Lib.hid hn5; have HB5 := Lib.hid hb5; clear hn5 hb5)
            | (go_at_call 15; (with_reducible refine (HG2.out _ g cc HN5.out HB5.out HC1.out HC2.out).mono ?_); rintro e w6 ⟨rfl, hn6, hb6⟩; have HN6 := Lib.hid hn6; have HB6 := Lib.hid hb6; clear hn6 hb6)
            | fail)
          go_loopw [18, 19] (fun nv iv wr => ∃ i : Nat, i ≤ n ∧ iv = .int .i64 (i : Int) ∧ nv = .int .u64 ((runN L2 P K i : Nat) : Int) ∧ New w wr ∧ Bq wr g cc L2) (fun _ iv _ => n - (intOf iv).toNat)
          case atStart => exact ⟨0, Nat.zero_le _, rfl, by rw [runN_0]; rfl, HN6.out, HB6.out⟩
          case round =>
            obtain ⟨i, hi, rfl, rfl, hnw, hbw⟩ := hrel
            have HNW := Lib.hid hnw
            have HBW := Lib.hid hbw
            clear hnw hbw
            by_cases hlt : i < n
            · have t9 : (i : Int) < (n : Int) := by omega
              have hi2 : i < L2.length := by rw [HL2.out]; exact hlt
              obtain ⟨y, hy⟩ : ∃ y, L2[i].toNat = y := ⟨_, rfl⟩
              have hy8 : y < 256 := by rw [← hy]; exact L2[i].toNat_lt
              have HGI := HG3.out i wr g cc hlt HNW.out HBW.out HC1.out HC2.out
              rw [HB1.out i hi2, hy] at HGI
              replace HGI := Lib.hid HGI
              have hat : ∀ W, Bq W g cc L2 → W.cell? ⟨g, i, none⟩ = some (.int .u8 (y : Int)) := fun W hb => by rw [← hy]; exact hb.at_ hi2
              have HAT := Lib.hid hat
              have tcc : (i : Int) < (cc : Int) := by have := HC1.out; omega
              by_cases hin : P ≤ i ∧ i < P + K
              · have t10 : (P : Int) ≤ (i : Int) := by omega
                have t11 : (i : Int) < (P : Int) + (K : Int) := by omega
                have b10 := decide_eq_true t10
                have b11 := decide_eq_true t11
                obtain ⟨R, hR⟩ : ∃ R, runN L2 P K i = R := ⟨_, rfl⟩
                have hR56 : R < 72057594037927936 := by
                  rw [← hR]
                  unfold runN
                  split
                  · decide
                  · have h := beN_lt (pieceOf L2 P (min K (i - P)))
                    have hl : (pieceOf L2 P (min K (i - P))).length ≤ 7 := by simp [pieceOf]; omega
                    exact Nat.lt_of_lt_of_le h (Nat.le_trans (Nat.pow_le_pow_right (by decide) hl) (by decide))
                have HRN : Hid (runN L2 P K (i + 1) = 256 * R + y) := Lib.hid (by rw [runN_in hin.1 hin.2 (by rw [HL2.out]; exact hPK) hi2, hR, hy])
                rw [hR]
                have e1 : IntKind.u64.wrap ((R : Int) * 256) = ((256 * R : Nat) : Int) := by
                  rw [show (R : Int) * 256 = ((256 * R : Nat) : Int) by push_cast; omega]
                  exact IntWalk.u64_in _ ⟨by omega, by omega⟩
                have e3 : bits BinOp.or IntKind.u64 ((256 * R : Nat) : Int) (y : Int) = ((256 * R + y : Nat) : Int) := by
                  rw [u64_or_nat _ _ (by omega) (by omega)]
                  have h := or_step R y 0 hy8
                  simp only [Nat.zero_add, Nat.pow_one, Nat.mul_zero, Nat.pow_zero, Nat.mul_one] at h
                  rw [Nat.mul_comm 256 R, h, Nat.mul_comm R 256]
                clear hR hy hin hat
                go_wp2_with (first
                  | (go_at_call 15; (with_reducible refine HGI.out.mono ?_); rintro e w8 ⟨rfl, hn8, hb8⟩; have HN8 := Lib.hid hn8; have HB8 := Lib.hid hb8; have hc8 := HAT.out _ hb8; clear hn8 hb8)
                  | fail)
                go_roundw
                case rel => exact ⟨i + 1, by omega, by go_num, by rw [HRN.out]; push_cast at e3 ⊢; rw [e3], HN8.out, HB8.out⟩
                case measure => simp [intOf]; omega
              · have HRN : Hid (runN L2 P K (i + 1) = runN L2 P K i) := Lib.hid (runN_out (by omega))
                obtain ⟨R, hR⟩ : ∃ R, runN L2 P K i = R := ⟨_, rfl⟩
                rw [hR] at HRN ⊢
                have hi1 : i < l.length := by have := HN.out; omega
                have hyl : l[i].toNat = y := by rw [← HSM.out i hi2 hi1 hin, hy]
                have HBY : Hid (∀ W, New w W → W.cell? ⟨gb, ob + i, none⟩ = some (.int .u8 (y : Int))) := Lib.hid (fun W hW => by rw [← hyl]; exact HBC.out i hi1 W hW)
                clear hR hy hat hyl hi1
                by_cases h10 : P ≤ i
                · have t10 : (P : Int) ≤ (i : Int) := by omega
                  have t11 : ¬ (i : Int) < (P : Int) + (K : Int) := by omega
                  have b10 := decide_eq_true t10
                  have b11 := decide_eq_false t11
                  clear hin
                  go_wp2_with (first
                    | (go_at_call 15; (with_reducible refine HGI.out.mono ?_); rintro e w8 ⟨rfl, hn8, hb8⟩; have HN8 := Lib.hid hn8; have HB8 := Lib.hid hb8; have hc8 := HAT.out _ hb8; have hc9 := HBY.out _ hn8; clear hn8 hb8)
                    | fail)
                  go_quiet (fail)
                  go_wp2
                  go_roundw
                  case rel => exact ⟨i + 1, by omega, by go_num, by rw [HRN.out], HN8.out.drewN _, HB8.out.new ((new_refl _).drewN _)⟩
                  case measure => simp [intOf]; omega
                · have t10 : ¬ (P : Int) ≤ (i : Int) := by omega
                  have b10 := decide_eq_false t10
                  clear hin
                  go_wp2_with (first
                    | (go_at_call 15; (with_reducible refine HGI.out.mono ?_); rintro e w8 ⟨rfl, hn8, hb8⟩; have HN8 := Lib.hid hn8; have HB8 := Lib.hid hb8; have hc8 := HAT.out _ hb8; have hc9 := HBY.out _ hn8; clear hn8 hb8)
                    | fail)
                  go_quiet (fail)
                  go_wp2
                  go_roundw
                  case rel => exact ⟨i + 1, by omega, by go_num, by rw [HRN.out], HN8.out.drewN _, HB8.out.new ((new_refl _).drewN _)⟩
                  case measure => simp [intOf]; omega
            · obtain rfl : i = n := by omega
              have hre := HRE.out
              obtain ⟨R, hR⟩ : ∃ R, runN L2 P K i = R := ⟨_, rfl⟩
              rw [hR] at hre ⊢
              subst hre
              clear hR
              go_wp2_with (first
                | (go_at_call 13; (with_reducible refine (HS2.out _ g cc HNW.out HG3'.out HBW.out HC1.out HC2.out).mono ?_); rintro e w8 ⟨rfl, hn8, hb8⟩; have HN8 := Lib.hid hn8; have HB8 := Lib.hid hb8; clear hn8 hb8)
                | (go_at_call 16; (with_reducible refine (HSB.out _ g cc HN8.out HB8.out).mono ?_); rintro e w9 ⟨rfl, hn9⟩; have HN9 := Lib.hid hn9; clear hn9)
                | fail)
              go_ret
              exact ⟨rfl, HN9.out⟩
        · have t8 : ¬ (K : Int) < 8 := by omega
          obtain rfl := hwant8 h8
          clear hwant
          go_enter Tryd.func6, Tryd.ntmps6
          go_wp2_with (first
            | (go_at_call 7; (with_reducible refine HAW.out.mono ?_); rintro e w1 ⟨rfl, hn1⟩; have HN1 := Lib.hid (New.then hn1 (alloc_new w1 (.cells #[.int .i64 1, .int .i64 2, .int .i64 4, .int .i64 8] 3))); have hcj := ((Blk.new w1 3 #[.int .i64 1, .int .i64 2, .int .i64 4, .int .i64 8]).cell j).trans HKV.out; clear hn1)
            | (go_at_call 12; (with_reducible refine (HPK.out _).mono ?_); rintro e w2 ⟨rfl, rfl⟩)
            | (go_at_call 12; (with_reducible refine (HP1.out _).mono ?_); rintro e w2 ⟨rfl, rfl⟩)
            | (go_at_call 14; (with_reducible refine (HCB.out _ HN1.out).mono ?_); rintro e w3 ⟨g, cc, rfl, hc1, hc2, hg, hb3, hn3⟩; have HC1 := Lib.hid hc1; have HC2 := Lib.hid hc2; have HB3 := Lib.hid hb3; have HN3 := Lib.hid (New.then HN1.out hn3); have HG3' := Lib.hid (Nat.le_trans HN1.out.size hg); clear hc1 hc2 hb3 hn3 hg)
            | (go_at_call 15; (with_reducible refine (HG1.out _ g cc HN3.out HB3.out HC1.out HC2.out).mono ?_); rintro e w4 ⟨rfl, hn4, hb4⟩; have HN4 := Lib.hid hn4; have HB4 := Lib.hid hb4; clear hn4 hb4)
            | (go_at_call 13; (with_reducible refine (HS1.out _ g cc HN4.out HG3'.out HB4.out HC1.out HC2.out).mono ?_); rintro e w5 ⟨rfl, hn5, hb5⟩; have HN5 := Lib.hid hn5; have HB5 := Lib.hid hb5; clear hn5 hb5)
            | (go_at_call 15; (with_reducible refine (HG2.out _ g cc HN5.out HB5.out HC1.out HC2.out).mono ?_); rintro e w6 ⟨rfl, hn6, hb6⟩; have HN6 := Lib.hid hn6; have HB6 := Lib.hid hb6; clear hn6 hb6)
            | fail)
          go_loopw [18, 19] (fun nv iv wr => ∃ i : Nat, i ≤ n ∧ iv = .int .i64 (i : Int) ∧ nv = .int .u64 ((runN L2 P K i : Nat) : Int) ∧ New w wr ∧ Bq wr g cc L2) (fun _ iv _ => n - (intOf iv).toNat)
          case atStart => exact ⟨0, Nat.zero_le _, rfl, by rw [runN_0]; rfl, HN6.out, HB6.out⟩
          case round =>
            obtain ⟨i, hi, rfl, rfl, hnw, hbw⟩ := hrel
            have HNW := Lib.hid hnw
            have HBW := Lib.hid hbw
            clear hnw hbw
            by_cases hlt : i < n
            · have t9 : (i : Int) < (n : Int) := by omega
              have hi2 : i < L2.length := by rw [HL2.out]; exact hlt
              obtain ⟨y, hy⟩ : ∃ y, L2[i].toNat = y := ⟨_, rfl⟩
              have hy8 : y < 256 := by rw [← hy]; exact L2[i].toNat_lt
              have HGI := HG3.out i wr g cc hlt HNW.out HBW.out HC1.out HC2.out
              rw [HB1.out i hi2, hy] at HGI
              replace HGI := Lib.hid HGI
              have hat : ∀ W, Bq W g cc L2 → W.cell? ⟨g, i, none⟩ = some (.int .u8 (y : Int)) := fun W hb => by rw [← hy]; exact hb.at_ hi2
              have HAT := Lib.hid hat
              have tcc : (i : Int) < (cc : Int) := by have := HC1.out; omega
              by_cases hin : P ≤ i ∧ i < P + K
              · have t10 : (P : Int) ≤ (i : Int) := by omega
                have t11 : (i : Int) < (P : Int) + (K : Int) := by omega
                have b10 := decide_eq_true t10
                have b11 := decide_eq_true t11
                obtain ⟨R, hR⟩ : ∃ R, runN L2 P K i = R := ⟨_, rfl⟩
                have hR56 : R < 72057594037927936 := by
                  rw [← hR]
                  unfold runN
                  split
                  · decide
                  · have h := beN_lt (pieceOf L2 P (min K (i - P)))
                    have hl : (pieceOf L2 P (min K (i - P))).length ≤ 7 := by simp [pieceOf]; omega
                    exact Nat.lt_of_lt_of_le h (Nat.le_trans (Nat.pow_le_pow_right (by decide) hl) (by decide))
                have HRN : Hid (runN L2 P K (i + 1) = 256 * R + y) := Lib.hid (by rw [runN_in hin.1 hin.2 (by rw [HL2.out]; exact hPK) hi2, hR, hy])
                rw [hR]
                have e1 : IntKind.u64.wrap ((R : Int) * 256) = ((256 * R : Nat) : Int) := by
                  rw [show (R : Int) * 256 = ((256 * R : Nat) : Int) by push_cast; omega]
                  exact IntWalk.u64_in _ ⟨by omega, by omega⟩
                have e3 : bits BinOp.or IntKind.u64 ((256 * R : Nat) : Int) (y : Int) = ((256 * R + y : Nat) : Int) := by
                  rw [u64_or_nat _ _ (by omega) (by omega)]
                  have h := or_step R y 0 hy8
                  simp only [Nat.zero_add, Nat.pow_one, Nat.mul_zero, Nat.pow_zero, Nat.mul_one] at h
                  rw [Nat.mul_comm 256 R, h, Nat.mul_comm R 256]
                clear hR hy hin hat
                go_wp2_with (first
                  | (go_at_call 15; (with_reducible refine HGI.out.mono ?_); rintro e w8 ⟨rfl, hn8, hb8⟩; have HN8 := Lib.hid hn8; have HB8 := Lib.hid hb8; have hc8 := HAT.out _ hb8; clear hn8 hb8)
                  | fail)
                go_roundw
                case rel => exact ⟨i + 1, by omega, by go_num, by rw [HRN.out]; push_cast at e3 ⊢; rw [e3], HN8.out, HB8.out⟩
                case measure => simp [intOf]; omega
              · have HRN : Hid (runN L2 P K (i + 1) = runN L2 P K i) := Lib.hid (runN_out (by omega))
                obtain ⟨R, hR⟩ : ∃ R, runN L2 P K i = R := ⟨_, rfl⟩
                rw [hR] at HRN ⊢
                have hi1 : i < l.length := by have := HN.out; omega
                have hyl : l[i].toNat = y := by rw [← HSM.out i hi2 hi1 hin, hy]
                have HBY : Hid (∀ W, New w W → W.cell? ⟨gb, ob + i, none⟩ = some (.int .u8 (y : Int))) := Lib.hid (fun W hW => by rw [← hyl]; exact HBC.out i hi1 W hW)
                clear hR hy hat hyl hi1
                by_cases h10 : P ≤ i
                · have t10 : (P : Int) ≤ (i : Int) := by omega
                  have t11 : ¬ (i : Int) < (P : Int) + (K : Int) := by omega
                  have b10 := decide_eq_true t10
                  have b11 := decide_eq_false t11
                  clear hin
                  go_wp2_with (first
                    | (go_at_call 15; (with_reducible refine HGI.out.mono ?_); rintro e w8 ⟨rfl, hn8, hb8⟩; have HN8 := Lib.hid hn8; have HB8 := Lib.hid hb8; have hc8 := HAT.out _ hb8; have hc9 := HBY.out _ hn8; clear hn8 hb8)
                    | fail)
                  go_quiet (fail)
                  go_wp2
                  go_roundw
                  case rel => exact ⟨i + 1, by omega, by go_num, by rw [HRN.out], HN8.out.drewN _, HB8.out.new ((new_refl _).drewN _)⟩
                  case measure => simp [intOf]; omega
                · have t10 : ¬ (P : Int) ≤ (i : Int) := by omega
                  have b10 := decide_eq_false t10
                  clear hin
                  go_wp2_with (first
                    | (go_at_call 15; (with_reducible refine HGI.out.mono ?_); rintro e w8 ⟨rfl, hn8, hb8⟩; have HN8 := Lib.hid hn8; have HB8 := Lib.hid hb8; have hc8 := HAT.out _ hb8; have hc9 := HBY.out _ hn8; clear hn8 hb8)
                    | fail)
                  go_quiet (fail)
                  go_wp2
                  go_roundw
                  case rel => exact ⟨i + 1, by omega, by go_num, by rw [HRN.out], HN8.out.drewN _, HB8.out.new ((new_refl _).drewN _)⟩
                  case measure => simp [intOf]; omega
            · obtain rfl : i = n := by omega
              have hre := HRE.out
              obtain ⟨R, hR⟩ : ∃ R, runN L2 P K i = R := ⟨_, rfl⟩
              rw [hR] at hre ⊢
              subst hre
              clear hR
              go_wp2_with (first
                | (go_at_call 13; (with_reducible refine (HS2.out _ g cc HNW.out HG3'.out HBW.out HC1.out HC2.out).mono ?_); rintro e w8 ⟨rfl, hn8, hb8⟩; have HN8 := Lib.hid hn8; have HB8 := Lib.hid hb8; clear hn8 hb8)
                | (go_at_call 16; (with_reducible refine (HSB.out _ g cc HN8.out HB8.out).mono ?_); rintro e w9 ⟨rfl, hn9⟩; have HN9 := Lib.hid hn9; clear hn9)
                | fail)
              go_ret
              exact ⟨rfl, HN9.out⟩
end Go.Proofs.YtgddfclclibcgaaDoor.pk
