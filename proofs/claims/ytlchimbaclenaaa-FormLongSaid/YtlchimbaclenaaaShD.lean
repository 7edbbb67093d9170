/-
  Contract of shape: each question asked of all places, one question behind the other.
-/
import Derived.Test.YtlchimbaclenaaaShC
namespace Go.Proofs.Ytlchimbaclenaaa.sh
open Go.RowKit Go.Proofs.Ytlchimbaclenaaa.mem Go.Proofs.Ytlchimbaclenaaa.kit Go.Proofs.Ytlchimbaclenaaa.ins
set_option linter.unusedVariables false

/-- A fault. -/
abbrev fv (p : Int × Nat) : Value := .agg #[.int .i64 p.1, .int .i64 (p.2 : Int)]
def AskD (g n : Nat) (qs : List (Nat → Int)) (w : World) (e : Ending) (w' : World) : Prop := e = .returned (fv (askM n qs)) ∧ Chg g w w'

theorem ask4_some {n q k : Nat} {Q : Nat → Nat → Int} {L : List (Nat → Int)} (hL : [Q 0, Q 1, Q 2, Q 3] = L) (hq : q < 4) (hp : ∀ i', i' < q → ∀ k', k' < n → Q i' k' = 0) (hk : k < n) (hpk : ∀ k', k' < k → Q q k' = 0) (h : Q q k ≠ 0) : askM n L = (Q q k, k) := by
  subst hL
  rcases (show q = 0 ∨ q = 1 ∨ q = 2 ∨ q = 3 by omega) with rfl | rfl | rfl | rfl
  · exact askM_some hk h hpk
  · rw [askM_none (hp 0 (by omega)), askM_some hk h hpk]
  · rw [askM_none (hp 0 (by omega)), askM_none (hp 1 (by omega)), askM_some hk h hpk]
  · rw [askM_none (hp 0 (by omega)), askM_none (hp 1 (by omega)), askM_none (hp 2 (by omega)), askM_some hk h hpk]
theorem ask4_none {n : Nat} {Q : Nat → Nat → Int} {L : List (Nat → Int)} (hL : [Q 0, Q 1, Q 2, Q 3] = L) (hp : ∀ i', i' < 4 → ∀ k', k' < n → Q i' k' = 0) : askM n L = (0, 0) := by
  subst hL
  rw [askM_none (hp 0 (by omega)), askM_none (hp 1 (by omega)), askM_none (hp 2 (by omega)), askM_none (hp 3 (by omega))]
  rfl
theorem ret_fv {p : Int × Nat} {x : Int} {k : Nat} (h : p = (x, k)) : Ending.returned (.agg #[.int .i64 x, .int .i64 (k : Int)]) = .returned (fv p) := by rw [h]
theorem chs_row (w : World) (b : Nat) (cs : Array Value) : Ch (fun j => j = b) w (w.setRow b cs) := ⟨rfl, rfl, rfl, by simp, fun k _ hk => setRow_other w b k cs hk⟩
theorem chg_row {g : Nat} {w w' : World} (h : Chg g w w') {b : Nat} (hb : w.heap.size ≤ b) (vs : Array Value) : Chg g w (w'.setRow b vs) :=
  h.then (chs_row w' b vs) (fun i hi e => by omega)

set_option maxRecDepth 100000 in
set_option maxHeartbeats 2000000 in
theorem ask_any (s g n c4 : Nat) (F : Nat → Nat) (C : Nat → Array Value) (Q : Nat → Nat → Int) (R : Nat → Nat → Nat → Bool) (w : World) (hn : n ≤ 1099511627776) (hc4 : 4 ≤ c4)
    (hs : ∀ i, i < 4 → w.cell? ⟨s, i, none⟩ = some (.func (.func (F i)) #[] (C i))) (hsg : s ≠ g) (hbo : Bo w g n (R 0 0)) (hR : ∀ i, i < 3 → R i n = R (i + 1) 0)
    (hF : ∀ i, i < 4 → ∀ (args : Array Value) (W : World), (callFunc (F i) args).run Try.prog W = .ok (.enter (F i) args) W)
    (hC : ∀ i, i < 4 → (∀ i', i' < i → ∀ k', k' < n → Q i' k' = 0) → ∀ k, k < n → (∀ k', k' < k → Q i k' = 0) → ∀ W, Chg g w W → Bo W g n (R i k) → Calls Try.prog (F i) (#[.int .i64 (k : Int)] ++ C i) W fun e w' => e = .returned (.int .i64 (Q i k)) ∧ (Q i k = 0 → Bo w' g n (R i (k + 1))) ∧ Chg g W w') :
    Calls Try.prog 16 #[.int .i64 (n : Int), .slice (some ⟨s, 0, none⟩) 4 c4] w (AskD g n [Q 0, Q 1, Q 2, Q 3] w) := by
  have ei : (Try.prog.info? 27).map (·.size) = some 2 := by kernel_rfl
  have HC := Lib.hid hC
  have HF := Lib.hid hF
  have HS := Lib.hid hs
  have HR := Lib.hid hR
  have HBO := Lib.hid hbo
  have hgl := hbo.lt
  clear hC hF hs hR hbo
  obtain ⟨L, hL⟩ : ∃ L, [Q 0, Q 1, Q 2, Q 3] = L := ⟨_, rfl⟩
  have HL := Lib.hid hL
  rw [hL]
  clear hL
  go_enter Try.func16, Try.ntmps16
  go_wp2
  go_loopw [11] (fun i wr => ∃ q : Nat, q ≤ 4 ∧ i = .int .i64 q ∧ (∀ i', i' < q → ∀ k', k' < n → Q i' k' = 0) ∧ Chg g w wr ∧ (q < 4 → Bo wr g n (R q 0)) ∧ Blk wr w.heap.size 27 #[.int .i64 0, .int .i64 0]) (fun i _ => 4 - (intOf i).toNat)
  case atStart => exact ⟨0, Nat.zero_le _, rfl, fun i' h => by omega, (Ch.refl _ w).alloc _, fun _ => HBO.out.alloc _, Blk.new w _ _⟩
  case round =>
    obtain ⟨q, hq, rfl, hpast, hch, hb, hres⟩ := hrel
    obtain ⟨wo, rfl⟩ : ∃ wo : World, wo = wr := ⟨_, rfl⟩
    have HP := Lib.hid hpast
    have HCH := Lib.hid hch
    have HB := Lib.hid hb
    have HRE := Lib.hid hres
    clear hpast hch hb hres
    by_cases hlt : q < 4
    · have t1 : (q : Int) < 4 := by omega
      have h1 := HCH.out.cellOf (HS.out q hlt) hsg
      have hf := HF.out q hlt
      go_wp2
      go_loopw [16] (fun i wr => ∃ k : Nat, k ≤ n ∧ i = .int .i64 k ∧ (∀ k', k' < k → Q q k' = 0) ∧ Chg g w wr ∧ Bo wr g n (R q k) ∧ Blk wr w.heap.size 27 #[.int .i64 0, .int .i64 0]) (fun i _ => n - (intOf i).toNat)
      case atStart => exact ⟨0, Nat.zero_le _, rfl, fun i' h => by omega, HCH.out, HB.out hlt, HRE.out⟩
      case round =>
        obtain ⟨k, hk, rfl, hpk, hch, hb, hres⟩ := hrel
        have HPK := Lib.hid hpk
        have HCH := Lib.hid hch
        have HB := Lib.hid hb
        have HRE := Lib.hid hres
        clear hpk hch hb hres h1
        by_cases hkl : k < n
        · have t2 : (k : Int) < (n : Int) := by omega
          rcases Decidable.em (Q q k = 0) with h0 | h0
          · have H0 := Lib.hid h0
            clear h0
            go_wp2_with (with_reducible refine (HC.out q hlt HP.out k hkl HPK.out _ HCH.out HB.out).mono ?_; rintro e w2 ⟨rfl, hb2, hch2⟩; rw [H0.out])
            go_roundw
            case rel =>
              refine ⟨k + 1, by omega, by go_num, fun k' hk' => ?_, HCH.out.trans hch2, hb2 H0.out, HRE.out.ch hch2 (by omega)⟩
              by_cases e : k' = k
              · rw [e]; exact H0.out
              · exact HPK.out k' (by omega)
            case measure => simp [intOf]; omega
          · have H0 := Lib.hid h0
            have t3 : (Q q k == 0) = false := by simpa using h0
            have t4 : (Q q k != 0) = true := by simpa using h0
            clear h0
            go_wp2_with (first
              | (with_reducible refine (HC.out q hlt HP.out k hkl HPK.out _ HCH.out HB.out).mono ?_; rintro e w2 ⟨rfl, hb2, hch2⟩)
              | (refine wpList_store_row rfl 27 _ _ rfl w.heap.size #[.int .i64 (Q q k), .int .i64 (k : Int)] rfl rfl 27 _ (HRE.out.ch hch2 (by omega)) ei rfl (by simp [Value.oneCell']) ?_))
            refine bodyPost_ret (results_cell_row rfl _ _ w.heap.size 27 _ (0, 0) _ rfl (setRow_heap _ _ _ _ _ _ (HRE.out.ch hch2 (by omega))) Try.underlying27 rfl ei) rfl ?_
            exact ⟨ret_fv (ask4_some HL.out hlt HP.out hkl HPK.out H0.out), chg_row (HCH.out.trans hch2) (Nat.le_refl _) _⟩
        · obtain rfl : k = n := by omega
          have t2 : ¬ (k : Int) < (k : Int) := by omega
          go_wp2
          go_roundw
          case rel =>
            refine ⟨q + 1, by omega, by go_num, fun i' hi' => ?_, HCH.out, fun h4 => by rw [← HR.out q (by omega)]; exact HB.out, HRE.out⟩
            by_cases e : i' = q
            · rw [e]; exact HPK.out
            · exact HP.out i' (by omega)
          case measure => simp [intOf]; omega
    · obtain rfl : q = 4 := by omega
      go_wp2_with (refine wpList_store_row rfl 27 _ _ rfl w.heap.size #[.int .i64 0, .int .i64 0] rfl rfl 27 _ HRE.out ei rfl (by simp [Value.oneCell']) ?_)
      refine bodyPost_ret (results_cell_row rfl _ _ w.heap.size 27 _ (0, 0) _ rfl (setRow_heap _ _ _ _ _ _ HRE.out) Try.underlying27 rfl ei) rfl ?_
      exact ⟨ret_fv (ask4_none HL.out HP.out), chg_row HCH.out (Nat.le_refl _) _⟩
end Go.Proofs.Ytlchimbaclenaaa.sh
