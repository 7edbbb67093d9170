/-
  The document's answer for shape: the first fault.
-/
import Derived.Test.YtlchimbaclenaaaShK
namespace Go.Proofs.Ytlchimbaclenaaa.sh
open Go.RowKit Go.Proofs.Ytlchimbaclenaaa.mem Go.Proofs.Ytlchimbaclenaaa.kit Go.Proofs.Ytlchimbaclenaaa.ins
set_option linter.unusedVariables false

theorem rjumps_x (o : Int) (n : Bool) (d s : Int) (u : Bool) (f m z : Int) (B : Bool) (h : jumps ⟨o, n, d, s, u, f, m, z⟩ = B) (w : World) :
    Calls Try.prog 22 #[.agg #[.int .u8 o, .bool n, .int .i64 d, .int .i64 s, .bool u, .int .i64 f, .int .i64 m, .int .i64 z]] w fun e w' => e = .returned (.bool B) ∧ New w w' := h ▸ RJumps_any ⟨o, n, d, s, u, f, m, z⟩ w

theorem chk_at {l : List In} (h0 : 0 < l.length) (h4 : l.length ≤ 4096) {q k : Nat} {x : Int} (hq : q < 4) (hp : ∀ i', i' < q → ∀ k', k' < l.length → Q4 l i' k' = 0) (hk : k < l.length) (hpk : ∀ k', k' < k → Q4 l q k' = 0) (hx : Q4 l q k = x) (h : x ≠ 0) : chk l = (x, k) := by
  rw [chk_mid h0 h4, ask4_some rfl hq hp hk hpk (by rw [hx]; exact h), hx]
theorem chk_r {l : List In} (h0 : 0 < l.length) (h4 : l.length ≤ 4096) {k : Nat} (hk : k < l.length) (hp : ∀ k', k' < k → ok (ig l k') = true) (h : ok (ig l k) = false) : chk l = (4, k) :=
  chk_at h0 h4 (q := 0) (by omega) (fun i' hi' => by omega) hk (fun k' hk' => qR_0.2 (hp k' hk')) (by show qR l k = 4; unfold qR; rw [h]; rfl) (by decide)
theorem chk_f {l : List In} (h0 : 0 < l.length) (h4 : l.length ≤ 4096) (hR : ∀ k, k < l.length → ok (ig l k) = true) {k : Nat} {x : Int} (hk : k < l.length) (hp : ∀ k', k' < k → qF l k' = 0) (h : qF l k = x) (hx : x ≠ 0) : chk l = (x, k) :=
  chk_at h0 h4 (q := 1) (by omega) (fun i' hi' k' hk' => by
    obtain rfl : i' = 0 := (by omega)
    exact qR_0.2 (hR k' hk')) hk hp h hx
theorem qE_ahead {l : List In} {k : Nat} (h : k + 1 < l.length) : qE l k = 0 := ende_no (by omega)
theorem chk_e {l : List In} (h0 : 0 < l.length) (h4 : l.length ≤ 4096) (hR : ∀ k, k < l.length → ok (ig l k) = true) (hF : ∀ k, k < l.length → qF l k = 0) {k : Nat} (hk : k + 1 = l.length) (h1 : (ig l k).op ≠ 28) (h2 : (ig l k).op ≠ 16) : chk l = (102, k) :=
  chk_at h0 h4 (q := 2) (by omega) (fun i' hi' k' hk' => by
    rcases (show i' = 0 ∨ i' = 1 by omega) with rfl | rfl
    · exact qR_0.2 (hR k' hk')
    · exact hF k' hk') (by omega) (fun k' hk' => qE_ahead (by omega)) (ende_yes (by omega) h1 h2) (by decide)
theorem qE_all {l : List In} {k : Nat} (hk : k + 1 = l.length) (h : (ig l k).op = 28 ∨ (ig l k).op = 16) : ∀ k', k' < l.length → qE l k' = 0 := fun k' hk' => by
  by_cases e : k' = k
  · subst e
    rcases h with h | h
    · exact ende_28 h
    · exact ende_16 h
  · exact qE_ahead (by omega)
theorem chk_d {l : List In} (h0 : 0 < l.length) (h4 : l.length ≤ 4096) (hR : ∀ k, k < l.length → ok (ig l k) = true) (hF : ∀ k, k < l.length → qF l k = 0) (hE : ∀ k, k < l.length → qE l k = 0) {k : Nat} (hk : k < l.length) (hp : ∀ k', k' < k → cmb l k' k' = true) (h : cmb l k k = false) : chk l = (103, k) :=
  chk_at h0 h4 (q := 3) (by omega) (fun i' hi' k' hk' => by
    rcases (show i' = 0 ∨ i' = 1 ∨ i' = 2 by omega) with rfl | rfl | rfl
    · exact qR_0.2 (hR k' hk')
    · exact hF k' hk'
    · exact hE k' hk') hk (fun k' hk' => qD_0.2 (hp k' hk')) (by show qD l k = 103; unfold qD; rw [h]; rfl) (by decide)

set_option maxRecDepth 100000 in
set_option maxHeartbeats 16000000 in
theorem rcheck_any (A : Option Addr) (n c : Nat) (l : List In) (w : World) (hn : n = l.length) (hl : n ≤ 1099511627776) (hA : RI w A l) : Calls Try.prog 10 #[.slice A n c] w (CheckD l w) := by
  have ei : (Try.prog.info? 27).map (·.size) = some 2 := by kernel_rfl
  have hz := Blk.new w 27 #[.int .i64 0, .int .i64 0]
  have hnz : New w (w.alloc (.cells #[.int .i64 0, .int .i64 0] 27)) := (new_refl w).alloc (Nat.le_refl _) _
  rcases Nat.eq_zero_or_pos n with h0 | h0
  · have HK := Lib.hid (chk_none (l := l) (by omega))
    subst h0
    clear hn hA
    go_enter Try.func10, Try.ntmps10
    go_wp2_with (refine wpList_store_row rfl 27 _ _ rfl w.heap.size #[.int .i64 6, .int .i64 0] rfl rfl 27 _ hz ei rfl (by simp [Value.oneCell']) ?_)
    refine bodyPost_ret (results_cell_row rfl _ _ w.heap.size 27 _ (0, 0) _ rfl (setRow_heap _ _ _ _ _ _ hz) Try.underlying27 rfl ei) rfl ?_
    exact ⟨ret_fv HK.out, new_row hnz (Nat.le_refl _) _⟩
  · by_cases h1 : 4096 < n
    · have HK := Lib.hid (chk_long' (l := l) (by omega))
      have t1 : (4096 : Int) < (n : Int) := by omega
      have t2 : ((n : Int) == 0) = false := by simp; omega
      clear hn hA
      go_enter Try.func10, Try.ntmps10
      go_wp2_with (refine wpList_store_row rfl 27 _ _ rfl w.heap.size #[.int .i64 3, .int .i64 0] rfl rfl 27 _ hz ei rfl (by simp [Value.oneCell']) ?_)
      refine bodyPost_ret (results_cell_row rfl _ _ w.heap.size 27 _ (0, 0) _ rfl (setRow_heap _ _ _ _ _ _ hz) Try.underlying27 rfl ei) rfl ?_
      exact ⟨ret_fv HK.out, new_row hnz (Nat.le_refl _) _⟩
    · have t1 : ¬ (4096 : Int) < (n : Int) := by omega
      have t2 : ((n : Int) == 0) = false := by simp; omega
      have HN := Lib.hid hn
      have HA := Lib.hid hA
      have HL0 : Hid (0 < l.length) := Lib.hid (by omega)
      have HL4 : Hid (l.length ≤ 4096) := Lib.hid (by omega)
      have HZ := Lib.hid hz
      have HNZ := Lib.hid hnz
      clear hn hA hz hnz
      go_enter Try.func10, Try.ntmps10
      go_wp2
      go_loopw [3] (fun i wr => ∃ k : Nat, k ≤ n ∧ i = .int .i64 k ∧ (∀ k', k' < k → ok (ig l k') = true) ∧ New w wr ∧ Blk wr w.heap.size 27 #[.int .i64 0, .int .i64 0]) (fun i _ => n - (intOf i).toNat)
      case atStart => exact ⟨0, Nat.zero_le _, rfl, fun k' h => by omega, HNZ.out, HZ.out⟩
      case round =>
        obtain ⟨k, hk, rfl, hp, hnw, hre⟩ := hrel
        have HP := Lib.hid hp
        have HNW := Lib.hid hnw
        have HRE := Lib.hid hre
        clear hp hnw hre
        by_cases hlt : k < n
        · have hkl : k < l.length := by rw [← HN.out]; exact hlt
          have HKL := Lib.hid hkl
          have t3 : (k : Int) < (n : Int) := by omega
          obtain ⟨g, a, rfl, hg, hat⟩ := HA.out.at_ hkl
          obtain ⟨y, hy⟩ : ∃ y, ig l k = y := ⟨_, rfl⟩
          rw [← ig_at hkl, hy] at hat
          obtain ⟨b0, b1, b2, b3, b4, b5, b6, b7⟩ := hat.new hg HNW.out
          obtain ⟨o, nn, d, s, u, f, m, z⟩ := y
          simp only at b0 b1 b2 b3 b4 b5 b6 b7
          obtain ⟨B, hB⟩ : ∃ B, ok ⟨o, nn, d, s, u, f, m, z⟩ = B := ⟨_, rfl⟩
          have HB := Lib.hid hB
          have HY := Lib.hid hy
          clear hy hB hat hkl
          rcases B with _ | _
          · have HCK := Lib.hid (chk_r HL0.out HL4.out HKL.out HP.out (by rw [HY.out]; exact HB.out))
            go_wp2_with (first
              | (go_at_call 21; (with_reducible refine (rright_x _ _ _ _ _ _ _ _ false HB.out _).mono ?_); rintro e w2 ⟨rfl, hn2⟩; have HR2 := Lib.hid (HRE.out.below hn2 HRE.out.lt))
              | (refine wpList_store_row rfl 27 _ _ rfl w.heap.size #[.int .i64 4, .int .i64 (k : Int)] rfl rfl 27 _ HR2.out ei rfl (by simp [Value.oneCell']) ?_))
            refine bodyPost_ret (results_cell_row rfl _ _ w.heap.size 27 _ (0, 0) _ rfl (setRow_heap _ _ _ _ _ _ HR2.out) Try.underlying27 rfl ei) rfl ?_
            exact ⟨ret_fv HCK.out, new_row (New.then HNW.out hn2) (Nat.le_refl _) _⟩
          · go_wp2_with (go_at_call 21; (with_reducible refine (rright_x _ _ _ _ _ _ _ _ true HB.out _).mono ?_); rintro e w2 ⟨rfl, hn2⟩)
            go_roundw
            case rel =>
              refine ⟨k + 1, by omega, by go_num, fun k' hk' => ?_, New.then HNW.out hn2, HRE.out.below hn2 HRE.out.lt⟩
              by_cases e : k' = k
              · subst e; rw [HY.out]; exact HB.out
              · exact HP.out k' (by omega)
            case measure => simp [intOf]; omega
        · obtain rfl : n = k := by omega
          have t3 : ¬ (n : Int) < (n : Int) := by omega
          have HOKS : Hid (∀ k, k < l.length → ok (ig l k) = true) := Lib.hid (fun k h => HP.out k (by rw [HN.out]; exact h))
          go_wp2
          go_loopw [4] (fun i wr => ∃ k : Nat, k ≤ n ∧ i = .int .i64 k ∧ (∀ k', k' < k → qF l k' = 0) ∧ New w wr ∧ Blk wr w.heap.size 27 #[.int .i64 0, .int .i64 0]) (fun i _ => n - (intOf i).toNat)
          case atStart => exact ⟨0, Nat.zero_le _, rfl, fun k' h => by omega, HNW.out, HRE.out⟩
          case round =>
            clear HP HNW HRE
            obtain ⟨k, hk, rfl, hp, hnw, hre⟩ := hrel
            have HP := Lib.hid hp
            have HNW := Lib.hid hnw
            have HRE := Lib.hid hre
            clear hp hnw hre
            by_cases hlt : k < n
            · have hkl : k < l.length := by rw [← HN.out]; exact hlt
              have HKL := Lib.hid hkl
              have t4 : (k : Int) < (n : Int) := by omega
              obtain ⟨g, a, rfl, hg, hat⟩ := HA.out.at_ hkl
              obtain ⟨y, hy⟩ : ∃ y, ig l k = y := ⟨_, rfl⟩
              have hok := HOKS.out k hkl
              rw [← ig_at hkl, hy] at hat
              rw [hy] at hok
              have hf := (ok_facts _ hok).2.2.2.2.1
              have hq : qF l k = fore (n : Int) (k : Int) y := by unfold qF; rw [hy, HN.out]
              have HAT := Lib.hid (hat.new hg HNW.out)
              have hgl : g < wr.heap.size := Nat.lt_of_lt_of_le hg HNW.out.size
              obtain ⟨b0, b1, b2, b3, b4, b5, b6, b7⟩ := HAT.out
              obtain ⟨o, nn, d, s, u, f, m, z⟩ := y
              simp [far] at hf
              obtain ⟨f0, f1⟩ := hf
              simp only at b0 b1 b2 b3 b4 b5 b6 b7
              have e1 : IntKind.i64.wrap ((k : Int) + 1) = (k : Int) + 1 := IntWalk.i64_in _ (by omega)
              have e2 : IntKind.i64.wrap ((k : Int) + 1 + f) = (k : Int) + 1 + f := IntWalk.i64_in _ (by omega)
              clear hy hat hkl hok
              rcases hj : jumps ⟨o, nn, d, s, u, f, m, z⟩ with _ | _
              · have HQ := Lib.hid (hq.trans (fore_not hj))
                have HJ := Lib.hid hj
                clear hq hj
                go_wp2_with (first
                  | (go_at_call 22; (with_reducible refine (rjumps_x _ _ _ _ _ _ _ _ false HJ.out wr).mono ?_); rintro e w2 ⟨rfl, hn2⟩; obtain ⟨c0, c1, c2, c3, c4, c5, c6, c7⟩ := HAT.out.new hgl hn2)
                  | (go_at_call 22; (with_reducible refine (rjumps_x _ _ _ _ _ _ _ _ false HJ.out w2).mono ?_); rintro e w3 ⟨rfl, hn3⟩))
                go_roundw
                case rel =>
                  refine ⟨k + 1, by omega, by go_num, fun k' hk' => ?_, New.then (New.then HNW.out hn2) hn3, HRE.out.below (New.then hn2 hn3) HRE.out.lt⟩
                  by_cases e : k' = k
                  · subst e; exact HQ.out
                  · exact HP.out k' (by omega)
                case measure => simp [intOf]; omega
              · have HJ := Lib.hid hj
                by_cases hf0 : f < 0
                · have HCK := Lib.hid (chk_f HL0.out HL4.out HOKS.out HKL.out HP.out (hq.trans (fore_back hj hf0)) (by decide))
                  clear hq hj
                  go_wp2_with (first
                    | (go_at_call 22; (with_reducible refine (rjumps_x _ _ _ _ _ _ _ _ true HJ.out wr).mono ?_); rintro e w2 ⟨rfl, hn2⟩; have HR2 := Lib.hid (HRE.out.below hn2 HRE.out.lt); obtain ⟨c0, c1, c2, c3, c4, c5, c6, c7⟩ := HAT.out.new hgl hn2)
                    | (refine wpList_store_row rfl 27 _ _ rfl w.heap.size #[.int .i64 100, .int .i64 (k : Int)] rfl rfl 27 _ HR2.out ei rfl (by simp [Value.oneCell']) ?_))
                  refine bodyPost_ret (results_cell_row rfl _ _ w.heap.size 27 _ (0, 0) _ rfl (setRow_heap _ _ _ _ _ _ HR2.out) Try.underlying27 rfl ei) rfl ?_
                  exact ⟨ret_fv HCK.out, new_row (New.then HNW.out hn2) (Nat.le_refl _) _⟩
                · by_cases hf1 : (k : Int) + 1 + f < (n : Int)
                  · have HQ := Lib.hid (hq.trans ((fore_to hj hf0).trans (if_pos hf1)))
                    have t5 : ¬ (n : Int) ≤ (k : Int) + 1 + f := by omega
                    have t6 : decide (f < 0) = false := decide_eq_false hf0
                    clear hq hj
                    go_wp2_with (first
                      | (go_at_call 22; (with_reducible refine (rjumps_x _ _ _ _ _ _ _ _ true HJ.out wr).mono ?_); rintro e w2 ⟨rfl, hn2⟩; obtain ⟨c0, c1, c2, c3, c4, c5, c6, c7⟩ := HAT.out.new hgl hn2)
                      | (go_at_call 22; (with_reducible refine (rjumps_x _ _ _ _ _ _ _ _ true HJ.out w2).mono ?_); rintro e w3 ⟨rfl, hn3⟩; obtain ⟨q0, q1, q2, q3, q4, q5, q6, q7⟩ := HAT.out.new hgl (New.then hn2 hn3)))
                    go_roundw
                    case rel =>
                      refine ⟨k + 1, by omega, by go_num, fun k' hk' => ?_, New.then (New.then HNW.out hn2) hn3, HRE.out.below (New.then hn2 hn3) HRE.out.lt⟩
                      by_cases e : k' = k
                      · subst e; exact HQ.out
                      · exact HP.out k' (by omega)
                    case measure => simp [intOf]; omega
                  · have HCK := Lib.hid (chk_f HL0.out HL4.out HOKS.out HKL.out HP.out (hq.trans ((fore_to hj hf0).trans (if_neg hf1))) (by decide))
                    have t5 : (n : Int) ≤ (k : Int) + 1 + f := by omega
                    have t6 : decide (f < 0) = false := decide_eq_false hf0
                    clear hq hj
                    go_wp2_with (first
                      | (go_at_call 22; (with_reducible refine (rjumps_x _ _ _ _ _ _ _ _ true HJ.out wr).mono ?_); rintro e w2 ⟨rfl, hn2⟩; obtain ⟨c0, c1, c2, c3, c4, c5, c6, c7⟩ := HAT.out.new hgl hn2)
                      | (go_at_call 22; (with_reducible refine (rjumps_x _ _ _ _ _ _ _ _ true HJ.out w2).mono ?_); rintro e w3 ⟨rfl, hn3⟩; have HR2 := Lib.hid (HRE.out.below (New.then hn2 hn3) HRE.out.lt); obtain ⟨q0, q1, q2, q3, q4, q5, q6, q7⟩ := HAT.out.new hgl (New.then hn2 hn3))
                      | (refine wpList_store_row rfl 27 _ _ rfl w.heap.size #[.int .i64 101, .int .i64 (k : Int)] rfl rfl 27 _ HR2.out ei rfl (by simp [Value.oneCell']) ?_))
                    refine bodyPost_ret (results_cell_row rfl _ _ w.heap.size 27 _ (0, 0) _ rfl (setRow_heap _ _ _ _ _ _ HR2.out) Try.underlying27 rfl ei) rfl ?_
                    exact ⟨ret_fv HCK.out, new_row (New.then (New.then HNW.out hn2) hn3) (Nat.le_refl _) _⟩
            · obtain rfl : n = k := by omega
              have HFS : Hid (∀ k, k < l.length → qF l k = 0) := Lib.hid (fun k h => HP.out k (by rw [HN.out]; exact h))
              obtain ⟨m, hmn⟩ : ∃ m : Nat, (n : Int) - 1 = (m : Int) := ⟨n - 1, by omega⟩
              have t4 : ¬ (n : Int) < (n : Int) := by omega
              have t5 : (m : Int) < (n : Int) := by omega
              have hml : m + 1 = l.length := by rw [← HN.out]; omega
              have hmk : m < l.length := by omega
              obtain ⟨g, a, rfl, hg, hat⟩ := HA.out.at_ hmk
              obtain ⟨y, hy⟩ : ∃ y, ig l m = y := ⟨_, rfl⟩
              rw [← ig_at hmk, hy] at hat
              obtain ⟨b0, b1, b2, b3, b4, b5, b6, b7⟩ := hat.new hg HNW.out
              obtain ⟨o, nn, d, s, u, f, mm, z⟩ := y
              simp only at b0 b1 b2 b3 b4 b5 b6 b7
              have HML := Lib.hid hml
              have HY := Lib.hid hy
              clear hat hmk hml hy
              rcases (show (o ≠ 28 ∧ o ≠ 16) ∨ (o = 28 ∨ o = 16) by omega) with ⟨h28, h16⟩ | h
              · have HCK := Lib.hid (chk_e HL0.out HL4.out HOKS.out HFS.out HML.out (by rw [HY.out]; exact h28) (by rw [HY.out]; exact h16))
                have t6 : (o == 28) = false := by simpa using h28
                have t7 : (o != 28) = true := by simpa using h28
                have t8 : (o == 16) = false := by simpa using h16
                have t9 : (o != 16) = true := by simpa using h16
                have HR2 := HRE
                clear h28 h16
                go_wp2_with (refine wpList_store_row rfl 27 _ _ rfl w.heap.size #[.int .i64 102, .int .i64 (m : Int)] rfl rfl 27 _ HR2.out ei rfl (by simp [Value.oneCell']) ?_)
                refine bodyPost_ret (results_cell_row rfl _ _ w.heap.size 27 _ (0, 0) _ rfl (setRow_heap _ _ _ _ _ _ HR2.out) Try.underlying27 rfl ei) rfl ?_
                exact ⟨ret_fv HCK.out, new_row HNW.out (Nat.le_refl _) _⟩
              · have HES : Hid (∀ k, k < l.length → qE l k = 0) := Lib.hid (qE_all HML.out (by rw [HY.out]; exact h))
                have HIN : Hid (∀ k, k < n → ∀ j ∈ nx l (k : Int), (k : Int) < j ∧ j < (n : Int)) := Lib.hid (fun k hk j hj => by
                  have := nx_in HFS.out HES.out (k := k) (by rw [← HN.out]; exact hk) hj
                  rw [HN.out]; exact this)
                have ht : ((o == 28) = true ∧ (o != 28) = false ∧ True ∧ True) ∨ ((o == 28) = false ∧ (o != 28) = true ∧ (o == 16) = true ∧ (o != 16) = false) := by
                  rcases h with rfl | rfl
                  · exact .inl ⟨rfl, rfl, trivial, trivial⟩
                  · exact .inr ⟨rfl, rfl, rfl, rfl⟩
                clear h
                rcases ht with ⟨t6, t7, t8, t9⟩ | ⟨t6, t7, t8, t9⟩
                all_goals
                  go_wp2_with (go_at_call 23; (with_reducible refine (rcome_any (some ⟨g, a, none⟩) n c l _ HN.out hl h0 (HA.out.new HNW.out) HIN.out).mono ?_); rintro e w2 ⟨g2, f2, rfl, hbo, hokf, hclf, hn2⟩)
                  have HBO := Lib.hid hbo
                  have HIS := Lib.hid (hokf.is hclf)
                  have HN2 := Lib.hid (New.then HNW.out hn2)
                  have HR0 := Lib.hid (HRE.out.below hn2 HRE.out.lt)
                  clear hbo hokf hclf hn2
                  go_loopw [7] (fun i wr => ∃ k : Nat, k ≤ n ∧ i = .int .i64 k ∧ (∀ k', k' < k → cmb l k' k' = true) ∧ New w wr ∧ Bo wr g2 n f2 ∧ Blk wr w.heap.size 27 #[.int .i64 0, .int .i64 0]) (fun i _ => n - (intOf i).toNat)
                  case atStart => exact ⟨0, Nat.zero_le _, rfl, fun k' h => by omega, HN2.out, HBO.out, HR0.out⟩
                  case round =>
                    clear HP HNW HRE HBO HN2 HR0
                    obtain ⟨k, hk, rfl, hp, hnw, hbo, hre⟩ := hrel
                    have HP := Lib.hid hp
                    have HNW := Lib.hid hnw
                    have HR2 := Lib.hid hre
                    have HBO := Lib.hid hbo
                    clear hp hnw hre hbo
                    by_cases hlt : k < n
                    · have t10 : (k : Int) < (n : Int) := by omega
                      have c1 := HBO.out.cell hlt
                      rw [HIS.out k hlt HP.out] at c1
                      rcases hck : cmb l k k with _ | _
                      · rw [hck] at c1
                        have HCK := Lib.hid (chk_d HL0.out HL4.out HOKS.out HFS.out HES.out (by rw [← HN.out]; exact hlt) HP.out hck)
                        clear hck
                        go_wp2_with (refine wpList_store_row rfl 27 _ _ rfl w.heap.size #[.int .i64 103, .int .i64 (k : Int)] rfl rfl 27 _ HR2.out ei rfl (by simp [Value.oneCell']) ?_)
                        refine bodyPost_ret (results_cell_row rfl _ _ w.heap.size 27 _ (0, 0) _ rfl (setRow_heap _ _ _ _ _ _ HR2.out) Try.underlying27 rfl ei) rfl ?_
                        exact ⟨ret_fv HCK.out, new_row HNW.out (Nat.le_refl _) _⟩
                      · rw [hck] at c1
                        have HCC := Lib.hid hck
                        clear hck
                        go_wp2
                        go_roundw
                        case rel =>
                          refine ⟨k + 1, by omega, by go_num, fun k' hk' => ?_, HNW.out, HBO.out, HR2.out⟩
                          by_cases e : k' = k
                          · subst e; exact HCC.out
                          · exact HP.out k' (by omega)
                        case measure => simp [intOf]; omega
                    · obtain rfl : n = k := by omega
                      have t10 : ¬ (n : Int) < (n : Int) := by omega
                      have HCK : Hid (chk l = (0, 0)) := Lib.hid (chk_well ⟨HL0.out, HL4.out, HOKS.out, HFS.out, HES.out, fun k hk => HP.out k (by rw [HN.out]; exact hk)⟩)
                      go_wp2_with (refine wpList_store_row rfl 27 _ _ rfl w.heap.size #[.int .i64 0, .int .i64 0] rfl rfl 27 _ HR2.out ei rfl (by simp [Value.oneCell']) ?_)
                      refine bodyPost_ret (results_cell_row rfl _ _ w.heap.size 27 _ (0, 0) _ rfl (setRow_heap _ _ _ _ _ _ HR2.out) Try.underlying27 rfl ei) rfl ?_
                      exact ⟨ret_fv HCK.out, new_row HNW.out (Nat.le_refl _) _⟩
end Go.Proofs.Ytlchimbaclenaaa.sh
