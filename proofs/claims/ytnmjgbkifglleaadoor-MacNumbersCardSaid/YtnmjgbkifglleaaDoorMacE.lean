/-
  The document's tags.
-/
import Derived.Test.YtnmjgbkifglleaaDoorMacD
namespace Go.Proofs.YtnmjgbkifglleaaDoor.sha
open Go.RowKit Go.Proofs.YtnmjgbkifglleaaDoor.mem Go.Proofs.YtnmjgbkifglleaaDoor.kit Go.Proofs.YtnmjgbkifglleaaDoor.wire
set_option linter.unusedVariables false
set_option maxRecDepth 100000 in
theorem same_gen (A B : Option Addr) (n m c d : Nat) (la lb : List UInt8) (w : World) (hn : n = la.length) (hm : m = lb.length) (hl : n ≤ 1000000) (hl2 : m ≤ 1000000) (hA : Reads w w.heap.size 1 A n (vb la)) (hB : Reads w w.heap.size 1 B m (vb lb)) :
    Calls Tryd.prog 10 #[.slice A n c, .slice B m d] w fun e w' => e = .returned (.bool (decide (la = lb))) ∧ New w w' := by
  by_cases hnm : n = m
  · subst hnm
    have HN := Lib.hid hn
    have HM := Lib.hid hm
    clear hn hm
    go_enter Tryd.func10, Tryd.ntmps10
    go_wp2
    go_loopw [5] (fun i wr => ∃ k : Nat, k ≤ n ∧ i = .int .i64 k ∧ New w wr ∧ Hid (la.take k = lb.take k)) (fun i _ => n - (intOf i).toNat)
    case atStart => exact ⟨0, Nat.zero_le _, rfl, new_refl _, Lib.hid rfl⟩
    case round =>
      obtain ⟨k, hk, rfl, hnw, HT⟩ := hrel
      by_cases hlt : k < n
      · obtain ⟨a, u, rfl, ha, hx, hc⟩ := hA.at_ hlt
        obtain ⟨b, u', rfl, hb, hx', hc'⟩ := hB.at_ hlt
        have hka : k < la.length := by rw [← HN.out]; exact hlt
        have hkb : k < lb.length := by rw [← HM.out]; exact hlt
        rw [vb_get la k hka] at hx
        injection hx with hx
        subst hx
        rw [vb_get lb k hkb] at hx'
        injection hx' with hx'
        subst hx'
        have h1 := (hnw.cell (p := a.add k) (by rw [block_of_add]; exact ha)).trans hc
        have h2 := (hnw.cell (p := b.add k) (by rw [block_of_add]; exact hb)).trans hc'
        have hki : (k : Int) < (n : Int) := by omega
        have HTA : Hid (la.take (k + 1) = la.take k ++ [la[k]]) := Lib.hid (List.take_succ_eq_append_getElem hka)
        have HTB : Hid (lb.take (k + 1) = lb.take k ++ [lb[k]]) := Lib.hid (List.take_succ_eq_append_getElem hkb)
        have HNE : Hid (la[k] ≠ lb[k] → decide (la = lb) = false) := Lib.hid (fun h => by
          rw [decide_eq_false_iff_not]
          rintro rfl
          exact h rfl)
        clear hc hc'
        generalize la[k] = x at *
        generalize lb[k] = y at *
        by_cases hxy : x = y
        · subst hxy
          go_wp2
          go_quiet (fail)
          go_wp2
          go_roundw
          case rel => exact ⟨k + 1, by omega, by go_num, hnw.drewN _, Lib.hid (by rw [HTA.out, HTB.out, HT.out])⟩
          case measure => simp [intOf]; omega
        · have hxi : ¬ (x.toNat : Int) = (y.toNat : Int) := by
            intro h
            exact hxy (UInt8.toNat_inj.1 (by omega))
          have hr := Lib.hid (HNE.out hxy)
          go_wp2
          go_quiet (fail)
          go_wp2
          go_ret
          rw [hr.out]
          exact ⟨rfl, hnw.drewN _⟩
      · have hr : Hid (decide (la = lb) = true) := Lib.hid (by
          rw [decide_eq_true_iff]
          have h := HT.out
          rwa [List.take_of_length_le (by rw [← HN.out]; omega), List.take_of_length_le (by rw [← HM.out]; omega)] at h)
        have hki : ¬ (k : Int) < (n : Int) := by omega
        go_wp2
        go_ret
        rw [hr.out]
        exact ⟨rfl, hnw⟩
  · have hd : decide (la = lb) = false := by
      rw [decide_eq_false_iff_not]
      rintro rfl
      omega
    have hni : ¬ (n : Int) = (m : Int) := by omega
    rw [hd]
    clear hd hn hm hA hB
    go_enter Tryd.func10, Tryd.ntmps10
    go_wp2
    go_ret
    exact ⟨rfl, new_refl _⟩

def half0 (B : List UInt8) (n : UInt8) (k : Nat) : List UInt8 := (undr B n).take k ++ List.replicate (64 - k) 0
theorem half0_at (B : List UInt8) (n : UInt8) (k : Nat) (h : k < 64) (hB : B.length = 64) (b : UInt8) (hb : B[k]? = some b) : (half0 B n k)[k]? = some 0 ∧ ((half0 B n k).set k b)[k]? = some b ∧ ((half0 B n k).set k b).set k (b ^^^ n) = half0 B n (k + 1) ∧ (half0 B n k).set k ((0 : UInt8) ^^^ n) = (if b = 0 then half0 B n (k + 1) else (half0 B n k).set k ((0 : UInt8) ^^^ n)) := by
  have hl : ((undr B n).take k).length = k := by rw [List.length_take, undr_length]; omega
  have hr : List.replicate (64 - k) (0 : UInt8) = 0 :: List.replicate (64 - (k + 1)) 0 := by rw [show 64 - k = (64 - (k + 1)) + 1 by omega, List.replicate_succ]
  obtain ⟨hlt, rfl⟩ := List.getElem?_eq_some_iff.1 hb
  have ht : (undr B n).take (k + 1) = (undr B n).take k ++ [B[k] ^^^ n] := by
    rw [List.take_succ_eq_append_getElem (by rw [undr_length]; exact hlt)]
    simp [undr]
  have hs : ∀ y : UInt8, (half0 B n k).set k y = (undr B n).take k ++ y :: List.replicate (64 - (k + 1)) 0 := fun y => by
    unfold half0
    rw [List.set_append_right _ _ (by omega), hl, Nat.sub_self, hr, List.set_cons_zero]
  have hg : ∀ y : UInt8, ((undr B n).take k ++ y :: List.replicate (64 - (k + 1)) (0 : UInt8))[k]? = some y := fun y => by
    rw [List.getElem?_append_right (by omega), hl, Nat.sub_self]
    rfl
  have hnx : (half0 B n k).set k (B[k] ^^^ n) = half0 B n (k + 1) := by
    rw [hs]
    unfold half0
    rw [ht, List.append_assoc]
    rfl
  refine ⟨?_, ?_, ?_, ?_⟩
  · have := hg 0
    rw [← hr] at this
    exact this
  · rw [hs]
    exact hg _
  · rw [List.set_set]
    exact hnx
  · split
    · rename_i e
      rw [← hnx, e]
    · rfl
theorem Bf.at_ {W : World} {g i : Nat} {X : List UInt8} {b : UInt8} (h : Bf W g X) (hi : X[i]? = some b) : W.cell? ⟨g, i, none⟩ = some (.int .u8 (b.toNat : Int)) := by
  obtain ⟨hl, rfl⟩ := List.getElem?_eq_some_iff.1 hi
  exact (Blk.cell h i).trans (by simpa using vb_get X i hl)
theorem Bf.ab {w W : World} {g n : Nat} {X : List UInt8} (h : Bf W g X) (hn : X.length = n) (hl : n ≤ 1000000) (hg : w.heap.size ≤ g) (hN : New w W) : Ab w (.slice (some ⟨g, 0, none⟩) n n) X W := by
  subst hn
  refine ⟨⟨by rw [vb_length, Nat.mul_one], .inr ⟨g, X.length, (vb X).toArray, rfl, hg, h, Nat.le_refl _, by unfold maxLen; omega, by simp [vb_length], ?_⟩⟩, hN⟩
  rw [List.take_of_length_le (by simp [vb_length])]
theorem keyed (key k : List UInt8) (hk : keyOf key = k) (i : Nat) (h : i < 64) : ∃ b, (blk key)[i]? = some b ∧ (∀ hi : i < k.length, b = k[i]) ∧ (k.length ≤ i → b = 0) := by
  have hb : i < (blk key).length := by rw [blk_length]; exact h
  refine ⟨(blk key)[i], List.getElem?_eq_getElem hb, fun hi => ?_, fun hi => ?_⟩
  · simp only [blk, hk]
    rw [List.getElem_append_left hi]
  · simp only [blk, hk]
    rw [List.getElem_append_right hi]
    simp
set_option maxRecDepth 100000 in
set_option maxHeartbeats 8000000 in
theorem runder_short (A : Option Addr) (n c : Nat) (key : List UInt8) (y : UInt8) (w : World) (hn : n = key.length) (h64 : n ≤ 64) (hA : Reads w w.heap.size 1 A n (vb key)) :
    Calls Tryd.prog 33 #[.slice A n c, .int .u8 (y.toNat : Int)] w fun e w' => ∃ v, e = .returned v ∧ Ab w v (undr (blk key) y) w' := by
  have hmk : ∀ W : World, (Instr.makeSlice 22 (.int .i64 64) (.int .i64 64)).run Tryd.prog W = .ok (.slice (some ⟨W.heap.size, 0, none⟩) 64 64) (W.alloc (.cells (vb (List.replicate 64 0)).toArray 5)) := fun W => by
    have h := make_bytes 64 64 (by omega) (by omega) W
    rwa [show Go.Proofs.YtnmjgbkifglleaaDoor.sha.zrow 64 = (vb (List.replicate 64 0)).toArray by rw [← zrow_64]] at h
  obtain ⟨Z, hZ⟩ : ∃ Z, (vb (List.replicate 64 (0 : UInt8))).toArray = Z := ⟨_, rfl⟩
  have hb0 : Bf (w.alloc (.cells Z 5)) w.heap.size (half0 (blk key) y 0) := by
    have h := Blk.new w 5 Z
    rw [← hZ] at h ⊢
    simpa [Bf, half0] using h
  rw [hZ] at hmk
  have HB0 := Lib.hid hb0
  have HN0 : Hid (New w (w.alloc (.cells Z 5))) := Lib.hid (alloc_new w _)
  have HKK : Hid (keyOf key = key) := Lib.hid (by unfold keyOf; rw [if_neg (by omega)])
  have HKL := Lib.hid hn
  have HKR := Lib.hid hA
  have h64i : ¬ (64 : Int) < (n : Int) := by omega
  clear hb0 hA hn hZ
  go_enter Tryd.func33, Tryd.ntmps33
  go_wp2_with fail
  go_loopw [7] (fun vi wr => ∃ i : Nat, i ≤ 64 ∧ vi = .int .i64 (i : Int) ∧ Hid (Bf wr w.heap.size (half0 (blk key) y i) ∧ New w wr)) (fun vi _ => 64 - (intOf vi).toNat)
  case atStart => exact ⟨0, Nat.zero_le _, rfl, Lib.hid ⟨HB0.out, HN0.out⟩⟩
  case round =>
    clear HB0 HN0
    obtain ⟨i, hi, rfl, HJ⟩ := hrel
    by_cases hlt : i < 64
    · have hi64 : (i : Int) < 64 := by omega
      obtain ⟨x, hx, hx1, hx2⟩ := keyed key key HKK.out i hlt
      obtain ⟨e1, e2, e3, e4⟩ := half0_at (blk key) y i hlt (blk_length key) x hx
      have c1 := HJ.out.1.at_ e1
      have c2 := Blk.frozen HJ.out.1 i
      by_cases hik : i < n
      · have hiki : (i : Int) < (n : Int) := by omega
        have hkl : i < key.length := by rw [← HKL.out]; exact hik
        obtain ⟨p, u, rfl, hp, hu, hc⟩ := HKR.out.at_ hik
        rw [vb_get key i hkl, ← hx1 hkl] at hu
        injection hu with hu
        subst hu
        have c3 := (HJ.out.2.cell (p := p.add i) (by rw [block_of_add]; exact hp)).trans hc
        have hS1 : Bf (wr.setCell ⟨w.heap.size, i, none⟩ (.int .u8 (x.toNat : Int))) w.heap.size ((half0 (blk key) y i).set i x) := HJ.out.1.set i x
        have c4 := hS1.at_ e2
        have c5 := Blk.frozen hS1 i
        have hxor : bits BinOp.xor IntKind.u8 (x.toNat : Int) (y.toNat : Int) = ((x ^^^ y).toNat : Int) := by rw [xor_u8]; exact u8_xor_nat _ _ x.toNat_lt y.toNat_lt
        have HS2 : Hid (Bf ((wr.setCell ⟨w.heap.size, i, none⟩ (.int .u8 (x.toNat : Int))).setCell ⟨w.heap.size, i, none⟩ (.int .u8 ((x ^^^ y).toNat : Int))) w.heap.size (half0 (blk key) y (i + 1))) := Lib.hid (by rw [← e3]; exact hS1.set i _)
        have HN2 : Hid (New w ((wr.setCell ⟨w.heap.size, i, none⟩ (.int .u8 (x.toNat : Int))).setCell ⟨w.heap.size, i, none⟩ (.int .u8 ((x ^^^ y).toNat : Int)))) := Lib.hid ((HJ.out.2.setCell (p := ⟨w.heap.size, i, none⟩) (Nat.le_refl _) _).setCell (p := ⟨w.heap.size, i, none⟩) (Nat.le_refl _) _)
        have HS1 := Lib.hid hS1
        rw [xor_u8] at hxor HS2 HN2
        clear hx hx1 hx2 e1 e2 e3 e4 hc hS1
        go_wp2_with fail
        go_roundw
        case rel => exact ⟨i + 1, by omega, by go_num, Lib.hid ⟨HS2.out, HN2.out⟩⟩
        case measure => simp [intOf]; omega
      · have hiki : ¬ (i : Int) < (n : Int) := by omega
        have hx0 : x = 0 := hx2 (by rw [← HKL.out]; omega)
        rw [if_pos hx0] at e4
        have hxor : bits BinOp.xor IntKind.u8 0 (y.toNat : Int) = (((0 : UInt8) ^^^ y).toNat : Int) := by rw [xor_u8]; exact u8_xor_nat 0 _ (by decide) y.toNat_lt
        have HS2 : Hid (Bf (wr.setCell ⟨w.heap.size, i, none⟩ (.int .u8 (((0 : UInt8) ^^^ y).toNat : Int))) w.heap.size (half0 (blk key) y (i + 1))) := Lib.hid (by rw [← e4]; exact HJ.out.1.set i _)
        have HN2 : Hid (New w (wr.setCell ⟨w.heap.size, i, none⟩ (.int .u8 (((0 : UInt8) ^^^ y).toNat : Int)))) := Lib.hid (HJ.out.2.setCell (p := ⟨w.heap.size, i, none⟩) (Nat.le_refl _) _)
        have c1' : wr.cell? ⟨w.heap.size, i, none⟩ = some (.int .u8 0) := c1
        obtain ⟨z, hz⟩ : ∃ z, (((0 : UInt8) ^^^ y).toNat : Int) = z := ⟨_, rfl⟩
        rw [hz] at hxor HS2 HN2
        clear hx hx1 hx2 e1 e2 e3 e4 c1 hz
        go_wp2_with fail
        go_roundw
        case rel => exact ⟨i + 1, by omega, by go_num, Lib.hid ⟨HS2.out, HN2.out⟩⟩
        case measure => simp [intOf]; omega
    · obtain rfl : i = 64 := by omega
      go_wp2_with fail
      go_ret
      have hb := HJ.out.1
      have e : half0 (blk key) y 64 = undr (blk key) y := by
        unfold half0
        rw [Nat.sub_self, List.replicate_zero, List.append_nil, List.take_of_length_le (by rw [undr_length, blk_length]; omega)]
      rw [e] at hb
      exact ⟨_, rfl, hb.ab (by rw [undr_length, blk_length]) (by omega) (Nat.le_refl _) (New.then (new_refl w) HJ.out.2)⟩
set_option maxRecDepth 100000 in
set_option maxHeartbeats 8000000 in
theorem runder_long (A : Option Addr) (n c : Nat) (key : List UInt8) (y : UInt8) (w : World) (hn : n = key.length) (h64 : 64 < n) (hl : n ≤ 1000000) (hA : Reads w w.heap.size 1 A n (vb key)) :
    Calls Tryd.prog 33 #[.slice A n c, .int .u8 (y.toNat : Int)] w fun e w' => ∃ v, e = .returned v ∧ Ab w v (undr (blk key) y) w' := by
  have hmk : ∀ W : World, (Instr.makeSlice 22 (.int .i64 64) (.int .i64 64)).run Tryd.prog W = .ok (.slice (some ⟨W.heap.size, 0, none⟩) 64 64) (W.alloc (.cells (vb (List.replicate 64 0)).toArray 5)) := fun W => by
    have h := make_bytes 64 64 (by omega) (by omega) W
    rwa [show Go.Proofs.YtnmjgbkifglleaaDoor.sha.zrow 64 = (vb (List.replicate 64 0)).toArray by rw [← zrow_64]] at h
  obtain ⟨Z, hZ⟩ : ∃ Z, (vb (List.replicate 64 (0 : UInt8))).toArray = Z := ⟨_, rfl⟩
  have HB1 : Hid (∀ W : World, Bf (W.alloc (.cells Z 5)) W.heap.size (half0 (blk key) y 0)) := Lib.hid (fun W => by
    have h := Blk.new W 5 Z
    rw [← hZ] at h ⊢
    simpa [Bf, half0] using h)
  rw [hZ] at hmk
  have HKK : Hid (keyOf key = sum key) := Lib.hid (by unfold keyOf; rw [if_pos (by omega)])
  have HKL : Hid (32 = (sum key).length) := Lib.hid (sum_length key).symm
  have h64i : (64 : Int) < (n : Int) := by omega
  have HRX : Hid (Calls Tryd.prog 12 #[.slice A n c] w fun e w' => ∃ A4 c4, e = .returned (.slice A4 32 c4) ∧ Reads w' w'.heap.size 1 A4 32 (vb (sum key)) ∧ New w w') := Lib.hid ((rsum_any A n c key w hn (by omega) hA).mono fun e w' k => by
    obtain ⟨v, rfl, hab⟩ := k
    obtain ⟨A4, c4, rfl, -, hr⟩ := hab.len 32 (sum_length key)
    exact ⟨A4, c4, rfl, hr, hab.new⟩)
  generalize hS : sum key = S at *
  clear hA hn hZ
  go_enter Tryd.func33, Tryd.ntmps33
  go_wp2_with (first
    | (go_at_call 12; (with_reducible refine HRX.out.mono ?_); rintro e w4 ⟨A4, c4, rfl, hr4, hn4⟩; have HKR := Lib.hid hr4; have HN4 := Lib.hid hn4; clear hr4 hn4)
    | fail)
  have HB0 := Lib.hid (HB1.out w4)
  have HN0 : Hid (New w4 (w4.alloc (.cells Z 5))) := Lib.hid (alloc_new w4 _)
  go_loopw [7] (fun vi wr => ∃ i : Nat, i ≤ 64 ∧ vi = .int .i64 (i : Int) ∧ Hid (Bf wr w4.heap.size (half0 (blk key) y i) ∧ New w4 wr)) (fun vi _ => 64 - (intOf vi).toNat)
  case atStart => exact ⟨0, Nat.zero_le _, rfl, Lib.hid ⟨HB0.out, HN0.out⟩⟩
  case round =>
    clear HB0 HN0
    obtain ⟨i, hi, rfl, HJ⟩ := hrel
    by_cases hlt : i < 64
    · have hi64 : (i : Int) < 64 := by omega
      obtain ⟨x, hx, hx1, hx2⟩ := keyed key S HKK.out i hlt
      obtain ⟨e1, e2, e3, e4⟩ := half0_at (blk key) y i hlt (blk_length key) x hx
      have c1 := HJ.out.1.at_ e1
      have c2 := Blk.frozen HJ.out.1 i
      by_cases hik : i < 32
      · have hiki : (i : Int) < (32 : Int) := by omega
        have hkl : i < S.length := by rw [← HKL.out]; exact hik
        obtain ⟨p, u, rfl, hp, hu, hc⟩ := HKR.out.at_ hik
        rw [vb_get S i hkl, ← hx1 hkl] at hu
        injection hu with hu
        subst hu
        have c3 := (HJ.out.2.cell (p := p.add i) (by rw [block_of_add]; exact hp)).trans hc
        have hS1 : Bf (wr.setCell ⟨w4.heap.size, i, none⟩ (.int .u8 (x.toNat : Int))) w4.heap.size ((half0 (blk key) y i).set i x) := HJ.out.1.set i x
        have c4 := hS1.at_ e2
        have c5 := Blk.frozen hS1 i
        have hxor : bits BinOp.xor IntKind.u8 (x.toNat : Int) (y.toNat : Int) = ((x ^^^ y).toNat : Int) := by rw [xor_u8]; exact u8_xor_nat _ _ x.toNat_lt y.toNat_lt
        have HS2 : Hid (Bf ((wr.setCell ⟨w4.heap.size, i, none⟩ (.int .u8 (x.toNat : Int))).setCell ⟨w4.heap.size, i, none⟩ (.int .u8 ((x ^^^ y).toNat : Int))) w4.heap.size (half0 (blk key) y (i + 1))) := Lib.hid (by rw [← e3]; exact hS1.set i _)
        have HN2 : Hid (New w4 ((wr.setCell ⟨w4.heap.size, i, none⟩ (.int .u8 (x.toNat : Int))).setCell ⟨w4.heap.size, i, none⟩ (.int .u8 ((x ^^^ y).toNat : Int)))) := Lib.hid ((HJ.out.2.setCell (p := ⟨w4.heap.size, i, none⟩) (Nat.le_refl _) _).setCell (p := ⟨w4.heap.size, i, none⟩) (Nat.le_refl _) _)
        have HS1 := Lib.hid hS1
        rw [xor_u8] at hxor HS2 HN2
        clear hx hx1 hx2 e1 e2 e3 e4 hc hS1
        go_wp2_with fail
        go_roundw
        case rel => exact ⟨i + 1, by omega, by go_num, Lib.hid ⟨HS2.out, HN2.out⟩⟩
        case measure => simp [intOf]; omega
      · have hiki : ¬ (i : Int) < (32 : Int) := by omega
        have hx0 : x = 0 := hx2 (by rw [← HKL.out]; omega)
        rw [if_pos hx0] at e4
        have hxor : bits BinOp.xor IntKind.u8 0 (y.toNat : Int) = (((0 : UInt8) ^^^ y).toNat : Int) := by rw [xor_u8]; exact u8_xor_nat 0 _ (by decide) y.toNat_lt
        have HS2 : Hid (Bf (wr.setCell ⟨w4.heap.size, i, none⟩ (.int .u8 (((0 : UInt8) ^^^ y).toNat : Int))) w4.heap.size (half0 (blk key) y (i + 1))) := Lib.hid (by rw [← e4]; exact HJ.out.1.set i _)
        have HN2 : Hid (New w4 (wr.setCell ⟨w4.heap.size, i, none⟩ (.int .u8 (((0 : UInt8) ^^^ y).toNat : Int)))) := Lib.hid (HJ.out.2.setCell (p := ⟨w4.heap.size, i, none⟩) (Nat.le_refl _) _)
        have c1' : wr.cell? ⟨w4.heap.size, i, none⟩ = some (.int .u8 0) := c1
        obtain ⟨z, hz⟩ : ∃ z, (((0 : UInt8) ^^^ y).toNat : Int) = z := ⟨_, rfl⟩
        rw [hz] at hxor HS2 HN2
        clear hx hx1 hx2 e1 e2 e3 e4 c1 hz
        go_wp2_with fail
        go_roundw
        case rel => exact ⟨i + 1, by omega, by go_num, Lib.hid ⟨HS2.out, HN2.out⟩⟩
        case measure => simp [intOf]; omega
    · obtain rfl : i = 64 := by omega
      go_wp2_with fail
      go_ret
      have hb := HJ.out.1
      have e : half0 (blk key) y 64 = undr (blk key) y := by
        unfold half0
        rw [Nat.sub_self, List.replicate_zero, List.append_nil, List.take_of_length_le (by rw [undr_length, blk_length]; omega)]
      rw [e] at hb
      exact ⟨_, rfl, hb.ab (by rw [undr_length, blk_length]) (by omega) HN4.out.size (New.then HN4.out HJ.out.2)⟩
theorem runder_any (A : Option Addr) (n c : Nat) (key : List UInt8) (y : UInt8) (w : World) (hn : n = key.length) (hl : n ≤ 1000000) (hA : Reads w w.heap.size 1 A n (vb key)) :
    Calls Tryd.prog 33 #[.slice A n c, .int .u8 (y.toNat : Int)] w fun e w' => ∃ v, e = .returned v ∧ Ab w v (undr (blk key) y) w' := by
  by_cases h : n ≤ 64
  · exact runder_short A n c key y w hn h hA
  · exact runder_long A n c key y w hn (by omega) hl hA
set_option maxRecDepth 100000 in
set_option maxHeartbeats 4000000 in
theorem rtag_any (A C : Option Addr) (n c m d : Nat) (key b : List UInt8) (w : World) (hn : n = key.length) (hm : m = b.length) (hnl : n ≤ 900000) (hml : m ≤ 900000) (hA : Reads w w.heap.size 1 A n (vb key)) (hC : Reads w w.heap.size 1 C m (vb b)) :
    Calls Tryd.prog 17 #[.slice A n c, .slice C m d] w fun e w' => ∃ A4 c4, e = .returned (.slice A4 32 c4) ∧ Reads w' w'.heap.size 1 A4 32 (vb (tag key b)) ∧ New w w' := by
  have hl64 := blk_length key
  have HU1 : Hid (Calls Tryd.prog 33 #[.slice A n c, .int .u8 54] w fun e w' => ∃ v, e = .returned v ∧ Ab w v (undr (blk key) 54) w') := Lib.hid (runder_any A n c key 54 w hn (by omega) hA)
  have HU2 : Hid (∀ W, New w W → Calls Tryd.prog 33 #[.slice A n c, .int .u8 92] W fun e w' => ∃ v, e = .returned v ∧ Ab W v (undr (blk key) 92) w') := Lib.hid (fun W hW => runder_any A n c key 92 W hn (by omega) (hA.new hW))
  have HC := Lib.hid hC
  have hu1 : (undr (blk key) 54).length = 64 := by rw [undr_length, hl64]
  have hu2 : (undr (blk key) 92).length = 64 := by rw [undr_length, hl64]
  have HI : Hid (sum (undr (blk key) 54 ++ b) = inner key b) := Lib.hid rfl
  have HT : Hid (sum (undr (blk key) 92 ++ inner key b) = tag key b) := Lib.hid rfl
  have HIL : Hid ((inner key b).length = 32) := Lib.hid (inner_length key b)
  have HTL : Hid ((tag key b).length = 32) := Lib.hid (tag_length key b)
  generalize undr (blk key) 54 = K1 at *
  generalize undr (blk key) 92 = K2 at *
  generalize inner key b = I at *
  generalize tag key b = T at *
  have HL1 := Lib.hid hu1
  have HL2 := Lib.hid hu2
  have HM := Lib.hid hm
  clear hu1 hu2 hl64 hA hC hn hm
  go_enter Tryd.func17, Tryd.ntmps17
  go_wp2_with (first
    | (go_at_call 33; (with_reducible refine HU1.out.mono ?_); rintro e w1 ⟨v1, rfl, h1⟩; have HA1 := Lib.hid h1; clear h1)
    | (at_builtin; refine wpl_ab (w0 := w) (z := K1) (l := b) rfl (.tmp 7) (.tmp 8) rfl HA1.out rfl (by rw [← HM.out]; rfl) (by rw [← HM.out]; exact HC.out.new HA1.out.new) (by have := HM.out; have := HL1.out; omega) ?_; intro v2 w2 hM2; obtain ⟨A2, c2, rfl, hc2, hr2⟩ := hM2.len (64 + m) (by rw [List.length_append, HL1.out, ← HM.out]); have HA2 := Lib.hid hM2; have HS2 := Lib.hid (rsum_any A2 (64 + m) c2 (K1 ++ b) w2 (by rw [List.length_append, HL1.out, ← HM.out]) (by omega) hr2); clear hM2 hc2 hr2)
    | (go_at_call 12; (with_reducible refine HS2.out.mono ?_); rintro e w3 ⟨v3, rfl, h3⟩; obtain ⟨A3, c3, rfl, -, hr3⟩ := h3.len 32 (by rw [HI.out, HIL.out]); have hrI := hr3; rw [HI.out] at hrI; have HR3 := Lib.hid hrI; have HN3 := Lib.hid (New.then HA2.out.new h3.new); have HU3 := Lib.hid (HU2.out w3 (New.then HA2.out.new h3.new)); clear h3 hr3 hrI)
    | (go_at_call 33; (with_reducible refine HU3.out.mono ?_); rintro e w4 ⟨v4, rfl, h4⟩; have HA4 := Lib.hid h4; clear h4)
    | (at_builtin; refine wpl_ab (w0 := w3) (z := K2) (l := I) rfl (.tmp 12) (.tmp 13) rfl HA4.out rfl (by rw [HIL.out]; rfl) (by rw [HIL.out]; exact HR3.out.new HA4.out.new) (by have := HIL.out; have := HL2.out; omega) ?_; intro v5 w5 hM5; obtain ⟨A5, c5, rfl, hc5, hr5⟩ := hM5.len 96 (by rw [List.length_append, HL2.out, HIL.out]); have HA5 := Lib.hid hM5; have HS5 := Lib.hid (rsum_any A5 96 c5 (K2 ++ I) w5 (by rw [List.length_append, HL2.out, HIL.out]) (by omega) hr5); clear hM5 hc5 hr5)
    | (go_at_call 12; (with_reducible refine HS5.out.mono ?_); rintro e w6 ⟨v6, rfl, h6⟩; obtain ⟨A6, c6, rfl, -, hr6⟩ := h6.len 32 (by rw [HT.out, HTL.out]); rw [HT.out] at hr6; have HR6 := Lib.hid hr6; have HN6 := Lib.hid (New.then (New.then HN3.out HA5.out.new) h6.new); clear h6 hr6)
    | fail)
  go_ret
  exact ⟨A6, c6, rfl, HR6.out, HN6.out⟩
set_option maxRecDepth 100000 in
theorem rfits_any (A C E : Option Addr) (n c m d q f : Nat) (key b T : List UInt8) (w : World) (hn : n = key.length) (hm : m = b.length) (hq : q = T.length) (hnl : n ≤ 900000) (hml : m ≤ 900000) (hql : q ≤ 900000) (hA : Reads w w.heap.size 1 A n (vb key)) (hC : Reads w w.heap.size 1 C m (vb b)) (hE : Reads w w.heap.size 1 E q (vb T)) :
    Calls Tryd.prog 19 #[.slice A n c, .slice C m d, .slice E q f] w fun e w' => e = .returned (.bool (decide (tag key b = T))) ∧ New w w' := by
  have HT := Lib.hid (rtag_any A C n c m d key b w hn hm hnl hml hA hC)
  have HTL : Hid ((tag key b).length = 32) := Lib.hid (tag_length key b)
  generalize tag key b = D at *
  have HE := Lib.hid hE
  have HQ := Lib.hid hq
  clear hA hC hE hn hm hq
  go_enter Tryd.func19, Tryd.ntmps19
  go_wp2_with (first
    | (go_at_call 17; (with_reducible refine HT.out.mono ?_); rintro e w1 ⟨A1, c1, rfl, hr1, hn1⟩; have HN1 := Lib.hid hn1; have HS1 := Lib.hid (same_gen A1 E 32 q c1 f D T w1 HTL.out.symm HQ.out (by omega) (by omega) hr1 (HE.out.new hn1)); clear hr1 hn1)
    | (go_at_call 10; (with_reducible refine HS1.out.mono ?_); rintro e w2 ⟨rfl, hn2⟩; have HN2 := Lib.hid (New.then HN1.out hn2); clear hn2)
    | fail)
  go_ret
  exact ⟨rfl, HN2.out⟩
end Go.Proofs.YtnmjgbkifglleaaDoor.sha
