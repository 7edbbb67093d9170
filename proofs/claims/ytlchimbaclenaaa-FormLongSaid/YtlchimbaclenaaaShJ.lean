/-
  The law: as many instructions as may be, and one more.
-/
import Derived.Test.YtlchimbaclenaaaShI
import Derived.Deep.MidRow
namespace Go.Proofs.Ytlchimbaclenaaa.sh
open Go.RowKit Go.Proofs.Ytlchimbaclenaaa.mem Go.Proofs.Ytlchimbaclenaaa.kit Go.Proofs.Ytlchimbaclenaaa.ins
set_option linter.unusedVariables false

theorem pick_x (x n q : Int) (w : World) (n1 : 1 ≤ n) (n2 : n ≤ 9223372036854775807) (x1 : -9223372036854775808 ≤ x) (x2 : x ≤ 9223372036854775807) (h : x % n = q) :
    Calls Try.prog 12 #[.int .i64 x, .int .i64 n] w fun e w' => e = .returned (.int .i64 q) ∧ w = w' := h ▸ pick_any x n w n1 n2 x1 x2

theorem new_cells {a : World} {b : Nat} (hb : a.heap.size ≤ b) : ∀ (vs : List Value) (o : Nat) (w : World), New a w → New a (w.setCells b o vs)
  | [], o, w, h => h
  | v :: r, o, w, h => new_cells hb r (o + 1) _ (h.setCell (p := ⟨b, o, none⟩) hb v)
theorem vi_cons (x : In) (l : List In) : vi (x :: l) = In.cells x ++ vi l := rfl
theorem cells_len (x : In) : (In.cells x).length = 8 := rfl
theorem size_cells (g : Nat) : ∀ (vs : List Value) (o : Nat) (w : World), (w.setCells g o vs).heap.size = w.heap.size
  | [], o, w => rfl
  | v :: r, o, w => by rw [World.setCells, size_cells g r]; simp [World.setCell]
/-- The first instruction written anew. -/
theorem ri_set0 {w : World} {g : Nat} {x y : In} {l : List In} (cs : List Value) (hcs : In.cells x = cs) (h : RI w (some ⟨g, 0, none⟩) (y :: l)) (ht : w.there g 0 8) (hlt : g < w.heap.size) : RI (w.setCells g 0 cs) (some ⟨g, 0, none⟩) (x :: l) := by
  have h8 : cs.length = 8 := by rw [← hcs]; rfl
  obtain ⟨ad, ea, -, hc⟩ := h.2 (by simp)
  injection ea with ea
  subst ea
  refine ⟨by rw [vi_length], fun hp => ⟨_, rfl, by rw [size_cells]; exact hlt, fun j u hu => ?_⟩⟩
  rw [Addr.add_lit, Nat.zero_add]
  rw [vi_cons, hcs] at hu
  by_cases hj : j < 8
  · have e := World.cell?_setCells_in g cs 0 w (fun i hi => (ht i (by omega)).1) j (by omega)
    rw [Nat.zero_add] at e
    rw [List.getElem?_append_left (by omega), List.getElem?_eq_getElem (by omega)] at hu
    rw [e]
    exact hu
  · have e := World.cell?_setCells_out g cs 0 w ⟨g, j, none⟩ (fun _ _ => .inr (by rw [h8]; show 0 + 8 ≤ j; omega))
    rw [e]
    rw [List.getElem?_append_right (by omega), h8] at hu
    have := hc j u (by rw [vi_cons, List.getElem?_append_right (by rw [cells_len]; omega), cells_len]; exact hu)
    rwa [Addr.add_lit, Nat.zero_add] at this
theorem longL_cons {k : Nat} (h : 0 < k) : ∃ l, longL k = movI 0 :: l := by
  obtain ⟨m, rfl⟩ : ∃ m, k = m + 1 := ⟨k - 1, by omega⟩
  exact ⟨_, by unfold longL; rw [List.range_succ_eq_map, List.map_cons]; rfl⟩
/-- A row of instructions, its first one written anew. -/
theorem ri_long {w : World} {base g c k : Nat} {p : Int} (h : w.ownsRow base 34 8 (.slice (some ⟨g, 0, none⟩) (k + 1) c) (k + 1) (vi (longL k) ++ vi [⟨28, false, 0, 0, false, 0, 0, 0⟩])) (hk : 0 < k) (ht : w.there g 0 8) (hlt : g < w.heap.size) :
    RI (w.setCells g 0 [.int .u8 17, .bool false, .int .i64 0, .int .i64 0, .bool false, .int .i64 p, .int .i64 0, .int .i64 0]) (some ⟨g, 0, none⟩) (longJ k p) := by
  obtain ⟨l, hl⟩ := longL_cons hk
  have hr := Reads.of_own h
  have e1 : vi (longL k) ++ vi [⟨28, false, 0, 0, false, 0, 0, 0⟩] = vi (movI 0 :: (l ++ [iX])) := by rw [← vi_append, hl]; rfl
  rw [e1] at hr
  have e2 : longJ k p = (⟨17, false, 0, 0, false, p, 0, 0⟩ : In) :: (l ++ [iX]) := by unfold longJ; rw [hl]; rfl
  have hlen : k + 1 = (movI 0 :: (l ++ [iX])).length := by
    have := longL_length k
    rw [hl] at this
    simp at this ⊢
    omega
  have hr' : RI w (some ⟨g, 0, none⟩) (movI 0 :: (l ++ [iX])) := by
    show Reads w w.heap.size 8 (some ⟨g, 0, none⟩) (movI 0 :: (l ++ [iX])).length (vi (movI 0 :: (l ++ [iX])))
    rw [← hlen]
    exact hr
  rw [e2]
  exact ri_set0 _ rfl hr' ht hlt
theorem there_own {w : World} {base g c k : Nat} {xs : List Value} (h : w.ownsRow base 34 8 (.slice (some ⟨g, 0, none⟩) (k + 1) c) (k + 1) xs) : w.there g 0 8 := by
  have hl := h.1
  have hc := h.cells (g := g) rfl
  intro j hj
  obtain ⟨u, hu⟩ : ∃ u, xs[j]? = some u := ⟨_, List.getElem?_eq_getElem (by omega)⟩
  have h1 := hc j u hu
  rw [Addr.add_lit] at h1
  refine ⟨by rw [h1]; rfl, ?_⟩
  rcases h.2 with ⟨h0, _⟩ | ⟨g', cap, cur, h0, _, hg, _⟩
  · simp at h0
  · simp only [Value.slice.injEq, Option.some.injEq, Addr.mk.injEq, and_true] at h0
    obtain ⟨rfl, -⟩ := h0
    exact (Blk.frozen (t := 34) (cs := cur) hg _)
theorem fault_0 (A : Option Addr) (n c : Nat) (l : List In) (x : Int) (w : World) (hn : n = l.length) (hl : n ≤ 1099511627776) (hA : RI w A l) (h : chk l = (x, 0)) :
    Calls Try.prog 13 #[.slice A n c, .int .i64 x, .int .i64 0] w fun e w' => e = .returned (.bool true) ∧ New w w' := fault_any A n c l x 0 w hn hl hA h
theorem off_cell {w : World} {g k : Nat} {p : Int} (h : RI w (some ⟨g, 0, none⟩) (longJ k p)) (hk : 0 < k) : w.cell? ⟨g, 5, none⟩ = some (.int .i64 p) := by
  obtain ⟨g', o', e, -, hat⟩ := h.at_ (k := 0) (by rw [longJ_length]; omega)
  simp only [Option.some.injEq, Addr.mk.injEq, and_true] at e
  obtain ⟨rfl, rfl⟩ := e
  rw [← ig_at (by rw [longJ_length]; omega), longJ_0] at hat
  exact hat.2.2.2.2.2.1
abbrev jC (p : Int) : List Value := [.int .u8 17, .bool false, .int .i64 0, .int .i64 0, .bool false, .int .i64 p, .int .i64 0, .int .i64 0]

set_option maxRecDepth 100000 in
set_option maxHeartbeats 8000000 in
theorem FormLong_any (x y : Int) (w : World) (x1 : -9223372036854775808 ≤ x) (x2 : x ≤ 9223372036854775807) (y1 : -9223372036854775808 ≤ y) (y2 : y ≤ 9223372036854775807) :
    Calls Try.prog 4 #[.int .i64 x, .int .i64 y] w fun e w' => e = .returned (.bool true) ∧ New w w' := by
  obtain ⟨i0, hi, hz0, hz1, hz2⟩ := info_parts ins_info
  have ei8 : (Try.prog.info? 34).map (·.size) = some 8 := by kernel_rfl
  obtain ⟨q, hq, hq5⟩ : ∃ q : Nat, x % 6 = (q : Int) ∧ q ≤ 5 := ⟨(x % 6).toNat, by have := Int.emod_nonneg x (show (6 : Int) ≠ 0 by omega); omega, by have := Int.emod_lt_of_pos x (show (0 : Int) < 6 by omega); omega⟩
  obtain ⟨M, hM⟩ : ∃ M, 4093 + q = M := ⟨_, rfl⟩
  have hM2 : (4093 : Int) + (q : Int) = (M : Int) := by omega
  obtain ⟨p, hp, hp5⟩ : ∃ p : Nat, y % ((M : Int) + 1 + 2) = (p : Int) ∧ p ≤ M + 2 := ⟨(y % ((M : Int) + 1 + 2)).toNat, by have := Int.emod_nonneg y (show (M : Int) + 1 + 2 ≠ 0 by omega); omega, by have := Int.emod_lt_of_pos y (show (0 : Int) < (M : Int) + 1 + 2 by omega); omega⟩
  have HQ := Lib.hid hq
  have HP := Lib.hid hp
  have hMl : M ≤ 4098 := by omega
  have hMg : 4093 ≤ M := by omega
  have HM := Lib.hid hM
  clear hq hp hM
  go_enter Try.func4, Try.ntmps4
  go_wp2_with (go_at_call 7; refine (awake_any _).mono ?_; rintro e w1 ⟨rfl, hn1⟩)
  go_loopw [5, 6] (fun v i wr => ∃ k : Nat, k ≤ M ∧ i = .int .i64 k ∧ wr.ownsRow w.heap.size 34 8 v k (vi (longL k)) ∧ New w wr) (fun _ i _ => M - (intOf i).toNat)
  case atStart => exact ⟨0, Nat.zero_le _, rfl, World.ownsRow_nil _ _ _ _, hn1⟩
  case round =>
    obtain ⟨k, hk, rfl, ho, hnw⟩ := hrel
    have HNW := Lib.hid hnw
    have HO := Lib.hid ho
    clear hnw ho
    by_cases hlt : k < M
    · have t1 : (k : Int) < (M : Int) := by omega
      have HR := Lib.hid (reads_ins wr 34 12 false 0 0 true 0 (k : Int) 0)
      go_wp2_with (first
        | (go_at_call 12; (with_reducible refine (pick_x _ _ (q : Int) _ (by omega) (by omega) x1 x2 HQ.out).mono ?_); rintro e w2 ⟨rfl, rfl⟩)
        | (at_builtin; refine wpList_append_any _ rfl (.tmp 16) (.tmp 19) 22 rfl w.heap.size 34 i0 _ 8 56 Try.underlying22 hi hz0 hz1 hz2 rfl (by omega) _ _ _ rfl (HO.out.alloc _) _ _ 1 1 _ rfl HR.out (vi_one _) (by unfold maxLen; omega) (by omega) (by have := HNW.out.size; simp; omega) ?_; intro v3 w3 hown3 hg3 hat3))
      have HN3 := Lib.hid ((HNW.out.alloc HNW.out.size (.cells #[.int .u8 12, .bool false, .int .i64 0, .int .i64 0, .bool true, .int .i64 0, .int .i64 (k : Int), .int .i64 0] 34)).grown hg3 (by have := HNW.out.size; simp; omega) (fun j hj => (HO.out.lt j hj).1))
      have e3 : vi (longL k) ++ vi [⟨12, false, 0, 0, true, 0, (k : Int), 0⟩] = vi (longL (k + 1)) := by rw [longL_succ, vi_append]; rfl
      rw [e3] at hown3
      go_roundw
      case rel => exact ⟨k + 1, by omega, by go_num, hown3, HN3.out⟩
      case measure => simp [intOf]; omega
    · obtain rfl : k = M := by omega
      have t1 : ¬ (k : Int) < (k : Int) := by omega
      have HR := Lib.hid (reads_ins wr 34 28 false 0 0 false 0 0 0)
      have HLL : Hid (k + 1 = (longJ k (p : Int)).length) := Lib.hid (longJ_length k _).symm
      have hcl := chk_long (m := k) (off := (p : Int)) (by omega) (by omega) (by omega) (by omega)
      by_cases hb : 4096 < k + 1
      · rw [if_pos hb] at hcl
        have HCL := Lib.hid hcl
        clear hcl
        have t2 : (4096 : Int) < (k : Int) + 1 := by omega
        go_wp2_with (first
          | (go_at_call 12; (with_reducible refine (pick_x _ _ (q : Int) _ (by omega) (by omega) x1 x2 HQ.out).mono ?_); rintro e w2 ⟨rfl, rfl⟩)
          | (go_at_call 12; (with_reducible refine (pick_x _ _ (p : Int) _ (by omega) (by omega) y1 y2 HP.out).mono ?_); rintro e w2 ⟨rfl, rfl⟩)
          | (at_builtin; refine wpList_append_any _ rfl (.tmp 21) (.tmp 23) 22 rfl w.heap.size 34 i0 _ 8 56 Try.underlying22 hi hz0 hz1 hz2 rfl (by omega) _ _ _ rfl (HO.out.alloc _) _ _ 1 1 _ rfl HR.out (vi_one _) (by unfold maxLen; omega) (by omega) (by have := HNW.out.size; simp; omega) ?_; intro v3 w3 hown3 hg3 hat3; obtain ⟨g3, c3, rfl, hgb, hgl⟩ := hown3.form (by omega); have HTH := Lib.hid (there_own hown3); have HRI := Lib.hid (ri_long (p := (p : Int)) hown3 (by omega) HTH.out hgl); have HN3 := Lib.hid (new_cells hgb (jC (p : Int)) 0 w3 ((HNW.out.alloc HNW.out.size (.cells exC 34)).grown hg3 (by have := HNW.out.size; simp; omega) (fun j hj => (HO.out.lt j hj).1))); clear hown3 hg3 hat3)
          | (refine wpList_store_mid rfl 34 _ _ rfl g3 0 #[.int .u8 17, .bool false, .int .i64 0, .int .i64 0, .bool false, .int .i64 (p : Int), .int .i64 0, .int .i64 0] rfl rfl HTH.out ei8 (by simp [Value.oneCell']) ?_; change wpList _ _ _ _ _ (w3.setCells g3 0 (jC (p : Int))); have HRI5 := HRI; have HN5 := HN3; generalize w3.setCells g3 0 (jC (p : Int)) = w5 at HRI5 HN5 ⊢; have h5 := off_cell HRI5.out (by omega))
          | (go_at_call 13; (with_reducible refine (fault_0 (some ⟨g3, 0, none⟩) (k + 1) c3 (longJ k (p : Int)) 3 _ HLL.out (by omega) HRI5.out HCL.out).mono ?_); rintro e w4 ⟨rfl, hn4⟩))
        go_ret
        exact ⟨rfl, HN5.out.then hn4⟩
      · rw [if_neg hb] at hcl
        have t2 : ¬ (4096 : Int) < (k : Int) + 1 := by omega
        by_cases hf : (k : Int) + 1 ≤ (p : Int) + 1
        · rw [if_pos hf] at hcl
          have HCL := Lib.hid hcl
          clear hcl
          go_wp2_with (first
            | (go_at_call 12; (with_reducible refine (pick_x _ _ (q : Int) _ (by omega) (by omega) x1 x2 HQ.out).mono ?_); rintro e w2 ⟨rfl, rfl⟩)
            | (go_at_call 12; (with_reducible refine (pick_x _ _ (p : Int) _ (by omega) (by omega) y1 y2 HP.out).mono ?_); rintro e w2 ⟨rfl, rfl⟩)
            | (at_builtin; refine wpList_append_any _ rfl (.tmp 21) (.tmp 23) 22 rfl w.heap.size 34 i0 _ 8 56 Try.underlying22 hi hz0 hz1 hz2 rfl (by omega) _ _ _ rfl (HO.out.alloc _) _ _ 1 1 _ rfl HR.out (vi_one _) (by unfold maxLen; omega) (by omega) (by have := HNW.out.size; simp; omega) ?_; intro v3 w3 hown3 hg3 hat3; obtain ⟨g3, c3, rfl, hgb, hgl⟩ := hown3.form (by omega); have HTH := Lib.hid (there_own hown3); have HRI := Lib.hid (ri_long (p := (p : Int)) hown3 (by omega) HTH.out hgl); have HN3 := Lib.hid (new_cells hgb (jC (p : Int)) 0 w3 ((HNW.out.alloc HNW.out.size (.cells exC 34)).grown hg3 (by have := HNW.out.size; simp; omega) (fun j hj => (HO.out.lt j hj).1))); clear hown3 hg3 hat3)
            | (refine wpList_store_mid rfl 34 _ _ rfl g3 0 #[.int .u8 17, .bool false, .int .i64 0, .int .i64 0, .bool false, .int .i64 (p : Int), .int .i64 0, .int .i64 0] rfl rfl HTH.out ei8 (by simp [Value.oneCell']) ?_; change wpList _ _ _ _ _ (w3.setCells g3 0 (jC (p : Int))); have HRI5 := HRI; have HN5 := HN3; generalize w3.setCells g3 0 (jC (p : Int)) = w5 at HRI5 HN5 ⊢; have h5 := off_cell HRI5.out (by omega))
            | (go_at_call 13; (with_reducible refine (fault_0 (some ⟨g3, 0, none⟩) (k + 1) c3 (longJ k (p : Int)) 101 _ HLL.out (by omega) HRI5.out HCL.out).mono ?_); rintro e w4 ⟨rfl, hn4⟩))
          go_ret
          exact ⟨rfl, HN5.out.then hn4⟩
        · rw [if_neg hf] at hcl
          have HCL := Lib.hid hcl
          clear hcl
          go_wp2_with (first
            | (go_at_call 12; (with_reducible refine (pick_x _ _ (q : Int) _ (by omega) (by omega) x1 x2 HQ.out).mono ?_); rintro e w2 ⟨rfl, rfl⟩)
            | (go_at_call 12; (with_reducible refine (pick_x _ _ (p : Int) _ (by omega) (by omega) y1 y2 HP.out).mono ?_); rintro e w2 ⟨rfl, rfl⟩)
            | (at_builtin; refine wpList_append_any _ rfl (.tmp 21) (.tmp 23) 22 rfl w.heap.size 34 i0 _ 8 56 Try.underlying22 hi hz0 hz1 hz2 rfl (by omega) _ _ _ rfl (HO.out.alloc _) _ _ 1 1 _ rfl HR.out (vi_one _) (by unfold maxLen; omega) (by omega) (by have := HNW.out.size; simp; omega) ?_; intro v3 w3 hown3 hg3 hat3; obtain ⟨g3, c3, rfl, hgb, hgl⟩ := hown3.form (by omega); have HTH := Lib.hid (there_own hown3); have HRI := Lib.hid (ri_long (p := (p : Int)) hown3 (by omega) HTH.out hgl); have HN3 := Lib.hid (new_cells hgb (jC (p : Int)) 0 w3 ((HNW.out.alloc HNW.out.size (.cells exC 34)).grown hg3 (by have := HNW.out.size; simp; omega) (fun j hj => (HO.out.lt j hj).1))); clear hown3 hg3 hat3)
            | (refine wpList_store_mid rfl 34 _ _ rfl g3 0 #[.int .u8 17, .bool false, .int .i64 0, .int .i64 0, .bool false, .int .i64 (p : Int), .int .i64 0, .int .i64 0] rfl rfl HTH.out ei8 (by simp [Value.oneCell']) ?_; change wpList _ _ _ _ _ (w3.setCells g3 0 (jC (p : Int))); have HRI5 := HRI; have HN5 := HN3; generalize w3.setCells g3 0 (jC (p : Int)) = w5 at HRI5 HN5 ⊢; have h5 := off_cell HRI5.out (by omega))
            | (go_at_call 13; (with_reducible refine (fault_0 (some ⟨g3, 0, none⟩) (k + 1) c3 (longJ k (p : Int)) 0 _ HLL.out (by omega) HRI5.out HCL.out).mono ?_); rintro e w4 ⟨rfl, hn4⟩))
          go_ret
          exact ⟨rfl, HN5.out.then hn4⟩
end Go.Proofs.Ytlchimbaclenaaa.sh
