/-
  MacFits.
-/
import Derived.Test.YtnmjgbkifglleaaDoorMacG
namespace Go.Proofs.YtnmjgbkifglleaaDoor.sha
open Go.RowKit Go.Proofs.YtnmjgbkifglleaaDoor.mem Go.Proofs.YtnmjgbkifglleaaDoor.kit Go.Proofs.YtnmjgbkifglleaaDoor.wire
set_option linter.unusedVariables false
set_option maxRecDepth 100000 in
set_option maxHeartbeats 4000000 in
theorem MacFits_big (A C : Option Addr) (n c m d : Nat) (x y : Int) (w : World) (h : GAt w) (hbig : 4000 < n ∨ 4000 < m) :
    Calls Tryd.prog 7 #[.slice A n c, .slice C m d, .int .i64 x, .int .i64 y] w fun e w' => e = .returned (.bool true) ∧ New w w' := by
  have HAW := Lib.hid (awake5_any w h)
  clear h
  by_cases h1 : 4000 < n
  · have b1 : (4000 : Int) < (n : Int) := by omega
    clear hbig
    go_enter Tryd.func7, Tryd.ntmps7
    go_wp2_with (first
      | (go_at_call 15; (with_reducible refine HAW.out.mono ?_); rintro e w1 ⟨rfl, hn1⟩; have HN1 := Lib.hid hn1; clear hn1)
      | fail)
    go_ret
    exact ⟨rfl, HN1.out⟩
  · have b1 : ¬ (4000 : Int) < (n : Int) := by omega
    have b2 : (4000 : Int) < (m : Int) := by omega
    clear hbig
    go_enter Tryd.func7, Tryd.ntmps7
    go_wp2_with (first
      | (go_at_call 15; (with_reducible refine HAW.out.mono ?_); rintro e w1 ⟨rfl, hn1⟩; have HN1 := Lib.hid hn1; clear hn1)
      | fail)
    go_ret
    exact ⟨rfl, HN1.out⟩
set_option maxRecDepth 100000 in
set_option maxHeartbeats 8000000 in
theorem MacFits_small (A C : Option Addr) (n c m d : Nat) (key b : List UInt8) (x y : Int) (w : World) (h : GAt w) (hn : n = key.length) (hm : m = b.length) (hnl : n ≤ 4000) (hml : m ≤ 4000) (hc : n ≤ c ∧ c ≤ maxLen) (hA : Reads w w.heap.size 1 A n (vb key)) (hC : Reads w w.heap.size 1 C m (vb b))
    (x1 : -9223372036854775808 ≤ x) (x2 : x ≤ 9223372036854775807) (y1 : -9223372036854775808 ≤ y) (y2 : y ≤ 9223372036854775807) :
    Calls Tryd.prog 7 #[.slice A n c, .slice C m d, .int .i64 x, .int .i64 y] w fun e w' => e = .returned (.bool true) ∧ New w w' := by
  have HAW := Lib.hid (awake5_any w h)
  have HTG : Hid (∀ W, New w W → Calls Tryd.prog 16 #[.slice A n c, .slice C m d] W (TagD W (tag key b))) := Lib.hid (fun W hW => tag_any A C n c m d key b W (h.new hW) hn hm (by omega) (by omega) hc (hA.new hW) (hC.new hW))
  have HFI : Hid (∀ W F k l V, New w W → k = V.length → Reads W W.heap.size 1 F k (vb V) → Calls Tryd.prog 18 #[.slice A n c, .slice C m d, .slice F k l] W fun e w' => e = .returned (.bool (decide (tag key b = V))) ∧ New W w') := Lib.hid (fun W F k l V hW hk hr => fits_any A C F n c m d k l key b V W (h.new hW) hn hm hk (by omega) (by omega) hc (hA.new hW) (hC.new hW) hr)
  have HSK : Hid (64 < n → ∀ W, New w W → Calls Tryd.prog 11 #[.slice A n c] W fun e w' => ∃ A4 c4, e = .returned (.slice A4 32 c4) ∧ New W w' ∧ Calls Tryd.prog 16 #[.slice A4 32 c4, .slice C m d] w' (TagD w' (tag key b))) := Lib.hid (fun h64 W hW => (sum_any A n c key W hn (by omega) hc (h.new hW).s (h.new hW).k (hA.new hW)).mono fun e w' k => by
    obtain ⟨A4, c4, he, ho, hn4⟩ := k.at32 (D := sum key) rfl (sum_length _)
    have hW4 := New.then hW hn4
    refine ⟨A4, c4, he, hn4, ?_⟩
    rw [← tag_of_blk b (blk_sum key (by omega))]
    exact tag_any A4 C 32 c4 m d (sum key) b w' (h.new hW4) (sum_length _).symm hm (by omega) (by omega) (own_typed ho).1 (Reads.of_own ho) (hC.new hW4))
  have HCK : Hid (∀ W, New w W → Calls Tryd.prog 21 #[.slice A n c] W fun e w' => ∃ v, e = .returned v ∧ Ab W v key w') := Lib.hid (fun W hW => copyb_any A n c key W hn (by omega) (hA.new hW))
  have HZ : Hid (n ≤ 64 → ∀ W0 W v x ty, New w W0 → x = ((64 - n : Nat) : Int) → Ab W0 v key W → ∃ A' c' W', (Builtin.append_ #[22, 3] ty #[v, .int .i64 x]).run Tryd.prog W = .ok (.slice A' 64 c') W' ∧ New W0 W' ∧ Calls Tryd.prog 16 #[.slice A' 64 c', .slice C m d] W' (TagD W' (tag key b))) := Lib.hid (fun h64 W0 W v x ty hW0 hx hab => by
    obtain ⟨v', W', hr, hab'⟩ := zeros_ab W0 W v key (64 - n) x hx hab (by omega) ty
    obtain ⟨A', c', rfl, hc', hr'⟩ := hab'.len 64 (by simp; omega)
    have hW' := New.then hW0 hab'.new
    refine ⟨A', c', W', hr, hab'.new, ?_⟩
    rw [← tag_of_blk b (blk_zeros key (64 - n) (by omega))]
    exact tag_any A' C 64 c' m d (key ++ List.replicate (64 - n) 0) b W' (h.new hW') (by simp; omega) hm (by omega) (by omega) hc' hr' (hC.new hW'))
  have htl := tag_length key b
  generalize tag key b = D at *
  have HTL := Lib.hid htl
  have HFD : Hid (∀ W F l, New w W → Reads W W.heap.size 1 F 32 (vb D) → Calls Tryd.prog 18 #[.slice A n c, .slice C m d, .slice F 32 l] W fun e w' => e = .returned (.bool true) ∧ New W w') := Lib.hid (fun W F l hW hr => (HFI.out W F 32 l D hW htl.symm hr).mono fun e w' k => ⟨by rw [k.1, show decide (D = D) = true by simp], k.2⟩)
  have HFN : Hid (∀ W F k l V, New w W → k = V.length → D ≠ V → Reads W W.heap.size 1 F k (vb V) → Calls Tryd.prog 18 #[.slice A n c, .slice C m d, .slice F k l] W fun e w' => e = .returned (.bool false) ∧ New W w') := Lib.hid (fun W F k l V hW hk hne hr => (HFI.out W F k l V hW hk hr).mono fun e w' q => ⟨by rw [q.1, decide_eq_false hne], q.2⟩)
  have HCO : Hid (∀ W g cc, Bv W g D → Calls Tryd.prog 21 #[.slice (some ⟨g, 0, none⟩) 32 cc] W fun e w' => ∃ v, e = .returned v ∧ Ab W v D w') := Lib.hid (fun W g cc hb => copyb_any (some ⟨g, 0, none⟩) 32 cc D W htl.symm (by omega) (hb.reads 32 htl.symm))
  have HNE31 : Hid (D ≠ D.take 31) := Lib.hid (fun e => by have := congrArg List.length e; rw [List.length_take, htl] at this; omega)
  have HNE33 : Hid (D ≠ D ++ [0]) := Lib.hid (fun e => by have := congrArg List.length e; simp at this)
  have HNE0 : Hid (D ≠ []) := Lib.hid (fun e => by rw [e] at htl; simp at htl)
  have HL31 : Hid (31 = (D.take 31).length) := Lib.hid (by rw [List.length_take, htl]; rfl)
  obtain ⟨kx, hkx⟩ : ∃ k : Nat, x % 32 = (k : Int) := ⟨(x % 32).toNat, by omega⟩
  obtain ⟨ky, hky⟩ : ∃ k : Nat, y % 8 = (k : Int) := ⟨(y % 8).toNat, by omega⟩
  have hkx2 : kx < 32 := by omega
  have hky2 : ky < 8 := by omega
  have HPX : Hid (∀ W, Calls Tryd.prog 14 #[.int .i64 x, .int .i64 32] W fun e w' => e = .returned (.int .i64 (kx : Int)) ∧ W = w') := Lib.hid (fun W => by rw [← hkx]; exact pick_any x 32 W (by omega) (by omega) x1 x2)
  have HPY : Hid (∀ W, Calls Tryd.prog 14 #[.int .i64 y, .int .i64 8] W fun e w' => e = .returned (.int .i64 (ky : Int)) ∧ W = w') := Lib.hid (fun W => by rw [← hky]; exact pick_any y 8 W (by omega) (by omega) y1 y2)
  have b1 : ¬ (4000 : Int) < (n : Int) := by omega
  have b2 : ¬ (4000 : Int) < (m : Int) := by omega
  clear hA hC hn hm h htl x1 x2 y1 y2 hkx hky HFI hc
  go_enter Tryd.func7, Tryd.ntmps7
  go_wp2_with (first
    | (go_at_call 15; (with_reducible refine HAW.out.mono ?_); rintro e w1 ⟨rfl, hn1⟩; have HN1 := Lib.hid hn1; have HT1 := Lib.hid (HTG.out w1 hn1); clear hn1)
    | (go_at_call 16; (with_reducible refine HT1.out.mono ?_); rintro e w2 ht2; obtain ⟨g2, c2, rfl, hc2, hg2, hb2, hn2⟩ := ht2.bv HTL.out; have HB2 := Lib.hid hb2; have HN2 := Lib.hid (New.then HN1.out hn2); have HF2 := Lib.hid (HFD.out w2 _ c2 (New.then HN1.out hn2) (hb2.reads 32 HTL.out.symm)); have h31 : 31 ≤ c2 := Nat.le_trans (by decide) hc2.1; have h31i : (31 : Int) ≤ (c2 : Int) := (by omega); clear ht2 hc2 hg2 hb2 hn2)
    | (go_at_call 18; (with_reducible refine HF2.out.mono ?_); rintro e w3 ⟨rfl, hn3⟩; have HB3 := Lib.hid (HB2.out.new hn3); have HN3 := Lib.hid (New.then HN2.out hn3); have HF3 := Lib.hid (HFN.out w3 (some ⟨g2, 0, none⟩) 31 c2 (D.take 31) HN3.out HL31.out HNE31.out (reads_take (HB3.out.reads 32 HTL.out.symm) (by omega))); clear hn3)
    | (go_at_call 18; (with_reducible refine HF3.out.mono ?_); rintro e w4 ⟨rfl, hn4⟩; have HB4 := Lib.hid (HB3.out.new hn4); have HN4 := Lib.hid (New.then HN3.out hn4); have HC4 := Lib.hid (HCO.out w4 g2 c2 HB4.out); clear hn4)
    | (go_at_call 21; (with_reducible refine HC4.out.mono ?_); rintro e w5 ⟨v5, rfl, hab5⟩; obtain ⟨A5, c5, rfl, -, -⟩ := hab5.len 32 HTL.out; have HA5 := Lib.hid hab5; clear hab5)
    | (at_builtin; refine wpl_ab_g (w0 := w4) (z := D) (l := [0]) (by rfl) (.tmp 47) (.tmp 48) (by rfl) (HA5.out.keep (alloc_new w5 _)) (by rfl) (by rfl) (reads_b1 w5 0 _ rfl) (by have := HTL.out; simp; omega) ?_; intro v6 w6 hM6; obtain ⟨A6, c6, rfl, -, hr6⟩ := hM6.len 33 (by rw [List.length_append, HTL.out]; rfl); have HN6 := Lib.hid (New.then HN4.out hM6.new); have HB6 := Lib.hid (HB4.out.new hM6.new); have HF6 := Lib.hid (HFN.out w6 A6 33 c6 (D ++ [0]) HN6.out (by rw [List.length_append, HTL.out]; rfl) HNE33.out hr6); clear hM6 hr6)
    | (go_at_call 18; (with_reducible refine HF6.out.mono ?_); rintro e w7 ⟨rfl, hn7⟩; have HB7 := Lib.hid (HB6.out.new hn7); have HN7 := Lib.hid (New.then HN6.out hn7); have HF7 := Lib.hid (HFN.out w7 none 0 0 [] HN7.out rfl HNE0.out Reads.none_); clear hn7)
    | (go_at_call 18; (with_reducible refine HF7.out.mono ?_); rintro e w8 ⟨rfl, hn8⟩; have HB8 := Lib.hid (HB7.out.new hn8); have HN8 := Lib.hid (New.then HN7.out hn8); have HC8 := Lib.hid (HCO.out w8 g2 c2 HB8.out); clear hn8)
    | (go_at_call 21; (with_reducible refine HC8.out.mono ?_); rintro e w9 ⟨v9, rfl, hab9⟩; obtain ⟨g9, c9, rfl, hc9, hg9, hb9⟩ := bv_of_own (n := 32) (by have hh := hab9.own; rw [HTL.out] at hh; exact hh) HTL.out (by omega); have HB9 := Lib.hid hb9; have HG9 := Lib.hid hg9; have HN89 := Lib.hid hab9.new; clear hab9 hc9 hg9 hb9)
    | (go_at_call 14; (with_reducible refine (HPX.out _).mono ?_); rintro e w10 ⟨rfl, rfl⟩)
    | fail)
  obtain ⟨bk, hbk⟩ : ∃ bk, D[kx]? = some bk := ⟨_, List.getElem?_eq_getElem (by rw [HTL.out]; exact hkx2)⟩
  obtain ⟨yk, hyk, e1, e2, e3⟩ := turn_b bk ky hky2
  have hkxi : (kx : Int) < 32 := by omega
  have d0 := HB9.out.at_ hbk
  have d1 := HB9.out.frozen kx
  have HNS : Hid (D ≠ D.set kx yk) := Lib.hid (fun e => by
    have h1 := congrArg (fun l => l[kx]?) e
    simp only [hbk] at h1
    rw [List.getElem?_set_self (by rw [HTL.out]; exact hkx2)] at h1
    exact hyk (Option.some.inj h1).symm)
  have HLS : Hid (32 = (D.set kx yk).length) := Lib.hid (by rw [List.length_set, HTL.out])
  refine wp_region_still_tail 12 (by kernel_rfl) (by kernel_rfl) ?_
  simp only [List.take_succ_cons, List.take_zero, List.drop_succ_cons, List.drop_zero]
  repeat still_step
  still_call ((HPY.out _).mono fun e w'' k => ⟨k.1, k.2.symm⟩)
  repeat still_step
  try refine wpStill_nil ?_
  change wpList _ _ _ _ _ w9.drew
  have d0' : w9.drew.cell? ⟨g9, kx, none⟩ = some (.int .u8 (bk.toNat : Int)) := d0
  have d1' : w9.drew.frozen? ⟨g9, kx, none⟩ = false := d1
  have HN9S : Hid (New w8 (w9.setCell ⟨g9, kx, none⟩ (.int .u8 (yk.toNat : Int))).drew) := Lib.hid (Below.drew (Below.setCell HN89.out (p := ⟨g9, kx, none⟩) HG9.out _))
  have hbs : Bv (w9.setCell ⟨g9, kx, none⟩ (.int .u8 (yk.toNat : Int))).drew g9 (D.set kx yk) := HB9.out.set yk
  have hmin : min ky 8 = ky := by omega
  have HFS := Lib.hid (HFN.out (w9.setCell ⟨g9, kx, none⟩ (.int .u8 (yk.toNat : Int))).drew (some ⟨g9, 0, none⟩) 32 c9 (D.set kx yk) (New.then HN8.out HN9S.out) HLS.out HNS.out (hbs.reads 32 HLS.out))
  have HSM : Hid (∀ W A' c', New w8 W → Reads W W.heap.size 1 A' 32 (vb D) → Calls Tryd.prog 10 #[.slice A' 32 c', .slice (some ⟨g2, 0, none⟩) 32 c2] W fun e w' => e = .returned (.bool true) ∧ New W w') := Lib.hid (fun W A' c' hW hr => same_32 A' (some ⟨g2, 0, none⟩) c' c2 D W HTL.out hr ((HB8.out.new hW).reads 32 HTL.out.symm))
  clear hbs d0 d1 HFD HFN HCO HPX HPY HAW HTG HB2 HB3 HB4 HB6 HB7 HA5 HNE31 HNE33 HNE0 HL31 hbk hyk
  by_cases h64 : 64 < n
  · have h64i : (64 : Int) < (n : Int) := by omega
    go_wp2_with (first
      | (go_at_call 18; (with_reducible refine HFS.out.mono ?_); rintro e w11 ⟨rfl, hn11⟩; have HN11 := Lib.hid (New.then HN9S.out hn11); have HS11 := Lib.hid (HSK.out h64 w11 (New.then HN8.out (New.then HN9S.out hn11))); clear hn11)
      | (go_at_call 11; (with_reducible refine HS11.out.mono ?_); rintro e w12 ⟨A12, c12, rfl, hn12, ht12⟩; have HN12 := Lib.hid (New.then HN11.out hn12); have HT12 := Lib.hid ht12; clear hn12 ht12)
      | (go_at_call 16; (with_reducible refine HT12.out.mono ?_); rintro e w13 ⟨A13, c13, rfl, ho13, hn13⟩; have HN13 := Lib.hid (New.then HN12.out hn13); have HM13 := Lib.hid (HSM.out w13 A13 c13 (New.then HN12.out hn13) (Reads.of_own ho13)); clear ho13 hn13)
      | (go_at_call 10; (with_reducible refine HM13.out.mono ?_); rintro e w14 ⟨rfl, hn14⟩; have HN14 := Lib.hid (New.then HN13.out hn14); clear hn14)
      | fail)
    go_ret
    exact ⟨rfl, New.then HN8.out HN14.out⟩
  · have h64i : ¬ (64 : Int) < (n : Int) := by omega
    have hle : n ≤ 64 := by omega
    have hx64 : (64 : Int) - (n : Int) = ((64 - n : Nat) : Int) := by omega
    have HX64 := Lib.hid hx64
    clear hx64
    go_wp2_with (first
      | (go_at_call 18; (with_reducible refine HFS.out.mono ?_); rintro e w11 ⟨rfl, hn11⟩; have HN11 := Lib.hid (New.then HN9S.out hn11); have HC11 := Lib.hid (HCK.out w11 (New.then HN8.out (New.then HN9S.out hn11))); clear hn11)
      | (go_at_call 21; (with_reducible refine HC11.out.mono ?_); rintro e w12 ⟨v12, rfl, hab12⟩; obtain ⟨A13, c13, w13, hrun, hn13, ht13⟩ := HZ.out hle w11 w12 v12 ((64 : Int) - (n : Int)) 22 (New.then HN8.out HN11.out) HX64.out hab12; have HRUN := Lib.hid hrun; have HN13 := Lib.hid (New.then HN11.out hn13); have HT13 := Lib.hid ht13; clear hab12 hrun hn13 ht13)
      | (at_builtin; refine Lib.wpList_append_run _ rfl _ _ _ _ rfl _ _ rfl rfl _ _ HRUN.out ?_)
      | (go_at_call 16; (with_reducible refine HT13.out.mono ?_); rintro e w14 ⟨A14, c14, rfl, ho14, hn14⟩; have HN14 := Lib.hid (New.then HN13.out hn14); have HM14 := Lib.hid (HSM.out w14 A14 c14 (New.then HN13.out hn14) (Reads.of_own ho14)); clear ho14 hn14)
      | (go_at_call 10; (with_reducible refine HM14.out.mono ?_); rintro e w15 ⟨rfl, hn15⟩; have HN15 := Lib.hid (New.then HN14.out hn15); clear hn15)
      | fail)
    go_ret
    exact ⟨rfl, New.then HN8.out HN15.out⟩
theorem MacFits_any (A C : Option Addr) (n c m d : Nat) (key b : List UInt8) (x y : Int) (w : World) (h : GAt w) (hn : n = key.length) (hm : m = b.length) (hc : n ≤ c ∧ c ≤ maxLen) (hA : Reads w w.heap.size 1 A n (vb key)) (hC : Reads w w.heap.size 1 C m (vb b))
    (x1 : -9223372036854775808 ≤ x) (x2 : x ≤ 9223372036854775807) (y1 : -9223372036854775808 ≤ y) (y2 : y ≤ 9223372036854775807) :
    Calls Tryd.prog 7 #[.slice A n c, .slice C m d, .int .i64 x, .int .i64 y] w fun e w' => e = .returned (.bool true) ∧ New w w' := by
  by_cases hbig : 4000 < n ∨ 4000 < m
  · exact MacFits_big A C n c m d x y w h hbig
  · exact MacFits_small A C n c m d key b x y w h hn hm (by omega) (by omega) hc hA hC x1 x2 y1 y2
end Go.Proofs.YtnmjgbkifglleaaDoor.sha
