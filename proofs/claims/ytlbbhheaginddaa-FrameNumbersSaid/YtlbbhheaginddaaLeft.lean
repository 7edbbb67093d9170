/-
  Contracts of frame's scan: what is left.
-/
import Derived.Test.YtlbbhheaginddaaSumB
namespace Go.Proofs.Ytlbbhheaginddaa.fr
open Go.RowKit Go.Proofs.Ytlbbhheaginddaa.mem Go.Proofs.Ytlbbhheaginddaa.kit Go.Proofs.Ytlbbhheaginddaa.wire Go.Proofs.Ytlbbhheaginddaa.crc
set_option linter.unusedVariables false

theorem _root_.Go.Proofs.Ytlbbhheaginddaa.wire.Parts.nil (w : World) : Parts w [] [] := ⟨rfl, fun k h => absurd h (by simp)⟩
theorem _root_.Go.Proofs.Ytlbbhheaginddaa.wire.Parts.cons {w : World} {A : Option Addr} {n c : Nat} {l : List UInt8} {vs : List Value} {ls : List (List UInt8)} (hn : n = l.length) (hr : Reads w w.heap.size 1 A n (vb l)) (h : Parts w vs ls) : Parts w (.slice A n c :: vs) (l :: ls) := by
  subst hn
  refine ⟨by simp [h.1], fun k hk => ?_⟩
  cases k with
  | zero => exact ⟨A, c, rfl, hr⟩
  | succ k => exact h.2 k (by simpa using hk)
theorem nat4_take (l : List UInt8) : nat4 (l.take 4) = nat4 l := by
  unfold nat4
  simp only [List.getD_eq_getElem?_getD, List.getElem?_take]
  simp

theorem reads_sub {w : World} {B n : Nat} {ad : Addr} {l : List UInt8} (h : Reads w B 1 (some ad) n (vb l)) (lo k : Nat) (hlo : lo ≠ 0) (hk : lo + k ≤ n) : Reads w B 1 (some ⟨ad.block, ad.off + lo, none⟩) k (vb ((l.drop lo).take k)) := by
  have hn : l.length = n := by have := h.1; rw [vb_length] at this; omega
  refine ⟨by rw [vb_length, List.length_take, List.length_drop]; omega, fun h0 => ?_⟩
  obtain ⟨ad', e, hb, hc⟩ := h.2 (by omega)
  injection e with e
  subst e
  refine ⟨_, rfl, hb, fun j u hu => ?_⟩
  have e2 : (⟨ad.block, ad.off + lo, none⟩ : Addr) = ad.add lo := by unfold Addr.add; rw [if_neg hlo]
  rw [e2, add_of_add]
  refine hc (lo + j) u ?_
  rw [← hu]
  have hj : j < k := by
    have := (List.getElem?_eq_some_iff.1 hu).1
    rw [vb_length, List.length_take, List.length_drop] at this
    omega
  simp only [vb, List.getElem?_map, List.getElem?_take, hj, if_true, List.getElem?_drop]

theorem reads_take {w : World} {B n k : Nat} {A : Option Addr} {l : List UInt8} (h : Reads w B 1 A n (vb l)) (hk : k ≤ n) : Reads w B 1 A k (vb (l.take k)) := by
  have hn : l.length = n := by have := h.1; rw [vb_length] at this; omega
  refine ⟨by rw [vb_length, List.length_take]; omega, fun h0 => ?_⟩
  obtain ⟨ad, e, hb, hc⟩ := h.2 (by omega)
  refine ⟨ad, e, hb, fun j u hu => hc j u ?_⟩
  have hj : j < k := by
    have := (List.getElem?_eq_some_iff.1 hu).1
    rw [vb_length, List.length_take] at this
    omega
  rw [← hu]
  simp only [vb, List.getElem?_map, List.getElem?_take, hj, if_true]

theorem alloc_new (w : World) (o : Obj) : New w (w.alloc o) := (new_refl w).alloc (Nat.le_refl _) o
/-- A scan in block g: l is left, which lies below block B; u bytes are used. -/
def SG (B : Nat) (w : World) (g : Nat) (l : List UInt8) (u : Nat) : Prop :=
  ∃ A c, Blk w g 53 #[.slice A l.length c, .int .i64 (u : Int)] ∧ l.length ≤ c ∧ c ≤ maxLen ∧ Reads w B 1 A l.length (vb l) ∧ B ≤ g
theorem SG.lt {B g u : Nat} {w : World} {l : List UInt8} (h : SG B w g l u) : B ≤ g ∧ g < w.heap.size := by
  obtain ⟨A, c, hb, h1, h2, hr, hne⟩ := h
  exact ⟨hne, hb.lt⟩
theorem SG.below {B g u : Nat} {w w' : World} {l : List UInt8} (h : SG B w g l u) (hn : Below B w w') (hg : w'.heap[g]? = w.heap[g]?) : SG B w' g l u := by
  obtain ⟨A, c, hb, h1, h2, hr, hne⟩ := h
  exact ⟨A, c, hg.trans hb, h1, h2, hr.below hn, hne⟩
theorem SG.new {B g u : Nat} {w w' : World} {l : List UInt8} (h : SG B w g l u) (hn : New w w') : SG B w' g l u :=
  h.below (hn.mono (by have := h.lt; omega)) (hn.block g h.lt.2)

set_option maxRecDepth 100000 in
theorem length_any (B g u : Nat) (l : List UInt8) (w : World) (h9 : 9 ≤ l.length) (hl : l.length ≤ 1099511627776) (h : SG B w g l u) :
    Calls Try.prog 35 #[.pointer (some ⟨g, 0, none⟩)] w fun e w' => e = .returned (.int .i64 (lenF l : Nat)) ∧ New w w' := by
  obtain ⟨A, c, hb, h1, h2, hr, hne⟩ := h
  replace hr := hr.more (show B ≤ w.heap.size by have := hb.lt; omega)
  obtain ⟨ad, rfl, _, _⟩ := hr.2 (by omega)
  have c0 : w.cell? ⟨g, 0, none⟩ = some (.slice (some ad) l.length c) := (hb.cell 0).trans rfl
  have hrd := reads_sub hr 1 4 (by omega) (by omega)
  have hlt : ((l.drop 1).take 4).length = 4 := by rw [List.length_take, List.length_drop]; omega
  have HW := Lib.hid (fun W => wordOf_any (some ⟨ad.block, ad.off + 1, none⟩) (c - 1) ((l.drop 1).take 4) 4 hlt.symm W (by omega) (by omega))
  have HR : Hid (Reads w w.heap.size 1 (some ⟨ad.block, ad.off + 1, none⟩) ((l.drop 1).take 4).length (vb ((l.drop 1).take 4))) := Lib.hid (by rw [hlt]; exact hrd)
  obtain ⟨k, hk⟩ : ∃ k, lenF l = k := ⟨_, rfl⟩
  have HL : Hid (nat4 ((l.drop 1).take 4) = k ∧ k < 4294967296) := Lib.hid ⟨(nat4_take _).trans hk, by rw [← hk]; exact nat4_lt _⟩
  rw [hk]
  clear hk
  have b0 : (5 : Int) ≤ (c : Int) := by omega
  have b1 : 5 ≤ c := by omega
  have b2 : ¬ c = 1 := by omega
  generalize l.length = n at *
  clear hb hr hrd hlt
  go_enter Try.func35, Try.ntmps35
  go_wp2_with (go_at_call 36; go_loud (refine (HW.out _ HR.out).mono ?_); rintro e w1 ⟨rfl, hn⟩; have hL := HL.out; obtain ⟨e1, e2⟩ := hL; rw [e1]; clear e1)
  go_ret
  exact ⟨rfl, hn⟩

theorem head_len (l : List UInt8) (h : 9 ≤ l.length) : (l.take 9).length = 9 := by rw [List.length_take]; omega

set_option maxRecDepth 100000 in
set_option maxHeartbeats 1000000 in
theorem state_any (B g u : Nat) (l : List UInt8) (w : World) (hl : l.length ≤ 1099511627776) (h : SG B w g l u) :
    Calls Try.prog 22 #[.pointer (some ⟨g, 0, none⟩)] w fun e w' => e = .returned (.int .i64 (st l : Nat)) ∧ New w w' := by
  have HG := Lib.hid h
  obtain ⟨A, c, hb, h1, h2, hr, hne⟩ := h
  replace hr := hr.more (show B ≤ w.heap.size by have := hb.lt; omega)
  have c0 : w.cell? ⟨g, 0, none⟩ = some (.slice A l.length c) := (hb.cell 0).trans rfl
  by_cases h9 : l.length < 9
  · have hs : st l = 0 := by unfold st; rw [if_pos h9]
    rw [hs]
    have d9 : (l.length : Int) < 9 := by omega
    generalize l.length = n at *
    clear hb hr hs HG
    go_enter Try.func22, Try.ntmps22
    go_wp2
    go_ret
    exact ⟨rfl, new_refl _⟩
  · obtain ⟨ad, rfl, _, _⟩ := hr.2 (by omega)
    have HL := Lib.hid (fun W (hW : SG B W g l u) => length_any B g u l W (by omega) hl hW)
    have HR := Lib.hid hr
    obtain ⟨k, hk⟩ : ∃ k, lenF l = k := ⟨_, rfl⟩
    have HK := Lib.hid hk
    have hkl : k < 4294967296 := by rw [← hk]; exact nat4_lt _
    rw [hk] at HL
    have d9 : ¬ (l.length : Int) < 9 := by omega
    have b9 : (9 : Int) ≤ (l.length : Int) := by omega
    have n9 : 9 ≤ l.length := by omega
    have bc : (9 : Int) ≤ (c : Int) := by omega
    have nc : 9 ≤ c := by omega
    clear hk hb hr h9
    by_cases hbig : 262144 < k
    · have hs : st l = 2 := by unfold st; rw [if_neg (by omega), if_pos (by rw [HK.out]; exact hbig)]
      rw [hs]
      have dk : (262144 : Int) < (k : Int) := by omega
      clear hs
      by_cases hc9 : c = 9
      all_goals
        go_enter Try.func22, Try.ntmps22
        go_wp2
        go_quiet (fail)
        go_wp2_with (go_at_call 35; refine (HL.out _ (HG.out.new ((new_refl w).drewN _))).mono ?_; rintro e w1 ⟨rfl, hn⟩)
        go_ret
        exact ⟨rfl, New.then ((new_refl w).drewN _) hn⟩
    · have dk : ¬ (262144 : Int) < (k : Int) := by omega
      by_cases hover : l.length - 9 < k
      · have hs : st l = 0 := by unfold st; rw [if_neg (by omega), HK.out, if_neg (by omega), if_pos hover]
        rw [hs]
        have dk2 : (l.length - 9 : Int) < (k : Int) := by omega
        have dk3 : ((l.length - 9 : Nat) : Int) < (k : Int) := by omega
        clear hs
        by_cases hc9 : c = 9
        all_goals
          go_enter Try.func22, Try.ntmps22
          go_wp2
          go_quiet (fail)
          go_wp2_with (go_at_call 35; refine (HL.out _ (HG.out.new ((new_refl w).drewN _))).mono ?_; rintro e w1 ⟨rfl, hn⟩)
          go_ret
          exact ⟨rfl, New.then ((new_refl w).drewN _) hn⟩
      · have dk2 : ¬ ((l.length - 9 : Nat) : Int) < (k : Int) := by omega
        have dk3 : k ≤ l.length - 9 := by omega
        have bc5 : (5 : Int) ≤ (c : Int) := by omega
        have bc6 : ¬ c = 5 := by omega
        have bk0 : (0 : Int) ≤ (k : Int) := by omega
        have bk1 : (k : Int) ≤ ((c - 9 : Nat) : Int) := by omega
        have bk2 : k ≤ c - 9 := by omega
        have h5 : (l.take 5).length = 5 := by rw [List.length_take]; omega
        have hd : datF l = (l.drop 9).take k := by unfold datF; rw [HK.out]
        have hdl : (datF l).length = k := by rw [hd, List.length_take, List.length_drop]; omega
        have hq : ((l.drop 5).take 4).length = 4 := by rw [List.length_take, List.length_drop]; omega
        have HW := Lib.hid (fun W => wordOf_any (some ⟨ad.block, ad.off + 5, none⟩) (c - 5) ((l.drop 5).take 4) 4 hq.symm W (by omega) (by omega))
        have R5 : Hid (Reads w w.heap.size 1 (some ad) 5 (vb (l.take 5))) := Lib.hid (reads_take HR.out (by omega))
        have RQ : Hid (Reads w w.heap.size 1 (some ⟨ad.block, ad.off + 5, none⟩) ((l.drop 5).take 4).length (vb ((l.drop 5).take 4))) := Lib.hid (by rw [hq]; exact reads_sub HR.out 5 4 (by omega) (by omega))
        obtain ⟨y, hy⟩ : ∃ y, nat4 (l.drop 5) = y := ⟨_, rfl⟩
        obtain ⟨x, hx⟩ : ∃ x, crc (l.take 5 ++ datF l) = x := ⟨_, rfl⟩
        have HY : Hid (nat4 ((l.drop 5).take 4) = y) := Lib.hid ((nat4_take _).trans hy)
        have HX : Hid (crc [l.take 5, datF l].flatten = x) := Lib.hid (by rw [← hx]; simp)
        have hst : st l = if x = y then 1 else 2 := by unfold st; rw [if_neg (by omega), HK.out, if_neg (by omega), if_neg (by omega), hx, hy]
        have HDL := Lib.hid hdl
        have H5 := Lib.hid h5
        rw [hst]
        have HKB : Hid (∀ k (h : k < [l.take 5, datF l].length), [l.take 5, datF l][k].length ≤ 1099511627776) := Lib.hid (fun j hj => by
          have : j = 0 ∨ j = 1 := by simp at hj; omega
          rcases this with rfl | rfl
          · simp only [List.getElem_cons_zero]; omega
          · simp only [List.getElem_cons_succ, List.getElem_cons_zero]; omega)
        by_cases hxy : x = y
        · subst hxy
          rw [if_pos rfl]
          by_cases hc9 : c = 9
          · subst hc9
            obtain rfl : k = 0 := by omega
            have RD : Hid (Reads w w.heap.size 1 (some ad) 0 (vb (datF l))) := Lib.hid ⟨by rw [vb_length, hdl], fun h => absurd h (by omega)⟩
            clear hst hx hy hq hdl hd h5 hover hbig
            go_enter Try.func22, Try.ntmps22
            go_wp2
            go_quiet (fail)
            go_wp2_with (go_at_call 35; refine (HL.out _ (HG.out.new ((new_refl w).drewN _))).mono ?_; rintro e w1 ⟨rfl, hn⟩)
            have hN := New.then ((new_refl w).drewN _) hn
            have hA1 : New w1 (w1.alloc (.cells #[.slice (some ad) 5 9, .slice (some ad) 0 0] 24)).drew := Below.drew (alloc_new w1 _)
            have HS := Lib.hid (sumOf_any (some ⟨w1.heap.size, 0, none⟩) 2 2 [.slice (some ad) 5 9, .slice (some ad) 0 0] [l.take 5, datF l] (w1.alloc (.cells #[.slice (some ad) 5 9, .slice (some ad) 0 0] 24)).drew rfl (Parts.cons H5.out.symm ((R5.out.new hN).new hA1) (Parts.cons HDL.out.symm ((RD.out.new hN).new hA1) (Parts.nil _))) (reads_blk (Blk.new w1 _ _)) (by simp) HKB.out)
            rw [HX.out] at HS
            go_region_held3 (fun w' => True) (trivial)
              (first
                | (go_at_call 31; (refine HS.out.mono ?_); rintro e w2 ⟨rfl, rfl⟩)
                | (go_at_call 36; (refine (HW.out _ ((RQ.out.new hN).new hA1)).mono ?_); rintro e w3 ⟨rfl, hn3⟩; have hyy := HY.out; rw [hyy]; clear hyy))
            go_wp2
            go_ret
            exact ⟨rfl, New.then (New.then hN hA1) hn3⟩
          · have RD : Hid (Reads w w.heap.size 1 (some ⟨ad.block, ad.off + 9, none⟩) k (vb (datF l))) := Lib.hid (by rw [hd]; exact reads_sub HR.out 9 k (by omega) (by omega))
            clear hst hx hy hq hdl hd h5 hover hbig
            go_enter Try.func22, Try.ntmps22
            go_wp2
            go_quiet (fail)
            go_wp2_with (go_at_call 35; refine (HL.out _ (HG.out.new ((new_refl w).drewN _))).mono ?_; rintro e w1 ⟨rfl, hn⟩)
            have hN := New.then ((new_refl w).drewN _) hn
            have hA1 : New w1 (w1.alloc (.cells #[.slice (some ad) 5 c, .slice (some ⟨ad.block, ad.off + 9, none⟩) k (c - 9)] 24)).drew := Below.drew (alloc_new w1 _)
            have HS := Lib.hid (sumOf_any (some ⟨w1.heap.size, 0, none⟩) 2 2 [.slice (some ad) 5 c, .slice (some ⟨ad.block, ad.off + 9, none⟩) k (c - 9)] [l.take 5, datF l] (w1.alloc (.cells #[.slice (some ad) 5 c, .slice (some ⟨ad.block, ad.off + 9, none⟩) k (c - 9)] 24)).drew rfl (Parts.cons H5.out.symm ((R5.out.new hN).new hA1) (Parts.cons HDL.out.symm ((RD.out.new hN).new hA1) (Parts.nil _))) (reads_blk (Blk.new w1 _ _)) (by simp) HKB.out)
            rw [HX.out] at HS
            go_region_held3 (fun w' => True) (trivial)
              (first
                | (go_at_call 31; (refine HS.out.mono ?_); rintro e w2 ⟨rfl, rfl⟩)
                | (go_at_call 36; (refine (HW.out _ ((RQ.out.new hN).new hA1)).mono ?_); rintro e w3 ⟨rfl, hn3⟩; have hyy := HY.out; rw [hyy]; clear hyy))
            go_wp2
            go_ret
            exact ⟨rfl, New.then (New.then hN hA1) hn3⟩
        · rw [if_neg hxy]
          have hxb : ((x : Int) != (y : Int)) = true := by simp; omega
          by_cases hc9 : c = 9
          · subst hc9
            obtain rfl : k = 0 := by omega
            have RD : Hid (Reads w w.heap.size 1 (some ad) 0 (vb (datF l))) := Lib.hid ⟨by rw [vb_length, hdl], fun h => absurd h (by omega)⟩
            clear hst hx hy hq hdl hd h5 hover hbig
            go_enter Try.func22, Try.ntmps22
            go_wp2
            go_quiet (fail)
            go_wp2_with (go_at_call 35; refine (HL.out _ (HG.out.new ((new_refl w).drewN _))).mono ?_; rintro e w1 ⟨rfl, hn⟩)
            have hN := New.then ((new_refl w).drewN _) hn
            have hA1 : New w1 (w1.alloc (.cells #[.slice (some ad) 5 9, .slice (some ad) 0 0] 24)).drew := Below.drew (alloc_new w1 _)
            have HS := Lib.hid (sumOf_any (some ⟨w1.heap.size, 0, none⟩) 2 2 [.slice (some ad) 5 9, .slice (some ad) 0 0] [l.take 5, datF l] (w1.alloc (.cells #[.slice (some ad) 5 9, .slice (some ad) 0 0] 24)).drew rfl (Parts.cons H5.out.symm ((R5.out.new hN).new hA1) (Parts.cons HDL.out.symm ((RD.out.new hN).new hA1) (Parts.nil _))) (reads_blk (Blk.new w1 _ _)) (by simp) HKB.out)
            rw [HX.out] at HS
            go_region_held3 (fun w' => True) (trivial)
              (first
                | (go_at_call 31; (refine HS.out.mono ?_); rintro e w2 ⟨rfl, rfl⟩)
                | (go_at_call 36; (refine (HW.out _ ((RQ.out.new hN).new hA1)).mono ?_); rintro e w3 ⟨rfl, hn3⟩; have hyy := HY.out; rw [hyy]; clear hyy))
            go_wp2
            go_ret
            exact ⟨rfl, New.then (New.then hN hA1) hn3⟩
          · have RD : Hid (Reads w w.heap.size 1 (some ⟨ad.block, ad.off + 9, none⟩) k (vb (datF l))) := Lib.hid (by rw [hd]; exact reads_sub HR.out 9 k (by omega) (by omega))
            clear hst hx hy hq hdl hd h5 hover hbig
            go_enter Try.func22, Try.ntmps22
            go_wp2
            go_quiet (fail)
            go_wp2_with (go_at_call 35; refine (HL.out _ (HG.out.new ((new_refl w).drewN _))).mono ?_; rintro e w1 ⟨rfl, hn⟩)
            have hN := New.then ((new_refl w).drewN _) hn
            have hA1 : New w1 (w1.alloc (.cells #[.slice (some ad) 5 c, .slice (some ⟨ad.block, ad.off + 9, none⟩) k (c - 9)] 24)).drew := Below.drew (alloc_new w1 _)
            have HS := Lib.hid (sumOf_any (some ⟨w1.heap.size, 0, none⟩) 2 2 [.slice (some ad) 5 c, .slice (some ⟨ad.block, ad.off + 9, none⟩) k (c - 9)] [l.take 5, datF l] (w1.alloc (.cells #[.slice (some ad) 5 c, .slice (some ⟨ad.block, ad.off + 9, none⟩) k (c - 9)] 24)).drew rfl (Parts.cons H5.out.symm ((R5.out.new hN).new hA1) (Parts.cons HDL.out.symm ((RD.out.new hN).new hA1) (Parts.nil _))) (reads_blk (Blk.new w1 _ _)) (by simp) HKB.out)
            rw [HX.out] at HS
            go_region_held3 (fun w' => True) (trivial)
              (first
                | (go_at_call 31; (refine HS.out.mono ?_); rintro e w2 ⟨rfl, rfl⟩)
                | (go_at_call 36; (refine (HW.out _ ((RQ.out.new hN).new hA1)).mono ?_); rintro e w3 ⟨rfl, hn3⟩; have hyy := HY.out; rw [hyy]; clear hyy))
            go_wp2
            go_ret
            exact ⟨rfl, New.then (New.then hN hA1) hn3⟩
end Go.Proofs.Ytlbbhheaginddaa.fr
