/-
  MacTags, MacNumbers.
-/
import Derived.Test.YtnmjgbkifglleaaDoorMacE
namespace Go.Proofs.YtnmjgbkifglleaaDoor.sha
open Go.RowKit Go.Proofs.YtnmjgbkifglleaaDoor.mem Go.Proofs.YtnmjgbkifglleaaDoor.kit Go.Proofs.YtnmjgbkifglleaaDoor.wire
set_option linter.unusedVariables false
theorem lent_n (A : Option Addr) (n c : Nat) (l : List UInt8) (w : World) (hn : n = l.length) (hl : n ≤ 1099511627776) (hA : Reads w w.heap.size 1 A n (vb l)) :
    Calls Tryd.prog 9 #[.slice A n c] w fun e w' => (e = .returned (.slice (some ⟨w.heap.size, 0, none⟩) n (n + 12)) ∧ Blk w' w.heap.size 5 (vb (l ++ marks 1 12)).toArray) ∧ New w w' := by
  subst hn
  exact lent_any A c l w hl hA
theorem kept_n (g n : Nat) (B : Option Addr) (d : Nat) (l : List UInt8) (w : World) (hn : n = l.length) (hl : n ≤ 1099511627776) (hg : Blk w g 5 (vb (l ++ marks 1 12)).toArray) (hB : Reads w w.heap.size 1 B n (vb l)) :
    Calls Tryd.prog 13 #[.slice (some ⟨g, 0, none⟩) n (n + 12), .slice B n d] w fun e w' => e = .returned (.bool true) ∧ New w w' := by
  subst hn
  exact kept_any g B d l w hl hg hB
theorem lent_rd {W : World} {g n : Nat} {l : List UInt8} (hn : n = l.length) (h : Blk W g 5 (vb (l ++ marks 1 12)).toArray) : Reads W W.heap.size 1 (some ⟨g, 0, none⟩) n (vb l) := by
  subst hn
  exact lent_reads h
theorem rst_two {w3 w4 w5 W : World} {A4 A5 : Option Addr} {c4 c5 : Nat} {Z : List UInt8} (hZ : Z.length = 32) (o4 : w4.ownsRow w3.heap.size 5 1 (.slice A4 32 c4) 32 (vb Z)) (n4 : New w3 w4) (o5 : w5.ownsRow w4.heap.size 5 1 (.slice A5 32 c5) 32 (vb Z)) (n5 : New w4 w5) (hW : New w5 W) :
    RSt w3 [(.slice A4 32 c4, Z), (.slice A5 32 c5, Z)] W := by
  rw [← hZ] at o4 o5 ⊢
  exact (((RSt.nil w3).push o4 n4).push o5 n5).keep hW

set_option maxRecDepth 100000 in
set_option maxHeartbeats 4000000 in
theorem MacTags_big (A C E : Option Addr) (n c m d q f : Nat) (w : World) (h : GAt w) (hbig : 4000 < n ∨ 4000 < m ∨ 4000 < q) :
    Calls Tryd.prog 5 #[.slice A n c, .slice C m d, .slice E q f] w fun e w' => e = .returned (.bool true) ∧ New w w' := by
  have HAW := Lib.hid (awake5_any w h)
  clear h
  by_cases h1 : 4000 < n
  · have b1 : (4000 : Int) < (n : Int) := by omega
    clear hbig
    go_enter Tryd.func5, Tryd.ntmps5
    go_wp2_with (first
      | (go_at_call 15; (with_reducible refine HAW.out.mono ?_); rintro e w1 ⟨rfl, hn1⟩; have HN1 := Lib.hid hn1; clear hn1)
      | fail)
    go_ret
    exact ⟨rfl, HN1.out⟩
  · have b1 : ¬ (4000 : Int) < (n : Int) := by omega
    by_cases h2 : 4000 < m
    · have b2 : (4000 : Int) < (m : Int) := by omega
      clear hbig
      go_enter Tryd.func5, Tryd.ntmps5
      go_wp2_with (first
        | (go_at_call 15; (with_reducible refine HAW.out.mono ?_); rintro e w1 ⟨rfl, hn1⟩; have HN1 := Lib.hid hn1; clear hn1)
        | fail)
      go_ret
      exact ⟨rfl, HN1.out⟩
    · have b2 : ¬ (4000 : Int) < (m : Int) := by omega
      have b3 : (4000 : Int) < (q : Int) := by omega
      clear hbig
      go_enter Tryd.func5, Tryd.ntmps5
      go_wp2_with (first
        | (go_at_call 15; (with_reducible refine HAW.out.mono ?_); rintro e w1 ⟨rfl, hn1⟩; have HN1 := Lib.hid hn1; clear hn1)
        | fail)
      go_ret
      exact ⟨rfl, HN1.out⟩

set_option maxRecDepth 100000 in
set_option maxHeartbeats 8000000 in
theorem MacTags_small (A C E : Option Addr) (n c m d q f : Nat) (key b T : List UInt8) (w : World) (h : GAt w) (hn : n = key.length) (hm : m = b.length) (hq : q = T.length) (hnl : n ≤ 4000) (hml : m ≤ 4000) (hql : q ≤ 4000) (hA : Reads w w.heap.size 1 A n (vb key)) (hC : Reads w w.heap.size 1 C m (vb b)) (hE : Reads w w.heap.size 1 E q (vb T)) :
    Calls Tryd.prog 5 #[.slice A n c, .slice C m d, .slice E q f] w fun e w' => e = .returned (.bool true) ∧ New w w' := by
  have HAW : Hid (∀ W, New w W → Calls Tryd.prog 15 #[] W fun e w' => e = .returned (.bool true) ∧ New W w') := Lib.hid (fun W hW => awake5_any W (h.new hW))
  have HL1 := Lib.hid (lent_n A n c key w hn (by omega) hA)
  have HL2 : Hid (∀ W, New w W → Calls Tryd.prog 9 #[.slice C m d] W fun e w' => (e = .returned (.slice (some ⟨W.heap.size, 0, none⟩) m (m + 12)) ∧ Blk w' W.heap.size 5 (vb (b ++ marks 1 12)).toArray) ∧ New W w') := Lib.hid (fun W hW => lent_n C m d b W hm (by omega) (hC.new hW))
  have HL3 : Hid (∀ W, New w W → Calls Tryd.prog 9 #[.slice E q f] W fun e w' => (e = .returned (.slice (some ⟨W.heap.size, 0, none⟩) q (q + 12)) ∧ Blk w' W.heap.size 5 (vb (T ++ marks 1 12)).toArray) ∧ New W w') := Lib.hid (fun W hW => lent_n E q f T W hq (by omega) (hE.new hW))
  have HTG : Hid (∀ W g1 g2, New w W → Blk W g1 5 (vb (key ++ marks 1 12)).toArray → Blk W g2 5 (vb (b ++ marks 1 12)).toArray → Calls Tryd.prog 16 #[.slice (some ⟨g1, 0, none⟩) n (n + 12), .slice (some ⟨g2, 0, none⟩) m (m + 12)] W (TagD W (tag key b))) := Lib.hid (fun W g1 g2 hW h1 h2 => tag_any (some ⟨g1, 0, none⟩) (some ⟨g2, 0, none⟩) n (n + 12) m (m + 12) key b W (h.new hW) hn hm (by omega) (by omega) ⟨by omega, by unfold maxLen; omega⟩ (lent_rd hn h1) (lent_rd hm h2))
  have HRT : Hid (∀ W, New w W → Calls Tryd.prog 17 #[.slice A n c, .slice C m d] W fun e w' => ∃ A4 c4, e = .returned (.slice A4 32 c4) ∧ Reads w' w'.heap.size 1 A4 32 (vb (tag key b)) ∧ New W w') := Lib.hid (fun W hW => rtag_any A C n c m d key b W hn hm (by omega) (by omega) (hA.new hW) (hC.new hW))
  have HFI : Hid (∀ W g1 g2 F k l V, New w W → k = V.length → Blk W g1 5 (vb (key ++ marks 1 12)).toArray → Blk W g2 5 (vb (b ++ marks 1 12)).toArray → Reads W W.heap.size 1 F k (vb V) → Calls Tryd.prog 18 #[.slice (some ⟨g1, 0, none⟩) n (n + 12), .slice (some ⟨g2, 0, none⟩) m (m + 12), .slice F k l] W fun e w' => e = .returned (.bool (decide (tag key b = V))) ∧ New W w') := Lib.hid (fun W g1 g2 F k l V hW hk h1 h2 hr => fits_any (some ⟨g1, 0, none⟩) (some ⟨g2, 0, none⟩) F n (n + 12) m (m + 12) k l key b V W (h.new hW) hn hm hk (by omega) (by omega) ⟨by omega, by unfold maxLen; omega⟩ (lent_rd hn h1) (lent_rd hm h2) hr)
  have HRF : Hid (∀ W, New w W → Calls Tryd.prog 19 #[.slice A n c, .slice C m d, .slice E q f] W fun e w' => e = .returned (.bool (decide (tag key b = T))) ∧ New W w') := Lib.hid (fun W hW => rfits_any A C E n c m d q f key b T W hn hm hq (by omega) (by omega) (by omega) (hA.new hW) (hC.new hW) (hE.new hW))
  have HK1 : Hid (∀ W g, New w W → Blk W g 5 (vb (key ++ marks 1 12)).toArray → Calls Tryd.prog 13 #[.slice (some ⟨g, 0, none⟩) n (n + 12), .slice A n c] W fun e w' => e = .returned (.bool true) ∧ New W w') := Lib.hid (fun W g hW hb => kept_n g n A c key W hn (by omega) hb (hA.new hW))
  have HK2 : Hid (∀ W g, New w W → Blk W g 5 (vb (b ++ marks 1 12)).toArray → Calls Tryd.prog 13 #[.slice (some ⟨g, 0, none⟩) m (m + 12), .slice C m d] W fun e w' => e = .returned (.bool true) ∧ New W w') := Lib.hid (fun W g hW hb => kept_n g m C d b W hm (by omega) hb (hC.new hW))
  have HK3 : Hid (∀ W g, New w W → Blk W g 5 (vb (T ++ marks 1 12)).toArray → Calls Tryd.prog 13 #[.slice (some ⟨g, 0, none⟩) q (q + 12), .slice E q f] W fun e w' => e = .returned (.bool true) ∧ New W w') := Lib.hid (fun W g hW hb => kept_n g q E f T W hq (by omega) hb (hE.new hW))
  have HRD : Hid (∀ W g, Blk W g 5 (vb (T ++ marks 1 12)).toArray → Reads W W.heap.size 1 (some ⟨g, 0, none⟩) q (vb T)) := Lib.hid (fun W g hb => lent_rd hq hb)
  have HQ := Lib.hid hq
  have htl := tag_length key b
  generalize tag key b = D at *
  have HTL := Lib.hid htl
  have HFD : Hid (∀ W g1 g2 F l, New w W → Blk W g1 5 (vb (key ++ marks 1 12)).toArray → Blk W g2 5 (vb (b ++ marks 1 12)).toArray → Reads W W.heap.size 1 F 32 (vb D) → Calls Tryd.prog 18 #[.slice (some ⟨g1, 0, none⟩) n (n + 12), .slice (some ⟨g2, 0, none⟩) m (m + 12), .slice F 32 l] W fun e w' => e = .returned (.bool true) ∧ New W w') := Lib.hid (fun W g1 g2 F l hW h1 h2 hr => (HFI.out W g1 g2 F 32 l D hW htl.symm h1 h2 hr).mono fun e w' k => ⟨by rw [k.1, show decide (D = D) = true by simp], k.2⟩)
  obtain ⟨qb, hqb⟩ : ∃ qb, decide (D = T) = qb := ⟨_, rfl⟩
  have HQB := Lib.hid hqb
  rw [hqb] at HRF
  have HAP : Hid (∀ (w3 w6 : World) (A1 A2 : Option Addr) (c1 c2 : Nat), New w w3 → RSt w3 [(.slice A1 32 c1, D), (.slice A2 32 c2, D)] w6 → Calls Tryd.prog 20 #[.slice (some ⟨w6.heap.size, 0, none⟩) 2 2] (w6.alloc (.cells #[.slice A1 32 c1, .slice A2 32 c2] 22)) fun e w' => e = .returned (.bool true) ∧ New w w') := Lib.hid (fun w3 w6 A1 A2 c1 c2 h3 hR => by
    have hR' := hR.keep (alloc_new w6 (.cells #[.slice A1 32 c1, .slice A2 32 c2] 22))
    refine (apart_rs (some ⟨w6.heap.size, 0, none⟩) 2 hR' rfl (by show 2 ≤ 1000000; omega) (fun p hp => ?_) (reads_p2 w6 _ _ _)).mono fun e w' k => ⟨k.1, New.then h3 (hR'.new.trans k.2)⟩
    simp only [List.mem_cons, List.not_mem_nil, or_false] at hp
    rcases hp with rfl | rfl <;> (simp only; omega))
  have b1 : ¬ (4000 : Int) < (n : Int) := by omega
  have b2 : ¬ (4000 : Int) < (m : Int) := by omega
  have b3 : ¬ (4000 : Int) < (q : Int) := by omega
  clear hA hC hE hn hm hq h htl hqb
  go_enter Tryd.func5, Tryd.ntmps5
  go_wp2_with (first
    | (go_at_call 9; (with_reducible refine HL1.out.mono ?_); rintro e w1 ⟨⟨rfl, hb1⟩, hn1⟩; have HB1 := Lib.hid hb1; have HN1 := Lib.hid hn1; have HL2' := Lib.hid (HL2.out w1 hn1); clear hb1 hn1)
    | (go_at_call 9; (with_reducible refine HL2'.out.mono ?_); rintro e w2 ⟨⟨rfl, hb2⟩, hn2⟩; have HB2 := Lib.hid hb2; have HN12 := Lib.hid hn2; have HN2 := Lib.hid (New.then HN1.out hn2); have HL3' := Lib.hid (HL3.out w2 (New.then HN1.out hn2)); clear hb2 hn2)
    | (go_at_call 9; (with_reducible refine HL3'.out.mono ?_); rintro e w3 ⟨⟨rfl, hb3⟩, hn3⟩; have HN23 := Lib.hid hn3; have HN13 := Lib.hid (New.then HN12.out hn3); have HN3 := Lib.hid (New.then HN2.out hn3); have HB3 := Lib.hid hb3; have HB13 := Lib.hid (HB1.out.below HN13.out HB1.out.lt); have HB23 := Lib.hid (HB2.out.below hn3 HB2.out.lt); have HT3 := Lib.hid (HTG.out w3 _ _ HN3.out HB13.out HB23.out); clear hb3 hn3)
    | (go_at_call 16; (with_reducible refine HT3.out.mono ?_); rintro e w4 ⟨A4, c4, rfl, ho4, hn4⟩; have HO4 := Lib.hid ho4; have HN34 := Lib.hid hn4; have HT4 := Lib.hid (HTG.out w4 _ _ (New.then HN3.out hn4) (HB13.out.below hn4 HB13.out.lt) (HB23.out.below hn4 HB23.out.lt)); clear ho4 hn4)
    | (go_at_call 16; (with_reducible refine HT4.out.mono ?_); rintro e w5 ⟨A5, c5, rfl, ho5, hn5⟩; have HO5 := Lib.hid ho5; have HN45 := Lib.hid hn5; have HN35 := Lib.hid (New.then HN34.out hn5); have HR5 := Lib.hid (HRT.out w5 (New.then HN3.out HN35.out)); clear ho5 hn5)
    | (go_at_call 17; (with_reducible refine HR5.out.mono ?_); rintro e w6 ⟨A6, c6, rfl, hr6, hn6⟩; have HN56 := Lib.hid hn6; have HS6 := Lib.hid (same_32 A4 A6 c4 c6 D w6 HTL.out (((Reads.of_own HO4.out).new HN45.out).new hn6) hr6); clear hr6 hn6)
    | (go_at_call 10; (with_reducible refine HS6.out.mono ?_); rintro e w7 ⟨rfl, hn7⟩; have HN57 := Lib.hid (New.then HN56.out hn7); have HN37 := Lib.hid (New.then HN35.out HN57.out); have hf7 := HFI.out w7 _ _ _ _ (q + 12) T (New.then HN3.out HN37.out) HQ.out (HB13.out.below HN37.out HB13.out.lt) (HB23.out.below HN37.out HB23.out.lt) (HRD.out w7 _ (HB3.out.below HN37.out HB3.out.lt)); rw [HQB.out] at hf7; have HF7 := Lib.hid hf7; clear hn7 hf7)
    | (go_at_call 18; (with_reducible refine HF7.out.mono ?_); rintro e w8 ⟨rfl, hn8⟩; have HN58 := Lib.hid (New.then HN57.out hn8); have HR8 := Lib.hid (HRF.out w8 (New.then HN3.out (New.then HN35.out HN58.out))); clear hn8)
    | (go_at_call 19; (with_reducible refine HR8.out.mono ?_); rintro e w9 ⟨rfl, hn9⟩; have HN59 := Lib.hid (New.then HN58.out hn9); have HN39 := Lib.hid (New.then HN35.out HN59.out); have hf9 := HFD.out w9 _ _ A4 c4 (New.then HN3.out HN39.out) (HB13.out.below HN39.out HB13.out.lt) (HB23.out.below HN39.out HB23.out.lt) (((Reads.of_own HO4.out).new HN45.out).new HN59.out); have HF9 := Lib.hid hf9; clear hn9 hf9)
    | (go_at_call 18; (with_reducible refine HF9.out.mono ?_); rintro e w10 ⟨rfl, hn10⟩; have HN510 := Lib.hid (New.then HN59.out hn10); have HN310 := Lib.hid (New.then HN35.out HN510.out); have HK10 := Lib.hid (HK1.out w10 _ (New.then HN3.out HN310.out) (HB13.out.below HN310.out HB13.out.lt)); clear hn10)
    | (go_at_call 13; (with_reducible refine HK10.out.mono ?_); rintro e w11 ⟨rfl, hn11⟩; have HN511 := Lib.hid (New.then HN510.out hn11); have HN311 := Lib.hid (New.then HN35.out HN511.out); have HK11 := Lib.hid (HK2.out w11 _ (New.then HN3.out HN311.out) (HB23.out.below HN311.out HB23.out.lt)); clear hn11)
    | (go_at_call 13; (with_reducible refine HK11.out.mono ?_); rintro e w12 ⟨rfl, hn12⟩; have HN512 := Lib.hid (New.then HN511.out hn12); have HN312 := Lib.hid (New.then HN35.out HN512.out); have HK12 := Lib.hid (HK3.out w12 _ (New.then HN3.out HN312.out) (HB3.out.below HN312.out HB3.out.lt)); clear hn12)
    | (go_at_call 13; (with_reducible refine HK12.out.mono ?_); rintro e w13 ⟨rfl, hn13⟩; have HN513 := Lib.hid (New.then HN512.out hn13); have HA13 := Lib.hid (HAP.out w3 w13 A4 A5 c4 c5 HN3.out (rst_two HTL.out HO4.out HN34.out HO5.out HN45.out HN513.out)); clear hn13)
    | (go_at_call 20; (with_reducible refine HA13.out.mono ?_); rintro e w14 ⟨rfl, hn14⟩; have HN14 := Lib.hid hn14; have HW14 := Lib.hid (HAW.out w14 hn14); clear hn14)
    | (go_at_call 15; (with_reducible refine HW14.out.mono ?_); rintro e w15 ⟨rfl, hn15⟩; have HN15 := Lib.hid (New.then HN14.out hn15); clear hn15)
    | fail)
  all_goals go_ret
  all_goals exact ⟨rfl, HN15.out⟩
theorem MacTags_any (A C E : Option Addr) (n c m d q f : Nat) (key b T : List UInt8) (w : World) (h : GAt w) (hn : n = key.length) (hm : m = b.length) (hq : q = T.length) (hA : Reads w w.heap.size 1 A n (vb key)) (hC : Reads w w.heap.size 1 C m (vb b)) (hE : Reads w w.heap.size 1 E q (vb T)) :
    Calls Tryd.prog 5 #[.slice A n c, .slice C m d, .slice E q f] w fun e w' => e = .returned (.bool true) ∧ New w w' := by
  by_cases hbig : 4000 < n ∨ 4000 < m ∨ 4000 < q
  · exact MacTags_big A C E n c m d q f w h hbig
  · exact MacTags_small A C E n c m d q f key b T w h hn hm hq (by omega) (by omega) (by omega) hA hC hE
end Go.Proofs.YtnmjgbkifglleaaDoor.sha
