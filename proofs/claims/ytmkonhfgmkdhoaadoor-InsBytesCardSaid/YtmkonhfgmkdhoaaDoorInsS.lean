/-
  Contracts of ins: Get.
-/
import Derived.Test.YtmkonhfgmkdhoaaDoorInsR
import Derived.Laws.Cover3
namespace Go.Proofs.YtmkonhfgmkdhoaaDoor.ins
open Go.RowKit Go.Shelf Go.Proofs.YtmkonhfgmkdhoaaDoor.mem Go.Proofs.YtmkonhfgmkdhoaaDoor.kit Go.Proofs.YtmkonhfgmkdhoaaDoor.rng
set_option linter.unusedVariables false
attribute [local go_sem] Oper.semAt_some

set_option maxRecDepth 100000 in
set_option maxHeartbeats 8000000 in
theorem get_body (A : Option Addr) (n c : Nat) (l : List UInt8) (w : World) (hn : n = l.length) (hl : n ≤ 32768) (h8 : n % 8 = 0) (hc : n ≤ c ∧ c ≤ maxLen) (hA : Reads w w.heap.size 1 A n (vb l)) (g o : Nat) (hgo : 0 < n → A = some ⟨g, o, none⟩) (hT : TAt w) :
    Calls Tryd.prog 10 #[.slice A n c] w (GetD w l) := by
  refine (callsIn_wide (n := 3)).1 ?_
  refine callsIn_of_wp_marks Tryd.func10 rfl trivial ?_ rfl
  simp only [Tryd.ntmps10, List.size_toArray, List.length_cons, List.length_nil, Nat.reduceAdd, Nat.reduceSub, Array.replicate_succ, Array.replicate_zero, List.push_toArray, List.append_toArray, List.nil_append, List.cons_append]
  have HA := Lib.hid hA
  have HT := Lib.hid hT
  have HN := Lib.hid hn
  have HGO := Lib.hid hgo
  have h8' : (n : Int) % 8 = 0 := by omega
  have t1 : ¬ (32768 : Int) < (n : Int) := by omega
  clear hA hT hn hgo
  refine wpIn_wide.2 ?_
  go_wp2_with (go_at_call 23; refine (chunk_any _ _ _ _).mono ?_; rintro e w1 ⟨rfl, rfl⟩)
  simp only [Nat.add_assoc, Nat.reduceAdd]
  have hI0 : GS w l (.slice A n c) 0 (((((w.alloc (.cells #[.slice none 0 0] 22)).alloc (.cells #[.int .i64 0] 27)).alloc (.cells #[.slice none 0 0] 22)).alloc (.cells #[.slice A n c] 23)).alloc (.cells #[.int .i64 8] 3)) := by
    have q1 := new1 w (.cells #[.slice none 0 0] 22)
    have q2 := q1.alloc (by simp) (.cells #[.int .i64 0] 27)
    have q3 := q2.alloc (by simp; omega) (.cells #[.slice none 0 0] 22)
    have q4 := q3.alloc (by simp; omega) (.cells #[.slice A n c] 23)
    have q5 := q4.alloc (by simp; omega) (.cells #[.int .i64 8] 3)
    refine ⟨q5, ?_, ?_, ⟨.slice none 0 0, ?_, World.ownsRow_nil _ _ _ _⟩, ?_, ?_, rfl, Nat.zero_le _⟩
    · exact ((((Blk.new w _ _).alloc _).alloc _).alloc _).alloc _
    · have h := Blk.new (w.alloc (.cells #[.slice none 0 0] 22)) 27 #[.int .i64 0]
      rw [World.size_alloc] at h
      exact ((h.alloc _).alloc _).alloc _
    · have h := Blk.new ((w.alloc (.cells #[.slice none 0 0] 22)).alloc (.cells #[.int .i64 0] 27)) 22 #[.slice none 0 0]
      rw [World.size_alloc, World.size_alloc] at h
      exact (h.alloc _).alloc _
    · have h := Blk.new (((w.alloc (.cells #[.slice none 0 0] 22)).alloc (.cells #[.int .i64 0] 27)).alloc (.cells #[.slice none 0 0] 22)) 23 #[.slice A n c]
      rw [World.size_alloc, World.size_alloc, World.size_alloc] at h
      exact h.alloc _
    · have h := Blk.new ((((w.alloc (.cells #[.slice none 0 0] 22)).alloc (.cells #[.int .i64 0] 27)).alloc (.cells #[.slice none 0 0] 22)).alloc (.cells #[.slice A n c] 23)) 3 #[.int .i64 8]
      rw [World.size_alloc, World.size_alloc, World.size_alloc, World.size_alloc] at h
      exact h
  have hsz : (((((w.alloc (.cells #[.slice none 0 0] 22)).alloc (.cells #[.int .i64 0] 27)).alloc (.cells #[.slice none 0 0] 22)).alloc (.cells #[.slice A n c] 23)).alloc (.cells #[.int .i64 8] 3)).heap.size = w.heap.size + 5 := by simp
  generalize (((((w.alloc (.cells #[.slice none 0 0] 22)).alloc (.cells #[.int .i64 0] 27)).alloc (.cells #[.slice none 0 0] 22)).alloc (.cells #[.slice A n c] 23)).alloc (.cells #[.int .i64 8] 3)) = Wl at hI0 hsz ⊢
  obtain ⟨i0, hi, hz0, hz1, hz2⟩ := info_parts ins_info
  refine (wpIn_wide (n := 3)).1 ?_
  refine range_stop (α := Nat) rfl (by decide) (gf := 40) (fi := #[]) (lb := #[.pointer (some ⟨w.heap.size + 3, 0, none⟩), .pointer (some ⟨w.heap.size + 4, 0, none⟩)]) rfl trivial (enters_of Tryd.func40 (by kernel_rfl) rfl)
    (encs := fun x => #[.slice (some ⟨g, o + 8 * x, none⟩) 8 8]) (fun _ => rfl)
    (fun xs W => GS w l (.slice A n c) xs.length W) (fun xs W => GX w l W)
    (fun pre x W => GS w l (.slice A n c) pre.length W ∧ x = pre.length ∧ pre.length < (pcs l).length)
    (fun x a' W => a' = { tmps := #[.slice A n c, undef, .pointer (some ⟨w.heap.size, 0, none⟩), .pointer (some ⟨w.heap.size + 1, 0, none⟩), .pointer (some ⟨w.heap.size + 2, 0, none⟩), .slice (some ⟨g, o + 8 * x, none⟩) 8 8, undef, undef, .slice A n c, .int .i64 (n : Int), .bool false, .slice A n c, .int .i64 (n : Int), .int .i64 0, .bool false, .slice A n c, .func (.func 40) #[] #[.pointer (some ⟨w.heap.size + 3, 0, none⟩), .pointer (some ⟨w.heap.size + 4, 0, none⟩)], .slice (some ⟨g, o + 8 * x, none⟩) 8 8, undef, undef, undef, undef, undef, undef, undef, undef, undef, undef, undef, undef, undef, undef, undef, undef, undef, undef, undef], defers := [] })
    (fun xs => xs.length = (pcs l).length) ?pI ?pX ?aI ?pB hI0 ?iter ?assign ?body ?done ?stop
  case pI =>
    rintro xs W lp o' o'' h1 hlp hlo ho
    exact h1.put o'' (by omega) hlo ho
  case pX =>
    rintro xs W lp o' o'' h1 hlp hlo ho
    exact h1.put o'' (by omega) hlo ho
  case aI =>
    rintro xs W o' h1
    exact h1.keep (new1 W o')
  case pB =>
    rintro pre x a' W lp o' o'' ⟨h1, h2, h3⟩ rfl hlp hlo ho
    exact ⟨⟨h1.put o'' (by omega) hlo ho, h2, h3⟩, rfl⟩
  case iter =>
    intro lp D R R' W hY h0 hb hD hlp
    exact chunk_in w l A n c g o HN.out hl h8 HGO.out hc lp D R R' W hY h0 hb
  case assign =>
    rintro lp pre x W K ⟨h1, rfl, h3⟩ hK
    gi_wp2
    exact hK _ _ (KeepsOthers.refl _) ⟨h1, (by trivial), h3⟩ (by first | trivial | rfl)
  case body =>
    rintro lp pre x a' W ⟨h1, rfl, h3⟩ rfl
    obtain ⟨k, hk⟩ : ∃ k, pre.length = k := ⟨_, rfl⟩
    rw [hk] at h1 h3 ⊢
    have hk1 : (pre ++ [k]).length = k + 1 := by simp [hk]
    have HK1 := Lib.hid hk1
    clear hk hk1
    have hpl := pcs_length l
    have hkn : 8 * k + 8 ≤ n := by have := HN.out; omega
    have hA1 := HGO.out (by omega)
    have hR1 := HA.out
    rw [hA1] at hR1
    obtain ⟨hgw, z0, z1, z2, z3, z4, z5, z6, z7, hz, c0, c1, c2, c3, c4, c5, c6, c7⟩ := piece_at hR1 HN.out hkn
    have hc8 : ∀ j v, w.cell? ⟨g, j, none⟩ = some v → W.cell? ⟨g, j, none⟩ = some v := fun j v h => (h1.new.cell (p := ⟨g, j, none⟩) hgw).trans h
    replace c0 := hc8 _ _ c0
    replace c1 := hc8 _ _ c1
    replace c2 := hc8 _ _ c2
    replace c3 := hc8 _ _ c3
    replace c4 := hc8 _ _ c4
    replace c5 := hc8 _ _ c5
    replace c6 := hc8 _ _ c6
    replace c7 := hc8 _ _ c7
    obtain ⟨x, hx⟩ : ∃ x, inOf (pc l k) = x := ⟨_, rfl⟩
    obtain ⟨ox, nx, dx, sx, ux, fx, mx, zx⟩ := x
    have HI := Lib.hid (hz ▸ hx)
    have HX := Lib.hid hx
    have HZ := Lib.hid hz
    have H1 := Lib.hid h1
    have H3 := Lib.hid h3
    obtain ⟨B, hB⟩ : ∃ B, ok ⟨ox, nx, dx, sx, ux, fx, mx, zx⟩ = B := ⟨_, rfl⟩
    have HB := Lib.hid hB
    obtain ⟨v4, hb4, hrow⟩ := h1.b4
    have HB4 := Lib.hid hb4
    have HROW := Lib.hid hrow
    have hW1 := new1 W (.cells #[yc z0, yc z1, yc z2, yc z3, yc z4, yc z5, yc z6, yc z7] 43)
    have HW1 := Lib.hid hW1
    have HE8 := Lib.hid (Blk.new W 43 #[yc z0, yc z1, yc z2, yc z3, yc z4, yc z5, yc z6, yc z7])
    clear hc8 hR1 hA1 hpl hx hz hgw h1 h3 hB hb4 hrow hW1
    have hd1 : 1 ≤ 3 - 1 - 1 := by omega
    have hat : ∀ W : World, (Instr.arrayAt 43 (.slice (some ⟨g, o + 8 * k, none⟩) 8 8)).run Tryd.prog W = .ok (.pointer (some ⟨g, o + 8 * k, none⟩)) W := fun W => run_arrayAt W 43 _ 8 _ 8 8 Tryd.underlying43 (by omega)
    obtain ⟨y0, y1, y2, y3, y4, y5, y6, y7, hy⟩ := bs_eight ⟨ox, nx, dx, sx, ux, fx, mx, zx⟩
    have HY := Lib.hid hy
    obtain ⟨E, hE⟩ : ∃ E, ([y0, y1, y2, y3, y4, y5, y6, y7] == [z0, z1, z2, z3, z4, z5, z6, z7]) = E := ⟨_, rfl⟩
    have HE := Lib.hid hE
    have hq := eq_arr y0 y1 y2 y3 y4 y5 y6 y7 z0 z1 z2 z3 z4 z5 z6 z7 E hE
    clear hy hE
    rcases B with _ | _
    · gi_wp2_with (refine ⟨trivial, ?_⟩; gi_at_call 24; refine (CallsIn.inRound lp (callsIn_wide.2 (insOf_x _ _ _ _ _ _ _ _ _ _ _ _ _ _ _ _ HI.out _))).mono ?_; rintro e w2 ⟨rfl, hn2⟩)
      have HN3 := Lib.hid (New.then (New.then HW1.out hn2) (new1 w2 (.cells #[.int .u8 ox, .bool nx, .int .i64 dx, .int .i64 sx, .bool ux, .int .i64 fx, .int .i64 mx, .int .i64 zx] 37)))
      have HBI := Lib.hid (Blk.new w2 37 #[.int .u8 ox, .bool nx, .int .i64 dx, .int .i64 sx, .bool ux, .int .i64 fx, .int .i64 mx, .int .i64 zx])
      have HBA := Lib.hid ((HE8.out.below hn2 HE8.out.lt).alloc (.cells #[.int .u8 ox, .bool nx, .int .i64 dx, .int .i64 sx, .bool ux, .int .i64 fx, .int .i64 mx, .int .i64 zx] 37))
      first
        | (gi_region_with (first | (refine ⟨trivial, ?_⟩; gi_at_call 17; refine (CallsIn.inRound lp (callsIn_wide.2 (right_x _ _ _ _ _ _ _ _ false HB.out _))).mono ?_; rintro e w4 ⟨rfl, hn4⟩) | (refine ⟨trivial, ?_⟩)))
        | fail
      all_goals
        have hN4 : New W w4 := New.then (Below.drew HN3.out) hn4
        have hg4 := H1.out.keep hN4
        have r2 := hg4.b2.cell 0
        have r3 := hg4.b3.cell 0
        have f2 := hg4.b2.frozen 0
        have f3 := hg4.b3.frozen 0
        simp only [List.getElem?_toArray, List.getElem?_cons_zero] at r2 r3
        have hbad := bad_at H3.out (by rw [one_eq HX.out HB.out HY.out HZ.out HE.out]; rfl)
        gi_wp2
        exact ⟨kx_make hN4 _ _ _ _, gx_make hg4 hbad⟩
    · gi_wp2_with (refine ⟨trivial, ?_⟩; gi_at_call 24; refine (CallsIn.inRound lp (callsIn_wide.2 (insOf_x _ _ _ _ _ _ _ _ _ _ _ _ _ _ _ _ HI.out _))).mono ?_; rintro e w2 ⟨rfl, hn2⟩)
      have HN3 := Lib.hid (New.then (New.then HW1.out hn2) (new1 w2 (.cells #[.int .u8 ox, .bool nx, .int .i64 dx, .int .i64 sx, .bool ux, .int .i64 fx, .int .i64 mx, .int .i64 zx] 37)))
      have HBI := Lib.hid (Blk.new w2 37 #[.int .u8 ox, .bool nx, .int .i64 dx, .int .i64 sx, .bool ux, .int .i64 fx, .int .i64 mx, .int .i64 zx])
      have HBA := Lib.hid ((HE8.out.below hn2 HE8.out.lt).alloc (.cells #[.int .u8 ox, .bool nx, .int .i64 dx, .int .i64 sx, .bool ux, .int .i64 fx, .int .i64 mx, .int .i64 zx] 37))
      first
        | (gi_region_with (first
            | (refine ⟨trivial, ?_⟩; gi_at_call 17; refine (CallsIn.inRound lp (callsIn_wide.2 (right_x _ _ _ _ _ _ _ _ true HB.out _))).mono ?_; rintro e w4 ⟨rfl, hn4⟩; have hI4 := HBI.out.drew.below hn4 HBI.out.lt; have hA4 := HBA.out.drew.below hn4 HBA.out.lt; have x0 := hI4.cell 0; have x1 := hI4.cell 1; have x2 := hI4.cell 2; have x3 := hI4.cell 3; have x4 := hI4.cell 4; have x5 := hI4.cell 5; have x6 := hI4.cell 6; have x7 := hI4.cell 7; simp only [List.getElem?_toArray, List.getElem?_cons_zero, List.getElem?_cons_succ] at x0 x1 x2 x3 x4 x5 x6 x7; have y0 := hA4.cell 0; have y1 := hA4.cell 1; have y2 := hA4.cell 2; have y3 := hA4.cell 3; have y4 := hA4.cell 4; have y5 := hA4.cell 5; have y6 := hA4.cell 6; have y7 := hA4.cell 7; simp only [List.getElem?_toArray, List.getElem?_cons_zero, List.getElem?_cons_succ] at y0 y1 y2 y3 y4 y5 y6 y7)
            | (refine ⟨trivial, ?_⟩; gi_at_call 20; refine (CallsIn.inRound lp (callsIn_wide.2 (bytes_x _ _ _ _ _ _ _ _ _ _ _ _ _ _ _ _ HY.out _ HB.out (HT.out.new (New.then (New.then H1.out.new (Below.drew HN3.out)) hn4))))).mono ?_; rintro e w5 ⟨rfl, hn5⟩; have hA5 := hA4.below hn5 hA4.lt; have q0 := hA5.cell 0; have q1 := hA5.cell 1; have q2 := hA5.cell 2; have q3 := hA5.cell 3; have q4 := hA5.cell 4; have q5 := hA5.cell 5; have q6 := hA5.cell 6; have q7 := hA5.cell 7; simp only [List.getElem?_toArray, List.getElem?_cons_zero, List.getElem?_cons_succ] at q0 q1 q2 q3 q4 q5 q6 q7)))
        | fail
      all_goals
        have hN5 : New W w5 := New.then (New.then (Below.drew HN3.out) hn4) hn5
        have hg5 := H1.out.keep hN5
        have r2 := hg5.b2.cell 0
        have r3 := hg5.b3.cell 0
        have f2 := hg5.b2.frozen 0
        have f3 := hg5.b3.frozen 0
        have hb5 := HB4.out.below hN5 HB4.out.lt
        have r4 := hb5.cell 0
        simp only [List.getElem?_toArray, List.getElem?_cons_zero] at r2 r3 r4
        have hI5 := hI4.below hn5 hI4.lt
        have u0 := hI5.cell 0
        have u1 := hI5.cell 1
        have u2 := hI5.cell 2
        have u3 := hI5.cell 3
        have u4 := hI5.cell 4
        have u5 := hI5.cell 5
        have u6 := hI5.cell 6
        have u7 := hI5.cell 7
        simp only [List.getElem?_toArray, List.getElem?_cons_zero, List.getElem?_cons_succ] at u0 u1 u2 u3 u4 u5 u6 u7
        have HB5 := Lib.hid hb5
        have HG5 := Lib.hid hg5
        have HN5 := Lib.hid hN5
        have HO := Lib.hid (one_eq HX.out HB.out HY.out HZ.out HE.out)
        have hb1 : k + 1 ≤ maxLen := by have := H3.out; have := pcs_length l; have := HN.out; unfold maxLen; omega
        have hb2 : (k + 1) * 56 ≤ 140737488355328 := by have := H3.out; have := pcs_length l; have := HN.out; omega
        have hrow5 := own_new HROW.out hN5
        have HROW5 := Lib.hid hrow5
        clear hb5 hg5 hN5 hrow5
        rcases E with _ | _
        · have hbad := bad_at H3.out (by rw [HO.out]; rfl)
          gi_wp2
          exact ⟨kx_make HN5.out _ _ _ _, gx_make HG5.out hbad⟩
        · gi_wp2_with (gi_at_builtin; refine wpListIn_append_own _ rfl _ _ 22 rfl w.heap.size 37 i0 zins 8 56 Tryd.underlying22 hi hz0 hz1 hz2 rfl (by decide) _ _ _ rfl (HROW5.out.alloc _) ⟨w5.heap.size, 0, none⟩ 1 1 (vi [⟨ox, nx, dx, sx, ux, fx, mx, zx⟩]) rfl rfl (new_ins w5 _ _ _ _ _ _ _ _ _) (vi_one _) hb1 hb2 (by have := HN5.out.size; have := H1.out.new.size; simp; omega) ?_; intro v' w6 hown' hgrow _; obtain ⟨g', cap', rfl⟩ := ownsRow_succ hown'; have q4 := (blk_ogrown (HB5.out.alloc _) (HROW5.out.alloc _) (by decide) hgrow).cell 0; have z4 := (blk_ogrown (HB5.out.alloc _) (HROW5.out.alloc _) (by decide) hgrow).frozen 0; simp only [List.getElem?_toArray, List.getElem?_cons_zero] at q4)
          rw [← HX.out] at hown'
          have hp := HG5.out.push HN5.out HB5.out HROW5.out _ hown' hgrow H3.out HO.out
          refine ⟨hp.1, ?_⟩
          show GS w l (.slice A n c) (pre ++ [k]).length _
          rw [HK1.out]
          exact hp.2
  case done =>
    rintro D xs W hD hS h1 hK
    rw [hS] at h1
    obtain ⟨v, hb4, hrow⟩ := h1.b4
    obtain ⟨vA, vc, rfl, -, -, -⟩ := own_len hrow
    have hones := h1.ones
    rw [List.take_length] at hones hrow
    have hE : getE l = 0 := by simp only [getE]; rw [if_neg (by have := HN.out; omega), if_neg (by have := HN.out; omega), if_pos hones]
    have hL : getL l = (pcs l).map inOf := by simp only [getL]; rw [if_pos hE]
    have hLl : (getL l).length = (pcs l).length := by rw [hL, List.length_map]
    rw [← hL] at hrow
    rw [← hLl] at hrow hb4
    have r4 := hb4.cell 0
    have r2 := h1.b2.cell 0
    have r3 := h1.b3.cell 0
    have f2 := h1.b2.frozen 0
    have f3 := h1.b3.frozen 0
    simp only [List.getElem?_toArray, List.getElem?_cons_zero] at r2 r3 r4
    have H1 := Lib.hid h1
    have HB4 := Lib.hid hb4
    have HROW := Lib.hid hrow
    have HE := Lib.hid hE
    have HK := Lib.hid hK
    clear h1 hb4 hrow hE hL hLl hS hones hK
    obtain ⟨m, hm⟩ : ∃ m, (getL l).length = m := ⟨_, rfl⟩
    rw [hm] at r4 HB4 HROW
    have HM := Lib.hid hm
    clear hm
    go_wp2
    have hDW : D < W.heap.size := (Array.getElem?_eq_some_iff.1 HK.out).1
    have b2 := (H1.out.b2.set_ 0 (.slice vA m vc)).far (p := ⟨w.heap.size + 1, 0, none⟩) (by simp) (.int .i64 0)
    have b3 := (H1.out.b3.far (p := ⟨w.heap.size, 0, none⟩) (by simp) (.slice vA m vc)).set_ 0 (.int .i64 0)
    have hK3 : ((W.setCell ⟨w.heap.size, 0, none⟩ (.slice vA m vc)).setCell ⟨w.heap.size + 1, 0, none⟩ (.int .i64 0)).heap[D]? = some (.deferred (some [])) :=
      (Below.heap_setCell _ _ _ D (fun e => cells_ne (H1.out.b3) HK.out rfl e.symm)).trans ((Below.heap_setCell _ _ _ D (fun e => cells_ne (H1.out.b2) HK.out rfl e.symm)).trans HK.out)
    have hch : Ch (fun j => j = w.heap.size ∨ j = w.heap.size + 1) W ((W.setCell ⟨w.heap.size, 0, none⟩ (.slice vA m vc)).setCell ⟨w.heap.size + 1, 0, none⟩ (.int .i64 0)) :=
      ((Ch.refl (fun j => j = w.heap.size ∨ j = w.heap.size + 1) W).setCell (p := ⟨w.heap.size, 0, none⟩) (fun _ => Or.inl rfl) _).setCell (p := ⟨w.heap.size + 1, 0, none⟩) (fun _ => Or.inr rfl) _
    have hrow4 := own_ch HROW.out hch (fun j hj e => by
      rcases e with e | e
      · exact own_blk_ne HROW.out H1.out.b2 (by decide) (hj.trans (congrArg some e))
      · exact own_blk_ne HROW.out H1.out.b3 (by decide) (hj.trans (congrArg some e)))
    have hN4 : New w ((W.setCell ⟨w.heap.size, 0, none⟩ (.slice vA m vc)).setCell ⟨w.heap.size + 1, 0, none⟩ (.int .i64 0)) := Below.setCell (Below.setCell H1.out.new (p := ⟨w.heap.size, 0, none⟩) (Nat.le_refl _) _) (p := ⟨w.heap.size + 1, 0, none⟩) (Nat.le_succ _) _
    generalize ((W.setCell ⟨w.heap.size, 0, none⟩ (.slice vA m vc)).setCell ⟨w.heap.size + 1, 0, none⟩ (.int .i64 0)) = w4 at *
    refine ⟨by simp, .inl ⟨_, _, rfl, run_takeDeferred hK3, ?_⟩⟩
    have hc2 : (w4.putObj D (.deferred none)).cell? ⟨w.heap.size, 0, none⟩ = some (.slice vA m vc) := ((blk_put b2 (.deferred none) hK3 rfl).cell 0).trans rfl
    have hc3 : (w4.putObj D (.deferred none)).cell? ⟨w.heap.size + 1, 0, none⟩ = some (.int .i64 0) := ((blk_put b3 (.deferred none) hK3 rfl).cell 0).trans rfl
    refine ⟨.tuple #[.slice vA m vc, .int .i64 0], by simp [results, Tryd.results10, go_sem, hc2, hc3], ?_⟩
    refine ⟨vA, vc, by rw [HE.out, HM.out], ?_, new_put _ hN4 (by omega)⟩
    rw [HM.out]
    exact own_ch hrow4 (ch_put _) (own_ne hrow4 hK3 rfl)
  case stop =>
    rintro D xs W hD h1 hK
    have hE : getE l = 4 := by simp only [getE]; rw [if_neg (by have := HN.out; omega), if_neg (by have := HN.out; omega), if_neg (by rw [h1.bad]; simp)]
    have HE := Lib.hid hE
    have H1 := Lib.hid h1
    have HK := Lib.hid hK
    clear hE h1 hK
    gi_wp2
    have hc2 : (W.putObj D (.deferred none)).cell? ⟨w.heap.size, 0, none⟩ = some (.slice none 0 0) := ((blk_put H1.out.b2 (.deferred none) HK.out rfl).cell 0).trans rfl
    have hc3 : (W.putObj D (.deferred none)).cell? ⟨w.heap.size + 1, 0, none⟩ = some (.int .i64 4) := ((blk_put H1.out.b3 (.deferred none) HK.out rfl).cell 0).trans rfl
    refine ⟨by simp, .inl ⟨_, _, rfl, run_takeDeferred HK.out, ?_⟩⟩
    refine ⟨.tuple #[.slice none 0 0, .int .i64 4], by simp [results, Tryd.results10, go_sem, hc2, hc3], ?_⟩
    exact getD_no HE.out (by decide) (new_put _ H1.out.new (by omega))
end Go.Proofs.YtmkonhfgmkdhoaaDoor.ins
