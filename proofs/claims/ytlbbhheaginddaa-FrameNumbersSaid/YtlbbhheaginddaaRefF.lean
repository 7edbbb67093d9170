/-
  The document's frames: one, Put.
-/
import Derived.Test.YtlbbhheaginddaaHead
namespace Go.Proofs.Ytlbbhheaginddaa.fr
open Go.RowKit Go.Proofs.Ytlbbhheaginddaa.mem Go.Proofs.Ytlbbhheaginddaa.kit Go.Proofs.Ytlbbhheaginddaa.wire Go.Proofs.Ytlbbhheaginddaa.crc
set_option linter.unusedVariables false

theorem fzr {W : World} {g : Nat} {a b : Value} (h : Blk W g 36 #[a, b]) : W.cell? ⟨g, 0, none⟩ = some a ∧ W.cell? ⟨g, 1, none⟩ = some b ∧ W.frozen? ⟨g, 0, none⟩ = false ∧ W.frozen? ⟨g, 1, none⟩ = false := ⟨h.cell 0, h.cell 1, h.frozen 0, h.frozen 1⟩
theorem ac_len {w0 w : World} {v : Value} {z : List UInt8} (h : Ac w0 v z w) : ∃ A m c, v = .slice A m c ∧ m = z.length ∧ Ac w0 (.slice A m c) z w := by
  obtain ⟨A, c, rfl, -, -, -⟩ := own_len h.own
  exact ⟨A, _, c, rfl, rfl, h⟩
theorem ac_five {w0 w : World} {v : Value} {l : List UInt8} {n : Nat} (hn : l.length = n) (h : Ac w0 v ([] ++ l) w) : ∃ A c, v = .slice A n c ∧ Ac w0 (.slice A n c) ([] ++ l) w := by
  have ho := h.own
  rw [List.nil_append, hn] at ho
  obtain ⟨A, c, rfl, -, -, hr⟩ := own_len ho
  exact ⟨A, c, rfl, h⟩
theorem ac_data {w0 w : World} {v : Value} {l d : List UInt8} {n m : Nat} (hl : l.length = n) (hd : m = d.length) (h : Ac w0 v (([] ++ l) ++ d) w) : ∃ A c, v = .slice A (n + m) c ∧ Reads w w.heap.size 1 A (n + m) (vb (([] ++ l) ++ d)) := by
  have ho := h.own
  rw [List.length_append, List.nil_append, hl, ← hd] at ho
  obtain ⟨A, c, rfl, -, -, hr⟩ := own_len ho
  exact ⟨A, c, rfl, by rw [List.nil_append]; exact hr⟩

set_option maxRecDepth 100000 in
set_option maxHeartbeats 4000000 in
theorem one_any (f : Fr) (A : Option Addr) (n c : Nat) (w : World) (hn : n = f.2.length) (hl : f.2.length ≤ 262144) (hA : Reads w w.heap.size 1 A n (vb f.2)) :
    Calls Try.prog 23 #[.agg #[.int .i64 (f.1.toNat : Int), .slice A n c]] w (Got w (fb f)) := by
  have hk := f.1.toNat_lt
  have hn0 := alloc_new w (.cells #[.int .i64 (f.1.toNat : Int), .slice A n c] 36)
  have HB := Lib.hid (Blk.new w 36 #[.int .i64 (f.1.toNat : Int), .slice A n c])
  have HA := Lib.hid (hA.new hn0)
  have HN := Lib.hid hn
  have H5 : Hid (head5 f = [f.1] ++ be4 n) := Lib.hid (by rw [hn]; rfl)
  have hnl : n ≤ 262144 := by omega
  have hn32 : n < 4294967296 := by omega
  have hBO : ∀ W, Calls Try.prog 37 #[.int .u32 n] W (Got W (be4 n)) := fun W => four_any n W hn32
  have hB4 : (be4 n).length = 4 := rfl
  generalize be4 n = Bs at H5 hBO hB4
  have HBO := Lib.hid hBO
  have HB4 := Lib.hid hB4
  clear hBO hB4
  obtain ⟨kn, hkn⟩ : ∃ kn, f.1.toNat = kn := ⟨_, rfl⟩
  have HKN := Lib.hid hkn
  rw [hkn] at hk hn0 HB HA ⊢
  clear hkn hA hn hl
  have hw8 : IntKind.u8.wrap (kn : Int) = (kn : Int) := IntWalk.u8_in _ (by omega)
  have hw32 : IntKind.u32.wrap (n : Int) = (n : Int) := IntWalk.u32_in _ (by omega)
  go_enter Try.func23, Try.ntmps23
  go_wp2
  have hb0 := HB.out
  have ha0 := HA.out
  clear HB HA
  generalize (w.alloc (.cells #[.int .i64 (kn : Int), .slice A n c] 36)) = W0 at *
  have HB := Lib.hid hb0
  have HA := Lib.hid ha0
  have HN0 := Lib.hid hn0
  clear hb0 ha0 hn0
  go_cut [3] (fun s3 wx => ∃ A3 c3, s3 = .slice A3 5 c3 ∧ Ac W0 (.slice A3 5 c3) ([f.1] ++ Bs) wx ∧ Reads wx wx.heap.size 1 A3 5 (vb ([f.1] ++ Bs)))
  case first =>
    obtain ⟨x0, x1, -, -⟩ := fzr HB.out
    have hM3 : Ac W0 (.slice (some ⟨W0.heap.size, 0, none⟩) 1 1) [f.1] (W0.alloc (.cells #[.int .u8 (kn : Int)] 5)).drew := (Ac.one W0 W0 f.1 (kn : Int) (by rw [HKN.out]) (new_refl _)).drew
    have HC1 := Lib.hid (Ac.call hM3 (HBO.out (W0.alloc (.cells #[.int .u8 (kn : Int)] 5)).drew))
    have HC2 : Hid (Calls Try.prog 37 #[.int .u32 n] W0.drew (fun e w' => ∃ A c, e = .returned (.slice A Bs.length c) ∧ New W0 w' ∧ Ac W0 (.slice (some ⟨w'.heap.size, 0, none⟩) 1 1) [f.1] (w'.alloc (.cells #[.int .u8 (kn : Int)] 5)) ∧ Reads (w'.alloc (.cells #[.int .u8 (kn : Int)] 5)) (w'.alloc (.cells #[.int .u8 (kn : Int)] 5)).heap.size 1 A Bs.length (vb Bs))) :=
      Lib.hid ((HBO.out W0.drew).mono fun e w' k => by
        obtain ⟨A, c, rfl, ho, hn⟩ := k
        have hN : New W0 w' := New.then (Below.drew (new_refl _)) hn
        exact ⟨A, c, rfl, hN, Ac.one W0 w' f.1 (kn : Int) (by rw [HKN.out]) hN, (own_typed ho).2.1.new (alloc_new w' _)⟩)
    clear hM3
    have HLB : Hid ([f.1].length + Bs.length ≤ 1099511627776) := Lib.hid (by rw [HB4.out]; simp)
    go_region_held3 (fun w' => w'.cell? ⟨w.heap.size, 0, none⟩ = some (.int .i64 (kn : Int)) ∧ w'.cell? ⟨w.heap.size, 1, none⟩ = some (.slice A n c))
      (go_keep)
      (first
        | (go_at_call 37; (with_reducible refine HC1.out.mono ?_); rintro e w4 ⟨A4, c4, rfl, hM4, hr4⟩; obtain ⟨s0, s1, -, -⟩ := fzr (HB.out.below hM4.new HB.out.lt))
        | (go_at_call 37; (with_reducible refine HC2.out.mono ?_); rintro e w4 ⟨A4, c4, rfl, hN4, hM4, hr4⟩; obtain ⟨s0, s1, -, -⟩ := fzr (HB.out.below hN4 HB.out.lt))
        | (refine step_ac (by rfl) (.tmp 8) (.tmp 13) (by rfl) hM4 (by rfl) (by rfl) hr4 HLB.out ?_; intro v5 w5 hM5; obtain ⟨s0, s1, -, -⟩ := fzr (HB.out.below hM5.new HB.out.lt)))
    all_goals go_wp2_with fail
    all_goals go_meet
    all_goals
      obtain ⟨A9, c9, e9, hr9⟩ := reads_ac hM5
      have h5 : ([f.1] ++ Bs).length = 5 := by rw [List.length_append, HB4.out]; rfl
      rw [h5] at e9 hr9
      subst e9
      exact ⟨A9, c9, rfl, hM5, hr9⟩
  case rest =>
    obtain ⟨A3, c3, rfl, hM, hr3⟩ := hcut
    obtain ⟨W1, rfl⟩ : ∃ W1 : World, W1 = wc := ⟨_, rfl⟩
    have HB1 := Lib.hid (HB.out.below hM.new HB.out.lt)
    have HAD := Lib.hid (HA.out.new hM.new)
    have HF5 : Hid (Reads W1 W1.heap.size 1 A3 5 (vb ([f.1] ++ Bs))) := Lib.hid hr3
    have h5 : ([f.1] ++ Bs).length = 5 := by rw [List.length_append, HB4.out]; rfl
    have H5L := Lib.hid h5
    have hx : crc (([] ++ ([f.1] ++ Bs)) ++ f.2) = crc (head5 f ++ f.2) := by rw [H5.out, List.nil_append]
    have HX := Lib.hid hx
    have H9 : Hid (fb f = (([f.1] ++ Bs) ++ be4 (crc (head5 f ++ f.2))) ++ f.2) := Lib.hid (by unfold fb head9; rw [← H5.out])
    have hxl := crc_lt (head5 f ++ f.2)
    have HSU : Hid (∀ (W : World) (A6 : Option Addr) (c6 : Nat), Reads W W.heap.size 1 A6 (5 + n) (vb (([] ++ ([f.1] ++ Bs)) ++ f.2)) → Calls Try.prog 38 #[.slice A6 (5 + n) c6] W fun e w' => e = .returned (.int .u32 (crc (head5 f ++ f.2) : Nat)) ∧ W = w') := Lib.hid (fun W A6 c6 hr => by
      have hl : (([] ++ ([f.1] ++ Bs)) ++ f.2).length = 5 + n := by rw [List.nil_append, List.length_append, h5, ← HN.out]
      have h := rsum_any A6 c6 (([] ++ ([f.1] ++ Bs)) ++ f.2) W (by rw [hl]; omega) (by rw [hl]; exact hr)
      rw [hl, hx] at h
      exact h)
    generalize crc (head5 f ++ f.2) = x at HSU H9 hxl
    have hBO2 : ∀ W, Calls Try.prog 37 #[.int .u32 x] W (Got W (be4 x)) := fun W => four_any x W hxl
    have hB24 : (be4 x).length = 4 := rfl
    generalize be4 x = B2 at H9 hBO2 hB24
    have HBO2 := Lib.hid hBO2
    have HB24 := Lib.hid hB24
    have HM := Lib.hid hM
    clear hBO2 hB24 hx hM hr3 h5
    go_wp2_with fail
    go_cut [4] (fun s4 wx => s4 = .int .u32 x ∧ New W1 wx)
    case first =>
      have hMd : Ac W1 (.slice (some ⟨W1.heap.size, 0, none⟩) 0 0) [] (W1.alloc (.cells #[] 5)).drew := (Ac.made W1 W1 (new_refl W1)).drew
      have HMD := Lib.hid hMd
      obtain ⟨s0, s1, -, -⟩ := fzr HB1.out
      clear hMd
      go_region_held3 (fun w' => w'.cell? ⟨w.heap.size, 0, none⟩ = some (.int .i64 (kn : Int)) ∧ w'.cell? ⟨w.heap.size, 1, none⟩ = some (.slice A n c))
        (go_keep)
        (first
          | (refine step_ac (w0 := W1) (z := []) (l := [f.1] ++ Bs) (by rfl) (.tmp 15) (.tmp 16) (by rfl) HMD.out (by rfl) (by rw [H5L.out]; rfl) (by rw [H5L.out]; exact Reads.new HF5.out HMD.out.new) (by rw [H5L.out]; simp) ?_; intro v5 w5 hM5; obtain ⟨A5, c5, rfl, hM5⟩ := ac_five H5L.out hM5; have HM5 := Lib.hid hM5; obtain ⟨s0, s1, -, -⟩ := fzr (HB1.out.below hM5.new HB1.out.lt); clear hM5)
          | (refine step_ac (w0 := W1) (z := [] ++ ([f.1] ++ Bs)) (l := f.2) (by rfl) (.tmp 17) (.tmp 19) (by rfl) HM5.out (by rfl) (by rw [← HN.out]; rfl) (by rw [← HN.out]; exact HAD.out.new HM5.out.new) (by rw [List.nil_append, H5L.out, ← HN.out]; omega) ?_; intro v6 w6 hM6; obtain ⟨A6, c6, rfl, hr6⟩ := ac_data H5L.out HN.out hM6; have HN6 := Lib.hid hM6.new; have HSU6 := Lib.hid (HSU.out w6 A6 c6 hr6); obtain ⟨s0, s1, -, -⟩ := fzr (HB1.out.below hM6.new HB1.out.lt); clear hM6 hr6)
          | (go_at_call 38; (with_reducible refine HSU6.out.mono ?_); rintro e w7 ⟨rfl, rfl⟩; obtain ⟨s0, s1, -, -⟩ := fzr (HB1.out.below HN6.out HB1.out.lt)))
      all_goals go_wp2_with fail
      all_goals go_meet
      all_goals exact ⟨rfl, HN6.out⟩
    case rest =>
      obtain ⟨rfl, hn2⟩ := hcut
      obtain ⟨W2, rfl⟩ : ∃ W2 : World, W2 = wc := ⟨_, rfl⟩
      have HB2 := Lib.hid (HB1.out.below hn2 HB1.out.lt)
      have HAD2 := Lib.hid (HAD.out.new hn2)
      have HM2 := Lib.hid (HM.out.keep hn2)
      have HC4 := Lib.hid (Ac.call (HM2.out.drew) (HBO2.out W2.drew))
      obtain ⟨s0, s1, -, -⟩ := fzr HB2.out
      clear hn2
      go_wp2_with fail
      go_region_held3 (fun w' => w'.cell? ⟨w.heap.size, 0, none⟩ = some (.int .i64 (kn : Int)) ∧ w'.cell? ⟨w.heap.size, 1, none⟩ = some (.slice A n c))
        (go_keep)
        (first
          | (go_at_call 37; (with_reducible refine HC4.out.mono ?_); rintro e w7 ⟨A7, c7, rfl, hM7, hr7⟩; have HM7 := Lib.hid hM7; have HR7 := Lib.hid hr7; obtain ⟨s0, s1, -, -⟩ := fzr (HB.out.below hM7.new HB.out.lt); clear hM7 hr7)
          | (refine step_ac (w0 := W0) (z := [f.1] ++ Bs) (l := B2) (by rfl) (.tmp 22) (.tmp 24) (by rfl) HM7.out (by rfl) (by rfl) HR7.out (by rw [H5L.out, HB24.out]; omega) ?_; intro v8 w8 hM8; obtain ⟨A8, c8, rfl, -⟩ := reads_ac hM8; have HM8 := Lib.hid hM8; obtain ⟨s0, s1, -, -⟩ := fzr (HB.out.below hM8.new HB.out.lt); clear hM8)
          | (refine step_ac (w0 := W0) (z := ([f.1] ++ Bs) ++ B2) (l := f.2) (by rfl) (.tmp 25) (.tmp 27) (by rfl) HM8.out (by rfl) (by rw [← HN.out]; rfl) (by rw [← HN.out]; exact HA.out.new HM8.out.new) (by rw [List.length_append, H5L.out, HB24.out, ← HN.out]; omega) ?_; intro v9 w9 hM9; obtain ⟨A9, m9, c9, rfl, hm9, hM9⟩ := ac_len hM9; have HM9 := Lib.hid hM9; have HL9 := Lib.hid hm9; obtain ⟨s0, s1, -, -⟩ := fzr (HB.out.below hM9.new HB.out.lt); clear hM9 hm9)
          | fail)
      all_goals go_wp2_with fail
      all_goals go_ret
      all_goals
        have e9 := HL9.out
        have o9 := own_base HM9.out.own HN0.out.size
        rw [← H9.out] at e9 o9
        subst e9
        exact Got.mk o9 (New.then HN0.out HM9.out.new)
end Go.Proofs.Ytlbbhheaginddaa.fr
