/-
  The document's Parse: an instruction, questions.
-/
import Derived.Test.YtddojdgnakajmaaGreatDoorPm
import Derived.BigRegion
namespace Go.Proofs.YtddojdgnakajmaaGreatDoor.txt
open Go.RowKit Go.Proofs.YtddojdgnakajmaaGreatDoor.mem Go.Proofs.YtddojdgnakajmaaGreatDoor.kit Go.Proofs.YtddojdgnakajmaaGreatDoor.ins
set_option linter.unusedVariables false
set_option linter.unusedSimpArgs false

def w_jeq (s : Ls) (o : Int) (n : Bool) (u : Bs) (s1 : Ls) : Prop := ∃ d s3, (∀ m, regOf (nx (tkS s)) = some m → d = m) ∧ Sec (mustS [44] (inI (regS (tkS s)) ⟨o, n, d, 0, false, 0, 0, 0⟩)) s3 ∧ ToR (mustS [44] s3) u s1
set_option maxRecDepth 100000 in
set_option maxHeartbeats 8000000 in
theorem rinst_jeq (g : Nat) (s : Ls) (o : Int) (n : Bool) (w : World) (h : SL0 g s w) (hk : s.k ≤ 100) (ho : OpIs (nx s) o n) (h17 : 17 ≤ o) (h27 : o ≤ 27) :
    Calls Tryz.prog 52 #[.pointer (some ⟨g, 0, none⟩)] w (InstD g (WayD (w_jeq s o n) s) w) := by
  have HR0 := Lib.hid (Blk.new w 41 (icell zI))
  have k0 : s.k ≤ 1000 := by omega
  have HT : Hid (Calls Tryz.prog 108 #[.pointer (some ⟨g, 0, none⟩)] (w.alloc (.cells #[.int .u8 0, .bool false, .int .i64 0, .int .i64 0, .bool false, .int .i64 0, .int .i64 0, .int .i64 0] 41)) (LsD ⟨w.alloc (.cells #[.int .u8 0, .bool false, .int .i64 0, .int .i64 0, .bool false, .int .i64 0, .int .i64 0, .int .i64 0] 41), g, w.heap.size⟩ (.string ⟨(nx s).toArray⟩) (tkS (inI s zI)))) := Lib.hid (ltake_any _ (inI s zI) _ h.start k0)
  have HO : Hid (∀ W, Calls Tryz.prog 109 #[.string ⟨(nx s).toArray⟩] W fun e w' => e = .returned (.tuple #[.int .u8 o, .bool n]) ∧ New W w') := Lib.hid (fun W => rop_is (nx s) o n W ho)
  have HRG : Hid (∀ gi W s1, s1.k ≤ 1000 → SL ⟨w.alloc (.cells #[.int .u8 0, .bool false, .int .i64 0, .int .i64 0, .bool false, .int .i64 0, .int .i64 0, .int .i64 0] 41), g, gi⟩ s1 W → Calls Tryz.prog 110 #[.pointer (some ⟨g, 0, none⟩)] W (LregD ⟨w.alloc (.cells #[.int .u8 0, .bool false, .int .i64 0, .int .i64 0, .bool false, .int .i64 0, .int .i64 0, .int .i64 0] 41), g, gi⟩ s1)) := Lib.hid (fun gi W s1 h1 h2 => lreg_any _ s1 W h2 h1)
  have HMU : Hid (∀ gi W s1 x, s1.k ≤ 1000 → SL ⟨w.alloc (.cells #[.int .u8 0, .bool false, .int .i64 0, .int .i64 0, .bool false, .int .i64 0, .int .i64 0, .int .i64 0] 41), g, gi⟩ s1 W → Calls Tryz.prog 111 #[.pointer (some ⟨g, 0, none⟩), .string ⟨x.toArray⟩] W (LsD ⟨w.alloc (.cells #[.int .u8 0, .bool false, .int .i64 0, .int .i64 0, .bool false, .int .i64 0, .int .i64 0, .int .i64 0] 41), g, gi⟩ (.tuple #[]) (mustS x s1))) := Lib.hid (fun gi W s1 x h1 h2 => lmust_any _ s1 x W h2 h1)
  have HSE : Hid (∀ gi W s1, s1.k ≤ 900 → SL ⟨w.alloc (.cells #[.int .u8 0, .bool false, .int .i64 0, .int .i64 0, .bool false, .int .i64 0, .int .i64 0, .int .i64 0] 41), g, gi⟩ s1 W → Calls Tryz.prog 112 #[.pointer (some ⟨g, 0, none⟩), .pointer (some ⟨gi, 0, none⟩)] W (SecD ⟨w.alloc (.cells #[.int .u8 0, .bool false, .int .i64 0, .int .i64 0, .bool false, .int .i64 0, .int .i64 0, .int .i64 0] 41), g, gi⟩ s1)) := Lib.hid (fun gi W s1 h1 h2 => lsecond_any ⟨w.alloc (.cells #[.int .u8 0, .bool false, .int .i64 0, .int .i64 0, .bool false, .int .i64 0, .int .i64 0, .int .i64 0] 41), g, gi⟩ s1 W h2 h1)
  have HCE : Hid (∀ gi W s1, s1.k ≤ 800 → SL ⟨w.alloc (.cells #[.int .u8 0, .bool false, .int .i64 0, .int .i64 0, .bool false, .int .i64 0, .int .i64 0, .int .i64 0] 41), g, gi⟩ s1 W → Calls Tryz.prog 115 #[.pointer (some ⟨g, 0, none⟩), .pointer (some ⟨gi, 0, none⟩)] W (CelE ⟨w.alloc (.cells #[.int .u8 0, .bool false, .int .i64 0, .int .i64 0, .bool false, .int .i64 0, .int .i64 0, .int .i64 0] 41), g, gi⟩ s1)) := Lib.hid (fun gi W s1 h1 h2 => lcell_e ⟨w.alloc (.cells #[.int .u8 0, .bool false, .int .i64 0, .int .i64 0, .bool false, .int .i64 0, .int .i64 0, .int .i64 0] 41), g, gi⟩ s1 W h2 h1)
  have HTO : Hid (∀ gi W s1, s1.k ≤ 800 → SL ⟨w.alloc (.cells #[.int .u8 0, .bool false, .int .i64 0, .int .i64 0, .bool false, .int .i64 0, .int .i64 0, .int .i64 0] 41), g, gi⟩ s1 W → Calls Tryz.prog 113 #[.pointer (some ⟨g, 0, none⟩), .pointer (some ⟨gi, 0, none⟩)] W (ToE ⟨w.alloc (.cells #[.int .u8 0, .bool false, .int .i64 0, .int .i64 0, .bool false, .int .i64 0, .int .i64 0, .int .i64 0] 41), g, gi⟩ s1)) := Lib.hid (fun gi W s1 h1 h2 => lto_e ⟨w.alloc (.cells #[.int .u8 0, .bool false, .int .i64 0, .int .i64 0, .bool false, .int .i64 0, .int .i64 0, .int .i64 0] 41), g, gi⟩ s1 W h2 h1)
  have HSZ : Hid (∀ W v, v.length ≤ 1000 → PowT W → Calls Tryz.prog 114 #[.string ⟨(nx s).toArray⟩, .string ⟨v.toArray⟩] W fun e w' => e = .returned (.int .i64 (szM (nx s) v)) ∧ New W w') := Lib.hid (fun W v hv hP => rsized_any (nx s) v W hv hP)
  have hg : g < w.heap.size := by obtain ⟨_, _, hb, _⟩ := h.row; exact hb.lt
  have hl4 : ([108, 111, 97, 100] : Bs).length ≤ 1000 := by decide
  have hl3 : ([112, 117, 116] : Bs).length ≤ 1000 := by decide
  have q1 : ∀ o n, (inI (tkS (inI s zI)) ⟨o, n, 0, 0, false, 0, 0, 0⟩).k ≤ 1000 := fun o n => by show s.k + 1 ≤ 1000; omega
  have q2 : ∀ i, (inI (regS (tkS s)) i).k ≤ 1000 := fun i => by show s.k + 1 + 1 ≤ 1000; omega
  have q3 : ∀ i, (mustS [44] (inI (regS (tkS s)) i)).k ≤ 900 := fun i => by show s.k + 1 + 1 + 1 ≤ 900; omega
  have o1 : ¬ o = 13 := by omega
  have q4 : ∀ i s3, Sec (mustS [44] (inI (regS (tkS s)) i)) s3 → s3.k ≤ 1000 := fun i s3 h3 => by have := h3.kle; have e : (mustS [44] (inI (regS (tkS s)) i)).k = s.k + 1 + 1 + 1 := rfl; omega
  have q5 : ∀ i s3, Sec (mustS [44] (inI (regS (tkS s)) i)) s3 → (mustS [44] s3).k ≤ 800 := fun i s3 h3 => by have := h3.kle; have e : (mustS [44] (inI (regS (tkS s)) i)).k = s.k + 1 + 1 + 1 := rfl; show s3.k + 1 ≤ 800; omega
  clear h ho 
  go_enter Tryz.func52, Tryz.ntmps52
  go_wp2_with (first
    | (go_at_call 108; (with_reducible refine HT.out.mono ?_); rintro e w1 ⟨rfl, h1⟩; have HW1 := Lib.hid h1.ch.size; have H2 : Hid (SL ⟨w.alloc (.cells #[.int .u8 0, .bool false, .int .i64 0, .int .i64 0, .bool false, .int .i64 0, .int .i64 0, .int .i64 0] 41), g, w1.heap.size⟩ (inI (tkS (inI s zI)) zI) (w1.alloc (.cells #[.int .u8 0, .bool false, .int .i64 0, .int .i64 0, .bool false, .int .i64 0, .int .i64 0, .int .i64 0] 41))) := Lib.hid (h1.again HR0.out zI); clear h1)
    | (go_at_call 109; (with_reducible refine (HO.out _).mono ?_); rintro e w3 ⟨rfl, hn3⟩; have h3 := H2.out.new hn3; obtain ⟨⟨p0, z0⟩, p1, z1⟩ := h3.i0; have h4 := h3.seti 0 (.int .u8 o) ⟨o, false, 0, 0, false, 0, 0, 0⟩ rfl; have h5 : SL ⟨w.alloc (.cells #[.int .u8 0, .bool false, .int .i64 0, .int .i64 0, .bool false, .int .i64 0, .int .i64 0, .int .i64 0] 41), g, w1.heap.size⟩ (inI (tkS (inI s zI)) ⟨o, n, 0, 0, false, 0, 0, 0⟩) ((w3.setCell ⟨w1.heap.size, 0, none⟩ (.int .u8 o)).setCell ⟨w1.heap.size, 1, none⟩ (.bool n)) := h4.seti 1 (.bool n) ⟨o, n, 0, 0, false, 0, 0, 0⟩ rfl; have H5 := Lib.hid h5; obtain ⟨⟨y0, yz0⟩, -, -⟩ := h5.i0; change World.cell? _ _ = some (.int .u8 o) at y0; clear hn3 h3 h4 h5)
    | (go_at_call 110; (with_reducible refine (HRG.out w1.heap.size _ _ (q1 _ _) H5.out).mono ?_); rintro e w6 ⟨d, rfl, hi6, hm6, h6⟩; have HM := Lib.hid hm6; obtain ⟨x2, xz2⟩ := h6.i2; have H7 : Hid (SL ⟨w.alloc (.cells #[.int .u8 0, .bool false, .int .i64 0, .int .i64 0, .bool false, .int .i64 0, .int .i64 0, .int .i64 0] 41), g, w1.heap.size⟩ (inI (regS (tkS s)) ⟨o, n, d, 0, false, 0, 0, 0⟩) (w6.setCell ⟨w1.heap.size, 2, none⟩ (.int .i64 d))) := Lib.hid (h6.seti 2 (.int .i64 d) ⟨o, n, d, 0, false, 0, 0, 0⟩ rfl); clear hi6 hm6 h6)
    | (go_at_call 111; (with_reducible refine (HMU.out w1.heap.size _ _ [44] (q2 _) H7.out).mono ?_); rintro e w8 ⟨rfl, h8⟩; have H8 := Lib.hid h8; clear h8)
    | (go_at_call 112; (with_reducible refine (HSE.out w1.heap.size _ _ (q3 _) H8.out).mono ?_); rintro e w9 ⟨rfl, s3, hs3r, h9⟩; have H9 := Lib.hid h9; have Hs3R := Lib.hid hs3r; clear h9)
    | (go_at_call 111; (with_reducible refine (HMU.out w1.heap.size _ _ [44] (q4 _ _ Hs3R.out) H9.out).mono ?_); rintro e w10 ⟨rfl, h8⟩; have H10 := Lib.hid h8; clear h8)
    | (go_at_call 113; (with_reducible refine (HTO.out w1.heap.size _ _ (q5 _ _ Hs3R.out) H10.out).mono ?_); rintro e w11 ⟨u, s4, rfl, ht, h9⟩; have H11 := Lib.hid h9; have HTR := Lib.hid ht; clear ht h9))
  obtain ⟨w7, hw7⟩ : ∃ w7, w7 = w11 := ⟨_, rfl⟩
  obtain ⟨sF, hsF⟩ : ∃ sF, sF = s4 := ⟨_, rfl⟩
  have HF : Hid (SL ⟨w.alloc (.cells #[.int .u8 0, .bool false, .int .i64 0, .int .i64 0, .bool false, .int .i64 0, .int .i64 0, .int .i64 0] 41), g, w1.heap.size⟩ sF w7) := Lib.hid (by rw [hw7, hsF]; exact H11.out)
  have hway : ∃ d s3, (∀ m, regOf (nx (tkS s)) = some m → d = m) ∧ Sec (mustS [44] (inI (regS (tkS s)) ⟨o, n, d, 0, false, 0, 0, 0⟩)) s3 ∧ ToR (mustS [44] s3) u sF := by rw [hsF]; exact ⟨d, s3, HM.out, Hs3R.out, HTR.out⟩
  rw [← hw7]
  clear hw7 hsF
  have HWAY := Lib.hid hway
  clear HT HO HRG HMU HSE HCE HTO HSZ H2 hway
  obtain ⟨v, base, hrow, hown⟩ := HF.out.row
  obtain ⟨A, c, rfl, hc1, hc2, -⟩ := own_len hown
  have f0 : w7.cell? ⟨g, 0, none⟩ = some (.slice A sF.ts.length c) := (hrow.cell 0).trans rfl
  have f1 : w7.cell? ⟨g, 1, none⟩ = some (.int .i64 (sF.k : Int)) := (hrow.cell 1).trans rfl
  have f2 : w7.cell? ⟨g, 2, none⟩ = some (.bool sF.bad) := (hrow.cell 2).trans rfl
  have fz := hrow.frozen 2
  clear hrow hown
  obtain ⟨b, hb⟩ : ∃ b, sF.bad = b := ⟨_, rfl⟩
  obtain ⟨kk, hkk⟩ : ∃ kk, sF.k = kk := ⟨_, rfl⟩
  obtain ⟨nn, hnn⟩ : ∃ nn, sF.ts.length = nn := ⟨_, rfl⟩
  obtain ⟨⟨jo, jn, jd, js, ju, jf, jm, jz⟩, hj⟩ : ∃ j, sF.i = j := ⟨_, rfl⟩
  rw [hb] at f2
  rw [hkk] at f1
  rw [hnn] at f0
  have HB := Lib.hid hb
  have HKK := Lib.hid hkk
  have HNN := Lib.hid hnn
  have HJ := Lib.hid hj
  clear hb hkk hnn hj
  have hfin : ∀ B : Bool, badS sF B = badS sF (decide (sF.k ≠ sF.ts.length)) → Hid (SL ⟨w.alloc (.cells #[.int .u8 0, .bool false, .int .i64 0, .int .i64 0, .bool false, .int .i64 0, .int .i64 0, .int .i64 0] 41), g, w1.heap.size⟩ (badS sF B) (w7.setCell ⟨g, 2, none⟩ (.bool (sF.bad || B)))) → Hid (Blk (w7.setCell ⟨g, 2, none⟩ (.bool (sF.bad || B))) w.heap.size 41 (icell zI)) →
      InstD g (WayD (w_jeq s o n) s) w (.returned (.tuple #[.agg #[.int .u8 jo, .bool jn, .int .i64 jd, .int .i64 js, .bool ju, .int .i64 jf, .int .i64 jm, .int .i64 jz], .string ⟨u.toArray⟩])) ((w7.setCell ⟨g, 2, none⟩ (.bool (sF.bad || B))).drew.setRow w.heap.size #[.int .u8 jo, .bool jn, .int .i64 jd, .int .i64 js, .bool ju, .int .i64 jf, .int .i64 jm, .int .i64 jz]) := by
    intro B hB H9 HR8
    obtain ⟨q1, q2⟩ := H9.out.done HR8.out rfl (new1 w _) (Nat.le_refl _) (by have := HW1.out; rw [World.size_alloc] at this; omega) s.i
    exact ⟨⟨jo, jn, jd, js, ju, jf, jm, jz⟩, u, inI (badS sF B) s.i, rfl, ⟨sF, HWAY.out, HJ.out.symm, by rw [hB]⟩, q1, q2⟩
  have HFIN := Lib.hid hfin
  clear hfin
  cases b with
  | true =>
    have h9 := HF.out.bad_ true
    have hgi := h9.i
    rw [show (badS sF true).i = sF.i from rfl, HJ.out] at hgi
    have hr8 : Hid (Blk (w7.setCell ⟨g, 2, none⟩ (.bool (sF.bad || true))) w.heap.size 41 (icell zI)) := Lib.hid (HR0.out.ch h9.ch (fun e => e.elim (fun e => by have e2 : w.heap.size = g := e; omega) (fun e => by have e2 : w.heap.size = w1.heap.size := e; have := HW1.out; rw [World.size_alloc] at this; omega)))
    have hf := Lib.hid (HFIN.out true (badS_true HB.out _ _) (Lib.hid h9) hr8)
    rw [show (sF.bad || true) = true by rw [HB.out]; rfl] at hgi hr8 hf
    clear h9
    have e0 : (w7.setCell ⟨g, 2, none⟩ (.bool true)).cell? ⟨w1.heap.size, 0, none⟩ = some (.int .u8 jo) := (hgi.cell 0).trans rfl
    have e1 : (w7.setCell ⟨g, 2, none⟩ (.bool true)).cell? ⟨w1.heap.size, 1, none⟩ = some (.bool jn) := (hgi.cell 1).trans rfl
    have e2 : (w7.setCell ⟨g, 2, none⟩ (.bool true)).cell? ⟨w1.heap.size, 2, none⟩ = some (.int .i64 jd) := (hgi.cell 2).trans rfl
    have e3 : (w7.setCell ⟨g, 2, none⟩ (.bool true)).cell? ⟨w1.heap.size, 3, none⟩ = some (.int .i64 js) := (hgi.cell 3).trans rfl
    have e4 : (w7.setCell ⟨g, 2, none⟩ (.bool true)).cell? ⟨w1.heap.size, 4, none⟩ = some (.bool ju) := (hgi.cell 4).trans rfl
    have e5 : (w7.setCell ⟨g, 2, none⟩ (.bool true)).cell? ⟨w1.heap.size, 5, none⟩ = some (.int .i64 jf) := (hgi.cell 5).trans rfl
    have e6 : (w7.setCell ⟨g, 2, none⟩ (.bool true)).cell? ⟨w1.heap.size, 6, none⟩ = some (.int .i64 jm) := (hgi.cell 6).trans rfl
    have e7 : (w7.setCell ⟨g, 2, none⟩ (.bool true)).cell? ⟨w1.heap.size, 7, none⟩ = some (.int .i64 jz) := (hgi.cell 7).trans rfl
    clear hgi HFIN
    go_region
    all_goals go_wp2_with (refine wpList_store_row rfl 41 _ _ rfl w.heap.size #[.int .u8 jo, .bool jn, .int .i64 jd, .int .i64 js, .bool ju, .int .i64 jf, .int .i64 jm, .int .i64 jz] rfl rfl 41 _ hr8.out.drew ins_size rfl (by simp [Value.oneCell']) ?_)
    refine bodyPost_ret (results_row_tmp rfl _ _ w.heap.size 41 #[.int .u8 jo, .bool jn, .int .i64 jd, .int .i64 js, .bool ju, .int .i64 jf, .int .i64 jm, .int .i64 jz] _ (0, 0) _ rfl rfl (setRow_heap _ _ _ _ _ _ hr8.out.drew) Tryz.underlying41 rfl ins_size) rfl ?_
    exact hf.out
  | false =>
    by_cases hq : kk = nn
    · have u1 : (kk : Int) = (nn : Int) := by omega
      have u2 : ((kk : Int) == (nn : Int)) = true := beq_iff_eq.2 u1
      have u3 : ((kk : Int) != (nn : Int)) = false := by rw [bne, u2]; rfl
      have h9 := HF.out.bad_ false
      have hgi := h9.i
      rw [show (badS sF false).i = sF.i from rfl, HJ.out] at hgi
      have hr8 : Hid (Blk (w7.setCell ⟨g, 2, none⟩ (.bool (sF.bad || false))) w.heap.size 41 (icell zI)) := Lib.hid (HR0.out.ch h9.ch (fun e => e.elim (fun e => by have e2 : w.heap.size = g := e; omega) (fun e => by have e2 : w.heap.size = w1.heap.size := e; have := HW1.out; rw [World.size_alloc] at this; omega)))
      have hf := Lib.hid (HFIN.out false ((by rw [show decide (sF.k ≠ sF.ts.length) = false by rw [HKK.out, HNN.out]; simpa using hq])) (Lib.hid h9) hr8)
      rw [show (sF.bad || false) = false by rw [HB.out]; rfl] at hgi hr8 hf
      clear h9
      have e0 : (w7.setCell ⟨g, 2, none⟩ (.bool false)).cell? ⟨w1.heap.size, 0, none⟩ = some (.int .u8 jo) := (hgi.cell 0).trans rfl
      have e1 : (w7.setCell ⟨g, 2, none⟩ (.bool false)).cell? ⟨w1.heap.size, 1, none⟩ = some (.bool jn) := (hgi.cell 1).trans rfl
      have e2 : (w7.setCell ⟨g, 2, none⟩ (.bool false)).cell? ⟨w1.heap.size, 2, none⟩ = some (.int .i64 jd) := (hgi.cell 2).trans rfl
      have e3 : (w7.setCell ⟨g, 2, none⟩ (.bool false)).cell? ⟨w1.heap.size, 3, none⟩ = some (.int .i64 js) := (hgi.cell 3).trans rfl
      have e4 : (w7.setCell ⟨g, 2, none⟩ (.bool false)).cell? ⟨w1.heap.size, 4, none⟩ = some (.bool ju) := (hgi.cell 4).trans rfl
      have e5 : (w7.setCell ⟨g, 2, none⟩ (.bool false)).cell? ⟨w1.heap.size, 5, none⟩ = some (.int .i64 jf) := (hgi.cell 5).trans rfl
      have e6 : (w7.setCell ⟨g, 2, none⟩ (.bool false)).cell? ⟨w1.heap.size, 6, none⟩ = some (.int .i64 jm) := (hgi.cell 6).trans rfl
      have e7 : (w7.setCell ⟨g, 2, none⟩ (.bool false)).cell? ⟨w1.heap.size, 7, none⟩ = some (.int .i64 jz) := (hgi.cell 7).trans rfl
      clear hgi HFIN
      go_region
      all_goals go_wp2_with (refine wpList_store_row rfl 41 _ _ rfl w.heap.size #[.int .u8 jo, .bool jn, .int .i64 jd, .int .i64 js, .bool ju, .int .i64 jf, .int .i64 jm, .int .i64 jz] rfl rfl 41 _ hr8.out.drew ins_size rfl (by simp [Value.oneCell']) ?_)
      refine bodyPost_ret (results_row_tmp rfl _ _ w.heap.size 41 #[.int .u8 jo, .bool jn, .int .i64 jd, .int .i64 js, .bool ju, .int .i64 jf, .int .i64 jm, .int .i64 jz] _ (0, 0) _ rfl rfl (setRow_heap _ _ _ _ _ _ hr8.out.drew) Tryz.underlying41 rfl ins_size) rfl ?_
      exact hf.out
    · have u1 : ¬ (kk : Int) = (nn : Int) := by omega
      have u2 : ((kk : Int) == (nn : Int)) = false := beq_eq_false_iff_ne.2 u1
      have u3 : ((kk : Int) != (nn : Int)) = true := by rw [bne, u2]; rfl
      have h9 := HF.out.bad_ true
      have hgi := h9.i
      rw [show (badS sF true).i = sF.i from rfl, HJ.out] at hgi
      have hr8 : Hid (Blk (w7.setCell ⟨g, 2, none⟩ (.bool (sF.bad || true))) w.heap.size 41 (icell zI)) := Lib.hid (HR0.out.ch h9.ch (fun e => e.elim (fun e => by have e2 : w.heap.size = g := e; omega) (fun e => by have e2 : w.heap.size = w1.heap.size := e; have := HW1.out; rw [World.size_alloc] at this; omega)))
      have hf := Lib.hid (HFIN.out true ((by rw [show decide (sF.k ≠ sF.ts.length) = true by rw [HKK.out, HNN.out]; simpa using hq])) (Lib.hid h9) hr8)
      rw [show (sF.bad || true) = true by rw [HB.out]; rfl] at hgi hr8 hf
      clear h9
      have e0 : (w7.setCell ⟨g, 2, none⟩ (.bool true)).cell? ⟨w1.heap.size, 0, none⟩ = some (.int .u8 jo) := (hgi.cell 0).trans rfl
      have e1 : (w7.setCell ⟨g, 2, none⟩ (.bool true)).cell? ⟨w1.heap.size, 1, none⟩ = some (.bool jn) := (hgi.cell 1).trans rfl
      have e2 : (w7.setCell ⟨g, 2, none⟩ (.bool true)).cell? ⟨w1.heap.size, 2, none⟩ = some (.int .i64 jd) := (hgi.cell 2).trans rfl
      have e3 : (w7.setCell ⟨g, 2, none⟩ (.bool true)).cell? ⟨w1.heap.size, 3, none⟩ = some (.int .i64 js) := (hgi.cell 3).trans rfl
      have e4 : (w7.setCell ⟨g, 2, none⟩ (.bool true)).cell? ⟨w1.heap.size, 4, none⟩ = some (.bool ju) := (hgi.cell 4).trans rfl
      have e5 : (w7.setCell ⟨g, 2, none⟩ (.bool true)).cell? ⟨w1.heap.size, 5, none⟩ = some (.int .i64 jf) := (hgi.cell 5).trans rfl
      have e6 : (w7.setCell ⟨g, 2, none⟩ (.bool true)).cell? ⟨w1.heap.size, 6, none⟩ = some (.int .i64 jm) := (hgi.cell 6).trans rfl
      have e7 : (w7.setCell ⟨g, 2, none⟩ (.bool true)).cell? ⟨w1.heap.size, 7, none⟩ = some (.int .i64 jz) := (hgi.cell 7).trans rfl
      clear hgi HFIN
      go_region
      all_goals go_wp2_with (refine wpList_store_row rfl 41 _ _ rfl w.heap.size #[.int .u8 jo, .bool jn, .int .i64 jd, .int .i64 js, .bool ju, .int .i64 jf, .int .i64 jm, .int .i64 jz] rfl rfl 41 _ hr8.out.drew ins_size rfl (by simp [Value.oneCell']) ?_)
      refine bodyPost_ret (results_row_tmp rfl _ _ w.heap.size 41 #[.int .u8 jo, .bool jn, .int .i64 jd, .int .i64 js, .bool ju, .int .i64 jf, .int .i64 jm, .int .i64 jz] _ (0, 0) _ rfl rfl (setRow_heap _ _ _ _ _ _ hr8.out.drew) Tryz.underlying41 rfl ins_size) rfl ?_
      exact hf.out

def w_add (s : Ls) (o : Int) (n : Bool) (u : Bs) (s1 : Ls) : Prop := u = [] ∧ ∃ d, (∀ m, regOf (nx (tkS s)) = some m → d = m) ∧ Sec (mustS [44] (inI (regS (tkS s)) ⟨o, n, d, 0, false, 0, 0, 0⟩)) s1
set_option maxRecDepth 100000 in
set_option maxHeartbeats 8000000 in
theorem rinst_add (g : Nat) (s : Ls) (o : Int) (n : Bool) (w : World) (h : SL0 g s w) (hk : s.k ≤ 100) (ho : OpIs (nx s) o n) (h1 : 1 ≤ o) (h17 : o < 17) (h13 : ¬ o = 13) :
    Calls Tryz.prog 52 #[.pointer (some ⟨g, 0, none⟩)] w (InstD g (WayD (w_add s o n) s) w) := by
  have HR0 := Lib.hid (Blk.new w 41 (icell zI))
  have k0 : s.k ≤ 1000 := by omega
  have HT : Hid (Calls Tryz.prog 108 #[.pointer (some ⟨g, 0, none⟩)] (w.alloc (.cells #[.int .u8 0, .bool false, .int .i64 0, .int .i64 0, .bool false, .int .i64 0, .int .i64 0, .int .i64 0] 41)) (LsD ⟨w.alloc (.cells #[.int .u8 0, .bool false, .int .i64 0, .int .i64 0, .bool false, .int .i64 0, .int .i64 0, .int .i64 0] 41), g, w.heap.size⟩ (.string ⟨(nx s).toArray⟩) (tkS (inI s zI)))) := Lib.hid (ltake_any _ (inI s zI) _ h.start k0)
  have HO : Hid (∀ W, Calls Tryz.prog 109 #[.string ⟨(nx s).toArray⟩] W fun e w' => e = .returned (.tuple #[.int .u8 o, .bool n]) ∧ New W w') := Lib.hid (fun W => rop_is (nx s) o n W ho)
  have HRG : Hid (∀ gi W s1, s1.k ≤ 1000 → SL ⟨w.alloc (.cells #[.int .u8 0, .bool false, .int .i64 0, .int .i64 0, .bool false, .int .i64 0, .int .i64 0, .int .i64 0] 41), g, gi⟩ s1 W → Calls Tryz.prog 110 #[.pointer (some ⟨g, 0, none⟩)] W (LregD ⟨w.alloc (.cells #[.int .u8 0, .bool false, .int .i64 0, .int .i64 0, .bool false, .int .i64 0, .int .i64 0, .int .i64 0] 41), g, gi⟩ s1)) := Lib.hid (fun gi W s1 h1 h2 => lreg_any _ s1 W h2 h1)
  have HMU : Hid (∀ gi W s1 x, s1.k ≤ 1000 → SL ⟨w.alloc (.cells #[.int .u8 0, .bool false, .int .i64 0, .int .i64 0, .bool false, .int .i64 0, .int .i64 0, .int .i64 0] 41), g, gi⟩ s1 W → Calls Tryz.prog 111 #[.pointer (some ⟨g, 0, none⟩), .string ⟨x.toArray⟩] W (LsD ⟨w.alloc (.cells #[.int .u8 0, .bool false, .int .i64 0, .int .i64 0, .bool false, .int .i64 0, .int .i64 0, .int .i64 0] 41), g, gi⟩ (.tuple #[]) (mustS x s1))) := Lib.hid (fun gi W s1 x h1 h2 => lmust_any _ s1 x W h2 h1)
  have HSE : Hid (∀ gi W s1, s1.k ≤ 900 → SL ⟨w.alloc (.cells #[.int .u8 0, .bool false, .int .i64 0, .int .i64 0, .bool false, .int .i64 0, .int .i64 0, .int .i64 0] 41), g, gi⟩ s1 W → Calls Tryz.prog 112 #[.pointer (some ⟨g, 0, none⟩), .pointer (some ⟨gi, 0, none⟩)] W (SecD ⟨w.alloc (.cells #[.int .u8 0, .bool false, .int .i64 0, .int .i64 0, .bool false, .int .i64 0, .int .i64 0, .int .i64 0] 41), g, gi⟩ s1)) := Lib.hid (fun gi W s1 h1 h2 => lsecond_any ⟨w.alloc (.cells #[.int .u8 0, .bool false, .int .i64 0, .int .i64 0, .bool false, .int .i64 0, .int .i64 0, .int .i64 0] 41), g, gi⟩ s1 W h2 h1)
  have HCE : Hid (∀ gi W s1, s1.k ≤ 800 → SL ⟨w.alloc (.cells #[.int .u8 0, .bool false, .int .i64 0, .int .i64 0, .bool false, .int .i64 0, .int .i64 0, .int .i64 0] 41), g, gi⟩ s1 W → Calls Tryz.prog 115 #[.pointer (some ⟨g, 0, none⟩), .pointer (some ⟨gi, 0, none⟩)] W (CelE ⟨w.alloc (.cells #[.int .u8 0, .bool false, .int .i64 0, .int .i64 0, .bool false, .int .i64 0, .int .i64 0, .int .i64 0] 41), g, gi⟩ s1)) := Lib.hid (fun gi W s1 h1 h2 => lcell_e ⟨w.alloc (.cells #[.int .u8 0, .bool false, .int .i64 0, .int .i64 0, .bool false, .int .i64 0, .int .i64 0, .int .i64 0] 41), g, gi⟩ s1 W h2 h1)
  have HTO : Hid (∀ gi W s1, s1.k ≤ 800 → SL ⟨w.alloc (.cells #[.int .u8 0, .bool false, .int .i64 0, .int .i64 0, .bool false, .int .i64 0, .int .i64 0, .int .i64 0] 41), g, gi⟩ s1 W → Calls Tryz.prog 113 #[.pointer (some ⟨g, 0, none⟩), .pointer (some ⟨gi, 0, none⟩)] W (ToE ⟨w.alloc (.cells #[.int .u8 0, .bool false, .int .i64 0, .int .i64 0, .bool false, .int .i64 0, .int .i64 0, .int .i64 0] 41), g, gi⟩ s1)) := Lib.hid (fun gi W s1 h1 h2 => lto_e ⟨w.alloc (.cells #[.int .u8 0, .bool false, .int .i64 0, .int .i64 0, .bool false, .int .i64 0, .int .i64 0, .int .i64 0] 41), g, gi⟩ s1 W h2 h1)
  have HSZ : Hid (∀ W v, v.length ≤ 1000 → PowT W → Calls Tryz.prog 114 #[.string ⟨(nx s).toArray⟩, .string ⟨v.toArray⟩] W fun e w' => e = .returned (.int .i64 (szM (nx s) v)) ∧ New W w') := Lib.hid (fun W v hv hP => rsized_any (nx s) v W hv hP)
  have hg : g < w.heap.size := by obtain ⟨_, _, hb, _⟩ := h.row; exact hb.lt
  have hl4 : ([108, 111, 97, 100] : Bs).length ≤ 1000 := by decide
  have hl3 : ([112, 117, 116] : Bs).length ≤ 1000 := by decide
  have q1 : ∀ o n, (inI (tkS (inI s zI)) ⟨o, n, 0, 0, false, 0, 0, 0⟩).k ≤ 1000 := fun o n => by show s.k + 1 ≤ 1000; omega
  have q2 : ∀ i, (inI (regS (tkS s)) i).k ≤ 1000 := fun i => by show s.k + 1 + 1 ≤ 1000; omega
  have q3 : ∀ i, (mustS [44] (inI (regS (tkS s)) i)).k ≤ 900 := fun i => by show s.k + 1 + 1 + 1 ≤ 900; omega
  have o1 : ¬ o = 13 := h13
  have o2 : ¬ 17 ≤ o := by omega
  have o3 : ¬ o = 0 := by omega
  clear h ho 
  go_enter Tryz.func52, Tryz.ntmps52
  go_wp2_with (first
    | (go_at_call 108; (with_reducible refine HT.out.mono ?_); rintro e w1 ⟨rfl, h1⟩; have HW1 := Lib.hid h1.ch.size; have H2 : Hid (SL ⟨w.alloc (.cells #[.int .u8 0, .bool false, .int .i64 0, .int .i64 0, .bool false, .int .i64 0, .int .i64 0, .int .i64 0] 41), g, w1.heap.size⟩ (inI (tkS (inI s zI)) zI) (w1.alloc (.cells #[.int .u8 0, .bool false, .int .i64 0, .int .i64 0, .bool false, .int .i64 0, .int .i64 0, .int .i64 0] 41))) := Lib.hid (h1.again HR0.out zI); clear h1)
    | (go_at_call 109; (with_reducible refine (HO.out _).mono ?_); rintro e w3 ⟨rfl, hn3⟩; have h3 := H2.out.new hn3; obtain ⟨⟨p0, z0⟩, p1, z1⟩ := h3.i0; have h4 := h3.seti 0 (.int .u8 o) ⟨o, false, 0, 0, false, 0, 0, 0⟩ rfl; have h5 : SL ⟨w.alloc (.cells #[.int .u8 0, .bool false, .int .i64 0, .int .i64 0, .bool false, .int .i64 0, .int .i64 0, .int .i64 0] 41), g, w1.heap.size⟩ (inI (tkS (inI s zI)) ⟨o, n, 0, 0, false, 0, 0, 0⟩) ((w3.setCell ⟨w1.heap.size, 0, none⟩ (.int .u8 o)).setCell ⟨w1.heap.size, 1, none⟩ (.bool n)) := h4.seti 1 (.bool n) ⟨o, n, 0, 0, false, 0, 0, 0⟩ rfl; have H5 := Lib.hid h5; obtain ⟨⟨y0, yz0⟩, -, -⟩ := h5.i0; change World.cell? _ _ = some (.int .u8 o) at y0; clear hn3 h3 h4 h5)
    | (go_at_call 110; (with_reducible refine (HRG.out w1.heap.size _ _ (q1 _ _) H5.out).mono ?_); rintro e w6 ⟨d, rfl, hi6, hm6, h6⟩; have HM := Lib.hid hm6; obtain ⟨x2, xz2⟩ := h6.i2; have H7 : Hid (SL ⟨w.alloc (.cells #[.int .u8 0, .bool false, .int .i64 0, .int .i64 0, .bool false, .int .i64 0, .int .i64 0, .int .i64 0] 41), g, w1.heap.size⟩ (inI (regS (tkS s)) ⟨o, n, d, 0, false, 0, 0, 0⟩) (w6.setCell ⟨w1.heap.size, 2, none⟩ (.int .i64 d))) := Lib.hid (h6.seti 2 (.int .i64 d) ⟨o, n, d, 0, false, 0, 0, 0⟩ rfl); clear hi6 hm6 h6)
    | (go_at_call 111; (with_reducible refine (HMU.out w1.heap.size _ _ [44] (q2 _) H7.out).mono ?_); rintro e w8 ⟨rfl, h8⟩; have H8 := Lib.hid h8; clear h8)
    | (go_at_call 112; (with_reducible refine (HSE.out w1.heap.size _ _ (q3 _) H8.out).mono ?_); rintro e w9 ⟨rfl, s3, hs3r, h9⟩; have H9 := Lib.hid h9; have Hs3R := Lib.hid hs3r; clear h9))
  obtain ⟨w7, hw7⟩ : ∃ w7, w7 = w9 := ⟨_, rfl⟩
  obtain ⟨sF, hsF⟩ : ∃ sF, sF = s3 := ⟨_, rfl⟩
  have HF : Hid (SL ⟨w.alloc (.cells #[.int .u8 0, .bool false, .int .i64 0, .int .i64 0, .bool false, .int .i64 0, .int .i64 0, .int .i64 0] 41), g, w1.heap.size⟩ sF w7) := Lib.hid (by rw [hw7, hsF]; exact H9.out)
  have hway : ([] : Bs) = [] ∧ ∃ d, (∀ m, regOf (nx (tkS s)) = some m → d = m) ∧ Sec (mustS [44] (inI (regS (tkS s)) ⟨o, n, d, 0, false, 0, 0, 0⟩)) sF := by rw [hsF]; exact ⟨rfl, d, HM.out, Hs3R.out⟩
  rw [← hw7]
  clear hw7 hsF
  have HWAY := Lib.hid hway
  clear HT HO HRG HMU HSE HCE HTO HSZ H2 hway
  obtain ⟨v, base, hrow, hown⟩ := HF.out.row
  obtain ⟨A, c, rfl, hc1, hc2, -⟩ := own_len hown
  have f0 : w7.cell? ⟨g, 0, none⟩ = some (.slice A sF.ts.length c) := (hrow.cell 0).trans rfl
  have f1 : w7.cell? ⟨g, 1, none⟩ = some (.int .i64 (sF.k : Int)) := (hrow.cell 1).trans rfl
  have f2 : w7.cell? ⟨g, 2, none⟩ = some (.bool sF.bad) := (hrow.cell 2).trans rfl
  have fz := hrow.frozen 2
  clear hrow hown
  obtain ⟨b, hb⟩ : ∃ b, sF.bad = b := ⟨_, rfl⟩
  obtain ⟨kk, hkk⟩ : ∃ kk, sF.k = kk := ⟨_, rfl⟩
  obtain ⟨nn, hnn⟩ : ∃ nn, sF.ts.length = nn := ⟨_, rfl⟩
  obtain ⟨⟨jo, jn, jd, js, ju, jf, jm, jz⟩, hj⟩ : ∃ j, sF.i = j := ⟨_, rfl⟩
  rw [hb] at f2
  rw [hkk] at f1
  rw [hnn] at f0
  have HB := Lib.hid hb
  have HKK := Lib.hid hkk
  have HNN := Lib.hid hnn
  have HJ := Lib.hid hj
  clear hb hkk hnn hj
  have hfin : ∀ B : Bool, badS sF B = badS sF (decide (sF.k ≠ sF.ts.length)) → Hid (SL ⟨w.alloc (.cells #[.int .u8 0, .bool false, .int .i64 0, .int .i64 0, .bool false, .int .i64 0, .int .i64 0, .int .i64 0] 41), g, w1.heap.size⟩ (badS sF B) (w7.setCell ⟨g, 2, none⟩ (.bool (sF.bad || B)))) → Hid (Blk (w7.setCell ⟨g, 2, none⟩ (.bool (sF.bad || B))) w.heap.size 41 (icell zI)) →
      InstD g (WayD (w_add s o n) s) w (.returned (.tuple #[.agg #[.int .u8 jo, .bool jn, .int .i64 jd, .int .i64 js, .bool ju, .int .i64 jf, .int .i64 jm, .int .i64 jz], .string ⟨([] : Bs).toArray⟩])) ((w7.setCell ⟨g, 2, none⟩ (.bool (sF.bad || B))).drew.setRow w.heap.size #[.int .u8 jo, .bool jn, .int .i64 jd, .int .i64 js, .bool ju, .int .i64 jf, .int .i64 jm, .int .i64 jz]) := by
    intro B hB H9 HR8
    obtain ⟨q1, q2⟩ := H9.out.done HR8.out rfl (new1 w _) (Nat.le_refl _) (by have := HW1.out; rw [World.size_alloc] at this; omega) s.i
    exact ⟨⟨jo, jn, jd, js, ju, jf, jm, jz⟩, ([] : Bs), inI (badS sF B) s.i, rfl, ⟨sF, HWAY.out, HJ.out.symm, by rw [hB]⟩, q1, q2⟩
  have HFIN := Lib.hid hfin
  clear hfin
  cases b with
  | true =>
    have h9 := HF.out.bad_ true
    have hgi := h9.i
    rw [show (badS sF true).i = sF.i from rfl, HJ.out] at hgi
    have hr8 : Hid (Blk (w7.setCell ⟨g, 2, none⟩ (.bool (sF.bad || true))) w.heap.size 41 (icell zI)) := Lib.hid (HR0.out.ch h9.ch (fun e => e.elim (fun e => by have e2 : w.heap.size = g := e; omega) (fun e => by have e2 : w.heap.size = w1.heap.size := e; have := HW1.out; rw [World.size_alloc] at this; omega)))
    have hf := Lib.hid (HFIN.out true (badS_true HB.out _ _) (Lib.hid h9) hr8)
    rw [show (sF.bad || true) = true by rw [HB.out]; rfl] at hgi hr8 hf
    clear h9
    have e0 : (w7.setCell ⟨g, 2, none⟩ (.bool true)).cell? ⟨w1.heap.size, 0, none⟩ = some (.int .u8 jo) := (hgi.cell 0).trans rfl
    have e1 : (w7.setCell ⟨g, 2, none⟩ (.bool true)).cell? ⟨w1.heap.size, 1, none⟩ = some (.bool jn) := (hgi.cell 1).trans rfl
    have e2 : (w7.setCell ⟨g, 2, none⟩ (.bool true)).cell? ⟨w1.heap.size, 2, none⟩ = some (.int .i64 jd) := (hgi.cell 2).trans rfl
    have e3 : (w7.setCell ⟨g, 2, none⟩ (.bool true)).cell? ⟨w1.heap.size, 3, none⟩ = some (.int .i64 js) := (hgi.cell 3).trans rfl
    have e4 : (w7.setCell ⟨g, 2, none⟩ (.bool true)).cell? ⟨w1.heap.size, 4, none⟩ = some (.bool ju) := (hgi.cell 4).trans rfl
    have e5 : (w7.setCell ⟨g, 2, none⟩ (.bool true)).cell? ⟨w1.heap.size, 5, none⟩ = some (.int .i64 jf) := (hgi.cell 5).trans rfl
    have e6 : (w7.setCell ⟨g, 2, none⟩ (.bool true)).cell? ⟨w1.heap.size, 6, none⟩ = some (.int .i64 jm) := (hgi.cell 6).trans rfl
    have e7 : (w7.setCell ⟨g, 2, none⟩ (.bool true)).cell? ⟨w1.heap.size, 7, none⟩ = some (.int .i64 jz) := (hgi.cell 7).trans rfl
    clear hgi HFIN
    go_region
    all_goals go_wp2_with (refine wpList_store_row rfl 41 _ _ rfl w.heap.size #[.int .u8 jo, .bool jn, .int .i64 jd, .int .i64 js, .bool ju, .int .i64 jf, .int .i64 jm, .int .i64 jz] rfl rfl 41 _ hr8.out.drew ins_size rfl (by simp [Value.oneCell']) ?_)
    refine bodyPost_ret (results_row_tmp rfl _ _ w.heap.size 41 #[.int .u8 jo, .bool jn, .int .i64 jd, .int .i64 js, .bool ju, .int .i64 jf, .int .i64 jm, .int .i64 jz] _ (0, 0) _ rfl rfl (setRow_heap _ _ _ _ _ _ hr8.out.drew) Tryz.underlying41 rfl ins_size) rfl ?_
    exact hf.out
  | false =>
    by_cases hq : kk = nn
    · have u1 : (kk : Int) = (nn : Int) := by omega
      have u2 : ((kk : Int) == (nn : Int)) = true := beq_iff_eq.2 u1
      have u3 : ((kk : Int) != (nn : Int)) = false := by rw [bne, u2]; rfl
      have h9 := HF.out.bad_ false
      have hgi := h9.i
      rw [show (badS sF false).i = sF.i from rfl, HJ.out] at hgi
      have hr8 : Hid (Blk (w7.setCell ⟨g, 2, none⟩ (.bool (sF.bad || false))) w.heap.size 41 (icell zI)) := Lib.hid (HR0.out.ch h9.ch (fun e => e.elim (fun e => by have e2 : w.heap.size = g := e; omega) (fun e => by have e2 : w.heap.size = w1.heap.size := e; have := HW1.out; rw [World.size_alloc] at this; omega)))
      have hf := Lib.hid (HFIN.out false ((by rw [show decide (sF.k ≠ sF.ts.length) = false by rw [HKK.out, HNN.out]; simpa using hq])) (Lib.hid h9) hr8)
      rw [show (sF.bad || false) = false by rw [HB.out]; rfl] at hgi hr8 hf
      clear h9
      have e0 : (w7.setCell ⟨g, 2, none⟩ (.bool false)).cell? ⟨w1.heap.size, 0, none⟩ = some (.int .u8 jo) := (hgi.cell 0).trans rfl
      have e1 : (w7.setCell ⟨g, 2, none⟩ (.bool false)).cell? ⟨w1.heap.size, 1, none⟩ = some (.bool jn) := (hgi.cell 1).trans rfl
      have e2 : (w7.setCell ⟨g, 2, none⟩ (.bool false)).cell? ⟨w1.heap.size, 2, none⟩ = some (.int .i64 jd) := (hgi.cell 2).trans rfl
      have e3 : (w7.setCell ⟨g, 2, none⟩ (.bool false)).cell? ⟨w1.heap.size, 3, none⟩ = some (.int .i64 js) := (hgi.cell 3).trans rfl
      have e4 : (w7.setCell ⟨g, 2, none⟩ (.bool false)).cell? ⟨w1.heap.size, 4, none⟩ = some (.bool ju) := (hgi.cell 4).trans rfl
      have e5 : (w7.setCell ⟨g, 2, none⟩ (.bool false)).cell? ⟨w1.heap.size, 5, none⟩ = some (.int .i64 jf) := (hgi.cell 5).trans rfl
      have e6 : (w7.setCell ⟨g, 2, none⟩ (.bool false)).cell? ⟨w1.heap.size, 6, none⟩ = some (.int .i64 jm) := (hgi.cell 6).trans rfl
      have e7 : (w7.setCell ⟨g, 2, none⟩ (.bool false)).cell? ⟨w1.heap.size, 7, none⟩ = some (.int .i64 jz) := (hgi.cell 7).trans rfl
      clear hgi HFIN
      go_region
      all_goals go_wp2_with (refine wpList_store_row rfl 41 _ _ rfl w.heap.size #[.int .u8 jo, .bool jn, .int .i64 jd, .int .i64 js, .bool ju, .int .i64 jf, .int .i64 jm, .int .i64 jz] rfl rfl 41 _ hr8.out.drew ins_size rfl (by simp [Value.oneCell']) ?_)
      refine bodyPost_ret (results_row_tmp rfl _ _ w.heap.size 41 #[.int .u8 jo, .bool jn, .int .i64 jd, .int .i64 js, .bool ju, .int .i64 jf, .int .i64 jm, .int .i64 jz] _ (0, 0) _ rfl rfl (setRow_heap _ _ _ _ _ _ hr8.out.drew) Tryz.underlying41 rfl ins_size) rfl ?_
      exact hf.out
    · have u1 : ¬ (kk : Int) = (nn : Int) := by omega
      have u2 : ((kk : Int) == (nn : Int)) = false := beq_eq_false_iff_ne.2 u1
      have u3 : ((kk : Int) != (nn : Int)) = true := by rw [bne, u2]; rfl
      have h9 := HF.out.bad_ true
      have hgi := h9.i
      rw [show (badS sF true).i = sF.i from rfl, HJ.out] at hgi
      have hr8 : Hid (Blk (w7.setCell ⟨g, 2, none⟩ (.bool (sF.bad || true))) w.heap.size 41 (icell zI)) := Lib.hid (HR0.out.ch h9.ch (fun e => e.elim (fun e => by have e2 : w.heap.size = g := e; omega) (fun e => by have e2 : w.heap.size = w1.heap.size := e; have := HW1.out; rw [World.size_alloc] at this; omega)))
      have hf := Lib.hid (HFIN.out true ((by rw [show decide (sF.k ≠ sF.ts.length) = true by rw [HKK.out, HNN.out]; simpa using hq])) (Lib.hid h9) hr8)
      rw [show (sF.bad || true) = true by rw [HB.out]; rfl] at hgi hr8 hf
      clear h9
      have e0 : (w7.setCell ⟨g, 2, none⟩ (.bool true)).cell? ⟨w1.heap.size, 0, none⟩ = some (.int .u8 jo) := (hgi.cell 0).trans rfl
      have e1 : (w7.setCell ⟨g, 2, none⟩ (.bool true)).cell? ⟨w1.heap.size, 1, none⟩ = some (.bool jn) := (hgi.cell 1).trans rfl
      have e2 : (w7.setCell ⟨g, 2, none⟩ (.bool true)).cell? ⟨w1.heap.size, 2, none⟩ = some (.int .i64 jd) := (hgi.cell 2).trans rfl
      have e3 : (w7.setCell ⟨g, 2, none⟩ (.bool true)).cell? ⟨w1.heap.size, 3, none⟩ = some (.int .i64 js) := (hgi.cell 3).trans rfl
      have e4 : (w7.setCell ⟨g, 2, none⟩ (.bool true)).cell? ⟨w1.heap.size, 4, none⟩ = some (.bool ju) := (hgi.cell 4).trans rfl
      have e5 : (w7.setCell ⟨g, 2, none⟩ (.bool true)).cell? ⟨w1.heap.size, 5, none⟩ = some (.int .i64 jf) := (hgi.cell 5).trans rfl
      have e6 : (w7.setCell ⟨g, 2, none⟩ (.bool true)).cell? ⟨w1.heap.size, 6, none⟩ = some (.int .i64 jm) := (hgi.cell 6).trans rfl
      have e7 : (w7.setCell ⟨g, 2, none⟩ (.bool true)).cell? ⟨w1.heap.size, 7, none⟩ = some (.int .i64 jz) := (hgi.cell 7).trans rfl
      clear hgi HFIN
      go_region
      all_goals go_wp2_with (refine wpList_store_row rfl 41 _ _ rfl w.heap.size #[.int .u8 jo, .bool jn, .int .i64 jd, .int .i64 js, .bool ju, .int .i64 jf, .int .i64 jm, .int .i64 jz] rfl rfl 41 _ hr8.out.drew ins_size rfl (by simp [Value.oneCell']) ?_)
      refine bodyPost_ret (results_row_tmp rfl _ _ w.heap.size 41 #[.int .u8 jo, .bool jn, .int .i64 jd, .int .i64 js, .bool ju, .int .i64 jf, .int .i64 jm, .int .i64 jz] _ (0, 0) _ rfl rfl (setRow_heap _ _ _ _ _ _ hr8.out.drew) Tryz.underlying41 rfl ins_size) rfl ?_
      exact hf.out
end Go.Proofs.YtddojdgnakajmaaGreatDoor.txt
