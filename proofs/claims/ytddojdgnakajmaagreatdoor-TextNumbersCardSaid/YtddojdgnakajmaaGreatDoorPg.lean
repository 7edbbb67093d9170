/-
  The document's Parse: second parts, cells, where a jump goes.
-/
import Derived.Test.YtddojdgnakajmaaGreatDoorPf
namespace Go.Proofs.YtddojdgnakajmaaGreatDoor.txt
open Go.RowKit Go.Proofs.YtddojdgnakajmaaGreatDoor.mem Go.Proofs.YtddojdgnakajmaaGreatDoor.kit Go.Proofs.YtddojdgnakajmaaGreatDoor.ins
set_option linter.unusedVariables false
set_option linter.unusedSimpArgs false

def inI (s : Ls) (j : In) : Ls := { s with i := j }
theorem SL.seti {C : Cl} {s : Ls} {w : World} (h : SL C s w) (k : Nat) (v : Value) (j : In) (hj : (icell s.i).setIfInBounds k v = icell j) : SL C (inI s j) (w.setCell ⟨C.gi, k, none⟩ v) := by
  have hc : Ch (fun b => b = C.gi) w (w.setCell ⟨C.gi, k, none⟩ v) := (Ch.refl (fun b => b = C.gi) w).setCell (p := ⟨C.gi, k, none⟩) (fun _ => rfl) v
  obtain ⟨u, base, hb, ho⟩ := h.row
  refine ⟨⟨u, base, hb.ch hc h.ne, ?_⟩, h.few, h.tok, ?_, h.ch.then hc (fun _ _ e => Or.inr e), pow_ch h.pow hc h.i (by simp)⟩
  · refine own_ch ho hc (fun g e hg => ?_)
    obtain ⟨-, cs, hcs⟩ := own_cells ho e
    exact (hcs.ne_ h.i (by decide)) hg
  · have := h.i.set_ k v
    rw [hj] at this
    exact this
theorem SL.inc {C : Cl} {s : Ls} {w : World} (h : SL C s w) : SL C (tkS s) (w.setCell ⟨C.g, 1, none⟩ (.int .i64 ((s.k : Int) + 1))) := by
  obtain ⟨v, base, hb, ho⟩ := h.row
  exact h.to v base ((Ch.refl (fun j => j = C.g) _).setCell (p := ⟨C.g, 1, none⟩) (fun _ => rfl) _) (hb.set_ 1 _) ho rfl rfl
theorem SL.at1 {C : Cl} {s : Ls} {w : World} (h : SL C s w) : w.cell? ⟨C.g, 1, none⟩ = some (.int .i64 (s.k : Int)) ∧ w.frozen? ⟨C.g, 1, none⟩ = false := by
  obtain ⟨v, base, hb, ho⟩ := h.row
  exact ⟨(hb.cell 1).trans rfl, hb.frozen 1⟩
theorem SL.i3 {C : Cl} {s : Ls} {w : World} (h : SL C s w) : w.cell? ⟨C.gi, 3, none⟩ = some (.int .i64 s.i.src) ∧ w.frozen? ⟨C.gi, 3, none⟩ = false := ⟨(h.i.cell 3).trans rfl, h.i.frozen 3⟩
theorem SL.i4 {C : Cl} {s : Ls} {w : World} (h : SL C s w) : w.cell? ⟨C.gi, 4, none⟩ = some (.bool s.i.use) ∧ w.frozen? ⟨C.gi, 4, none⟩ = false := ⟨(h.i.cell 4).trans rfl, h.i.frozen 4⟩
theorem SL.i5 {C : Cl} {s : Ls} {w : World} (h : SL C s w) : w.cell? ⟨C.gi, 5, none⟩ = some (.int .i64 s.i.off) ∧ w.frozen? ⟨C.gi, 5, none⟩ = false := ⟨(h.i.cell 5).trans rfl, h.i.frozen 5⟩
theorem SL.i6 {C : Cl} {s : Ls} {w : World} (h : SL C s w) : w.cell? ⟨C.gi, 6, none⟩ = some (.int .i64 s.i.imm) ∧ w.frozen? ⟨C.gi, 6, none⟩ = false := ⟨(h.i.cell 6).trans rfl, h.i.frozen 6⟩

/-- A second part, as the document takes it. -/
def Sec (s s' : Ls) : Prop :=
  (∃ n, regOf (nx s) = some n ∧ s' = inI (tkS s) { s.i with src := n }) ∨
  (regOf (nx s) = none ∧ nx s = [45] ∧ ∃ n, (∀ m, numOf (nx (tkS s)) = some m → n = -m) ∧ s' = inI (badS (tkS (tkS s)) !(numOf (nx (tkS s))).isSome) { s.i with use := true, imm := n }) ∨
  (regOf (nx s) = none ∧ nx s ≠ [45] ∧ ∃ n, (∀ m, numOf (nx s) = some m → n = m) ∧ s' = inI (badS (tkS s) !(numOf (nx s)).isSome) { s.i with use := true, imm := n })
def SecD (C : Cl) (s : Ls) (e : Ending) (w' : World) : Prop := e = .returned (.tuple #[]) ∧ ∃ s', Sec s s' ∧ SL C s' w'
set_option maxRecDepth 100000 in
set_option maxHeartbeats 1000000 in
theorem lsecond_any (C : Cl) (s : Ls) (w : World) (h : SL C s w) (hk : s.k ≤ 900) : Calls Tryz.prog 112 #[.pointer (some ⟨C.g, 0, none⟩), .pointer (some ⟨C.gi, 0, none⟩)] w (SecD C s) := by
  have H := Lib.hid h
  have HN : Hid (∀ W s1, SL C s1 W → Calls Tryz.prog 174 #[.pointer (some ⟨C.g, 0, none⟩)] W fun e w' => e = .returned (.string ⟨(nx s1).toArray⟩) ∧ New W w') := Lib.hid (fun W s1 h1 => lnext_any C s1 W h1)
  obtain ⟨y, hy⟩ : ∃ y, nx s = y := ⟨_, rfl⟩
  have HR := Lib.hid (fun W hW => rreg_any y W hW)
  unfold RegD at HR
  have HY := Lib.hid hy
  obtain ⟨o, ho⟩ : ∃ o, regOf y = o := ⟨_, rfl⟩
  have HO : Hid (regOf (nx s) = o) := Lib.hid (by rw [hy]; exact ho)
  rw [ho] at HR
  clear h hy ho
  have hkk : (s.k : Int) ≤ 900 := by omega
  cases o with
  | some n =>
    rw [show (some n).isSome = true from rfl] at HR
    go_enter Tryz.func112, Tryz.ntmps112
    go_wp2_with (first
      | (go_at_call 174; (with_reducible refine (HN.out _ s H.out).mono ?_); rw [HY.out]; rintro e w1 ⟨rfl, hn1⟩; have H1 := Lib.hid (H.out.new hn1); clear hn1)
      | (go_at_call 176; (with_reducible refine (HR.out _ H1.out.pow).mono ?_); rintro e w2 ⟨n2, rfl, hi2, hm2, hn2⟩; have H2 := Lib.hid (H1.out.new hn2); obtain rfl : n2 = n := hm2 n rfl; obtain ⟨c1, z1⟩ := H2.out.at1; have H3 := Lib.hid (H2.out.inc); obtain ⟨c3, z3⟩ := H3.out.i3; clear hi2 hm2 hn2))
    go_end0
    exact ⟨rfl, _, .inl ⟨_, HO.out, rfl⟩, H3.out.seti 3 _ _ rfl⟩
  | none =>
    rw [show (none : Option Int).isSome = false from rfl] at HR
    cases hb : y == [45] with
    | true =>
      have HB : Hid (nx s = [45]) := Lib.hid (by rw [HY.out]; exact eq_of_beq hb)
      have HNM : Hid (∀ W s1, s1.k ≤ 1000 → SL C s1 W → Calls Tryz.prog 177 #[.pointer (some ⟨C.g, 0, none⟩), .bool true] W (LnumD C s1 true)) := Lib.hid (fun W s1 h1 h2 => lnumber_any C s1 true W h2 h1)
      go_enter Tryz.func112, Tryz.ntmps112
      go_wp2_with (first
        | (go_at_call 176; (with_reducible refine (HR.out _ H1.out.pow).mono ?_); rintro e w2 ⟨n2, rfl, hi2, hm2, hn2⟩; have H2 := Lib.hid (H1.out.new hn2); obtain ⟨c4, z4⟩ := H2.out.i4; have H3 := Lib.hid (H2.out.seti 4 (.bool true) { s.i with use := true } rfl); clear hi2 hm2 hn2)
        | (go_at_call 174; (with_reducible refine (HN.out _ s H.out).mono ?_); rw [HY.out]; rintro e w1 ⟨rfl, hn1⟩; have H1 := Lib.hid (H.out.new hn1); clear hn1)
        | (go_at_call 174; (with_reducible refine (HN.out _ _ H3.out).mono ?_); rw [show nx (inI s { s.i with use := true }) = y from HY.out]; rintro e w3 ⟨rfl, hn3⟩; have H4 := Lib.hid (H3.out.new hn3); obtain ⟨c1, z1⟩ := H4.out.at1; change w3.cell? _ = some (.int .i64 (s.k : Int)) at c1; have H5 : Hid (SL C (tkS (inI s { s.i with use := true })) (w3.setCell ⟨C.g, 1, none⟩ (.int .i64 ((s.k : Int) + 1)))) := Lib.hid (H4.out.inc); clear hn3)
        | (go_at_call 177; refine (HNM.out _ _ (by show s.k + 1 ≤ 1000; omega) H5.out).mono ?_; rintro e w6 ⟨n6, rfl, hi6, hm6, h6⟩; have H6 := Lib.hid h6; have HM6 := Lib.hid hm6; obtain ⟨c6, z6⟩ := h6.i6; clear hi6 hm6 h6))
      go_end0
      exact ⟨rfl, _, .inr (.inl ⟨HO.out, HB.out, n6, HM6.out, rfl⟩), H6.out.seti 6 _ _ rfl⟩
    | false =>
      have HB : Hid (nx s ≠ [45]) := Lib.hid (by rw [HY.out]; exact fun e => by rw [e] at hb; exact absurd hb (by decide))
      have HNM : Hid (∀ W s1, s1.k ≤ 1000 → SL C s1 W → Calls Tryz.prog 177 #[.pointer (some ⟨C.g, 0, none⟩), .bool false] W (LnumD C s1 false)) := Lib.hid (fun W s1 h1 h2 => lnumber_any C s1 false W h2 h1)
      go_enter Tryz.func112, Tryz.ntmps112
      go_wp2_with (first
        | (go_at_call 176; (with_reducible refine (HR.out _ H1.out.pow).mono ?_); rintro e w2 ⟨n2, rfl, hi2, hm2, hn2⟩; have H2 := Lib.hid (H1.out.new hn2); obtain ⟨c4, z4⟩ := H2.out.i4; have H3 := Lib.hid (H2.out.seti 4 (.bool true) { s.i with use := true } rfl); clear hi2 hm2 hn2)
        | (go_at_call 174; (with_reducible refine (HN.out _ s H.out).mono ?_); rw [HY.out]; rintro e w1 ⟨rfl, hn1⟩; have H1 := Lib.hid (H.out.new hn1); clear hn1)
        | (go_at_call 174; (with_reducible refine (HN.out _ _ H3.out).mono ?_); rw [show nx (inI s { s.i with use := true }) = y from HY.out]; rintro e w3 ⟨rfl, hn3⟩; have H4 := Lib.hid (H3.out.new hn3); clear hn3)
        | (go_at_call 177; refine (HNM.out _ _ (by show s.k ≤ 1000; omega) H4.out).mono ?_; rintro e w6 ⟨n6, rfl, hi6, hm6, h6⟩; have H6 := Lib.hid h6; have HM6 := Lib.hid hm6; obtain ⟨c6, z6⟩ := h6.i6; clear hi6 hm6 h6))
      go_end0
      exact ⟨rfl, _, .inr (.inr ⟨HO.out, HB.out, n6, HM6.out, rfl⟩), H6.out.seti 6 _ _ rfl⟩

/-- A cell, as the document takes it: [, a register, a sign and a number, ]. -/
def celS (s : Ls) : Ls × Ls × Ls := (mustS [91] s, badS (tkS (mustS [91] s)) !(regOf (nx (mustS [91] s))).isSome, badS (tkS (badS (tkS (badS (tkS (mustS [91] s)) !(regOf (nx (mustS [91] s))).isSome)) (nx (badS (tkS (mustS [91] s)) !(regOf (nx (mustS [91] s))).isSome) != [43] && nx (badS (tkS (mustS [91] s)) !(regOf (nx (mustS [91] s))).isSome) != [45]))) !(numOf (nx (tkS (badS (tkS (mustS [91] s)) !(regOf (nx (mustS [91] s))).isSome)))).isSome)
def CelD (C : Cl) (s : Ls) (e : Ending) (w' : World) : Prop := ∃ n f, e = .returned (.int .i64 n) ∧ (∀ m, regOf (nx (celS s).1) = some m → n = m) ∧ (∀ m, numOf (nx (tkS (celS s).2.1)) = some m → f = negI (nx (celS s).2.1 == [45]) m) ∧ SL C (mustS [93] (inI (celS s).2.2 { s.i with off := f })) w'
set_option maxRecDepth 100000 in
set_option maxHeartbeats 1000000 in
theorem lcell_any (C : Cl) (s : Ls) (w : World) (h : SL C s w) (hk : s.k ≤ 800) : Calls Tryz.prog 115 #[.pointer (some ⟨C.g, 0, none⟩), .pointer (some ⟨C.gi, 0, none⟩)] w (CelD C s) := by
  have H := Lib.hid h
  have HMU : Hid (∀ W s1 x, s1.k ≤ 1000 → SL C s1 W → Calls Tryz.prog 111 #[.pointer (some ⟨C.g, 0, none⟩), .string ⟨x.toArray⟩] W (LsD C (.tuple #[]) (mustS x s1))) := Lib.hid (fun W s1 x h1 h2 => lmust_any C s1 x W h2 h1)
  have HRG : Hid (∀ W s1, s1.k ≤ 1000 → SL C s1 W → Calls Tryz.prog 110 #[.pointer (some ⟨C.g, 0, none⟩)] W (LregD C s1)) := Lib.hid (fun W s1 h1 h2 => lreg_any C s1 W h2 h1)
  have HSG : Hid (∀ W s1, s1.k ≤ 900 → SL C s1 W → Calls Tryz.prog 178 #[.pointer (some ⟨C.g, 0, none⟩)] W (LsgD C s1)) := Lib.hid (fun W s1 h1 h2 => lsigned_any C s1 W h2 h1)
  have k0 : s.k ≤ 1000 := by omega
  have k1 : (mustS [91] s).k ≤ 1000 := by show s.k + 1 ≤ 1000; omega
  have k2 : (badS (tkS (mustS [91] s)) !(regOf (nx (mustS [91] s))).isSome).k ≤ 900 := by show s.k + 1 + 1 ≤ 900; omega
  have k3 : ∀ n, (inI (celS s).2.2 { s.i with off := n }).k ≤ 1000 := fun n => by show s.k + 1 + 1 + 1 + 1 ≤ 1000; omega
  clear h
  go_enter Tryz.func115, Tryz.ntmps115
  go_wp2_with (first
    | (go_at_call 111; (with_reducible refine (HMU.out _ s [91] k0 H.out).mono ?_); rintro e w1 ⟨rfl, h1⟩; have H1 := Lib.hid h1; clear h1)
    | (go_at_call 110; (with_reducible refine (HRG.out _ _ k1 H1.out).mono ?_); rintro e w2 ⟨n2, rfl, hi2, hm2, h2⟩; have H2 := Lib.hid h2; have HM2 := Lib.hid hm2; clear hi2 hm2 h2)
    | (go_at_call 178; (with_reducible refine (HSG.out _ _ k2 H2.out).mono ?_); rintro e w3 ⟨n3, rfl, hi3, hm3, h3⟩; have HM3 := Lib.hid hm3; obtain ⟨c5, z5⟩ := h3.i5; have H3 : Hid (SL C (inI (celS s).2.2 { s.i with off := n3 }) (w3.setCell ⟨C.gi, 5, none⟩ (.int .i64 n3))) := Lib.hid (h3.seti 5 (.int .i64 n3) { s.i with off := n3 } rfl); clear hi3 hm3 h3)
    | (go_at_call 111; (with_reducible refine (HMU.out _ _ [93] (k3 n3) H3.out).mono ?_); rintro e w4 ⟨rfl, h4⟩; have H4 := Lib.hid h4; clear h4))
  go_ret
  exact ⟨n2, n3, rfl, HM2.out, HM3.out, H4.out⟩
end Go.Proofs.YtddojdgnakajmaaGreatDoor.txt
