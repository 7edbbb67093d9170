/-
  The document's Parse: what a line's reader takes.
-/
import Derived.Test.YtddojdgnakajmaaGreatDoorPe
namespace Go.Proofs.YtddojdgnakajmaaGreatDoor.txt
open Go.RowKit Go.Proofs.YtddojdgnakajmaaGreatDoor.mem Go.Proofs.YtddojdgnakajmaaGreatDoor.kit Go.Proofs.YtddojdgnakajmaaGreatDoor.ins
set_option linter.unusedVariables false
set_option linter.unusedSimpArgs false

theorem SL.nxl {C : Cl} {s : Ls} {w : World} (h : SL C s w) : (nx s).length ≤ 1000000000 := by
  unfold nx
  rw [List.getD_eq_getElem?_getD]
  cases hq : s.ts[s.k]? with
  | none => simp
  | some t => exact h.tok t (List.mem_of_getElem? hq)
def badS (s : Ls) (b : Bool) : Ls := { s with bad := s.bad || b }
theorem SL.bad_ {C : Cl} {s : Ls} {w : World} (h : SL C s w) (b : Bool) : SL C (badS s b) (w.setCell ⟨C.g, 2, none⟩ (.bool (s.bad || b))) := by
  obtain ⟨v, base, hb, ho⟩ := h.row
  exact h.to v base ((Ch.refl (fun j => j = C.g) _).setCell (p := ⟨C.g, 2, none⟩) (fun _ => rfl) _) (hb.set_ 2 _) ho rfl rfl
theorem SL.at2 {C : Cl} {s : Ls} {w : World} (h : SL C s w) : w.cell? ⟨C.g, 2, none⟩ = some (.bool s.bad) ∧ w.frozen? ⟨C.g, 2, none⟩ = false := by
  obtain ⟨v, base, hb, ho⟩ := h.row
  exact ⟨(hb.cell 2).trans rfl, hb.frozen 2⟩
theorem badS_no (s : Ls) : badS s false = s := by cases s; simp [badS]
theorem badS_true {s : Ls} (h : s.bad = true) (a b : Bool) : badS s a = badS s b := by
  cases s
  simp only at h
  subst h
  rfl
def mustS (x : Bs) (s : Ls) : Ls := badS (tkS s) (nx s != x)

set_option maxRecDepth 100000 in
theorem lmust_any (C : Cl) (s : Ls) (x : Bs) (w : World) (h : SL C s w) (hk : s.k ≤ 1000) : Calls Tryz.prog 111 #[.pointer (some ⟨C.g, 0, none⟩), .string ⟨x.toArray⟩] w (LsD C (.tuple #[]) (mustS x s)) := by
  have HT := Lib.hid (ltake_any C s w h hk)
  obtain ⟨y, hy⟩ : ∃ y, nx s = y := ⟨_, rfl⟩
  rw [hy] at HT
  unfold mustS
  rw [hy]
  clear h hy
  cases hq0 : y == x with
  | true =>
    have hq : (y != x) = false := by rw [bne, hq0]; rfl
    rw [hq, badS_no]
    go_enter Tryz.func111, Tryz.ntmps111
    go_wp2_with (go_at_call 108; (with_reducible refine HT.out.mono ?_); rintro e w1 ⟨rfl, h1⟩; have H1 := Lib.hid h1; clear h1)
    go_end0
    exact ⟨rfl, H1.out⟩
  | false =>
    have hq : (y != x) = true := by rw [bne, hq0]; rfl
    rw [hq]
    go_enter Tryz.func111, Tryz.ntmps111
    go_wp2_with (go_at_call 108; (with_reducible refine HT.out.mono ?_); rintro e w1 ⟨rfl, h1⟩; have H1 := Lib.hid h1; obtain ⟨c2, z2⟩ := h1.at2; clear h1)
    go_end0
    refine ⟨rfl, ?_⟩
    have := H1.out.bad_ true
    rwa [Bool.or_true] at this

def LregD (C : Cl) (s : Ls) (e : Ending) (w' : World) : Prop := ∃ n, e = .returned (.int .i64 n) ∧ I64 n ∧ (∀ m, regOf (nx s) = some m → n = m) ∧ SL C (badS (tkS s) !(regOf (nx s)).isSome) w'
set_option maxRecDepth 100000 in
theorem lreg_any (C : Cl) (s : Ls) (w : World) (h : SL C s w) (hk : s.k ≤ 1000) : Calls Tryz.prog 110 #[.pointer (some ⟨C.g, 0, none⟩)] w (LregD C s) := by
  have HT := Lib.hid (ltake_any C s w h hk)
  unfold LregD
  obtain ⟨y, hy⟩ : ∃ y, nx s = y := ⟨_, rfl⟩
  rw [hy] at HT
  rw [hy]
  have HR := Lib.hid (fun W hW => rreg_any y W hW)
  unfold RegD at HR
  obtain ⟨o, ho⟩ : ∃ o, regOf y = o := ⟨_, rfl⟩
  rw [ho] at HR
  rw [ho]
  obtain ⟨B, hB⟩ : ∃ B, o.isSome = B := ⟨_, rfl⟩
  rw [hB] at HR
  rw [hB]
  obtain ⟨b0, hb0⟩ : ∃ b0, s.bad = b0 := ⟨_, rfl⟩
  have HB0 : Hid ((tkS s).bad = b0) := Lib.hid hb0
  clear h hy ho hB hb0
  cases b0 <;> cases B
  all_goals
    go_enter Tryz.func110, Tryz.ntmps110
    go_wp2_with (first
      | (go_at_call 108; (with_reducible refine HT.out.mono ?_); rintro e w1 ⟨rfl, h1⟩; have H1 := Lib.hid h1; clear h1)
      | (go_at_call 176; (with_reducible refine (HR.out _ H1.out.pow).mono ?_); rintro e w2 ⟨n, rfl, hn, hm, hn2⟩; have H2 := Lib.hid (H1.out.new hn2); have HI := Lib.hid hn; have HM := Lib.hid hm; obtain ⟨c2, z2⟩ := H2.out.at2; rw [HB0.out] at c2; clear hn hm hn2))
    go_ret
    refine ⟨n, rfl, HI.out, HM.out, ?_⟩
    have h3 := fun b => H2.out.bad_ b
    rw [HB0.out] at h3
    first
      | exact h3 true
      | exact h3 false

theorem wrap_neg {m : Int} (h : 0 ≤ m ∧ m ≤ 9999999999) : wrap64 (-m) = -m := by unfold wrap64; omega
def negI (b : Bool) (n : Int) : Int := if b then -n else n
def LnumD (C : Cl) (s : Ls) (below : Bool) (e : Ending) (w' : World) : Prop := ∃ n, e = .returned (.int .i64 n) ∧ I64 n ∧ (∀ m, numOf (nx s) = some m → n = negI below m) ∧ SL C (badS (tkS s) !(numOf (nx s)).isSome) w'
set_option maxRecDepth 100000 in
set_option maxHeartbeats 1000000 in
theorem lnumber_any (C : Cl) (s : Ls) (below : Bool) (w : World) (h : SL C s w) (hk : s.k ≤ 1000) : Calls Tryz.prog 177 #[.pointer (some ⟨C.g, 0, none⟩), .bool below] w (LnumD C s below) := by
  have HT := Lib.hid (ltake_any C s w h hk)
  have hl := h.nxl
  unfold LnumD
  obtain ⟨y, hy⟩ : ∃ y, nx s = y := ⟨_, rfl⟩
  rw [hy] at HT hl
  rw [hy]
  have HR := Lib.hid (fun W => rnumber_any y W hl)
  unfold NumD at HR
  have HPos : Hid (∀ m, numOf y = some m → 0 ≤ m ∧ m ≤ 9999999999) := Lib.hid (fun m hm => num_pos hm)
  obtain ⟨o, ho⟩ : ∃ o, numOf y = o := ⟨_, rfl⟩
  rw [ho] at HR HPos
  rw [ho]
  obtain ⟨B, hB⟩ : ∃ B, o.isSome = B := ⟨_, rfl⟩
  rw [hB] at HR
  rw [hB]
  obtain ⟨b0, hb0⟩ : ∃ b0, s.bad = b0 := ⟨_, rfl⟩
  have HB0 : Hid ((tkS s).bad = b0) := Lib.hid hb0
  clear h hy ho hB hb0 hl
  cases b0 <;> cases B <;> cases below
  all_goals
    go_enter Tryz.func177, Tryz.ntmps177
    go_wp2_with (first
      | (go_at_call 108; (with_reducible refine HT.out.mono ?_); rintro e w1 ⟨rfl, h1⟩; have H1 := Lib.hid h1; clear h1)
      | (go_at_call 203; (with_reducible refine (HR.out _).mono ?_); rintro e w2 ⟨n, rfl, hn, hm, hn2⟩; have H2 := Lib.hid (H1.out.new hn2); have HI := Lib.hid hn; have HM := Lib.hid hm; obtain ⟨c2, z2⟩ := H2.out.at2; rw [HB0.out] at c2; clear hn hm hn2))
    go_ret
    have h3 := fun b => H2.out.bad_ b
    rw [HB0.out] at h3
    first
      | exact ⟨n, rfl, HI.out, HM.out, h3 true⟩
      | exact ⟨n, rfl, HI.out, HM.out, h3 false⟩
      | exact ⟨wrap64 (-n), rfl, wrap_I64 _, (fun m h => by rw [HM.out m h]; exact wrap_neg (HPos.out m h)), h3 true⟩
      | exact ⟨wrap64 (-n), rfl, wrap_I64 _, (fun m h => by rw [HM.out m h]; exact wrap_neg (HPos.out m h)), h3 false⟩

/-- A sign and a number. -/
def LsgD (C : Cl) (s : Ls) (e : Ending) (w' : World) : Prop := ∃ n, e = .returned (.int .i64 n) ∧ I64 n ∧ (∀ m, numOf (nx (tkS s)) = some m → n = negI (nx s == [45]) m) ∧ SL C (badS (tkS (badS (tkS s) (nx s != [43] && nx s != [45]))) !(numOf (nx (tkS s))).isSome) w'
set_option maxRecDepth 100000 in
set_option maxHeartbeats 1000000 in
theorem lsigned_any (C : Cl) (s : Ls) (w : World) (h : SL C s w) (hk : s.k ≤ 900) : Calls Tryz.prog 178 #[.pointer (some ⟨C.g, 0, none⟩)] w (LsgD C s) := by
  have HT := Lib.hid (ltake_any C s w h (by omega))
  unfold LsgD
  have HNM : Hid (∀ b0 below W, SL C (badS (tkS s) b0) W → Calls Tryz.prog 177 #[.pointer (some ⟨C.g, 0, none⟩), .bool below] W (LnumD C (badS (tkS s) b0) below)) := Lib.hid (fun b0 below W hW => lnumber_any C _ below W hW (by show s.k + 1 ≤ 1000; omega))
  obtain ⟨y, hy⟩ : ∃ y, nx s = y := ⟨_, rfl⟩
  rw [hy] at HT
  rw [hy]
  obtain ⟨b0, hb0⟩ : ∃ b0, s.bad = b0 := ⟨_, rfl⟩
  have HB0 : Hid ((tkS s).bad = b0) := Lib.hid hb0
  clear h hy hb0
  obtain ⟨p, hp⟩ : ∃ p, (y == [43]) = p := ⟨_, rfl⟩
  obtain ⟨m, hm⟩ : ∃ m, (y == [45]) = m := ⟨_, rfl⟩
  have hp2 : (y != [43]) = !p := by rw [bne, hp]
  have hm2 : (y != [45]) = !m := by rw [bne, hm]
  rw [hp2, hm2, hm]
  cases b0 <;> cases p <;> cases m
  all_goals
    go_enter Tryz.func178, Tryz.ntmps178
    go_wp2_with (first
      | (go_at_call 108; (with_reducible refine HT.out.mono ?_); rintro e w1 ⟨rfl, h1⟩; have H1 := Lib.hid h1; obtain ⟨c2, z2⟩ := h1.at2; rw [HB0.out] at c2; have h3 := fun b => h1.bad_ b; rw [HB0.out] at h3; have H3 := Lib.hid h3; clear h1 h3)
      | (go_at_call 177; first
          | (refine (HNM.out true _ _ (H3.out true)).mono ?_; rintro e w2 ⟨n, rfl, hn, hmm, h4⟩; have HI := Lib.hid hn; have HMM := Lib.hid hmm; have H4 := Lib.hid h4; clear hn hmm h4)
          | (refine (HNM.out false _ _ (H3.out false)).mono ?_; rintro e w2 ⟨n, rfl, hn, hmm, h4⟩; have HI := Lib.hid hn; have HMM := Lib.hid hmm; have H4 := Lib.hid h4; clear hn hmm h4)))
    go_ret
    first
      | exact ⟨n, rfl, HI.out, HMM.out, H4.out⟩
      | (refine ⟨n, rfl, HI.out, HMM.out, ?_⟩; have h4 := H4.out; rw [badS_true HB0.out true false] at h4; exact h4)
end Go.Proofs.YtddojdgnakajmaaGreatDoor.txt
