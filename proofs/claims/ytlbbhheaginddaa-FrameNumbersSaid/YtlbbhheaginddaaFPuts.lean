/-
  FramePuts.
-/
import Derived.Test.YtlbbhheaginddaaRefP
import Derived.Test.YtlbbhheaginddaaOwnK
import Derived.Test.YtlbbhheaginddaaLawG
namespace Go.Proofs.Ytlbbhheaginddaa.fr
open Go.RowKit Go.Proofs.Ytlbbhheaginddaa.mem Go.Proofs.Ytlbbhheaginddaa.kit Go.Proofs.Ytlbbhheaginddaa.wire Go.Proofs.Ytlbbhheaginddaa.crc
set_option linter.unusedVariables false

/-- What Put tells: bytes of the call's own, or none, and an error's number. -/
def PutZ (w : World) (Z : List UInt8) (Y : Int) (e : Ending) (w' : World) : Prop :=
  ∃ A c, e = .returned (.tuple #[.slice A Z.length c, .int .i64 Y]) ∧ w'.ownsRow w.heap.size 5 1 (.slice A Z.length c) Z.length (vb Z) ∧ New w w'
theorem PutOk.z {w w' : World} {fs : List Fi} {e : Ending} (h : PutOk w fs e w') : PutZ w (fbs (fs.map Fi.fr)) 0 e w' := h
theorem PutErr.z {w w' : World} {y : Int} {e : Ending} (h : PutErr w y e w') : PutZ w [] y e w' := ⟨none, 0, h.1, World.ownsRow_nil _ _ _ _, h.2⟩
/-- Both tell the same. -/
theorem puts_both (fs : List Fi) (hnl : fs.length + tot fs ≤ 20000) : ∃ Z Y, Z.length ≤ 1000000 ∧
    (∀ (W : World) (gs : List Fi) (A' : Option Addr) (c' : Nat), gs.map Fi.kd = fs.map Fi.kd → FrArr W A' gs → Calls Try.prog 5 #[.slice A' gs.length c'] W (PutZ W Z Y)) ∧
    (∀ (W : World) (A' : Option Addr) (c' : Nat), FrArr W A' fs → Calls Try.prog 7 #[.slice A' fs.length c'] W (PutZ W Z Y)) := by
  have hdl : ∀ i (h : i < fs.length), fs[i].data.length ≤ 1099511627776 := fun i h => by have := le_tot fs i h; omega
  have hKt : (fbs (fs.map Fi.fr)).length ≤ 1000000 := by
    have h9 : ∀ z : List Fi, (fbs (z.map Fi.fr)).length = 9 * z.length + tot z := fun z => by
      induction z with
      | nil => rfl
      | cons a t ih =>
        rw [List.map_cons, fbs_cons, List.length_append, ih, fb_length]
        simp only [tot, List.map_cons, List.sum_cons, List.length_cons]
        show 9 + a.data.length + _ = _
        omega
    rw [h9]
    omega
  rcases ok_or_wrong fs with hok | ⟨j, hj, h1, y, h2⟩
  · refine ⟨_, 0, hKt, fun W gs A' c' hk hf => ?_, fun W A' c' hf => (rput_ok A' fs.length c' fs W rfl hok (by omega) (by omega) hdl hf).mono fun e w' k => k.z⟩
    have hl : gs.length = fs.length := by have := congrArg List.length hk; simpa using this
    have hfr := frs_of_kds hk
    refine (put_ok A' gs.length c' gs W rfl (ok_of_kds hk hok) (by omega) (by rw [hfr]; omega) hf).mono fun e w' k => ?_
    have := k.z
    rwa [hfr] at this
  · refine ⟨[], y, by simp, fun W gs A' c' hk hf => ?_, fun W A' c' hf => (rput_err A' fs.length c' j y fs W rfl hj h1 (fun _ => h2) (by omega) (by omega) hdl hf).mono fun e w' k => k.z⟩
    have hl : gs.length = fs.length := by have := congrArg List.length hk; simpa using this
    have hat : ∀ i (h : i < gs.length) (h' : i < fs.length), gs[i].kind = fs[i].kind ∧ gs[i].data = fs[i].data := fun i h h' => by
      have e := congrArg (fun l => l[i]?) hk
      have e : Fi.kd gs[i] = Fi.kd fs[i] := by simpa [List.getElem?_map, List.getElem?_eq_getElem h, List.getElem?_eq_getElem h'] using e
      simpa [Fi.kd] using e
    refine (put_err A' gs.length c' gs j y W rfl (by omega) (fun i h hij => ?_) (fun h => ?_) (by omega) hf).mono fun e w' k => k.z
    · have q1 := h1 i (by omega) hij
      have q2 := hat i h (by omega)
      unfold Fi.Ok at q1 ⊢
      rw [q2.1, q2.2]
      exact q1
    · have q1 := h2
      have q2 := hat j h hj
      unfold Fi.Wrong at q1 ⊢
      rw [q2.1, q2.2]
      exact q1

theorem FrArr.newer {w w' : World} {A : Option Addr} {fs : List Fi} (h : FrArr w A fs) (hW : New w w') : FrArr w' A fs := fun i hi => by
  obtain ⟨g, e, hg, h0, h1, h2⟩ := h i hi
  exact ⟨g, e, by have := hW.size; omega, (hW.cell (p := ⟨g, i * 2, none⟩) hg).trans h0, (hW.cell (p := ⟨g, i * 2 + 1, none⟩) hg).trans h1, h2.new hW⟩
theorem reads_blk2 (w : World) (t : TypeId) (a b : Value) : Reads (w.alloc (.cells #[a, b] t)) (w.alloc (.cells #[a, b] t)).heap.size 1 (some ⟨w.heap.size, 0, none⟩) 2 [a, b] := by
  refine ⟨rfl, fun _ => ⟨_, rfl, by simp, fun j u hu => ?_⟩⟩
  rw [Addr.add_lit, Nat.zero_add, (Blk.new w t #[a, b]).cell j]
  simpa using hu

theorem rst2 {w3 w4 w5 W : World} {A4 A5 : Option Addr} {c4 c5 m4 m5 : Nat} {Z : List UInt8} (h4 : m4 = Z.length) (h5 : m5 = Z.length) (o4 : w4.ownsRow w3.heap.size 5 1 (.slice A4 m4 c4) m4 (vb Z)) (n4 : New w3 w4) (o5 : w5.ownsRow w4.heap.size 5 1 (.slice A5 m5 c5) m5 (vb Z)) (n5 : New w4 w5) (hW : New w5 W) :
    RSt w3 [(.slice A4 m4 c4, Z), (.slice A5 m5 c5, Z)] W := by
  subst h4
  subst h5
  exact (((RSt.nil w3).push o4 n4).push o5 n5).keep hW

set_option maxRecDepth 100000 in
set_option maxHeartbeats 8000000 in
theorem puts_small (A : Option Addr) (n c : Nat) (fs : List Fi) (w : World) (hn : n = fs.length) (hc : n ≤ c ∧ c ≤ maxLen) (hnl : n + tot fs ≤ 20000) (hA : FrOf w A fs) :
    Calls Try.prog 4 #[.slice A n c] w fun e w' => e = .returned (.bool true) ∧ New w w' := by
  have hdl : ∀ i (h : i < fs.length), fs[i].data.length ≤ 1099511627776 := fun i h => by have := le_tot fs i h; omega
  obtain ⟨Z, Y, hZl, hPE, hRP⟩ := puts_both fs (by omega)
  have HGR : Hid (Calls Try.prog 11 #[.slice A n c] w fun e w' => e = .returned (.bool false) ∧ w' = w) := Lib.hid (by
    have h := great_any A n c fs w hn (by omega) (fun i h => Nat.le_trans (hdl i h) (by decide)) hA
    rwa [show decide (20000 < n + tot fs) = false by simp; omega] at h)
  have HOW := Lib.hid (own_kept A n c fs w hn (by omega) hdl hA)
  have HPE := Lib.hid hPE
  have HTH : Hid (∀ W, New w W → Calls Try.prog 13 #[.slice A n c] W fun e w' => ∃ A' c', e = .returned (.slice A' n c') ∧ FrArr w' A' fs ∧ New W w') := Lib.hid (fun W hW => theirs_any A n c fs W hn (by omega) (hA.new hW))
  have HRP : Hid (∀ (W : World) (A' : Option Addr) (c' : Nat), FrArr W A' fs → Calls Try.prog 7 #[.slice A' n c'] W (PutZ W Z Y)) := Lib.hid (by rw [hn]; exact hRP)
  have HSM : Hid (∀ (W : World) (A1 A2 : Option Addr) (c1 c2 m1 m2 : Nat), m1 = Z.length → m2 = Z.length → Reads W W.heap.size 1 A1 m1 (vb Z) → Reads W W.heap.size 1 A2 m2 (vb Z) → Calls Try.prog 14 #[.slice A1 m1 c1, .slice A2 m2 c2] W fun e w' => e = .returned (.bool true) ∧ New W w') := Lib.hid (fun W A1 A2 c1 c2 m1 m2 h1 h2 r1 r2 => same_two A1 A2 m1 m2 c1 c2 Z W h1 h2 (by omega) r1 r2)
  have HAP : Hid (∀ (w3 w6 : World) (A1 A2 : Option Addr) (c1 c2 m1 m2 : Nat), m1 = Z.length → m2 = Z.length → New w w3 → RSt w3 [(.slice A1 m1 c1, Z), (.slice A2 m2 c2, Z)] w6 → Calls Try.prog 16 #[.slice (some ⟨w6.heap.size, 0, none⟩) 2 2] (w6.alloc (.cells #[.slice A1 m1 c1, .slice A2 m2 c2] 24)) fun e w' => e = .returned (.bool true) ∧ New w w') := Lib.hid (fun w3 w6 A1 A2 c1 c2 m1 m2 h1 h2 h3 hR => by
    have hR' := hR.keep (alloc_new w6 (.cells #[.slice A1 m1 c1, .slice A2 m2 c2] 24))
    refine (apart_rs (some ⟨w6.heap.size, 0, none⟩) 2 hR' rfl (by show 2 ≤ 1000000; omega) (fun p hp => ?_) (reads_blk2 w6 _ _ _)).mono fun e w' k => ⟨k.1, New.then h3 (hR'.new.trans k.2)⟩
    simp only [List.mem_cons, List.not_mem_nil, or_false] at hp
    rcases hp with rfl | rfl <;> (simp only; omega))
  have HA := Lib.hid hA
  have HN := Lib.hid hn
  have HD := Lib.hid hdl
  have hcn := hc.1
  have hn2 : n ≤ 20000 := by omega
  clear hA hn hdl hPE hRP hnl hc
  go_enter Try.func4, Try.ntmps4
  go_wp2_with (first
    | (go_at_call 11; (with_reducible refine HGR.out.mono ?_); rintro e w2 ⟨rfl, rfl⟩)
    | (go_at_call 12; (with_reducible refine HOW.out.mono ?_); rintro e w3 ⟨gs, A3, c3, hgk, rfl, hf3, hn3, hb3⟩; have HP3 := Lib.hid (HPE.out w3 gs A3 c3 hgk hf3); have HF3 := Lib.hid hf3; have HB3 := Lib.hid hb3; have HGK := Lib.hid hgk; have HN3 := Lib.hid hn3; have HGL : Hid (gs.length = n) := Lib.hid (by have := congrArg List.length hgk; rw [HN.out]; simpa using this); clear hn3 hf3 hgk hb3)
    | (go_at_call 5; (with_reducible refine HP3.out.mono ?_); rintro e w4 ⟨A4, c4, rfl, ho4, hn4⟩; have HO4 := Lib.hid ho4; have HN34 := Lib.hid hn4; have HF4 := Lib.hid (FrArr.newer HF3.out hn4); have HP4 := Lib.hid (HPE.out w4 gs A3 c3 HGK.out HF4.out); obtain ⟨m4, hm4⟩ : ∃ m, m = Z.length := ⟨_, rfl⟩; have HM4 := Lib.hid hm4; rw [← hm4] at HO4 ⊢; clear hn4 ho4 hm4)
    | (go_at_call 5; (with_reducible refine HP4.out.mono ?_); rintro e w5 ⟨A5, c5, rfl, ho5, hn5⟩; have HO5 := Lib.hid ho5; have HN45 := Lib.hid hn5; obtain ⟨m5, hm5⟩ : ∃ m, m = Z.length := ⟨_, rfl⟩; have HM5 := Lib.hid hm5; rw [← hm5] at HO5 ⊢; have HT5 := Lib.hid (HTH.out w5 (New.then (New.then HN3.out HN34.out) hn5)); clear hn5 ho5 hm5)
    | (go_at_call 13; (with_reducible refine HT5.out.mono ?_); rintro e w6 ⟨A6, c6, rfl, hf6, hn6⟩; have HR6 := Lib.hid (HRP.out w6 A6 c6 hf6); have HN56 := Lib.hid hn6; clear hf6 hn6)
    | (go_at_call 7; (with_reducible refine HR6.out.mono ?_); rintro e w7 ⟨A7, c7, rfl, ho7, hn7⟩; have HN67 := Lib.hid hn7; obtain ⟨m7, hm7⟩ : ∃ m, m = Z.length := ⟨_, rfl⟩; rw [← hm7] at ho7 ⊢; have HN47 := Lib.hid (New.then (New.then HN45.out HN56.out) hn7); have HS7 := Lib.hid (HSM.out w7 A4 A7 c4 c7 m4 m7 HM4.out hm7 ((own_typed HO4.out).2.1.new HN47.out) (own_typed ho7).2.1); clear hn7 ho7 hm7)
    | (go_at_call 14; (with_reducible refine HS7.out.mono ?_); rintro e w8 ⟨rfl, hn8⟩; have HN38 := Lib.hid (New.then (New.then HN34.out HN47.out) hn8); have HN78 := Lib.hid hn8; clear hn8)
    | fail)
  have HRS : Hid (∀ W, New w5 W → RSt w3 [(.slice A4 m4 c4, Z), (.slice A5 m5 c5, Z)] W) := Lib.hid (fun W hW => rst2 HM4.out HM5.out HO4.out HN34.out HO5.out HN45.out hW)
  have HN58 : Hid (New w5 w8) := Lib.hid (New.then (New.then HN56.out HN67.out) HN78.out)
  clear HP3 HP4 HT5 HR6 HS7 HSM HPE HRP HOW HTH
  go_loopw [10] (fun i wr => ∃ k : Nat, k ≤ n ∧ i = .int .i64 k ∧ New w8 wr) (fun i _ => n - (intOf i).toNat)
  case atStart => exact ⟨0, Nat.zero_le _, rfl, new_refl _⟩
  case round =>
    obtain ⟨k, hk, rfl, hnw⟩ := hrel
    have HNW := Lib.hid hnw
    clear hnw
    by_cases hlt : k < n
    · have hlg : k < gs.length := by have := HGL.out; omega
      have hlf : k < fs.length := by have := HN.out; omega
      obtain ⟨g, rfl, hg, g0, g1, -⟩ := HF3.out k hlg
      obtain ⟨f, o, rfl, hf, f0, f1, hrf⟩ := HA.out k hlf
      obtain ⟨b, eb, hbb, hcc⟩ := HB3.out k hlg
      have hdk := HD.out k hlf
      have e : Fi.kd gs[k] = Fi.kd fs[k] := by
        have h := congrArg (fun l => l[k]?) HGK.out
        simpa [List.getElem?_map, List.getElem?_eq_getElem hlg, List.getElem?_eq_getElem hlf] using h
      rw [eb, hcc] at g1
      obtain ⟨x, hx⟩ : ∃ x, gs[k] = x := ⟨_, rfl⟩
      obtain ⟨y, hy⟩ : ∃ y, fs[k] = y := ⟨_, rfl⟩
      rw [hx] at g0 g1 hbb e
      rw [hy] at f0 f1 hrf e hdk
      simp only [Fi.kd, Prod.mk.injEq] at e
      obtain ⟨e1, e2⟩ := e
      rw [e1] at g0
      rw [e2] at g1 hbb
      have N3 : New w3 wr := New.then HN38.out HNW.out
      have N2 := New.then HN3.out N3
      have k0 := (N3.cell (p := ⟨g, k * 2, none⟩) hg).trans g0
      have k1 := (N3.cell (p := ⟨g, k * 2 + 1, none⟩) hg).trans g1
      have k2 := (N2.cell (p := ⟨f, o + k * 2, none⟩) hf).trans f0
      have k3 := (N2.cell (p := ⟨f, o + k * 2 + 1, none⟩) hf).trans f1
      have HS := Lib.hid (kept_any b y.A y.c y.data wr.drew hdk (Blk.drew (hbb.below N3 hbb.lt)) (hrf.new (Below.drew N2)))
      have HG := Lib.hid (Nat.lt_of_lt_of_le hg N3.size)
      have HF := Lib.hid (Nat.lt_of_lt_of_le hf N2.size)
      have HK0 := Lib.hid k0
      have HK1 := Lib.hid k1
      have HK2 := Lib.hid k2
      have HK3 := Lib.hid k3
      have hN0 : New wr wr.drew := Below.drew (new_refl wr)
      obtain ⟨dl, hdl⟩ : ∃ dl, y.data.length = dl := ⟨_, rfl⟩
      rw [hdl] at k1 k3 HS HK1 HK3
      obtain ⟨q, hq⟩ : ∃ q, y.kind = q := ⟨_, rfl⟩
      rw [hq] at k0 k2 HK0 HK2
      clear g0 g1 f0 f1 hrf hdk hx hy e1 e2 hg hf hdl hq eb hcc hbb N3 N2
      go_wp2
      go_region_held3 (fun w' => w'.cell? ⟨g, k * 2, none⟩ = some (.int .i64 q) ∧ w'.cell? ⟨g, k * 2 + 1, none⟩ = some (.slice (some ⟨b, 0, none⟩) dl (dl + 12)) ∧ w'.cell? ⟨f, o + k * 2, none⟩ = some (.int .i64 q) ∧ w'.cell? ⟨f, o + k * 2 + 1, none⟩ = some (.slice y.A dl y.c))
        (go_keep)
        (first
          | (go_at_call 15; (with_reducible refine HS.out.mono ?_); rintro e w9 ⟨rfl, hn9⟩; have hN9 := New.then hN0 hn9; have s0 := (hN9.cell (p := ⟨g, k * 2, none⟩) HG.out).trans HK0.out; have s1 := (hN9.cell (p := ⟨g, k * 2 + 1, none⟩) HG.out).trans HK1.out; have s2 := (hN9.cell (p := ⟨f, o + k * 2, none⟩) HF.out).trans HK2.out; have s3 := (hN9.cell (p := ⟨f, o + k * 2 + 1, none⟩) HF.out).trans HK3.out)
          | fail)
      go_wp2_with fail
      go_roundw
      case rel => exact ⟨k + 1, by omega, by go_num, New.then HNW.out hN9⟩
      case measure => simp [intOf]; omega
    · obtain rfl : k = n := by omega
      have HAP9 := Lib.hid (HAP.out w3 wr A4 A5 c4 c5 m4 m5 HM4.out HM5.out HN3.out (HRS.out wr (New.then HN58.out HNW.out)))
      go_wp2_with (first
        | (go_at_call 16; (with_reducible refine HAP9.out.mono ?_); rintro e w10 ⟨rfl, hn10⟩; have HN10 := Lib.hid hn10; have HAW := Lib.hid (awake_any w10); clear hn10)
        | (go_at_call 10; (with_reducible refine HAW.out.mono ?_); rintro e w11 ⟨rfl, hn11⟩; have HN11 := Lib.hid (New.then HN10.out hn11); clear hn11)
        | fail)
      go_ret
      exact ⟨rfl, HN11.out⟩

set_option maxRecDepth 100000 in
set_option maxHeartbeats 4000000 in
theorem FramePuts_any (A : Option Addr) (n c : Nat) (fs : List Fi) (w : World) (hn : n = fs.length) (hc : n ≤ c ∧ c ≤ maxLen) (hnl : n ≤ 4398046511104) (hdl : ∀ i (h : i < fs.length), fs[i].data.length ≤ 140737488351232) (hA : FrOf w A fs) :
    Calls Try.prog 4 #[.slice A n c] w fun e w' => e = .returned (.bool true) ∧ New w w' := by
  by_cases hg : 20000 < n + tot fs
  · have HAW := Lib.hid (awake_any w)
    have HGR : Hid (Calls Try.prog 11 #[.slice A n c] w fun e w' => e = .returned (.bool true) ∧ w' = w) := Lib.hid (by
      have h := great_any A n c fs w hn hnl hdl hA
      rwa [show decide (20000 < n + tot fs) = true by simp; omega] at h)
    clear hc hA hdl hn hg
    go_enter Try.func4, Try.ntmps4
    go_wp2_with (first
      | (go_at_call 11; (with_reducible refine HGR.out.mono ?_); rintro e w2 ⟨rfl, rfl⟩)
      | (go_at_call 10; (with_reducible refine HAW.out.mono ?_); rintro e w1 ⟨rfl, hn1⟩; have HN1 := Lib.hid hn1; clear hn1)
      | fail)
    go_ret
    exact ⟨rfl, HN1.out⟩
  · exact puts_small A n c fs w hn hc (by omega) hA
end Go.Proofs.Ytlbbhheaginddaa.fr
