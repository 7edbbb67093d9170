/-
  FrameScans.
-/
import Derived.Test.YtlbbhheaginddaaRefS
import Derived.Test.YtlbbhheaginddaaKitC
namespace Go.Proofs.Ytlbbhheaginddaa.fr
open Go.RowKit Go.Proofs.Ytlbbhheaginddaa.mem Go.Proofs.Ytlbbhheaginddaa.kit Go.Proofs.Ytlbbhheaginddaa.wire Go.Proofs.Ytlbbhheaginddaa.crc
set_option linter.unusedVariables false

theorem rscan_any (A : Option Addr) (n c : Nat) (l : List UInt8) (w : World) (hn : n = l.length) (hl : n ≤ 1000000) (hc : n ≤ c ∧ c ≤ maxLen) (hA : Reads w w.heap.size 1 A n (vb l)) :
    Calls Try.prog 25 #[.slice A n c] w (ScF w l) := by
  by_cases h0 : 0 < n
  · obtain ⟨ad, rfl, hb, hcl⟩ := hA.2 h0
    have hsp : (ad.add 0).spot = none := by
      have hz := hcl 0 _ (vb_get l 0 (by omega))
      unfold World.cell? at hz
      split at hz
      · split at hz
        · cases hz
        · rename_i hs
          cases hsp : (ad.add 0).spot with
          | none => rfl
          | some x => simp [hsp] at hs
      · cases hz
    obtain ⟨gb, ob, sp⟩ := ad
    have hsp' : sp = none := by
      have : (Addr.add ⟨gb, ob, sp⟩ 0).spot = sp := by unfold Addr.add; split <;> simp_all
      rw [← this]; exact hsp
    subst hsp'
    exact rscan_round gb ob n c l w hn hl hc hA
  · obtain rfl : n = 0 := by omega
    have hl0 : l = [] := List.eq_nil_of_length_eq_zero hn.symm
    subst hl0
    have HS := Lib.hid ((RS.start w []).stop (A := none) (c := 0) (b := false) (by rw [List.drop_nil, st_nil]; decide) (by rw [List.drop_nil, st_nil]; rfl))
    clear hA hc hn hl h0
    go_enter Try.func25, Try.ntmps25
    go_wp2
    refine wp_loop_rounds 1 ?_
    rw [rounds_succ]
    go_wp2
    go_ret3
    exact HS.out

/-- What a scan told, looked at. -/
theorem scd_parts {w w' : World} {l : List UInt8} {e : Ending} (h : ScD w l e w') : ∃ (fs : List Fi) (A : Option Addr) (c N : Nat), N = (told l).length ∧ fs.length = N ∧ fs.map Fi.fr = told l ∧ (∀ i (h : i < fs.length), fs[i].Ok) ∧ e = .returned (.tuple #[.slice A N c, .int .i64 ((fbs (told l)).length : Int), .bool (st (crc.left l) == 2)]) ∧ FrArr w' A fs ∧ New w w' ∧ RSt w (fs.map fun x => (.slice x.A x.data.length x.c, x.data)) w' := by
  obtain ⟨xs, A, c, h1, rfl, ho, hr⟩ := h
  have hf := ScD.frames ⟨xs, A, c, h1, rfl, ho, hr⟩
  have hlen : (xs.map itF).length = xs.length := by simp
  have hN : xs.length = (told l).length := by rw [← h1, List.length_map]
  have hrs : (xs.map itF).map (fun x : Fi => ((.slice x.A x.data.length x.c : Value), x.data)) = xs.map itR := by
    rw [List.map_map]
    rfl
  refine ⟨xs.map itF, A, c, _, rfl, by rw [hlen, hN], by rw [itF_map, h1], fun i hi => ?_, by rw [hN], ?_, hr.new, by rw [hrs]; exact hr⟩
  · have hi' : i < xs.length := by simpa using hi
    have hok := (scan_back l.length l (Nat.le_refl _)).2.1
    rw [List.getElem_map]
    refine ⟨by unfold itF; simp only; omega, by unfold itF; have := xs[i].1.1.toNat_lt; simp only; omega, ?_⟩
    exact hok xs[i].1 (by rw [← h1]; exact List.mem_map.2 ⟨xs[i], List.getElem_mem hi', rfl⟩)
  · intro i hi
    rcases ho.2 with ⟨e, e0⟩ | ⟨g, cap, cur, e, _⟩
    · have : i < xs.length := by simpa using hi
      omega
    · simp only [Value.slice.injEq] at e
      obtain ⟨rfl, -, -⟩ := e
      refine frArr_of (n := xs.length) (fs := xs.map itF) (by rw [itF_C]; exact (own_typed ho).2.1) hlen.symm (fun j hj => ?_) i hi
      have hj' : j < xs.length := by simpa using hj
      have hrow := (hr.row j (by simpa using hj')).2
      simp only [List.getElem_map] at hrow ⊢
      exact (own_typed hrow).2.1
def sl (x : Fi) : Value := .slice x.A x.data.length x.c

set_option maxRecDepth 100000 in
set_option maxHeartbeats 8000000 in
theorem scans_any (A : Option Addr) (n c : Nat) (bs : List UInt8) (w : World) (hn : n = bs.length) (hl : n ≤ 1000000) (hc : n ≤ c ∧ c ≤ maxLen) (hA : Reads w w.heap.size 1 A n (vb bs)) :
    Calls Try.prog 8 #[.slice A n c] w fun e w' => e = .returned (.bool true) ∧ New w w' := by
  obtain ⟨i0, hi, hz0, hz1, hz2⟩ := info_parts row_info
  have HLE := Lib.hid (show Calls Try.prog 24 #[.slice A n c] w _ by rw [hn] at hA ⊢; exact lent_any A c bs w (by omega) hA)
  rw [← hn] at HLE
  have HSC : Hid (∀ W g, New w W → Blk W g 5 (vb (bs ++ marks 1 12)).toArray → Calls Try.prog 6 #[.slice (some ⟨g, 0, none⟩) n (n + 12)] W (ScD W bs)) := Lib.hid (fun W g hW hb => by
    have hr := lent_reads hb
    rw [hn]
    exact scan_any (some ⟨g, 0, none⟩) (bs.length + 12) bs W (by omega) ⟨by omega, by unfold maxLen; omega⟩ hr)
  have HRS : Hid (∀ W, New w W → Calls Try.prog 25 #[.slice A n c] W (ScF W bs)) := Lib.hid (fun W hW => rscan_any A n c bs W hn hl hc (hA.new hW))
  have HKE : Hid (∀ W g, New w W → Blk W g 5 (vb (bs ++ marks 1 12)).toArray → Calls Try.prog 15 #[.slice (some ⟨g, 0, none⟩) n (n + 12), .slice A n c] W fun e w' => e = .returned (.bool true) ∧ New W w') := Lib.hid (fun W g hW hb => by
    have h := hA.new hW
    rw [hn] at h ⊢
    exact kept_any g A c bs W (by omega) hb h)
  obtain ⟨U, hU⟩ : ∃ U, (fbs (told bs)).length = U := ⟨_, rfl⟩
  obtain ⟨q, hq⟩ : ∃ q, (st (crc.left bs) == 2) = q := ⟨_, rfl⟩
  have hUb : U ≤ n := by
    have := congrArg List.length (scan_back bs.length bs (Nat.le_refl _)).1
    rw [List.length_append] at this
    omega
  have hNb : 9 * (told bs).length ≤ U := by rw [← hU]; exact fbs_ge _
  have HU := Lib.hid hU
  have HQ := Lib.hid hq
  clear hA hc hU hq hn
  go_enter Try.func8, Try.ntmps8
  go_wp2_with (first
    | (go_at_call 24; (with_reducible refine HLE.out.mono ?_); rintro e w1 ⟨⟨rfl, hb1⟩, hn1⟩; have HB1 := Lib.hid hb1; have HN1 := Lib.hid hn1; have HSC1 := Lib.hid (HSC.out w1 _ hn1 hb1); clear hb1 hn1)
    | (go_at_call 6; (with_reducible refine HSC1.out.mono ?_); rintro e w2 hsd; obtain ⟨fs, A2, c2, N, hN, hfl, hfr, hok, rfl, hf2, hn2, hr2⟩ := scd_parts hsd; rw [HU.out, HQ.out]; have HF2 := Lib.hid hf2; have HN2 := Lib.hid hn2; have HR2 := Lib.hid hr2; have HFR := Lib.hid hfr; have HOK := Lib.hid hok; have HNN := Lib.hid hN; have HFL := Lib.hid hfl; have HRS2 := Lib.hid (HRS.out w2 (New.then HN1.out hn2)); clear hsd hN hfl hfr hok hf2 hn2 hr2)
    | (go_at_call 25; (with_reducible refine HRS2.out.mono ?_); rintro e w3 ⟨gs, A3, c3, hgf, hgo, rfl, hg3, hn3⟩; rw [HU.out, HQ.out]; have hgl : gs.length = N := (by have := congrArg List.length hgf; rw [HNN.out]; simpa using this); rw [hgl]; have HGL := Lib.hid hgl; have HGF := Lib.hid hgf; have HGO := Lib.hid hgo; have HG3 := Lib.hid hg3; have HN3 := Lib.hid hn3; have HN13 := Lib.hid (New.then HN2.out hn3); have HKE3 := Lib.hid (HKE.out w3 _ (New.then HN1.out HN13.out) (HB1.out.below HN13.out HB1.out.lt)); clear hgl hgf hgo hg3 hn3)
    | (go_at_call 15; (with_reducible refine HKE3.out.mono ?_); rintro e w4 ⟨rfl, hn4⟩; have HN34 := Lib.hid hn4; clear hn4)
    | fail)
  have HN14 := Lib.hid (New.then HN13.out HN34.out)
  have HN24 := Lib.hid (New.then HN3.out HN34.out)
  have hN1 : N ≤ 1000000 := by have := HNN.out; omega
  have HAP : Hid (∀ W A9 c9, New w4 W → Reads W W.heap.size 1 A9 N (fs.map sl) → Calls Try.prog 16 #[.slice A9 N c9] W fun e w' => e = .returned (.bool true) ∧ Below w1.heap.size W w') := Lib.hid (fun W A9 c9 hW hr => by
    refine apart_rs A9 c9 (HR2.out.keep (New.then HN24.out hW)) (by rw [List.length_map, HFL.out]) (by omega) (fun p hp => ?_) (by rw [List.map_map]; exact hr)
    obtain ⟨x, hx, rfl⟩ := List.mem_map.1 hp
    obtain ⟨i, hi, rfl⟩ := List.getElem_of_mem hx
    have := (HOK.out i hi).2.2
    simp only
    omega)
  have HKD : Hid (fs.map Fi.kd = gs.map Fi.kd) := Lib.hid (kds_of_frs HOK.out HGO.out (by rw [HFR.out, HGF.out]))
  clear HLE HSC HRS HSC1 HRS2 HKE3 hNb hUb
  go_loopw [10, 11] (fun v i wr => ∃ k : Nat, k ≤ N ∧ i = .int .i64 k ∧ wr.ownsRow w4.heap.size 24 1 v k ((fs.take k).map sl) ∧ New w4 wr) (fun _ i _ => N - (intOf i).toNat)
  case atStart => exact ⟨0, Nat.zero_le _, rfl, World.ownsRow_nil _ _ _ _, new_refl _⟩
  case round =>
    obtain ⟨k, hk, rfl, hrow, hnw⟩ := hrel
    have HROW := Lib.hid hrow
    have HNW := Lib.hid hnw
    clear hrow hnw
    by_cases hlt : k < N
    · have hlf : k < fs.length := by have := HFL.out; omega
      have hlg : k < gs.length := by have := HGL.out; omega
      obtain ⟨g, rfl, hg, g0, g1, hrg⟩ := HF2.out k hlf
      obtain ⟨f, rfl, hf, f0, f1, hrf⟩ := HG3.out k hlg
      have hok := (HOK.out k hlf).2.2
      have e : Fi.kd fs[k] = Fi.kd gs[k] := by
        have h := congrArg (fun l => l[k]?) HKD.out
        simpa [List.getElem?_map, List.getElem?_eq_getElem hlg, List.getElem?_eq_getElem hlf] using h
      have HTK : Hid ((fs.take (k + 1)).map sl = (fs.take k).map sl ++ [sl fs[k]]) := Lib.hid (by rw [← List.take_append_getElem hlf, List.map_append]; rfl)
      obtain ⟨x, hx⟩ : ∃ x, fs[k] = x := ⟨_, rfl⟩
      obtain ⟨y, hy⟩ : ∃ y, gs[k] = y := ⟨_, rfl⟩
      rw [hx] at g0 g1 hrg e HTK hok
      rw [hy] at f0 f1 hrf e
      simp only [Fi.kd, Prod.mk.injEq] at e
      obtain ⟨e1, e2⟩ := e
      rw [← e1] at f0
      rw [← e2] at f1 hrf
      have N2 : New w2 wr := New.then HN24.out HNW.out
      have N3 : New w3 wr := New.then HN34.out HNW.out
      have k0 := (N2.cell (p := ⟨g, k * 2, none⟩) hg).trans g0
      have k1 := (N2.cell (p := ⟨g, k * 2 + 1, none⟩) hg).trans g1
      have k2 := (N3.cell (p := ⟨f, k * 2, none⟩) hf).trans f0
      have k3 := (N3.cell (p := ⟨f, k * 2 + 1, none⟩) hf).trans f1
      have HS := Lib.hid (same_any x.A y.A x.c y.c x.data wr.drew (by omega) (hrg.new (Below.drew N2)) (hrf.new (Below.drew N3)))
      have HG := Lib.hid (Nat.lt_of_lt_of_le hg N2.size)
      have HF := Lib.hid (Nat.lt_of_lt_of_le hf N3.size)
      have HK0 := Lib.hid k0
      have HK1 := Lib.hid k1
      have HK2 := Lib.hid k2
      have HK3 := Lib.hid k3
      have hN0 : New wr wr.drew := Below.drew (new_refl wr)
      have HSL : Hid (sl x = .slice x.A x.data.length x.c) := Lib.hid rfl
      obtain ⟨dl, hdl⟩ : ∃ dl, x.data.length = dl := ⟨_, rfl⟩
      rw [hdl] at k1 k3 HS HK1 HK3 HSL
      rw [HSL.out] at HTK
      have hb1 : k + 1 ≤ maxLen := by unfold maxLen; omega
      have hb2 : (k + 1) * 24 ≤ 140737488355328 := by omega
      have HB1 := Lib.hid hb1
      have HB2 := Lib.hid hb2
      generalize x.kind = q' at *
      clear g0 g1 f0 f1 hrf hrg hx hy e1 e2 hg hf hdl N2 N3 hok hb1 hb2 HSL
      go_wp2
      go_region_held3 (fun w' => w'.cell? ⟨g, k * 2, none⟩ = some (.int .i64 q') ∧ w'.cell? ⟨g, k * 2 + 1, none⟩ = some (.slice x.A dl x.c) ∧ w'.cell? ⟨f, k * 2, none⟩ = some (.int .i64 q') ∧ w'.cell? ⟨f, k * 2 + 1, none⟩ = some (.slice y.A dl y.c))
        (go_keep)
        (first
          | (go_at_call 14; (with_reducible refine HS.out.mono ?_); rintro e w7 ⟨rfl, hn7⟩; have hN7 := New.then hN0 hn7; have HN7 := Lib.hid hN7; have s0 := (hN7.cell (p := ⟨g, k * 2, none⟩) HG.out).trans HK0.out; have s1 := (hN7.cell (p := ⟨g, k * 2 + 1, none⟩) HG.out).trans HK1.out; have s2 := (hN7.cell (p := ⟨f, k * 2, none⟩) HF.out).trans HK2.out; have s3 := (hN7.cell (p := ⟨f, k * 2 + 1, none⟩) HF.out).trans HK3.out; clear hN7 hn7)
          | fail)
      have hy1 : w7.cell? ⟨g, k * 2 + 1, none⟩ = some (.slice x.A dl x.c) := (HN7.out.cell (p := ⟨g, k * 2 + 1, none⟩) HG.out).trans HK1.out
      go_wp2_with (first
        | (at_builtin; refine wpList_append_any _ rfl (.tmp 78) (.tmp 84) 46 rfl w4.heap.size 24 i0 (.slice none 0 0) 1 24 Try.underlying46 hi hz0 hz1 hz2 rfl (by decide) _ k ((fs.take k).map sl) rfl (own_new (own_new HROW.out HN7.out) (alloc_new w7 _)) _ (some ⟨w7.heap.size, 0, none⟩) 1 1 [.slice x.A dl x.c] rfl (reads_new w7 _ _) (by simp [Value.oneCell']) HB1.out HB2.out (Nat.le_trans (Nat.le_trans HNW.out.size HN7.out.size) (alloc_new w7 _).size) ?_; intro v9 w9 hown9 hg9 hat9)
        | fail)
      have HN9 := Lib.hid ((New.then (New.then HNW.out HN7.out) (alloc_new w7 _)).grown hg9 (Nat.le_trans (Nat.le_trans HNW.out.size HN7.out.size) (alloc_new w7 _).size) (fun j hj => (own_cells HROW.out hj).1))
      go_roundw
      case rel => exact ⟨k + 1, by omega, by go_num, by rw [HTK.out]; exact hown9, HN9.out⟩
      case measure => simp [intOf]; omega
    · obtain rfl : k = N := by omega
      have hrow := HROW.out
      rw [← HFL.out, List.take_length] at hrow
      obtain ⟨A9, c9, rfl, -, -, hr9⟩ := own_len hrow
      rw [HFL.out] at hr9 ⊢
      have HAP9 := Lib.hid (HAP.out wr A9 c9 HNW.out hr9)
      have HN1r := Lib.hid (New.then HN14.out HNW.out)
      clear hrow hr9 HROW
      go_wp2_with (first
        | (go_at_call 16; (with_reducible refine HAP9.out.mono ?_); rintro e w8 ⟨rfl, hb8⟩; have HN8 : Hid (New w w8) := Lib.hid ((New.then HN1.out HN1r.out).trans (hb8.mono HN1.out.size)); have HKE8 := Lib.hid (HKE.out w8 w.heap.size HN8.out ((HB1.out.below HN1r.out HB1.out.lt).below hb8 HB1.out.lt)); clear hb8)
        | (go_at_call 15; (with_reducible refine HKE8.out.mono ?_); rintro e w10 ⟨rfl, hn10⟩; have HN10 := Lib.hid (New.then HN8.out hn10); clear hn10)
        | fail)
      go_ret
      exact ⟨rfl, HN10.out⟩

end Go.Proofs.Ytlbbhheaginddaa.fr
