/-
  The document's Sum.
-/
import Derived.Test.YtnmjgbkifglleaaDoorShaY
namespace Go.Proofs.YtnmjgbkifglleaaDoor.sha
open Go.RowKit Go.Proofs.YtnmjgbkifglleaaDoor.mem
set_option linter.unusedVariables false
theorem st_len (s : St) : s.list.length = 8 := rfl
theorem reads_st (W : World) (g : Nat) (s : St) (h : Bq W g s.list) : Reads (W.alloc (.cells #[] 40)) (W.alloc (.cells #[] 40)).heap.size 1 (some ⟨g, 0, none⟩) s.list.length (vq s.list) := by
  have h1 := (h.reads 8 (Nat.le_refl _)).new (alloc_new W (.cells #[] 40))
  rw [List.take_of_length_le (by rw [st_len]; omega)] at h1
  exact h1
theorem reads7 (W : World) (gs a b c d e f g h : Nat) (hb : Bq W gs [a, b, c, d, e, f, g, h]) (o : Obj) : Reads (W.alloc o) (W.alloc o).heap.size 1 (some ⟨gs, 0, none⟩) [a, b, c, d, e, f, g].length (vq [a, b, c, d, e, f, g]) := by
  have h1 := (hb.reads 7 (by simp)).new (alloc_new W o)
  rw [show List.take 7 [a, b, c, d, e, f, g, h] = [a, b, c, d, e, f, g] from rfl] at h1
  exact h1
set_option maxRecDepth 100000 in
set_option maxHeartbeats 8000000 in
theorem rsum_any (A : Option Addr) (n c : Nat) (l : List UInt8) (w : World) (hn : n = l.length) (hl : n ≤ 1000000) (hA : Reads w w.heap.size 1 A n (vb l)) :
    Calls Tryd.prog 12 #[.slice A n c] w fun e w' => ∃ v, e = .returned v ∧ Ab w v (sum l) w' := by
  have HR8 : Hid (Calls Tryd.prog 26 #[.int .i64 8, .int .i64 2] w fun e w' => ∃ v, e = .returned v ∧ Aq w v start.list w') := Lib.hid (by
    have h := rroots_any 8 2 20 w (by decide) (by decide) (by decide) (by decide) (by rw [roots8]; rfl)
    rw [roots8] at h
    exact h)
  have HR64 : Hid (∀ W, Calls Tryd.prog 26 #[.int .i64 64, .int .i64 3] W fun e w' => ∃ v, e = .returned v ∧ Aq W v consts w') := Lib.hid (fun W => by
    have h := rroots_any 64 3 320 W (by decide) (by decide) (by decide) (by decide) (by rw [roots64]; rfl)
    rw [roots64] at h
    exact h)
  have HMS : Hid (∀ W, New w W → Calls Tryd.prog 27 #[.slice A n c] W fun e w' => ∃ v, e = .returned v ∧ Ab W v (msg l) w') := Lib.hid (fun W hW => rmessage_any A n c l W hn hl (hA.new hW))
  obtain ⟨ms, hms⟩ : ∃ ms, msg l = ms := ⟨_, rfl⟩
  obtain ⟨M, hM⟩ : ∃ M, ms.length = M := ⟨_, rfl⟩
  have hM64 : M % 64 = 0 := by rw [← hM, ← hms]; exact msg_mod l
  have hM0 : 0 < M := by rw [← hM, ← hms, msg_length]; omega
  have hMb : M ≤ 1000128 := by
    have := padz_le l.length
    rw [← hM, ← hms, msg_length]
    omega
  have HSUM : Hid (sum l = (blocks start ms (M / 64)).bytes) := Lib.hid (by rw [sum_msg, hms, hM])
  rw [hms] at HMS
  have HML := Lib.hid hM
  clear hA hms hM hn
  go_enter Tryd.func12, Tryd.ntmps12
  go_wp2_with (first
    | (go_at_call 26; (with_reducible refine HR8.out.mono ?_); rintro e w1 ⟨v, rfl, hq⟩; obtain ⟨gh, cph, rfl, hch, hgh, hbh⟩ := hq.bq 8 rfl (by decide); have HN1 := Lib.hid hq.new; have HH1 := Lib.hid hbh; have HGH := Lib.hid hgh; clear hq hbh hgh)
    | (go_at_call 26; (with_reducible refine (HR64.out w1).mono ?_); rintro e w2 ⟨v, rfl, hq⟩; obtain ⟨gk, ck, rfl, hck, hgk, hbk⟩ := hq.bq 64 rfl (by decide); have HN2 := Lib.hid (New.then HN1.out hq.new); have HH2 := Lib.hid (HH1.out.new hq.new); have HK2 := Lib.hid hbk; have hhk : gh < gk := Nat.lt_of_lt_of_le HH1.out.lt hgk; clear hq hbk hgk)
    | (go_at_call 27; (with_reducible refine (HMS.out w2 HN2.out).mono ?_); rintro e w3 ⟨v, rfl, hq⟩; obtain ⟨gm, cm, rfl, hcm, hcmax, hgm, hgl, hcell⟩ := hq.at_ M HML.out hM0; have hhm : gh < gm := Nat.lt_of_lt_of_le HH2.out.lt hgm; have HOS : Hid (OS w ms gh gk gm start.list w3) := Lib.hid ⟨New.then HN2.out hq.new, HH2.out.new hq.new, HK2.out.new hq.new, hcell, hgl⟩; clear hq hgm hgl hcell)
    | fail)
  clear HR8 HR64 HMS HH1 HN1 HN2 HH2 HK2
  have HHK := Lib.hid hhk
  have HHM := Lib.hid hhm
  have HCX := Lib.hid hcmax
  have HM64 := Lib.hid hM64
  have hcmx : (cm : Int) ≤ 9223372036854775807 := by unfold maxLen at hcmax; omega
  clear hhk hhm hcmax hM64
  go_loopw [6] (fun va wr => ∃ kk p : Nat, va = .int .i64 (p : Int) ∧ p ≤ M ∧ Hid (p = 64 * kk ∧ OS w ms gh gk gm (blocks start ms kk).list wr)) (fun va _ => M - (intOf va).toNat)
  case atStart => exact ⟨0, 0, rfl, Nat.zero_le _, Lib.hid ⟨rfl, HOS.out⟩⟩
  case round =>
    clear HOS
    obtain ⟨kk, p, rfl, hp, HO⟩ := hrel
    obtain ⟨H, hH⟩ : ∃ H, blocks start ms kk = H := ⟨_, rfl⟩
    have HBH := Lib.hid hH
    have HOK : Hid H.Ok := Lib.hid (by rw [← hH]; exact blocks_ok _ _ start_ok _)
    rw [hH] at HO
    clear hH
    by_cases hlt : p < M
    · have hp64 : p + 64 ≤ M := by have := HM64.out; have := HO.out.1; omega
      obtain ⟨lb, hlb⟩ : ∃ lb, (ms.drop (64 * kk)).take 64 = lb := ⟨_, rfl⟩
      have hlb64 : lb.length = 64 := by rw [← hlb, List.length_take, List.length_drop, HML.out, ← HO.out.1]; omega
      have HBN : Hid (blocks start ms (kk + 1) = mix H lb) := Lib.hid (by rw [blocks, HBH.out, hlb])
      have HWD : Hid (Calls Tryd.prog 28 #[.slice (some ⟨gm, p, none⟩) 64 (cm - p)] wr fun e w' => ∃ v, e = .returned v ∧ Aq wr v (words lb) w') := Lib.hid (rwords_any gm p (cm - p) lb wr hlb64 ⟨by omega, by have := HCX.out; omega⟩ HO.out.2.lt (fun i hi => by
        have hi' : p + i < ms.length := by rw [HML.out]; omega
        rw [HO.out.2.m (p + i) hi']
        congr 3
        have e2 := HO.out.1
        subst hlb
        simp only [List.getElem_take, List.getElem_drop, e2]))
      have HWL : Hid ((words lb).length = 64) := Lib.hid (words_length lb)
      have HWT : Hid (∀ x ∈ words lb, x < 4294967296) := Lib.hid (words_lt lb)
      have hpc : ¬ (cm : Int) = (p : Int) := by omega
      have hpc2 : ¬ cm = p := by omega
      have h64 : p + 64 - p = 64 := by omega
      have hpcm : p + 64 ≤ cm := by omega
      have hpcmi : (p : Int) + 64 ≤ (cm : Int) := by omega
      clear hlb hlb64
      go_wp2_with (first
        | (go_at_call 28; (with_reducible refine HWD.out.mono ?_); rintro e w4 ⟨v, rfl, hq⟩; obtain ⟨gw, cw, rfl, hcw, hgw, hbw⟩ := hq.bq 64 HWL.out (by decide); have HW4 := Lib.hid hbw; have HO4 := Lib.hid (HO.out.2.then_ hq.new); have HX4 := Lib.hid (reads_st w4 gh H HO4.out.h); clear hq hbw hgw)
        | (at_builtin; refine wpl_aq (w0 := w4) (z := []) (l := H.list) rfl (.tmp 35) (.tmp 36) rfl (Aq.made0 w4) rfl (by rw [st_len]; rfl) HX4.out (by rw [st_len]; decide) ?_; intro v5 w5 hM5; obtain ⟨gs5, cs5, rfl, hcs5, hgs5, hbs5⟩ := hM5.bq 8 (by rw [List.nil_append, st_len]) (by decide); have HS5 := Lib.hid hbs5; have HG5 := Lib.hid hgs5; have HN5 := Lib.hid hM5.new; clear hM5 hbs5 hgs5)
        | fail)
      have HGW : Hid (gw < w4.heap.size) := Lib.hid HW4.out.lt
      clear HWD HX4
      go_loopw [8, 9] (fun vs vt wi => ∃ t gs cs : Nat, t ≤ 64 ∧ vt = .int .i64 (t : Int) ∧ vs = .slice (some ⟨gs, 0, none⟩) 8 cs ∧ 8 ≤ cs ∧ Hid (w4.heap.size ≤ gs ∧ Bq wi gs (rounds H lb t).list ∧ New w4 wi)) (fun _ vt _ => 64 - (intOf vt).toNat)
      case atStart => exact ⟨0, gs5, cs5, Nat.zero_le _, rfl, rfl, hcs5, Lib.hid ⟨HG5.out, HS5.out, HN5.out⟩⟩
      case round =>
        clear HS5 HG5 HN5
        obtain ⟨t, gs, cs, ht, rfl, rfl, hcs, HI⟩ := hrel
        by_cases hlt2 : t < 64
        · obtain ⟨T, hT⟩ : ∃ T, rounds H lb t = T := ⟨_, rfl⟩
          have HTT := Lib.hid hT
          have hok : T.Ok := by rw [← hT]; exact rounds_ok _ _ _ HOK.out
          rw [hT] at HI
          obtain ⟨kt, hkt⟩ : ∃ kt, consts[t]? = some kt := ⟨_, List.getElem?_eq_getElem (by rw [consts_length]; exact hlt2)⟩
          obtain ⟨wt, hwt⟩ : ∃ wt, (words lb)[t]? = some wt := ⟨_, List.getElem?_eq_getElem (by rw [HWL.out]; exact hlt2)⟩
          have lk : kt < 4294967296 := consts_lt kt (List.mem_of_getElem? hkt)
          have lw : wt < 4294967296 := HWT.out wt (List.mem_of_getElem? hwt)
          have HST : Hid (rounds H lb (t + 1) = step T kt wt) := Lib.hid (by rw [rounds_succ H lb t hlt2 kt wt hkt hwt, hT])
          have cK : wr.cell? ⟨gk, t, none⟩ = some (.int .u64 (kt : Int)) := (HO4.out.k.new HI.out.2.2).at_ hkt
          have cW : wr.cell? ⟨gw, t, none⟩ = some (.int .u64 (wt : Int)) := (HW4.out.new HI.out.2.2).at_ hwt
          obtain ⟨a, b, c', d, e, f, g, h⟩ := T
          obtain ⟨la, lb', lc, ld, le, lf, lg, lh⟩ := hok
          simp only at la lb' lc ld le lf lg lh
          have c0 : wr.cell? ⟨gs, 0, none⟩ = some (.int .u64 (a : Int)) := HI.out.2.1.at_ rfl
          have c1 : wr.cell? ⟨gs, 1, none⟩ = some (.int .u64 (b : Int)) := HI.out.2.1.at_ rfl
          have c2 : wr.cell? ⟨gs, 2, none⟩ = some (.int .u64 (c' : Int)) := HI.out.2.1.at_ rfl
          have c4 : wr.cell? ⟨gs, 4, none⟩ = some (.int .u64 (e : Int)) := HI.out.2.1.at_ rfl
          have c5 : wr.cell? ⟨gs, 5, none⟩ = some (.int .u64 (f : Int)) := HI.out.2.1.at_ rfl
          have c6 : wr.cell? ⟨gs, 6, none⟩ = some (.int .u64 (g : Int)) := HI.out.2.1.at_ rfl
          have c7 : wr.cell? ⟨gs, 7, none⟩ = some (.int .u64 (h : Int)) := HI.out.2.1.at_ rfl
          have v1 := ch_q e f g le lf lg
          have v2 := maj_q a b c' la lb' lc
          have v3 := bg1_q e le
          have v4 := bg0_q a la
          have HT6 : Hid (∀ W : World, Calls Tryd.prog 29 #[.int .u64 (e : Int), .int .u64 6] W fun e' w' => e' = .returned (.int .u64 (rotr e 6 : Nat)) ∧ W = w') := Lib.hid (fun W => rturned_any e 6 26 W le rfl (by decide) (by decide))
          have HT11 : Hid (∀ W : World, Calls Tryd.prog 29 #[.int .u64 (e : Int), .int .u64 11] W fun e' w' => e' = .returned (.int .u64 (rotr e 11 : Nat)) ∧ W = w') := Lib.hid (fun W => rturned_any e 11 21 W le rfl (by decide) (by decide))
          have HT25 : Hid (∀ W : World, Calls Tryd.prog 29 #[.int .u64 (e : Int), .int .u64 25] W fun e' w' => e' = .returned (.int .u64 (rotr e 25 : Nat)) ∧ W = w') := Lib.hid (fun W => rturned_any e 25 7 W le rfl (by decide) (by decide))
          have HT2 : Hid (∀ W : World, Calls Tryd.prog 29 #[.int .u64 (a : Int), .int .u64 2] W fun e' w' => e' = .returned (.int .u64 (rotr a 2 : Nat)) ∧ W = w') := Lib.hid (fun W => rturned_any a 2 30 W la rfl (by decide) (by decide))
          have HT13 : Hid (∀ W : World, Calls Tryd.prog 29 #[.int .u64 (a : Int), .int .u64 13] W fun e' w' => e' = .returned (.int .u64 (rotr a 13 : Nat)) ∧ W = w') := Lib.hid (fun W => rturned_any a 13 19 W la rfl (by decide) (by decide))
          have HT22 : Hid (∀ W : World, Calls Tryd.prog 29 #[.int .u64 (a : Int), .int .u64 22] W fun e' w' => e' = .returned (.int .u64 (rotr a 22 : Nat)) ∧ W = w') := Lib.hid (fun W => rturned_any a 22 10 W la rfl (by decide) (by decide))
          have k1 := ch_lt e f g le lf lg
          have k2 := maj_lt a b c' la lb' lc
          have k3 := bg1_lt e le
          have k4 := bg0_lt a la
          have HU1 : Hid (oneU ⟨a, b, c', d, e, f, g, h⟩ kt wt = h + bg1 e + ch e f g + kt + wt) := Lib.hid rfl
          have HU2 : Hid (twoU ⟨a, b, c', d, e, f, g, h⟩ = bg0 a + maj a b c') := Lib.hid rfl
          generalize ch e f g = z1 at *
          generalize maj a b c' = z2 at *
          generalize bg1 e = z3 at *
          generalize bg0 a = z4 at *
          generalize rotr e 6 = r6 at *
          generalize rotr e 11 = r11 at *
          generalize rotr e 25 = r25 at *
          generalize rotr a 2 = r2 at *
          generalize rotr a 13 = r13 at *
          generalize rotr a 22 = r22 at *
          obtain ⟨n1, hn1⟩ : ∃ n1, h + z3 + z1 + kt + wt = n1 := ⟨_, rfl⟩
          have ln1 : n1 ≤ 21474836475 := by omega
          have i1 : (h : Int) + (z3 : Int) + (z1 : Int) + (kt : Int) + (wt : Int) = (n1 : Int) := by omega
          have s1 : IntKind.u64.wrap ((h : Int) + (z3 : Int)) = (h : Int) + (z3 : Int) := IntWalk.u64_in _ ⟨by omega, by omega⟩
          have s2 : IntKind.u64.wrap ((h : Int) + (z3 : Int) + (z1 : Int)) = (h : Int) + (z3 : Int) + (z1 : Int) := IntWalk.u64_in _ ⟨by omega, by omega⟩
          have s3 : IntKind.u64.wrap ((h : Int) + (z3 : Int) + (z1 : Int) + (kt : Int)) = (h : Int) + (z3 : Int) + (z1 : Int) + (kt : Int) := IntWalk.u64_in _ ⟨by omega, by omega⟩
          have s4 : IntKind.u64.wrap ((h : Int) + (z3 : Int) + (z1 : Int) + (kt : Int) + (wt : Int)) = (n1 : Int) := by rw [IntWalk.u64_in _ ⟨by omega, by omega⟩]; exact i1
          have HN1 := Lib.hid hn1
          have HKT := Lib.hid hkt
          have HWTT := Lib.hid hwt
          have hti : (t : Int) < 64 := by omega
          clear hn1 i1 hkt hwt hT
          go_wp2
          go_region_held3 (fun w' => w'.cell? ⟨gs, 4, none⟩ = some (.int .u64 (e : Int)) ∧ w'.cell? ⟨gs, 0, none⟩ = some (.int .u64 (a : Int)))
            (go_keep)
            (fail)
          go_wp2_with fail
          go_region_held3 (fun w' => w'.cell? ⟨gs, 5, none⟩ = some (.int .u64 (f : Int)) ∧ w'.cell? ⟨gs, 6, none⟩ = some (.int .u64 (g : Int)))
            (go_keep)
            (fail)
          go_wp2_with fail
          go_region_held3 (fun w' => w'.cell? ⟨gs, 1, none⟩ = some (.int .u64 (b : Int)) ∧ w'.cell? ⟨gs, 2, none⟩ = some (.int .u64 (c' : Int)))
            (go_keep)
            (fail)
          go_wp2_with fail
          go_region_held3 (fun w' => w'.cell? ⟨gs, 7, none⟩ = some (.int .u64 (h : Int)) ∧ w'.cell? ⟨gk, t, none⟩ = some (.int .u64 (kt : Int)) ∧ w'.cell? ⟨gw, t, none⟩ = some (.int .u64 (wt : Int)))
            (go_keep)
            (first
              | (go_at_call 29; (with_reducible refine (HT6.out _).mono ?_); rintro e' w1 ⟨rfl, rfl⟩)
              | (go_at_call 29; (with_reducible refine (HT11.out _).mono ?_); rintro e' w1 ⟨rfl, rfl⟩)
              | (go_at_call 29; (with_reducible refine (HT25.out _).mono ?_); rintro e' w1 ⟨rfl, rfl⟩)
              | fail)
          have HN4 : Hid (New w4 wr.drew.drew.drew.drew) := Lib.hid (Below.drew (Below.drew (Below.drew (Below.drew HI.out.2.2))))
          have hbT : Bq wr.drew.drew.drew.drew gs [a, b, c', d, e, f, g, h] := HI.out.2.1
          have HX7 := Lib.hid (reads7 _ gs a b c' d e f g h hbT)
          clear hbT
          obtain ⟨x0, hx0⟩ : ∃ x0, lo (n1 + (z4 + z2)) = x0 := ⟨_, rfl⟩
          obtain ⟨x4, hx4⟩ : ∃ x4, lo (d + n1) = x4 := ⟨_, rfl⟩
          have y0 : bits BinOp.and IntKind.u64 ((n1 : Int) + ((z4 : Int) + (z2 : Int))) 4294967295 = (x0 : Int) := by
            rw [← hx0, ← and_q (n1 + (z4 + z2)) (by omega)]; simp
          have y4 : bits BinOp.and IntKind.u64 ((d : Int) + (n1 : Int)) 4294967295 = (x4 : Int) := by
            rw [← hx4, ← and_q (d + n1) (by omega)]; simp
          have HY0 : Hid ((oneU ⟨a, b, c', d, e, f, g, h⟩ kt wt + twoU ⟨a, b, c', d, e, f, g, h⟩) % 4294967296 = x0) := Lib.hid (by rw [HU1.out, HU2.out, HN1.out, ← hx0]; rfl)
          have HY4 : Hid ((d + oneU ⟨a, b, c', d, e, f, g, h⟩ kt wt) % 4294967296 = x4) := Lib.hid (by rw [HU1.out, HN1.out, ← hx4]; rfl)
          clear hx0 hx4
          have HX0 : Hid (Aq w4 (.slice (some ⟨wr.drew.drew.drew.drew.heap.size, 0, none⟩) 1 1) [x0] (wr.drew.drew.drew.drew.alloc (.cells #[.int .u64 (x0 : Int)] 40))) := Lib.hid (Aq.made1 w4 _ HN4.out _ _ rfl)
          clear c0 c1 c2 c4 c5 c6 c7 cK cW v1 v2 v3 s1 s2 s3 s4
          go_wp2_with (first
            | (go_at_call 29; (with_reducible refine (HT2.out _).mono ?_); rintro e' w1 ⟨rfl, rfl⟩)
            | (go_at_call 29; (with_reducible refine (HT13.out _).mono ?_); rintro e' w1 ⟨rfl, rfl⟩)
            | (go_at_call 29; (with_reducible refine (HT22.out _).mono ?_); rintro e' w1 ⟨rfl, rfl⟩)
            | (at_builtin; refine wpl_aq (w0 := w4) (z := [x0]) (l := [a, b, c', d, e, f, g]) rfl (.tmp 117) (.tmp 119) rfl HX0.out rfl rfl (HX7.out _) (by simp) ?_; intro v6 w6 hM6; obtain ⟨g6, c6, rfl, hc6, hg6, hb6⟩ := hM6.bq 8 rfl (by decide); have d4 := hb6.at_ (i := 4) (b := d) rfl; have fz4 := hb6.frozen 4; have HB6 := Lib.hid hb6; have HG6 := Lib.hid hg6; have HN6 := Lib.hid hM6.new; clear hM6 hb6 hg6)
            | fail)
          go_roundw
          case rel =>
            refine ⟨t + 1, g6, c6, by omega, by go_num, rfl, hc6, Lib.hid ⟨HG6.out, ?_, HN6.out.setCell HG6.out _⟩⟩
            have hst := HST.out
            have hl := step_u ⟨a, b, c', d, e, f, g, h⟩ kt wt
            rw [HY0.out] at hl
            simp only at hl
            rw [HY4.out, ← hst] at hl
            rw [hl]
            exact HB6.out.set x4
          case measure => simp [intOf]; omega
        · obtain rfl : t = 64 := by omega
          obtain ⟨T, hT⟩ : ∃ T, rounds H lb 64 = T := ⟨_, rfl⟩
          have HPL : Hid (H.plus T = mix H lb) := Lib.hid (by rw [← hT]; exact rounds_all H lb)
          have HTO : Hid T.Ok := Lib.hid (by rw [← hT]; exact rounds_ok _ _ _ HOK.out)
          rw [hT] at HI
          have HO5 : Hid (OS w ms gh gk gm (upd H T 0) wr) := Lib.hid (by rw [upd_zero]; exact HO4.out.then_ HI.out.2.2)
          have HS5 : Hid (Bq wr gs T.list) := Lib.hid HI.out.2.1
          have hgne : gh < gs := Nat.lt_of_lt_of_le HO4.out.h.lt HI.out.1
          clear hT
          go_wp2
          go_loopw [16] (fun vi wj => ∃ i : Nat, i ≤ 8 ∧ vi = .int .i64 (i : Int) ∧ Hid (OS w ms gh gk gm (upd H T i) wj ∧ Bq wj gs T.list)) (fun vi _ => 8 - (intOf vi).toNat)
          case atStart => exact ⟨0, Nat.zero_le _, rfl, Lib.hid ⟨HO5.out, HS5.out⟩⟩
          case round =>
            clear HO5 HS5
            obtain ⟨i, hi, rfl, HJ⟩ := hrel
            by_cases hi8 : i < 8
            · obtain ⟨x, y, hx, hy, hxs, hset⟩ := upd_at H T i hi8
              have lx := list_ok HOK.out hxs
              have ly := list_ok HTO.out hy
              have d0 := HJ.out.1.h.at_ hx
              have d1 := HJ.out.2.at_ hy
              have d2 := HJ.out.1.h.frozen i
              obtain ⟨z, hz⟩ : ∃ z, lo (x + y) = z := ⟨_, rfl⟩
              have va : bits BinOp.and IntKind.u64 ((x : Int) + (y : Int)) 4294967295 = (z : Int) := by
                rw [← hz, ← and_q (x + y) (by omega)]; simp
              have va2 := add_q x y lx ly
              rw [hz] at hset va2
              have HSET := Lib.hid hset
              clear hx hy hxs hset hz
              have hi8i : (i : Int) < 8 := by omega
              go_wp2
              go_still_tail 13, (by kernel_rfl)
              have d0' : wr.drew.cell? ⟨gh, i, none⟩ = some (.int .u64 (x : Int)) := d0
              have d2' : wr.drew.frozen? ⟨gh, i, none⟩ = false := d2
              go_wp2_with fail
              go_roundw
              case rel =>
                (repeat apply Exists.intro)
                refine ⟨?_, rfl⟩
                refine ⟨i + 1, by omega, by go_num, Lib.hid ⟨?_, Bq.drew (HJ.out.2.far (p := ⟨gh, i, none⟩) (Nat.ne_of_gt hgne) _)⟩⟩
                rw [← HSET.out]
                exact (HJ.out.1.set HGH.out HHK.out HHM.out i z).drew
              case measure => simp [intOf]; omega
            · obtain rfl : i = 8 := by omega
              go_wp2
              go_roundw
              case rel =>
                refine ⟨kk + 1, p + 64, by go_num, by omega, Lib.hid ⟨by have := HO.out.1; omega, ?_⟩⟩
                have hu := HJ.out.1
                rw [upd_all, HPL.out, ← HBN.out] at hu
                exact hu
              case measure => simp [intOf]; omega
    · obtain rfl : p = M := by omega
      have HEND : Hid (sum l = someB H 8) := Lib.hid (by
        have e1 : kk = p / 64 := by have := HO.out.1; omega
        rw [HSUM.out, ← e1, HBH.out]
        rfl)
      obtain ⟨wx, hwx⟩ : ∃ wx : World, wx = wr := ⟨_, rfl⟩
      have HW : Hid (OS w ms gh gk gm H.list wx) := Lib.hid (by rw [hwx]; exact HO.out.2)
      have HWX := Lib.hid hwx
      clear hwx
      go_wp2
      go_loopw [17, 18] (fun vo vi wj => ∃ i m : Nat, ∃ A c, i ≤ 8 ∧ vi = .int .i64 (i : Int) ∧ vo = .slice A m c ∧ Hid (m = 4 * i ∧ Ab wx (.slice A m c) (someB H i) wj)) (fun _ vi _ => 8 - (intOf vi).toNat)
      case atStart => exact ⟨0, 0, none, 0, Nat.zero_le _, rfl, rfl, Lib.hid ⟨rfl, by rw [HWX.out]; exact Ab.nil _⟩⟩
      case round =>
        obtain ⟨i, m, A', c', hi, rfl, rfl, HJ⟩ := hrel
        by_cases hi8 : i < 8
        · obtain ⟨x, hx⟩ : ∃ x, H.list[i]? = some x := ⟨_, List.getElem?_eq_getElem (by rw [st_len]; exact hi8)⟩
          have lx := list_ok HOK.out hx
          have d0 := (HW.out.h.new HJ.out.2.new).at_ hx
          have HSX : Hid (someB H (i + 1) = someB H i ++ be4 x) := Lib.hid (by
            obtain ⟨h1, h2⟩ := List.getElem?_eq_some_iff.1 hx
            rw [someB_succ H i h1, h2])
          have HX := Lib.hid hx
          have hi8i : (i : Int) < 8 := by omega
          have HMK : Hid (∀ o : Obj, Ab wx (.slice A' m c') (someB H i) (wr.drew.alloc o)) := Lib.hid (fun o => Ab.keep (w := wr.drew) ⟨HJ.out.2.own, Below.drew HJ.out.2.new⟩ (alloc_new wr.drew o))
          have hml : m ≤ 32 := by have := HJ.out.1; omega
          have HLL : Hid ((someB H i).length = m) := Lib.hid (by rw [someB_length H i hi]; exact HJ.out.1.symm)
          clear hx
          go_wp2
          go_region_held3 (fun w' => w'.cell? ⟨gh, i, none⟩ = some (.int .u64 (x : Int)))
            (go_keep)
            (first
              | (refine step_ab (w0 := wx) (z := someB H i) (l := be4 x) (by rfl) (.tmp 150) (.tmp 174) (by rfl) (HMK.out _) (by rfl) (by rfl) (reads_fourb _ _ _ _ _ _ (be4_q x lx) (by rfl)) (by rw [HLL.out]; simp [be4]; omega) ?_; intro v5 w5 hM5; obtain ⟨A5, c5, rfl, -, -⟩ := hM5.len (m + 4) (by rw [List.length_append, HLL.out]; rfl); have HM5 := Lib.hid hM5; have s0 := (HW.out.h.new hM5.new).at_ HX.out; clear hM5)
              | fail)
          go_wp2_with fail
          go_roundw
          case rel => exact ⟨i + 1, m + 4, A5, c5, by omega, by go_num, rfl, Lib.hid ⟨by have := HJ.out.1; omega, by rw [HSX.out]; exact HM5.out⟩⟩
          case measure => simp [intOf]; omega
        · obtain rfl : i = 8 := by omega
          go_wp2
          go_ret
          refine ⟨_, rfl, ?_, New.then HW.out.new HJ.out.2.new⟩
          rw [HEND.out]
          exact own_base HJ.out.2.own HW.out.new.size
end Go.Proofs.YtnmjgbkifglleaaDoor.sha
