/-
  FrameSpoilt, where frames may be and Data is long enough.
-/
import Derived.Test.YtdbolkmhmgbgfaaSpoM
namespace Go.Proofs.Ytdbolkmhmgbgfaa.fr
open Go.RowKit Go.Proofs.Ytdbolkmhmgbgfaa.mem Go.Proofs.Ytdbolkmhmgbgfaa.kit Go.Proofs.Ytdbolkmhmgbgfaa.wire Go.Proofs.Ytdbolkmhmgbgfaa.crc
set_option linter.unusedVariables false

/-- Bytes in a block of the call's own, which may be turned. -/
def Buf (W : World) (g : Nat) (l : List UInt8) : Prop := ∃ cs : Array Value, Blk W g 5 cs ∧ ∀ (i : Nat) (h : i < l.length), cs[i]? = some (.int .u8 (l[i].toNat : Int))
theorem Buf.at_ {W : World} {g i : Nat} {l : List UInt8} {b : UInt8} (h : Buf W g l) (hi : l[i]? = some b) : W.cell? ⟨g, i, none⟩ = some (.int .u8 (b.toNat : Int)) := by
  obtain ⟨cs, hb, hc⟩ := h
  obtain ⟨hlt, rfl⟩ := List.getElem?_eq_some_iff.1 hi
  exact (hb.cell i).trans (hc i hlt)
theorem Buf.set {W : World} {g i : Nat} {l : List UInt8} (h : Buf W g l) (b : UInt8) : Buf (W.setCell ⟨g, i, none⟩ (.int .u8 (b.toNat : Int))) g (l.set i b) := by
  obtain ⟨cs, hb, hc⟩ := h
  refine ⟨_, hb.set_ i _, fun k hk => ?_⟩
  have hk' : k < l.length := by simpa using hk
  have hck := hc k hk'
  have hlt := (Array.getElem?_eq_some_iff.1 hck).1
  rw [List.getElem_set]
  by_cases e : i = k
  · subst e
    rw [if_pos rfl, Array.getElem?_setIfInBounds_self_of_lt hlt]
  · rw [if_neg e, Array.getElem?_setIfInBounds_ne e]
    exact hck
theorem Buf.frozen {W : World} {g : Nat} {l : List UInt8} (h : Buf W g l) (i : Nat) : W.frozen? ⟨g, i, none⟩ = false := by
  obtain ⟨cs, hb, hc⟩ := h
  exact hb.frozen i
theorem Buf.reads {W : World} {g : Nat} {l : List UInt8} (h : Buf W g l) : Reads W W.heap.size 1 (some ⟨g, 0, none⟩) l.length (vb l) := by
  obtain ⟨cs, hb, hc⟩ := h
  refine ⟨by rw [vb_length, Nat.mul_one], fun _ => ⟨_, rfl, hb.lt, fun j u hu => ?_⟩⟩
  have hj : j < l.length := by
    have := (List.getElem?_eq_some_iff.1 hu).1
    rwa [vb_length] at this
  rw [vb_get l j hj] at hu
  rw [Addr.add_lit, Nat.zero_add, hb.cell j, hc j hj]
  exact hu
theorem buf_of_own {W : World} {B n c : Nat} {A : Option Addr} {l : List UInt8} (h : W.ownsRow B 5 1 (.slice A n c) n (vb l)) (hn : n = l.length) (h0 : 0 < n) : ∃ g, A = some ⟨g, 0, none⟩ ∧ B ≤ g ∧ Buf W g l := by
  have hr := Reads.of_own h
  rcases h.2 with ⟨e, e0⟩ | ⟨g, cap, cur, e, hB, hb, _⟩
  · omega
  · simp only [Value.slice.injEq] at e
    obtain ⟨rfl, -, -⟩ := e
    refine ⟨g, rfl, hB, cur, hb, fun i hi => ?_⟩
    obtain ⟨ad, ea, hlt, hc⟩ := hr.2 h0
    simp only [Option.some.injEq] at ea
    subst ea
    have := hc i _ (vb_get l i hi)
    rw [Addr.add_lit, Nat.zero_add] at this
    rw [← this]
    exact (Blk.cell (cs := cur) (t := 5) hb i).symm

theorem Buf.new {W W' : World} {g : Nat} {l : List UInt8} (h : Buf W g l) (hn : New W W') : Buf W' g l := by
  obtain ⟨cs, hb, hc⟩ := h
  exact ⟨cs, hb.below hn hb.lt, hc⟩

theorem bit_form (tn b : Nat) (ht : tn < 4294967296) : bits BinOp.and IntKind.u32 ((tn : Int) / 2 ^ b) 1 = ((tn / 2 ^ b % 2 : Nat) : Int) := by
  have e : (tn : Int) / 2 ^ b = ((tn / 2 ^ b : Nat) : Int) := by simp
  rw [e, and_one _ (Nat.lt_of_le_of_lt (Nat.div_le_self _ _) ht)]
theorem bit_one (tn b : Nat) (ht : tn < 4294967296) (h : tn.testBit b = true) : bits BinOp.and IntKind.u32 ((tn : Int) / 2 ^ b) 1 = 1 := by
  rw [bit_form tn b ht]
  rw [Nat.testBit_eq_decide_div_mod_eq] at h
  simp only [decide_eq_true_eq] at h
  rw [h]; rfl
theorem bit_nought (tn b : Nat) (ht : tn < 4294967296) (h : ¬ tn.testBit b = true) : bits BinOp.and IntKind.u32 ((tn : Int) / 2 ^ b) 1 = 0 := by
  rw [bit_form tn b ht]
  rw [Nat.testBit_eq_decide_div_mod_eq] at h
  simp only [decide_eq_true_eq] at h
  rw [show tn / 2 ^ b % 2 = 0 by omega]; rfl

theorem turn_val (y : UInt8) (m : Nat) : bits BinOp.xor IntKind.u8 (y.toNat : Int) (2 ^ (m % 8) % 256) = ((UInt8.ofNat (y.toNat ^^^ 2 ^ (m % 8))).toNat : Int) := by
  have hp : 2 ^ (m % 8) < 256 := Nat.pow_lt_pow_right (n := 8) (by decide) (Nat.mod_lt _ (by decide))
  have hx : y.toNat ^^^ 2 ^ (m % 8) < 256 := Nat.xor_lt_two_pow (n := 8) y.toNat_lt hp
  have e2 : (2 : Int) ^ (m % 8) = ((2 ^ (m % 8) : Nat) : Int) := by simp
  rw [e2]
  generalize 2 ^ (m % 8) = q at *
  rw [show (q : Int) % 256 = (q : Int) by omega, u8_xor_nat _ _ y.toNat_lt hp, UInt8.toNat_ofNat', Nat.mod_eq_of_lt hx]

set_option maxRecDepth 100000 in
set_option maxHeartbeats 8000000 in
theorem spoilt_ok (A : Option Addr) (n c : Nat) (which pl : Int) (tn j : Nat) (fs : List Fi) (w : World) (hn : n = fs.length) (hc : n ≤ c ∧ c ≤ maxLen) (hnl : n + tot fs ≤ 20000) (hdl : ∀ i (h : i < fs.length), fs[i].data.length ≤ 1099511627776) (hA : FrOf w A fs)
    (hok : ∀ i (h : i < fs.length), fs[i].Ok) (hx1 : -9223372036854775808 ≤ which) (hx2 : which ≤ 9223372036854775807) (hy1 : -9223372036854775808 ≤ pl) (hy2 : pl ≤ 9223372036854775807)
    (ht0 : tn ≠ 0) (ht1 : tn < 4294967296) (hjn : j < n) (hj : which % (n : Int) = (j : Int)) (hD4 : ∀ (h : j < fs.length), 4 ≤ fs[j].data.length) :
    Calls Try.prog 7 #[.slice A n c, .int .i64 which, .int .i64 pl, .int .u32 tn] w fun e w' => e = .returned (.bool true) ∧ New w w' := by
  have hjf : j < fs.length := by omega
  have hD4' := hD4 hjf
  have hDt := le_tot fs j hjf
  obtain ⟨K, hK⟩ : ∃ K, (fbs (fs.map Fi.fr)).length = K := ⟨_, rfl⟩
  have hKt := flen_tot fs
  rw [hK] at hKt
  obtain ⟨d, hd⟩ : ∃ d, fs[j].data = d := ⟨_, rfl⟩
  obtain ⟨D, hD⟩ : ∃ D, d.length = D := ⟨_, rfl⟩
  have hN0 := flen_succ fs j hjf
  have hNK : flen fs (j + 1) ≤ K := by
    have h1 := flen_tot (fs.take (j + 1))
    have h2 := tot_take fs (j + 1)
    rw [List.length_take] at h1
    show (fbs ((fs.take (j + 1)).map Fi.fr)).length ≤ K
    omega
  obtain ⟨N, hN⟩ : ∃ N, flen fs j = N := ⟨_, rfl⟩
  rw [hd, hD] at hD4' hDt
  rw [hN0, hN, hd, hD] at hNK
  obtain ⟨p, hp⟩ : ∃ p : Nat, pl % (8 * (D : Int) - 31) = (p : Int) := ⟨(pl % (8 * (D : Int) - 31)).toNat, by have := Int.emod_nonneg pl (show (8 * (D : Int) - 31) ≠ 0 by omega); omega⟩
  have hpD : p + 32 ≤ 8 * D := by have := Int.emod_lt_of_pos pl (show (0 : Int) < 8 * (D : Int) - 31 by omega); omega
  have HAW := Lib.hid (awake_any w)
  have HGR : Hid (∀ W, New w W → Calls Try.prog 8 #[.slice A n c] W fun e w' => e = .returned (.bool false) ∧ w' = W) := Lib.hid (fun W hW => by
    have h := great_any A n c fs W hn (by omega) (fun i h => Nat.le_trans (hdl i h) (by decide)) (hA.new hW)
    rwa [show decide (20000 < n + tot fs) = false by simp; omega] at h)
  have HOW : Hid (∀ W, New w W → Calls Try.prog 10 #[.slice A n c] W (OwnD W fs)) := Lib.hid (fun W hW => own_any A n c fs W hn (by omega) hdl (hA.new hW))
  have HPE : Hid (∀ (W : World) (gs : List Fi) (A' : Option Addr) (c' : Nat), gs.map Fi.kd = fs.map Fi.kd → FrArr W A' gs → Calls Try.prog 11 #[.slice A' gs.length c'] W (fun e w' => ∃ g c4, e = .returned (.tuple #[.slice (some ⟨g, 0, none⟩) K c4, .int .i64 0]) ∧ (K ≤ c4 ∧ c4 ≤ maxLen) ∧ W.heap.size ≤ g ∧ Buf w' g (spo fs j d) ∧ New W w')) := Lib.hid (fun W gs A' c' hk hf => by
    have hl : gs.length = fs.length := by have := congrArg List.length hk; simpa using this
    have hfr := frs_of_kds hk
    refine (put_ok A' gs.length c' gs W rfl (ok_of_kds hk hok) (by omega) (by rw [hfr, hK]; omega) hf).mono fun e w' k => ?_
    obtain ⟨A4, c4, rfl, ho, hn⟩ := k
    rw [hfr, hK] at ho ⊢
    obtain ⟨g, rfl, hg, hb⟩ := buf_of_own ho hK.symm (by omega)
    exact ⟨g, c4, rfl, (own_typed ho).1, hg, by rw [← hd, spo_self fs j hjf]; exact hb, hn⟩)
  have HSC : Hid (∀ (W : World) (g c4 : Nat), (K ≤ c4 ∧ c4 ≤ maxLen) → Buf W g (spo fs j (turns d p tn 32)) → Calls Try.prog 20 #[.slice (some ⟨g, 0, none⟩) K c4] W (fun e w' => ∃ (gs : List Fi) (A6 : Option Addr) (c6 : Nat), gs.length = j ∧ gs.map Fi.kd = (fs.take j).map Fi.kd ∧ e = .returned (.tuple #[.slice A6 j c6, .int .i64 N, .bool true]) ∧ FrArr w' A6 gs ∧ New W w')) := Lib.hid (fun W g c4 hc4 hb => by
    have hl0 : (spo fs j (turns d p tn 32)).length = K := by rw [spo_length fs j _ hjf (by rw [turns_length, hd]), hK]
    have hr := hb.reads
    rw [hl0] at hr
    refine (scan_fr (some ⟨g, 0, none⟩) K c4 _ W hl0.symm (by rw [hl0]; omega) hc4 hr).mono fun e w' q => ?_
    obtain ⟨gs, A5, c5, h1, h2, rfl, h3, h4⟩ := q
    obtain ⟨t1, t2⟩ := spo_told fs hok j p tn hjf ht1 ht0 (by rw [hd, hD]; exact hpD)
    rw [hd] at t1 t2
    rw [t1] at h1
    have hl : gs.length = j := by have := congrArg List.length h1; simp at this; omega
    have e : (fbs ((fs.take j).map Fi.fr)).length = N := hN
    rw [t1, t2, e, hl]
    refine ⟨gs, A5, c5, hl, kds_of_frs h2 (fun i hi => ?_) h1, rfl, h3, h4⟩
    rw [List.getElem_take]
    exact hok i (by rw [List.length_take] at hi; omega))
  have HSA : Hid (∀ (W : World) (gs : List Fi) (A5 : Option Addr) (c5 cc : Nat), New w W → gs.length = j → gs.map Fi.kd = (fs.take j).map Fi.kd → FrArr W A5 gs → Calls Try.prog 22 #[.slice A5 j c5, .slice A j cc] W fun e w' => e = .returned (.bool true) ∧ New W w') := Lib.hid (fun W gs A5 c5 cc hW hl hkd hf =>
    same_frames A5 A j c5 cc gs (fs.take j) W hl.symm (by rw [List.length_take]; omega) (by omega) hkd (fun i hi => by rw [List.getElem_take]; exact hdl i (by rw [List.length_take] at hi; omega)) hf ((hA.new hW).take j))
  have HPK1 := Lib.hid (fun W => pick_any which (n : Int) W (by omega) (by omega) hx1 hx2)
  rw [hj] at HPK1
  have HPK2 := Lib.hid (fun W => pick_any pl (8 * (D : Int) - 31) W (by omega) (by omega) hy1 hy2)
  rw [hp] at HPK2
  have HA := Lib.hid hA
  have HNF := Lib.hid hn
  have HDL := Lib.hid hdl
  have HF0 := Lib.hid (flen_zero fs)
  have HFS := Lib.hid (flen_succ fs)
  have HFN := Lib.hid hN
  have HFL : Hid (∀ k, flen fs k ≤ 200000) := Lib.hid (fun k => by
    have h1 := flen_tot (fs.take k)
    have h2 := tot_take fs k
    rw [List.length_take] at h1
    show (fbs ((fs.take k).map Fi.fr)).length ≤ 200000
    omega)
  have hn2 : n ≤ 20000 := by omega
  have hN2 : N + 9 + D ≤ K := hNK
  have hK2 : K ≤ 200000 := by omega
  have hz1 : ((n : Int) == 0) = false := by simp; omega
  have hz2 : ((tn : Int) == 0) = false := by simp; omega
  have hjc : (j : Int) < (n : Int) := by omega
  have hjc' : (j : Int) ≤ (c : Int) := by omega
  have hjc'' : j ≤ c := by omega
  have hD4i : ¬ (D : Int) < 4 := by omega
  have hNi : ¬ (K : Int) < (N : Int) + 9 + (D : Int) := by omega
  have hD5 : D ≤ 20000 := by omega
  obtain ⟨ga, o, hAe, hga, g0, g1, -⟩ := hA j hjf
  have e1 : fs[j].data.length = D := by rw [hd, hD]
  rw [e1] at g1
  obtain ⟨xA, hxA⟩ : ∃ a, fs[j].A = a := ⟨_, rfl⟩
  obtain ⟨xc, hxc⟩ : ∃ a, fs[j].c = a := ⟨_, rfl⟩
  rw [hxA, hxc] at g1
  subst hAe
  have HD := Lib.hid hD
  have HJF := Lib.hid hjf
  have HT0 := Lib.hid ht0
  clear hn hnl hdl hA hok hK hKt hp hx1 hx2 hy1 hy2 hc hj hD4 hjf hd hD hN hNK hN0 g0 e1 hxA hxc ht0 hDt
  go_enter Try.func7, Try.ntmps7
  go_wp2_with (first
    | (go_at_call 9; (with_reducible refine HAW.out.mono ?_); rintro e w1 ⟨rfl, hn1⟩; have HN1 := Lib.hid hn1; have k1 := (hn1.cell (p := ⟨ga, o + j * 2 + 1, none⟩) hga).trans g1; clear hn1)
    | (go_at_call 8; (with_reducible refine (HGR.out w1 HN1.out).mono ?_); rintro e w2 ⟨rfl, rfl⟩)
    | (go_at_call 23; (with_reducible refine (HPK1.out _).mono ?_); rintro e w7 ⟨rfl, rfl⟩)
    | (go_at_call 10; (with_reducible refine (HOW.out _ HN1.out).mono ?_); rintro e w3 ⟨gs, A3, c3, hgk, rfl, hf3, hn3⟩; have HP3 := Lib.hid (HPE.out w3 gs A3 c3 hgk hf3); have HN3 := Lib.hid (New.then HN1.out hn3); clear hn3 hf3 hgk)
    | (go_at_call 11; (with_reducible refine HP3.out.mono ?_); rintro e w4 ⟨g, c4, rfl, hc4, hg4, hb4, hn4⟩; have HG4 := Lib.hid (Nat.le_trans HN3.out.size hg4); have HN4 := Lib.hid (New.then HN3.out hn4); have HB4 := Lib.hid hb4; have HC4 := Lib.hid hc4; clear hn4 hb4 hc4 hg4))
  go_loopw [12, 13] (fun v i wr => ∃ k p : Nat, k ≤ j ∧ v = .int .i64 p ∧ i = .int .i64 k ∧ p = flen fs k ∧ p ≤ 200000 ∧ wr = w4) (fun _ i _ => j - (intOf i).toNat)
  case atStart => exact ⟨0, 0, Nat.zero_le _, rfl, rfl, HF0.out.symm, Nat.zero_le _, rfl⟩
  case round =>
    obtain ⟨k, q, hk, rfl, rfl, hq, hqt, rfl⟩ := hrel
    have HQ := Lib.hid hq
    clear hq
    by_cases hlt : k < j
    · have hlf : k < fs.length := by have := HJF.out; omega
      obtain ⟨g', o', hAe', hg', -, q1, -⟩ := HA.out k hlf
      simp only [Option.some.injEq, Addr.mk.injEq, and_true] at hAe'
      obtain ⟨rfl, rfl⟩ := hAe'
      have k1 := (HN4.out.cell (p := ⟨ga, o + k * 2 + 1, none⟩) hg').trans q1
      have hx1 := HFL.out (k + 1)
      have HX := Lib.hid (HFS.out k hlf)
      rw [HX.out] at hx1
      obtain ⟨x, hx⟩ : ∃ x, fs[k] = x := ⟨_, rfl⟩
      rw [hx] at k1 hx1 HX
      clear q1 hx hg'
      obtain ⟨dl, hdl⟩ : ∃ dl, x.data.length = dl := ⟨_, rfl⟩
      rw [hdl] at k1 hx1 HX
      rw [← HQ.out] at hx1
      clear hdl
      have hkn : (k : Int) < (n : Int) := by omega
      go_wp2
      go_roundw
      case rel => exact ⟨k + 1, q + 9 + dl, by omega, by go_num, by go_num, by rw [HX.out, ← HQ.out], hx1, by trivial⟩
      case measure => simp [intOf]; omega
    · obtain rfl : k = j := by omega
      obtain rfl : q = N := by rw [HQ.out, HFN.out]
      clear HQ
      go_wp2_with (first
        | (go_at_call 23; (with_reducible refine (HPK2.out _).mono ?_); rintro e w7 ⟨rfl, rfl⟩))
      go_loopw [14, 15] (fun i x w5 => ∃ b : Nat, b ≤ 32 ∧ i = .int .i64 b ∧ New w w5 ∧ Buf w5 g (spo fs k (turns d p tn b))) (fun i _ _ => 32 - (intOf i).toNat)
      case atStart => exact ⟨0, Nat.zero_le _, rfl, HN4.out, HB4.out⟩
      case round =>
        obtain ⟨b, hb, rfl, hn5, hb5⟩ := hrel
        have HN5 := Lib.hid hn5
        have HB5 := Lib.hid hb5
        clear hn5 hb5
        by_cases hlt2 : b < 32
        · have hbi : (b : Int) < 32 := by omega
          have hbD : (p + b) / 8 < D := by omega
          have HBD := Lib.hid hbD
          have hdl0 : (turns d p tn b).length = D := by rw [turns_length, HD.out]
          obtain ⟨y, hy⟩ : ∃ y, (turns d p tn b)[(p + b) / 8]? = some y := ⟨_, List.getElem?_eq_getElem (by omega)⟩
          have k5 : wr.cell? ⟨g, q + 9 + (p + b) / 8, none⟩ = some (.int .u8 (y.toNat : Int)) := by
            obtain ⟨hlt3, e⟩ := List.getElem?_eq_some_iff.1 hy
            have := HB5.out.at_ (i := q + 9 + (p + b) / 8) (b := y) (by
              rw [← HFN.out, spo_at fs k _ _ HJF.out hlt3, e])
            exact this
          have HY := Lib.hid hy
          clear hy hdl0
          by_cases htb : tn.testBit b = true
          · have hbt := bit_one tn b ht1 htb
            have hx0 : (q : Int) + 9 + ((p : Int) + (b : Int)) / 8 < (K : Int) := by omega
            have hfz := HB5.out.frozen (q + 9 + (p + b) / 8)
            go_wp2
            go_roundw
            case rel =>
              refine ⟨b + 1, by omega, by go_num, HN5.out.setCell HG4.out _, ?_⟩
              rw [turn_val y (p + b)]
              have h := HB5.out.set (i := q + 9 + (p + b) / 8) (UInt8.ofNat (y.toNat ^^^ 2 ^ ((p + b) % 8)))
              rw [← HFN.out, spo_set fs k _ _ _ HJF.out (by rw [turns_length, HD.out]; exact HBD.out), HFN.out] at h
              rw [turns, if_pos htb, turn, List.getD_eq_getElem?_getD, HY.out]
              exact h
            case measure => simp [intOf]; omega
          · have hbt := bit_nought tn b ht1 htb
            go_wp2
            go_roundw
            case rel => exact ⟨b + 1, by omega, by go_num, HN5.out, by rw [turns, if_neg htb]; exact HB5.out⟩
            case measure => simp [intOf]; omega
        · obtain rfl : b = 32 := by omega
          have HSC' := Lib.hid (HSC.out wr g c4 HC4.out HB5.out)
          go_wp2_with (first
            | (go_at_call 20; (with_reducible refine HSC'.out.mono ?_); rintro e w8 ⟨gs8, A8, c8, hl8, hk8, rfl, hf8, hn8⟩; have HN8 := Lib.hid (New.then HN5.out hn8); have HSA8 := Lib.hid (fun cc => HSA.out w8 gs8 A8 c8 cc HN8.out hl8 hk8 hf8); clear hn8 hf8 hk8 hl8)
            | (go_at_call 22; (with_reducible refine (HSA8.out _).mono ?_); rintro e w9 ⟨rfl, hn9⟩; have HN9 := Lib.hid (New.then HN8.out hn9); clear hn9))
          go_ret
          exact ⟨rfl, HN9.out⟩
end Go.Proofs.Ytdbolkmhmgbgfaa.fr
