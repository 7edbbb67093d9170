/-
  Contracts of frame's scan: the next frame is taken.
-/
import Derived.Test.YtlbbhheaginddaaLeft
import Derived.Lib.SliceRun
import Derived.Deep.DeepCutAuto
namespace Go.Proofs.Ytlbbhheaginddaa.fr
open Go.RowKit Go.Proofs.Ytlbbhheaginddaa.mem Go.Proofs.Ytlbbhheaginddaa.kit Go.Proofs.Ytlbbhheaginddaa.wire Go.Proofs.Ytlbbhheaginddaa.crc
set_option linter.unusedVariables false

set_option maxRecDepth 100000 in
theorem clone_any (ad : Addr) (n c : Nat) (l : List UInt8) (w : World) (hn : n = l.length) (hl : l.length ≤ 1099511627776) (hA : Reads w w.heap.size 1 (some ad) n (vb l)) :
    Calls Try.prog 63 #[.slice (some ad) n c] w (Got w l) := by
  subst hn
  obtain ⟨i0, hi, hz0, hz1, hz2⟩ := info_parts byte_info
  have HA := Lib.hid (hA.new (alloc_new w (.cells #[] 5)))
  have HO := Lib.hid (World.ownsRow_made (e := 5) (base := w.heap.size) (size := 1) w #[] 0 (Nat.le_refl _) (by unfold maxLen; omega) (by simp))
  clear hA
  have hq : ∀ W, (binOp .eql 24 (.slice (some ad) l.length c) (.slice none 0 0)).run Try.prog W = .ok (.bool false) W := fun W => Lib.run_eql_slice_nil W _ _ _ _ _ _ _ Try.underlying24
  go_enter Try.func63, Try.ntmps63
  go_wp2_with
    (at_builtin; refine wpList_append_any _ rfl (.tmp 5) (.tmp 6) 24 rfl w.heap.size 5 i0 _ 1 1 Try.underlying24 hi hz0 hz1 hz2 rfl (by omega) (.slice (some ⟨w.heap.size, 0, none⟩) 0 0) _ _ rfl HO.out _ _ _ _ _ rfl HA.out (vb_one _) (by unfold maxLen; omega) (by omega) (by simp) ?_; intro v2 w2 hown2 hg2 _; rw [List.nil_append, Nat.zero_add] at hown2; have HO2 := Lib.hid hown2; clear hown2)
  have hN : New w w2 := (alloc_new w _).grown hg2 (by simp) (fun k hk => by simp [Value.ownBlock] at hk; omega)
  go_ret
  exact Got.mk HO2.out hN

theorem frame_size : (Try.prog.info? 31).map (·.size) = some 2 := by kernel_rfl

theorem keep2 {w : World} {b : Nat} {p : Addr} {v0 v1 x : Value} (h : w.cell? p = some x) (hne : p.block ≠ b) : ((w.setCell ⟨b, 0, none⟩ v0).setCell ⟨b, 1, none⟩ v1).cell? p = some x := by
  have e : ∀ (W : World) j u, (W.setCell ⟨b, j, none⟩ u).cell? p = W.cell? p := fun W j u => World.cell?_setCell_other W _ _ u (fun e => hne (by rw [← e]))
  rw [e, e]
  exact h
theorem blk_set2 {w : World} {b : Nat} {t : TypeId} {a0 a1 v0 v1 : Value} (h : Blk w b t #[a0, a1]) : Blk ((w.setCell ⟨b, 0, none⟩ v0).setCell ⟨b, 1, none⟩ v1) b t #[v0, v1] := (h.set_ 0 v0).set_ 1 v1
theorem ch_set2 (w : World) (b : Nat) (v0 v1 : Value) : Ch (fun j => j = b) w ((w.setCell ⟨b, 0, none⟩ v0).setCell ⟨b, 1, none⟩ v1) :=
  ((Ch.refl (fun j => j = b) w).setCell (p := ⟨b, 0, none⟩) (fun _ => rfl) v0).setCell (p := ⟨b, 1, none⟩) (fun _ => rfl) v1
theorem new_set2 {w0 w : World} {b : Nat} {v0 v1 : Value} (h : New w0 w) (hb : w0.heap.size ≤ b) : New w0 ((w.setCell ⟨b, 0, none⟩ v0).setCell ⟨b, 1, none⟩ v1) :=
  (h.setCell (p := ⟨b, 0, none⟩) hb v0).setCell (p := ⟨b, 1, none⟩) hb v1
/-- What a take leaves. -/
def Tk (B : Nat) (w : World) (g u : Nat) (l : List UInt8) (e : Ending) (w' : World) : Prop :=
  ∃ A c, e = .returned (.agg #[.int .i64 ((kdF l).toNat : Int), .slice A (datF l).length c]) ∧ w'.ownsRow w.heap.size 5 1 (.slice A (datF l).length c) (datF l).length (vb (datF l)) ∧ SG B w' g (nxtF l) u ∧ Ch (fun j => j = g) w w'

theorem fzf {w : World} {g : Nat} {a b : Value} (h : Blk w g 31 #[a, b]) : w.cell? ⟨g, 0, none⟩ = some a ∧ w.cell? ⟨g, 1, none⟩ = some b ∧ w.frozen? ⟨g, 0, none⟩ = false ∧ w.frozen? ⟨g, 1, none⟩ = false :=
  ⟨(h.cell 0).trans rfl, (h.cell 1).trans rfl, h.frozen 0, h.frozen 1⟩

theorem tk_close {w wc : World} {B g u k n E c kn : Nat} {ad : Addr} {A1 : Option Addr} {c1 : Nat} {l : List UInt8} {a b a0 b0 v : Value} (hE : E ≤ n) (hnc : n ≤ c) (hm : c ≤ maxLen) (hl : l.length = n) (hx : nxtF l = l.drop E) (hk : (datF l).length = k) (hkn : (kdF l).toNat = kn)
    (hR : Reads wc B 1 (some ad) n (vb l)) (hb2 : Blk wc g 53 #[.slice (some ad) n c, .int .i64 (u : Int)]) (hbb : Blk wc w.heap.size 31 #[a0, b0]) (ho : wc.ownsRow w.heap.size 5 1 (.slice A1 k c1) k (vb (datF l)))
    (hN : New w wc) (hne : B ≤ g) (hg : w.heap.size ≠ g) (had : B ≤ w.heap.size) (hv : v = .slice (if c = E then some ad else some (ad.add E)) (n - E) (c - E)) :
    Tk B w g u l (.returned (.agg #[.int .i64 (kn : Int), .slice A1 k c1])) (((wc.setCell ⟨g, 0, none⟩ v).setCell ⟨w.heap.size, 0, none⟩ a).setCell ⟨w.heap.size, 1, none⟩ b) := by
  subst hk
  subst hkn
  subst hv
  have h1 : Ch (fun j => j = g) wc (wc.setCell ⟨g, 0, none⟩ (.slice (if c = E then some ad else some (ad.add E)) (n - E) (c - E))) := (Ch.refl (fun j => j = g) wc).setCell (p := ⟨g, 0, none⟩) (fun _ => rfl) _
  have hb3 := (hb2.set_ 0 (.slice (if c = E then some ad else some (ad.add E)) (n - E) (c - E)))
  have hbb3 := hbb.far (p := ⟨g, 0, none⟩) hg (.slice (if c = E then some ad else some (ad.add E)) (n - E) (c - E))
  have hR3 := hR.setCell (p := ⟨g, 0, none⟩) hne (.slice (if c = E then some ad else some (ad.add E)) (n - E) (c - E))
  generalize (wc.setCell ⟨g, 0, none⟩ (.slice (if c = E then some ad else some (ad.add E)) (n - E) (c - E))) = W at *
  have h2 := ch_set2 W w.heap.size a b
  have hcut := hR3.cut (k := E) hE hnc
  rw [Nat.mul_one] at hcut
  have hlen : (nxtF l).length = n - E := by rw [hx, List.length_drop, hl]
  refine ⟨A1, c1, rfl, own_ch (own_ch ho h1 (fun j hj e => own_blk_ne ho hb2 (by decide) (hj.trans (congrArg some e)))) h2 (fun j hj e => own_blk_ne ho hbb (by decide) (hj.trans (congrArg some e))), ?_, ((Ch.of_new hN).then h1 (fun _ _ e => e)).then h2 (fun i hi e => absurd e (by omega))⟩
  refine ⟨if c = E then some ad else some (ad.add E), c - E, ?_, by omega, by omega, ?_, hne⟩
  · rw [hlen]
    exact hb3.ch h2 (fun e => hg (Eq.symm e))
  · rw [hlen, hx, show vb (l.drop E) = (vb l).drop E by simp [vb]]
    have : (if c = E then some ad else some (ad.add E)) = (if c = E then some ad else (some ad).map (·.add E)) := rfl
    rw [this]
    exact (hcut.setCell (p := ⟨w.heap.size, 0, none⟩) had _).setCell (p := ⟨w.heap.size, 1, none⟩) had _

set_option maxRecDepth 100000 in
set_option maxHeartbeats 2000000 in
theorem take_any (B g u : Nat) (l : List UInt8) (w : World) (hs : st l = 1) (hl : l.length ≤ 1099511627776) (h : SG B w g l u) :
    Calls Try.prog 33 #[.pointer (some ⟨g, 0, none⟩)] w (Tk B w g u l) := by
  obtain ⟨q1, q2, q3, -⟩ := st_whole l hs
  have hn0 := alloc_new w (.cells #[.int .i64 0, .slice none 0 0] 31)
  have HB0 := Lib.hid (Blk.new w 31 #[.int .i64 0, .slice none 0 0])
  have HG := Lib.hid (h.new hn0)
  have hBw : B ≤ w.heap.size := by have := h.lt; omega
  obtain ⟨A, c, hb, h1, h2, hr0, hne⟩ := HG.out
  have HR0 := Lib.hid hr0
  have hr := hr0.more (show B ≤ (w.alloc (.cells #[.int .i64 0, .slice none 0 0] 31)).heap.size by simp; omega)
  have HBW := Lib.hid hBw
  clear hr0 hBw
  obtain ⟨ad, rfl, hadb, hcell⟩ := hr.2 (by omega)
  have hadB : ad.block < B := by obtain ⟨ad', e, hlt, _⟩ := HR0.out.2 (by omega); injection e with e; subst e; exact hlt
  have HAD := Lib.hid hadB
  have hc0 := hcell 0 _ (vb_get l 0 (by omega))
  have HGB := Lib.hid hb
  have HR := Lib.hid hr
  have hkd : kdF l = l[0]'(by omega) := by unfold kdF; simp [List.getD_eq_getElem?_getD, show 0 < l.length by omega]
  rw [show ad.add 0 = ad from rfl, ← hkd] at hc0
  have HC0 := Lib.hid hc0
  have HL := Lib.hid (length_any B g u l _ (by omega) hl HG.out)
  obtain ⟨k, hk⟩ : ∃ k, lenF l = k := ⟨_, rfl⟩
  rw [hk] at HL q1 q2 q3
  obtain ⟨E, hE⟩ : ∃ E, E = 9 + k := ⟨_, rfl⟩
  have hd : datF l = (l.drop 9).take k := by unfold datF; rw [hk]
  have hx : nxtF l = l.drop E := by unfold nxtF; rw [hk, hE]
  have HD := Lib.hid hd
  have HX := Lib.hid hx
  have HK := Lib.hid q3
  have e9 : (9 : Int) + (k : Int) = (E : Int) := by omega
  have b1 : (9 : Int) ≤ (E : Int) := by omega
  have b2 : (E : Int) ≤ (c : Int) := by omega
  have b3 : (E : Int) ≤ (l.length : Int) := by omega
  have b4 : E - 9 = k := by omega
  have b5 : 9 ≤ E := by omega
  have b6 : E ≤ c := by omega
  have b7 : E ≤ l.length := by omega
  have j0 : 0 < l.length := by omega
  have hgw : g < (w.alloc (.cells #[.int .i64 0, .slice none 0 0] 31)).heap.size := hb.lt
  have HNE := Lib.hid hne
  have HGW := Lib.hid hgw
  have HS := Lib.hid hs
  clear hk hE hd hx hcell hc0 hb hr q1 q2 q3 hkd hne hgw hs h hadb hadB
  have hkb := (kdF l).toNat_lt
  obtain ⟨kn, hkn⟩ : ∃ kn, (kdF l).toNat = kn := ⟨_, rfl⟩
  rw [hkn] at hkb HC0
  have HKN := Lib.hid hkn
  have hkw : IntKind.i64.wrap (kn : Int) = (kn : Int) := IntWalk.i64_in _ (by omega)
  clear hkn
  obtain ⟨n, hn⟩ : ∃ n, l.length = n := ⟨_, rfl⟩
  have HN := Lib.hid hn
  rw [hn] at h1 hl b3 b7 j0 HGB HR HR0
  clear hn
  have HDL : Hid ((datF l).length ≤ 1099511627776) := Lib.hid (by rw [HK.out]; omega)
  by_cases hc9 : c = 9
  · subst hc9
    obtain rfl : E = 9 := by omega
    obtain rfl : k = 0 := by omega
    have HRD : Hid (Reads (w.alloc (.cells #[.int .i64 0, .slice none 0 0] 31)) (w.alloc (.cells #[.int .i64 0, .slice none 0 0] 31)).heap.size 1 (some ad) 0 (vb (datF l))) := Lib.hid ⟨by rw [vb_length, HK.out], fun h => absurd h (by omega)⟩
    go_enter Try.func33, Try.ntmps33
    go_wp2_with (go_at_call 35; refine HL.out.mono ?_; rintro e w1 ⟨rfl, hn1⟩)
    go_cut [4] (fun s4 wx => ∃ gx A1 c1, s4 = .pointer (some ⟨gx, 0, none⟩) ∧ Blk wx gx 31 #[.int .i64 (kn : Int), .slice A1 0 c1] ∧ wx.ownsRow w.heap.size 5 1 (.slice A1 0 c1) 0 (vb (datF l)) ∧ New w1 wx ∧ w1.heap.size ≤ gx)
    case first =>
      have HN1 := Lib.hid hn1
      have c0 : w1.cell? ⟨g, 0, none⟩ = some (.slice (some ad) n 9) := ((HGB.out.below HN1.out HGB.out.lt).cell 0).trans rfl
      have c1 : w1.cell? ad = some (.int .u8 (kn : Int)) := (HN1.out.cell (block_lt_of_cell HC0.out)).trans HC0.out
      have hg1 : g < w1.heap.size := (HGB.out.below HN1.out HGB.out.lt).lt
      have ha1 : ad.block < w1.heap.size := block_lt_of_cell c1
      have hw1 : w.heap.size ≤ w1.heap.size := by have := HN1.out.size; simp at this; omega
      have HRD1 := Lib.hid (HRD.out.new HN1.out)
      have HCL := Lib.hid (fun W (hW : New w1 W) => clone_any ad 0 0 (datF l) W HK.out.symm HDL.out (HRD1.out.new hW))
      have hNd : New w1 w1.drew := Below.drew (new_refl w1)
      have hNa : New w1 (w1.alloc (.cells #[.int .i64 0, .slice none 0 0] 31)).drew := Below.drew (alloc_new w1 _)
      go_region_held3 (fun w' => w'.cell? ⟨g, 0, none⟩ = some (.slice (some ad) n 9) ∧ w'.cell? ad = some (.int .u8 (kn : Int)))
        (first | go_keep | exact ⟨keep2 s0 (by show g ≠ _; omega), keep2 s1 (by omega)⟩)
        (first
          | (go_at_call 63; (with_reducible refine (HCL.out _ hNd).mono ?_); rintro e w2 ⟨A1, c1', rfl, ho, hn2⟩; have hN2 := New.then hNd hn2; have s0 := (hN2.cell hg1).trans c0; have s1 := (hN2.cell ha1).trans c1; rw [HK.out] at ho ⊢; have HO := Lib.hid ho; clear ho)
          | (go_at_call 63; (with_reducible refine (HCL.out _ hNa).mono ?_); rintro e w2 ⟨A1, c1', rfl, ho, hn2⟩; have hN2 := New.then hNa hn2; have s0 := (hN2.cell hg1).trans c0; have s1 := (hN2.cell ha1).trans c1; have hz : Blk w2 w1.heap.size 31 #[.int .i64 0, .slice none 0 0] := Blk.below (Blk.drew (Blk.new w1 _ _)) hn2 (by simp); obtain ⟨z0, z1, f0, f1⟩ := fzf hz; rw [HK.out] at ho ⊢; have HO := Lib.hid ho; clear ho))
      all_goals go_wp2_with fail
      all_goals go_meet
      · exact ⟨w2.heap.size, A1, c1', rfl, Blk.new _ _ _, own_new (own_base HO.out hw1) (alloc_new w2 _), New.then hN2 (alloc_new w2 _), hN2.size⟩
      · exact ⟨w1.heap.size, A1, c1', rfl, blk_set2 hz, own_ch (own_base HO.out (by simp; omega)) (ch_set2 w2 w1.heap.size _ _) (fun j hj e => by have h := (HO.out.lt j hj).1; have e' : j = w1.heap.size := e; simp at h; omega), new_set2 hN2 (Nat.le_refl _), Nat.le_refl _⟩
    case rest =>
      obtain ⟨gx, A1, c1, rfl, hbx, ho, hnx, hgx⟩ := hcut
      have hN := New.then hn1 hnx
      have hb2 := HGB.out.below hN HGB.out.lt
      have hb0 := HB0.out.below hN HB0.out.lt
      have c0 : wc.cell? ⟨g, 0, none⟩ = some (.slice (some ad) n 9) := (hb2.cell 0).trans rfl
      have z0 := hb2.frozen 0
      obtain ⟨x0, x1, f0, f1⟩ := fzf hbx
      obtain ⟨r0, r1, rf0, rf1⟩ := fzf hb0
      have hne1 : gx ≠ g := by have := (HGB.out.below hn1 HGB.out.lt).lt; omega
      have hne2 : w.heap.size ≠ g := by rintro e; exact absurd (show _ = _ from rfl) (HB0.out.ne_ (e ▸ HGB.out) (by decide))
      have hne3 : gx ≠ w.heap.size := by have := (HB0.out.below hn1 HB0.out.lt).lt; omega
      have HO := Lib.hid ho
      have HBX := Lib.hid hbx
      have HB2 := Lib.hid hb2
      have HBB := Lib.hid hb0
      have HNN := Lib.hid hN
      clear ho hbx hb2 hb0 hN hnx hn1
      have hv : ∀ q : Nat, q = n - 9 → (.slice (some ad) q 0 : Value) = .slice (if 9 = 9 then some ad else some (ad.add 9)) (n - 9) (9 - 9) := fun q hq => by rw [if_pos rfl, hq]
      have HV := Lib.hid hv
      clear hv
      go_wp2
      refine bodyPost_ret (results_cell_row rfl _ _ w.heap.size 31 #[.int .i64 (kn : Int), .slice A1 0 c1] (0, 0) _ rfl (blk_set2 (HBB.out.far (p := ⟨g, 0, none⟩) hne2 _)) Try.underlying31 rfl frame_size) rfl ?_
      exact tk_close b7 h1 h2 HN.out HX.out HK.out HKN.out (HR0.out.below (HNN.out.mono (by have := HBW.out; simp; omega))) HB2.out HBB.out HO.out (New.then hn0 HNN.out) HNE.out hne2 HBW.out (HV.out _ (by omega))
  · have HRD : Hid (Reads (w.alloc (.cells #[.int .i64 0, .slice none 0 0] 31)) (w.alloc (.cells #[.int .i64 0, .slice none 0 0] 31)).heap.size 1 (some ⟨ad.block, ad.off + 9, none⟩) k (vb (datF l))) := Lib.hid (by rw [HD.out]; exact reads_sub HR.out 9 k (by omega) (by omega))
    go_enter Try.func33, Try.ntmps33
    go_wp2_with (go_at_call 35; refine HL.out.mono ?_; rintro e w1 ⟨rfl, hn1⟩)
    go_cut [4] (fun s4 wx => ∃ gx A1 c1, s4 = .pointer (some ⟨gx, 0, none⟩) ∧ Blk wx gx 31 #[.int .i64 (kn : Int), .slice A1 k c1] ∧ wx.ownsRow w.heap.size 5 1 (.slice A1 k c1) k (vb (datF l)) ∧ New w1 wx ∧ w1.heap.size ≤ gx)
    case first =>
      have HN1 := Lib.hid hn1
      have c0 : w1.cell? ⟨g, 0, none⟩ = some (.slice (some ad) n c) := ((HGB.out.below HN1.out HGB.out.lt).cell 0).trans rfl
      have c1 : w1.cell? ad = some (.int .u8 (kn : Int)) := (HN1.out.cell (block_lt_of_cell HC0.out)).trans HC0.out
      have hg1 : g < w1.heap.size := (HGB.out.below HN1.out HGB.out.lt).lt
      have ha1 : ad.block < w1.heap.size := block_lt_of_cell c1
      have hw1 : w.heap.size ≤ w1.heap.size := by have := HN1.out.size; simp at this; omega
      have HRD1 := Lib.hid (HRD.out.new HN1.out)
      have HCL := Lib.hid (fun W (hW : New w1 W) => clone_any ⟨ad.block, ad.off + 9, none⟩ k (c - 9) (datF l) W HK.out.symm HDL.out (HRD1.out.new hW))
      have hNd : New w1 w1.drew := Below.drew (new_refl w1)
      have hNa : New w1 (w1.alloc (.cells #[.int .i64 0, .slice none 0 0] 31)).drew := Below.drew (alloc_new w1 _)
      go_region_held3 (fun w' => w'.cell? ⟨g, 0, none⟩ = some (.slice (some ad) n c) ∧ w'.cell? ad = some (.int .u8 (kn : Int)))
        (first | go_keep | exact ⟨keep2 s0 (by show g ≠ _; omega), keep2 s1 (by omega)⟩)
        (first
          | (go_at_call 63; (with_reducible refine (HCL.out _ hNd).mono ?_); rintro e w2 ⟨A1, c1', rfl, ho, hn2⟩; have hN2 := New.then hNd hn2; have s0 := (hN2.cell hg1).trans c0; have s1 := (hN2.cell ha1).trans c1; rw [HK.out] at ho ⊢; have HO := Lib.hid ho; clear ho)
          | (go_at_call 63; (with_reducible refine (HCL.out _ hNa).mono ?_); rintro e w2 ⟨A1, c1', rfl, ho, hn2⟩; have hN2 := New.then hNa hn2; have s0 := (hN2.cell hg1).trans c0; have s1 := (hN2.cell ha1).trans c1; have hz : Blk w2 w1.heap.size 31 #[.int .i64 0, .slice none 0 0] := Blk.below (Blk.drew (Blk.new w1 _ _)) hn2 (by simp); obtain ⟨z0, z1, f0, f1⟩ := fzf hz; rw [HK.out] at ho ⊢; have HO := Lib.hid ho; clear ho))
      all_goals go_wp2_with fail
      all_goals go_meet
      · exact ⟨w2.heap.size, A1, c1', rfl, Blk.new _ _ _, own_new (own_base HO.out hw1) (alloc_new w2 _), New.then hN2 (alloc_new w2 _), hN2.size⟩
      · exact ⟨w1.heap.size, A1, c1', rfl, blk_set2 hz, own_ch (own_base HO.out (by simp; omega)) (ch_set2 w2 w1.heap.size _ _) (fun j hj e => by have h := (HO.out.lt j hj).1; have e' : j = w1.heap.size := e; simp at h; omega), new_set2 hN2 (Nat.le_refl _), Nat.le_refl _⟩
    case rest =>
      obtain ⟨gx, A1, c1, rfl, hbx, ho, hnx, hgx⟩ := hcut
      have hN := New.then hn1 hnx
      have hb2 := HGB.out.below hN HGB.out.lt
      have hb0 := HB0.out.below hN HB0.out.lt
      have c0 : wc.cell? ⟨g, 0, none⟩ = some (.slice (some ad) n c) := (hb2.cell 0).trans rfl
      have z0 := hb2.frozen 0
      obtain ⟨x0, x1, f0, f1⟩ := fzf hbx
      obtain ⟨r0, r1, rf0, rf1⟩ := fzf hb0
      have hne1 : gx ≠ g := by have := (HGB.out.below hn1 HGB.out.lt).lt; omega
      have hne2 : w.heap.size ≠ g := by rintro e; exact absurd (show _ = _ from rfl) (HB0.out.ne_ (e ▸ HGB.out) (by decide))
      have hne3 : gx ≠ w.heap.size := by have := (HB0.out.below hn1 HB0.out.lt).lt; omega
      have HO := Lib.hid ho
      have HBX := Lib.hid hbx
      have HB2 := Lib.hid hb2
      have HBB := Lib.hid hb0
      have HNN := Lib.hid hN
      clear ho hbx hb2 hb0 hN hnx hn1
      by_cases hcE : c = E
      · have hv : (.slice (some ad) (n - E) 0 : Value) = .slice (if c = E then some ad else some (ad.add E)) (n - E) (c - E) := by rw [if_pos hcE, hcE, Nat.sub_self]
        have HV := Lib.hid hv
        clear hv
        go_wp2
        refine bodyPost_ret (results_cell_row rfl _ _ w.heap.size 31 #[.int .i64 (kn : Int), .slice A1 k c1] (0, 0) _ rfl (blk_set2 (HBB.out.far (p := ⟨g, 0, none⟩) hne2 _)) Try.underlying31 rfl frame_size) rfl ?_
        exact tk_close b7 h1 h2 HN.out HX.out HK.out HKN.out (HR0.out.below (HNN.out.mono (by have := HBW.out; simp; omega))) HB2.out HBB.out HO.out (New.then hn0 HNN.out) HNE.out hne2 HBW.out HV.out
      · have hv : (.slice (some (ad.add E)) (n - E) (c - E) : Value) = .slice (if c = E then some ad else some (ad.add E)) (n - E) (c - E) := by rw [if_neg hcE]
        have HV := Lib.hid hv
        clear hv
        go_wp2
        refine bodyPost_ret (results_cell_row rfl _ _ w.heap.size 31 #[.int .i64 (kn : Int), .slice A1 k c1] (0, 0) _ rfl (blk_set2 (HBB.out.far (p := ⟨g, 0, none⟩) hne2 _)) Try.underlying31 rfl frame_size) rfl ?_
        exact tk_close b7 h1 h2 HN.out HX.out HK.out HKN.out (HR0.out.below (HNN.out.mono (by have := HBW.out; simp; omega))) HB2.out HBB.out HO.out (New.then hn0 HNN.out) HNE.out hne2 HBW.out HV.out
end Go.Proofs.Ytlbbhheaginddaa.fr
