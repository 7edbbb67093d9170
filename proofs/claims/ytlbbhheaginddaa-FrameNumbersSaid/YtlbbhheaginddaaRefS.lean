/-
  The document's Scan.
-/
import Derived.Test.YtlbbhheaginddaaRefP
import Derived.Test.YtlbbhheaginddaaOwnK
import Derived.Test.YtlbbhheaginddaaLawG
namespace Go.Proofs.Ytlbbhheaginddaa.fr
open Go.RowKit Go.Proofs.Ytlbbhheaginddaa.mem Go.Proofs.Ytlbbhheaginddaa.kit Go.Proofs.Ytlbbhheaginddaa.wire Go.Proofs.Ytlbbhheaginddaa.crc
set_option linter.unusedVariables false

theorem reads_part {W : World} {B n a k gb ob : Nat} {l : List UInt8} (h : Reads W B 1 (some ⟨gb, ob, none⟩) n (vb l)) (hk : a + k ≤ n) : Reads W B 1 (some ⟨gb, ob + a, none⟩) k (vb ((l.drop a).take k)) := by
  have hl : l.length = n := by have := h.1; rw [vb_length] at this; omega
  refine ⟨by rw [vb_length, List.length_take, List.length_drop]; omega, fun h0 => ?_⟩
  obtain ⟨ad, e, hb, hc⟩ := h.2 (by omega)
  simp only [Option.some.injEq] at e
  subst e
  refine ⟨_, rfl, hb, fun j u hu => ?_⟩
  have hj : j < ((l.drop a).take k).length := by
    have := (List.getElem?_eq_some_iff.1 hu).1
    rwa [vb_length] at this
  have hj2 : j < k := by rw [List.length_take] at hj; omega
  rw [vb_get _ j hj] at hu
  have := hc (a + j) u (by
    rw [vb_get l (a + j) (by omega), ← hu]
    simp)
  rw [Addr.add_mid] at this ⊢
  rwa [Nat.add_assoc]
/-- Scan while it goes on. -/
structure RS (w : World) (l : List UInt8) (fs : List Fi) (p : Nat) (v : Value) (wr : World) : Prop where
  new : New w wr
  row : wr.ownsRow w.heap.size 36 2 v fs.length (fiCs fs)
  dat : ∀ i (h : i < fs.length), wr.ownsRow w.heap.size 5 1 (.slice fs[i].A fs[i].data.length fs[i].c) fs[i].data.length (vb fs[i].data)
  ok : ∀ i (h : i < fs.length), fs[i].Ok
  le : p ≤ l.length
  told : told l = fs.map Fi.fr ++ told (l.drop p)
  left : crc.left l = crc.left (l.drop p)
  len : (fbs (fs.map Fi.fr)).length = p
theorem RS.start (w : World) (l : List UInt8) : RS w l [] 0 (.slice none 0 0) w :=
  ⟨new_refl w, World.ownsRow_nil _ _ _ _, fun i h => absurd h (by simp), fun i h => absurd h (by simp), Nat.zero_le _, by simp, by simp, rfl⟩
theorem RS.stop {w wr : World} {l : List UInt8} {fs : List Fi} {p : Nat} {A : Option Addr} {c : Nat} (h : RS w l fs p (.slice A fs.length c) wr) (hs : st (l.drop p) ≠ 1) {b : Bool} (hb : b = (st (l.drop p) == 2)) : ScF w l (.returned (.tuple #[.slice A fs.length c, .int .i64 (p : Int), .bool b])) wr := by
  obtain ⟨h1, h2, h3, h4, h5, h6, h7, h8⟩ := h
  obtain ⟨e1, e2⟩ := scan_not _ hs
  rw [e1, List.append_nil] at h6
  rw [e2] at h7
  refine ⟨fs, A, c, h6.symm, h4, ?_, fun i hi => ?_, h1⟩
  · rw [h6, h7, h8, hb]
  · rcases h2.2 with ⟨e, e0⟩ | ⟨g, cap, cur, e, _⟩
    · omega
    · simp only [Value.slice.injEq] at e
      obtain ⟨rfl, -, -⟩ := e
      exact frArr_of (fs := fs) (own_typed h2).2.1 rfl (fun i h => (own_typed (h3 i h)).2.1) i hi
theorem RS.keep {w wr w' : World} {l : List UInt8} {fs : List Fi} {p : Nat} {v : Value} (h : RS w l fs p v wr) (hn : New wr w') : RS w l fs p v w' :=
  ⟨New.then h.new hn, own_new h.row hn, fun i hi => own_new (h.dat i hi) hn, h.ok, h.le, h.told, h.left, h.len⟩
theorem own_apart {W : World} {B B' n m size size' : Nat} {e e' : TypeId} {u v : Value} {xs ys : List Value} (h : W.ownsRow B e size u n xs) (k : W.ownsRow B' e' size' v m ys) (hne : e ≠ e') : ∀ g, u.ownBlock = some g → ¬ some g = v.ownBlock := fun g hg hv => by
  obtain ⟨-, cs, h1⟩ := own_cells h hg
  obtain ⟨-, cs', h2⟩ := own_cells k hv.symm
  exact h1.ne_ h2 hne rfl
/-- One frame more. -/
theorem RS.step {w w7 w9 : World} {l : List UInt8} {fs : List Fi} {p p' : Nat} {v v9 : Value} {A : Option Addr} {c kd dl : Nat} (h : RS w l fs p v w7) (hs : st (l.drop p) = 1) (hkd : (kdF (l.drop p)).toNat = kd) (hp' : p' = p + 9 + lenF (l.drop p)) (hdl : (datF (l.drop p)).length = dl)
    (ho : w7.ownsRow w.heap.size 5 1 (.slice A dl c) dl (vb (datF (l.drop p)))) {o : Obj} (hg9 : (w7.alloc o).grownBy w9 v.ownBlock) (hown9 : w9.ownsRow w.heap.size 36 2 v9 (fs.length + 1) (fiCs fs ++ [.int .i64 (kd : Int), .slice A dl c])) :
    RS w l (fs ++ [⟨(kd : Int), A, c, datF (l.drop p)⟩]) p' v9 w9 := by
  obtain ⟨h1, h2, h3, h4, h5, h6, h7, h8⟩ := h
  obtain ⟨q1, q2, q3, q4⟩ := st_whole _ hs
  obtain ⟨e1, e2⟩ := scan_whole _ hs
  have hN := New.then h1 (alloc_new w7 o)
  have hk256 := (kdF (l.drop p)).toNat_lt
  have hfr : Fi.fr ⟨(kd : Int), A, c, datF (l.drop p)⟩ = oneF (l.drop p) := by
    unfold Fi.fr oneF
    simp only [Int.toNat_natCast, ← hkd, UInt8.ofNat_toNat]
  have hnx : nxtF (l.drop p) = l.drop p' := by unfold nxtF; rw [List.drop_drop, hp']; congr 1; omega
  have hch := Ch.of_grown hg9
  refine ⟨hN.grown hg9 hN.size (fun j hj => (own_cells h2 hj).1), ?_, fun i hi => ?_, fun i hi => ?_, ?_, ?_, ?_, ?_⟩
  · rw [List.length_append, List.length_singleton, fiCs_snoc]
    simp only [hdl]
    exact hown9
  · by_cases hlt : i < fs.length
    · rw [List.getElem_append_left hlt]
      exact own_ch (own_new (h3 i hlt) (alloc_new w7 o)) hch (own_apart (h3 i hlt) h2 (by decide))
    · have : i = fs.length := by simp at hi; omega
      subst this
      simp only [List.getElem_append_right (Nat.le_refl _), Nat.sub_self, List.getElem_cons_zero, hdl]
      exact own_ch (own_new ho (alloc_new w7 o)) hch (own_apart ho h2 (by decide))
  · by_cases hlt : i < fs.length
    · rw [List.getElem_append_left hlt]
      exact h4 i hlt
    · have : i = fs.length := by simp at hi; omega
      subst this
      simp only [List.getElem_append_right (Nat.le_refl _), Nat.sub_self, List.getElem_cons_zero]
      exact ⟨by simp only; omega, by simp only; omega, by simp only; omega⟩
  · rw [List.length_drop] at q1
    have : p + (9 + lenF (l.drop p)) ≤ l.length := by omega
    omega
  · rw [h6, e1, hnx, List.map_append, List.map_cons, List.map_nil, hfr, List.append_assoc]
    rfl
  · rw [h7, e2, hnx]
  · rw [List.map_append, List.map_cons, List.map_nil, fbs_append, List.length_append, fbs_cons, fbs_nil, List.append_nil, fb_length, h8, hfr, hp']
    unfold oneF
    simp only
    omega

theorem st_short {r : List UInt8} (h : r.length < 9) : st r = 0 := by unfold st; rw [if_pos h]
theorem st_long {r : List UInt8} (h : 9 ≤ r.length) (h2 : 262144 < lenF r) : st r = 2 := by unfold st; rw [if_neg (by omega), if_pos h2]
theorem st_begun {r : List UInt8} (h : 9 ≤ r.length) (h2 : lenF r ≤ 262144) (h3 : r.length < 9 + lenF r) : st r = 0 := by unfold st; rw [if_neg (by omega), if_neg (by omega), if_pos (by omega)]
theorem st_sum {r : List UInt8} (h : 9 ≤ r.length) (h2 : lenF r ≤ 262144) (h3 : 9 + lenF r ≤ r.length) : st r = if crc (r.take 5 ++ datF r) = nat4 (r.drop 5) then 1 else 2 := by unfold st; rw [if_neg (by omega), if_neg (by omega), if_neg (by omega)]

/-- A frame that was made, with Data of the call's own. -/
structure FB (w : World) (d : List UInt8) (K kn b : Nat) (A : Option Addr) (c : Nat) (wx : World) : Prop where
  new : New w wx
  blk : Blk wx b 36 #[.int .i64 (kn : Int), .slice A K c]
  old : w.heap.size ≤ b
  own : wx.ownsRow w.heap.size 5 1 (.slice A K c) K (vb d)
theorem fbs_ge : ∀ z : List Fr, 9 * z.length ≤ (fbs z).length
  | [] => by simp
  | a :: t => by
    have := fbs_ge t
    rw [fbs_cons, List.length_append, fb_length, List.length_cons]
    omega
theorem FB.mk1 {w w5 : World} {d : List UInt8} {K kn b c : Nat} {A : Option Addr} (hd : d.length = K) (hM : Ac w (.slice A K c) ([] ++ d) w5) (hF : Blk w5 b 36 #[.int .i64 0, .slice none 0 0]) (hb : w.heap.size ≤ b) : FB w d K kn b A c ((w5.setCell ⟨b, 0, none⟩ (.int .i64 (kn : Int))).setCell ⟨b, 1, none⟩ (.slice A K c)) := by
  have ho := hM.own
  rw [List.nil_append, hd] at ho
  refine ⟨(hM.new.setCell hb _).setCell hb _, (hF.set_ 0 _).set_ 1 _, hb, own_ch ho (((Ch.refl (fun j => j = b) w5).setCell (p := ⟨b, 0, none⟩) (fun _ => rfl) _).setCell (p := ⟨b, 1, none⟩) (fun _ => rfl) _) (fun g hg e => ?_)⟩
  have e' : g = b := e
  subst e'
  obtain ⟨-, cs, h1⟩ := own_cells ho hg
  exact h1.ne_ hF (by decide) rfl
theorem FB.mk2 {w w5 : World} {d : List UInt8} {K kn c : Nat} {A : Option Addr} (hd : d.length = K) (hM : Ac w (.slice A K c) ([] ++ d) w5) : FB w d K kn w5.heap.size A c (w5.alloc (.cells #[.int .i64 (kn : Int), .slice A K c] 36)) := by
  have ho := hM.own
  rw [List.nil_append, hd] at ho
  exact ⟨New.then hM.new (alloc_new w5 _), Blk.new w5 _ _, hM.new.size, own_new ho (alloc_new w5 _)⟩
theorem step_acT {ops : Array Oper} {o : Oper} {a : Act} {K : Act → World → Prop} {Q : Exit → Act → World → Prop} {E : Prop} {w : World} (hgd : o.guard = none) (s x : Operand)
    (ho : o.op = .call { callee := .builtin .append, args := #[s, x], argTypes := #[24, 24] })
    {w0 : World} {v : Value} {z l : List UInt8} {A : Option Addr} {c : Nat} (h : Ac w0 v z w) (hs : a.eval s = v) (hx : a.eval x = .slice A l.length c) (hr : Reads w w.heap.size 1 A l.length (vb l)) (hb : z.length + l.length ≤ 1099511627776)
    (hK : ∀ v' w', Ac w0 v' (z ++ l) w' → (∀ g t cs, Blk w g t cs → 5 ≠ t → Blk w' g t cs) → K (a.put o.dst v') w') :
    if Region.wanted o (yielded ops a.tmps) = true then Oper.wp Try.prog o a w K Q else E := by
  obtain ⟨i0, hi, hz0, hz1, hz2⟩ := info_parts byte_info
  refine step_append_any w hgd s x 24 ho w0.heap.size 5 i0 _ 1 1 Try.underlying24 hi hz0 hz1 hz2 rfl (by omega) v _ _ hs h.own _ A l.length c (vb l) hx hr (vb_one _) (by unfold maxLen; omega) (by omega) h.new.size ?_
  intro v' w' hown hg _
  refine hK v' w' ⟨?_, h.new.grown hg h.new.size (fun k hk => (h.own.lt k hk).1)⟩ (fun g t cs hb hne => hb.grown hg (fun e => own_blk_ne h.own hb hne e.symm))
  rw [vb_append, List.length_append]
  exact hown
abbrev mkM : Obj := .cells #[] 5
abbrev mkF : Obj := .cells #[.int .i64 0, .slice none 0 0] 36
theorem keepF {W : World} {g b i : Nat} {x y v : Value} (hne : g ≠ b) (h : W.cell? ⟨g, i, none⟩ = some v) : ((W.setCell ⟨b, 0, none⟩ x).setCell ⟨b, 1, none⟩ y).cell? ⟨g, i, none⟩ = some v :=
  (World.cell?_setCell_other _ _ _ _ (fun e => hne (by simpa using (congrArg Addr.block e).symm))).trans ((World.cell?_setCell_other _ _ _ _ (fun e => hne (by simpa using (congrArg Addr.block e).symm))).trans h)
theorem made_a (w : World) : Ac w (.slice (some ⟨w.heap.size, 0, none⟩) 0 0) [] ((w.alloc mkM).alloc mkF).drew := ((Ac.made w w (new_refl w)).keep (alloc_new _ _)).drew
theorem made_b (w : World) : Ac w (.slice (some ⟨w.heap.size + 1, 0, none⟩) 0 0) [] ((w.alloc mkF).alloc mkM).drew := by
  have h := (Ac.made w (w.alloc mkF) (alloc_new w _)).drew
  rwa [World.size_alloc] at h
theorem frame_a (w : World) : Blk ((w.alloc mkM).alloc mkF).drew (w.heap.size + 1) 36 #[.int .i64 0, .slice none 0 0] := by
  have h := Blk.new (w.alloc mkM) 36 #[.int .i64 0, .slice none 0 0]
  rw [World.size_alloc] at h
  exact h
theorem frame_b (w : World) : Blk ((w.alloc mkF).alloc mkM).drew w.heap.size 36 #[.int .i64 0, .slice none 0 0] := (Blk.new w _ _).alloc _
set_option maxRecDepth 100000 in
set_option maxHeartbeats 8000000 in
theorem rscan_round (gb ob n c : Nat) (l : List UInt8) (w : World) (hn : n = l.length) (hl : n ≤ 1000000) (hc : n ≤ c ∧ c ≤ maxLen) (hA : Reads w w.heap.size 1 (some ⟨gb, ob, none⟩) n (vb l)) :
    Calls Try.prog 25 #[.slice (some ⟨gb, ob, none⟩) n c] w (ScF w l) := by
  obtain ⟨i0, hi, hz0, hz1, hz2⟩ := info_parts rframe_info
  have HA := Lib.hid hA
  have HN := Lib.hid hn
  have hcn := hc.1
  have hcm : (c : Int) ≤ 9223372036854775807 := by have := hc.2; unfold maxLen at this; omega
  clear hA hn hc
  go_enter Try.func25, Try.ntmps25
  go_wp2
  go_loopw [5, 6, 7, 8, 9] (fun v i _ _ _ wr => ∃ (fs : List Fi) (p : Nat), i = .int .i64 p ∧ RS w l fs p v wr) (fun _ i _ _ _ _ => n - (intOf i).toNat)
  case atStart => exact ⟨[], 0, rfl, RS.start w l⟩
  case round =>
    obtain ⟨fs, p, rfl, hrs⟩ := hrel
    obtain ⟨Ao, co, rfl, -, -, -⟩ := own_len hrs.row
    have hple := hrs.le
    obtain ⟨fl, hfl⟩ : ∃ x, fs.length = x := ⟨_, rfl⟩
    have HRS := Lib.hid hrs
    have hpn : p ≤ n := by rw [HN.out]; exact hple
    clear hrs hple
    have HR0 := Lib.hid (HA.out.new HRS.out.new)
    rw [hfl]
    have HFL := Lib.hid hfl
    clear hfl
    obtain ⟨r, hr⟩ : ∃ r, l.drop p = r := ⟨_, rfl⟩
    obtain ⟨m, hm⟩ : ∃ m, n - p = m := ⟨_, rfl⟩
    have hrl : r.length = m := by rw [← hr, List.length_drop, ← HN.out, hm]
    have HRL := Lib.hid hrl
    have HRP : Hid (Reads wr wr.heap.size 1 (some ⟨gb, ob + p, none⟩) m (vb r)) := Lib.hid (by
      have h := reads_part (a := p) (k := m) HR0.out (by omega)
      rwa [hr, List.take_of_length_le (by omega)] at h)
    have hstop : ∀ (W : World) (b : Bool), New wr W → st r ≠ 1 → b = (st r == 2) → ScF w l (.returned (.tuple #[.slice Ao fl co, .int .i64 (p : Int), .bool b])) W := fun W b hW h1 h2 => by
      rw [← HFL.out]
      exact (HRS.out.keep hW).stop (by rw [hr]; exact h1) (by rw [hr]; exact h2)
    have HSTOP := Lib.hid hstop
    have HR := Lib.hid hr
    clear hstop hr hrl
    have hnn : (n : Int) - (p : Int) = (m : Int) := by omega
    have hpc : (p : Int) ≤ (c : Int) := by omega
    have hpc' : p ≤ c := by omega
    have hcp : m ≤ c - p := by omega
    have hcp' : ((c - p : Nat) : Int) = (c : Int) - (p : Int) := by omega
    by_cases hlt : p < n
    · have hcne : ¬ c = p := by omega
      have hcne' : ¬ c - p = 0 := by omega
      by_cases h9 : m < 9
      · have HS := Lib.hid (HSTOP.out wr false (new_refl wr) (by rw [st_short (by rw [HRL.out]; exact h9)]; decide) (by rw [st_short (by rw [HRL.out]; exact h9)]; rfl))
        go_wp2
        go_ret3
        exact HS.out
      · have HNU := Lib.hid (fun c' => number_any (some ⟨gb, ob + p + 1, none⟩) c' ((r.drop 1).take 4) 4 (by rw [List.length_take, List.length_drop, HRL.out]; omega) wr (by rw [List.length_take, List.length_drop, HRL.out]; omega) (by rw [List.length_take]; omega) (by
          have h := reads_part (a := 1) (k := 4) HRP.out (by omega)
          rw [show ((r.drop 1).take 4).length = 4 by rw [List.length_take, List.length_drop, HRL.out]; omega]
          exact h))
        rw [nat4_take] at HNU
        have hlen : nat4 (r.drop 1) = lenF r := rfl
        rw [hlen] at HNU
        have hlb : lenF r < 4294967296 := nat4_lt _
        obtain ⟨K, hK⟩ : ∃ K, lenF r = K := ⟨_, rfl⟩
        rw [hK] at HNU hlb
        have HK := Lib.hid hK
        clear hlen hK
        have h9' : 9 ≤ m := by omega
        by_cases hbig : 262144 < K
        · have HS : Hid (∀ W, New wr W → ScF w l (.returned (.tuple #[.slice Ao fl co, .int .i64 (p : Int), .bool true])) W) := Lib.hid (fun W hW => HSTOP.out W true hW (by rw [st_long (by rw [HRL.out]; exact h9') (by rw [HK.out]; exact hbig)]; decide) (by rw [st_long (by rw [HRL.out]; exact h9') (by rw [HK.out]; exact hbig)]; rfl))
          have hbi : (262144 : Int) < (K : Int) := by omega
          go_wp2_with (first
            | (go_at_call 39; (with_reducible refine (HNU.out _).mono ?_); rintro e w2 ⟨rfl, hn2⟩; have HS2 := Lib.hid (HS.out w2 hn2))
            | fail)
          go_ret3
          exact HS2.out
        · have hbi : ¬ (262144 : Int) < (K : Int) := by omega
          by_cases hbeg : m < 9 + K
          · have HS : Hid (∀ W, New wr W → ScF w l (.returned (.tuple #[.slice Ao fl co, .int .i64 (p : Int), .bool false])) W) := Lib.hid (fun W hW => HSTOP.out W false hW (by rw [st_begun (by rw [HRL.out]; exact h9') (by rw [HK.out]; omega) (by rw [HRL.out, HK.out]; exact hbeg)]; decide) (by rw [st_begun (by rw [HRL.out]; exact h9') (by rw [HK.out]; omega) (by rw [HRL.out, HK.out]; exact hbeg)]; rfl))
            have hbgi : (m : Int) < 9 + (K : Int) := by omega
            go_wp2_with (first
              | (go_at_call 39; (with_reducible refine (HNU.out _).mono ?_); rintro e w2 ⟨rfl, hn2⟩; have HS2 := Lib.hid (HS.out w2 hn2))
              | fail)
            go_ret3
            exact HS2.out
          · have hbgi : ¬ (m : Int) < 9 + (K : Int) := by omega
            go_wp2_with (first
              | (go_at_call 39; (with_reducible refine (HNU.out _).mono ?_); rintro e w2 ⟨rfl, hn2⟩; have HN2 := Lib.hid hn2; clear hn2)
              | fail)
            have HRP2 := Lib.hid (HRP.out.new HN2.out)
            have hkd0 : kdF r = r[0]'(by rw [HRL.out]; omega) := by unfold kdF; rw [List.getD_eq_getElem?_getD, List.getElem?_eq_getElem (by rw [HRL.out]; omega)]; rfl
            have hc0 : w2.cell? ⟨gb, ob + p, none⟩ = some (.int .u8 ((kdF r).toNat : Int)) := by
              obtain ⟨ad, e, hb, hcc⟩ := HRP2.out.2 (by omega)
              simp only [Option.some.injEq] at e
              subst e
              have := hcc 0 _ (vb_get r 0 (by rw [HRL.out]; omega))
              rw [hkd0]
              simpa [Addr.add] using this
            have hkb := (kdF r).toNat_lt
            obtain ⟨kn, hkn⟩ : ∃ kn, (kdF r).toNat = kn := ⟨_, rfl⟩
            rw [hkn] at hc0 hkb
            have HKN := Lib.hid hkn
            have hkw : IntKind.i64.wrap (kn : Int) = (kn : Int) := IntWalk.i64_in _ (by omega)
            have hKw : IntKind.i64.wrap (K : Int) = (K : Int) := IntWalk.i64_in _ (by omega)
            have hK9 : IntKind.i64.wrap (9 + (K : Int)) = 9 + (K : Int) := IntWalk.i64_in _ (by omega)
            have hDr : (datF r).length = K := by unfold datF; rw [HK.out, List.length_take, List.length_drop, HRL.out]; omega
            have HDR := Lib.hid hDr
            have HC0 := Lib.hid hc0
            have hk9m : 9 + K ≤ m := by omega
            clear hkd0 hkn hDr hcp'
            have hcp2 : m ≤ c - p := hcp
            generalize c - p = C at *
            obtain ⟨E, hE⟩ : ∃ E, E = 9 + K := ⟨_, rfl⟩
            have e9 : (9 : Int) + (K : Int) = (E : Int) := by omega
            have b1 : (9 : Int) ≤ (E : Int) := by omega
            have b2 : (E : Int) ≤ (C : Int) := by omega
            have b3 : (E : Int) ≤ (m : Int) := by omega
            have b4 : E - 9 = K := by omega
            have b5 : 9 ≤ E := by omega
            have b6 : E ≤ C := by omega
            have b7 : E ≤ m := by omega
            have m0 : 0 < m := by omega
            have HE := Lib.hid hE
            clear hE hK9
            have hE9 : IntKind.i64.wrap (E : Int) = (E : Int) := IntWalk.i64_in _ (by omega)
            have HDT : Hid (∀ W, New w2 W → Reads W W.heap.size 1 (if C = 9 then some ⟨gb, ob + p, none⟩ else some ⟨gb, ob + p + 9, none⟩) K (vb (datF r))) := Lib.hid (fun W hW => by
              have hd : datF r = (r.drop 9).take K := by unfold datF; rw [HK.out]
              by_cases h0 : C = 9
              · have hK0 : K = 0 := by omega
                rw [hd]
                subst hK0
                exact ⟨by simp [vb], fun h => absurd h (by omega)⟩
              · rw [if_neg h0, hd]
                exact (reads_part (a := 9) (k := K) HRP2.out hk9m).new hW)
            by_cases hc9 : C = 9
            · subst hc9
              rw [if_pos rfl] at HDT
              have b2' : (E : Int) ≤ 9 := by omega
              have b6' : E ≤ 9 := by omega
              go_cut [9] (fun s9 wx => ∃ b9 A9 c9, s9 = .pointer (some ⟨b9, 0, none⟩) ∧ FB w2 (datF r) K kn b9 A9 c9 wx)
              case first =>
                have HMD : Hid (Ac w2 (.slice (some ⟨w2.heap.size, 0, none⟩) 0 0) [] (w2.alloc (.cells #[] 5)).drew) := Lib.hid (Ac.made w2 w2 (new_refl w2)).drew
                have HDX : Hid (Reads (w2.alloc (.cells #[] 5)).drew (w2.alloc (.cells #[] 5)).drew.heap.size 1 (some ⟨gb, ob + p, none⟩) (datF r).length (vb (datF r))) := Lib.hid (by rw [HDR.out]; exact HDT.out _ (Below.drew (alloc_new w2 _)))
                have HDXa : Hid (Reads ((w2.alloc mkM).alloc mkF).drew ((w2.alloc mkM).alloc mkF).drew.heap.size 1 (some ⟨gb, ob + p, none⟩) (datF r).length (vb (datF r))) := Lib.hid (by rw [HDR.out]; exact HDT.out _ (Below.drew (New.then (alloc_new w2 _) (alloc_new _ _))))
                have HDXb : Hid (Reads ((w2.alloc mkF).alloc mkM).drew ((w2.alloc mkF).alloc mkM).drew.heap.size 1 (some ⟨gb, ob + p, none⟩) (datF r).length (vb (datF r))) := Lib.hid (by rw [HDR.out]; exact HDT.out _ (Below.drew (New.then (alloc_new w2 _) (alloc_new _ _))))
                have HGB : Hid (gb < w2.heap.size) := Lib.hid (block_lt_of_cell HC0.out)
                have hne0 : gb ≠ w2.heap.size := Nat.ne_of_lt HGB.out
                have hne1 : gb ≠ w2.heap.size + 1 := Nat.ne_of_lt (Nat.lt_succ_of_lt HGB.out)
                go_region_held3 (fun w' => w'.cell? ⟨gb, ob + p, none⟩ = some (.int .u8 (kn : Int)))
                  (first | exact keepF (by assumption) (by assumption) | go_keep)
                  (first
                    | (refine step_acT (w0 := w2) (z := []) (l := datF r) (by rfl) (.tmp 41) (.tmp 46) (by rfl) (made_a w2) (by rfl) (by rw [HDR.out]; rfl) HDXa.out (by rw [HDR.out]; simp; omega) ?_; intro v5 w5 hM5 hT5; obtain ⟨A5, c5, rfl, hM5⟩ := ac_five HDR.out hM5; have HM5 := Lib.hid hM5; have s0 := (hM5.new.cell (p := ⟨gb, ob + p, none⟩) HGB.out).trans HC0.out; have HFa := Lib.hid (hT5 _ _ _ (frame_a w2) (by decide)); obtain ⟨x0, x1, f0, f1⟩ := fzr HFa.out; clear hM5 hT5)
                    | (refine step_acT (w0 := w2) (z := []) (l := datF r) (by rfl) (.tmp 41) (.tmp 46) (by rfl) (made_b w2) (by rfl) (by rw [HDR.out]; rfl) HDXb.out (by rw [HDR.out]; simp; omega) ?_; intro v5 w5 hM5 hT5; obtain ⟨A5, c5, rfl, hM5⟩ := ac_five HDR.out hM5; have HM5 := Lib.hid hM5; have s0 := (hM5.new.cell (p := ⟨gb, ob + p, none⟩) HGB.out).trans HC0.out; have HFb := Lib.hid (hT5 _ _ _ (frame_b w2) (by decide)); obtain ⟨x0, x1, f0, f1⟩ := fzr HFb.out; clear hM5 hT5)
                    | (refine step_acT (w0 := w2) (z := []) (l := datF r) (by rfl) (.tmp 41) (.tmp 46) (by rfl) HMD.out (by rfl) (by rw [HDR.out]; rfl) HDX.out (by rw [HDR.out]; simp; omega) ?_; intro v5 w5 hM5 hT5; have hne5 : gb ≠ w5.heap.size := Nat.ne_of_lt (Nat.lt_of_lt_of_le HGB.out hM5.new.size); obtain ⟨A5, c5, rfl, hM5⟩ := ac_five HDR.out hM5; have HM5 := Lib.hid hM5; have s0 := (hM5.new.cell (p := ⟨gb, ob + p, none⟩) HGB.out).trans HC0.out; clear hM5 hT5)
                    | fail)
                go_wp2_with fail
                all_goals go_meet
                all_goals first
                  | exact ⟨w2.heap.size + 1, A5, c5, rfl, FB.mk1 HDR.out HM5.out HFa.out (Nat.le_succ _)⟩
                  | exact ⟨w2.heap.size, A5, c5, rfl, FB.mk1 HDR.out HM5.out HFb.out (Nat.le_refl _)⟩
                  | exact ⟨w5.heap.size, A5, c5, rfl, FB.mk2 HDR.out HM5.out⟩
              case rest =>
                obtain ⟨b9, A9, c9, rfl, hfb⟩ := hcut
                obtain ⟨W3, rfl⟩ : ∃ W3 : World, W3 = wc := ⟨_, rfl⟩
                have HFB := Lib.hid hfb
                clear hfb HC0 hc0
                go_wp2_with fail
                have HB9 := Lib.hid HFB.out.blk
                obtain ⟨x0, x1, -, -⟩ := fzr HB9.out
                have HN3 := Lib.hid HFB.out.new
                have HRP3 := Lib.hid (HRP2.new HN3.out)
                have HD3 := Lib.hid (own_typed HFB.out.own).2.1
                obtain ⟨N5, hN5⟩ : ∃ x, nat4 (r.drop 5) = x := ⟨_, rfl⟩
                have HN5 := Lib.hid hN5
                have hT5 : (r.take 5).length = 5 := by rw [List.length_take, HRL.out]; omega
                have HT5 := Lib.hid hT5
                have HNU5 : Hid (∀ W c', New W3 W → Calls Try.prog 39 #[.slice (some ⟨gb, ob + p + 5, none⟩) 4 c'] W fun e w' => e = .returned (.int .u32 (N5 : Nat)) ∧ New W w') := Lib.hid (fun W c' hW => by
                  have h := number_any (some ⟨gb, ob + p + 5, none⟩) c' ((r.drop 5).take 4) 4 (by rw [List.length_take, List.length_drop, HRL.out]; omega) W (by rw [List.length_take, List.length_drop, HRL.out]; omega) (by rw [List.length_take]; omega) (by
                    have h := (reads_part (a := 5) (k := 4) HRP3.out (by omega)).new hW
                    rw [show ((r.drop 5).take 4).length = 4 by rw [List.length_take, List.length_drop, HRL.out]; omega]
                    exact h)
                  rwa [nat4_take, hN5] at h)
                obtain ⟨SM, hSM⟩ : ∃ x, crc (r.take 5 ++ datF r) = x := ⟨_, rfl⟩
                have HSM := Lib.hid hSM
                have HSU : Hid (∀ (W : World) (A6 : Option Addr) (m6 c6 : Nat), m6 = (([] ++ r.take 5) ++ datF r).length → Reads W W.heap.size 1 A6 m6 (vb (([] ++ r.take 5) ++ datF r)) → Calls Try.prog 38 #[.slice A6 m6 c6] W fun e w' => e = .returned (.int .u32 (SM : Nat)) ∧ W = w') := Lib.hid (fun W A6 m6 c6 hm6 hr => by
                  have hl2 : (([] ++ r.take 5) ++ datF r).length = 5 + K := by rw [List.nil_append, List.length_append, hT5, HDR.out]
                  subst hm6
                  have h := rsum_any A6 c6 (([] ++ r.take 5) ++ datF r) W (by rw [hl2]; omega) hr
                  rw [List.nil_append] at h
                  rw [hSM] at h
                  rw [List.nil_append]
                  exact h)
                have HT5R : Hid (∀ W, New W3 W → Reads W W.heap.size 1 (some ⟨gb, ob + p, none⟩) (r.take 5).length (vb (r.take 5))) := Lib.hid (fun W hW => by
                  rw [hT5]
                  exact reads_take (HRP3.out.new hW) (by omega))
                have HDR3 : Hid (∀ W, New W3 W → Reads W W.heap.size 1 A9 (datF r).length (vb (datF r))) := Lib.hid (fun W hW => by
                  rw [HDR.out]
                  exact HD3.out.new hW)
                clear hN5 hT5 hSM
                go_cut [60] (fun s60 wx => s60 = .bool ((N5 : Int) != (SM : Int)) ∧ New W3 wx)
                case first =>
                  have HNa := Lib.hid (HNU5.out W3.drew 4 (Below.drew (new_refl W3)))
                  have HNb := Lib.hid (HNU5.out (W3.alloc mkM).drew 4 (Below.drew (alloc_new W3 _)))
                  have HMb : Hid (Ac W3 (.slice (some ⟨W3.heap.size, 0, none⟩) 0 0) [] (W3.alloc mkM).drew) := Lib.hid (Ac.made W3 W3 (new_refl W3)).drew
                  go_region_held3 (fun w' => w'.cell? ⟨b9, 0, none⟩ = some (.int .i64 (kn : Int)) ∧ w'.cell? ⟨b9, 1, none⟩ = some (.slice A9 K c9))
                    (go_keep)
                    (first
                      | (go_at_call 39; (with_reducible refine HNa.out.mono ?_); rintro e w4 ⟨rfl, hn4⟩; have HMA := Lib.hid (Ac.made W3 w4 (New.then (Below.drew (new_refl W3)) hn4)); obtain ⟨s0, s1, -, -⟩ := fzr (HB9.out.below (New.then (Below.drew (new_refl W3)) hn4) HB9.out.lt); clear hn4)
                      | (go_at_call 39; (with_reducible refine HNb.out.mono ?_); rintro e w4 ⟨rfl, hn4⟩; have HMA := Lib.hid (HMb.out.keep hn4); obtain ⟨s0, s1, -, -⟩ := fzr (HB9.out.below HMA.out.new HB9.out.lt); clear hn4)
                      | (refine step_ac (w0 := W3) (z := []) (l := r.take 5) (by rfl) (.tmp 52) (.tmp 54) (by rfl) HMA.out (by rfl) (by rw [HT5.out]; rfl) (HT5R.out _ HMA.out.new) (by rw [HT5.out]; simp) ?_; intro v5 w5 hM5; obtain ⟨A5, c5, rfl, hM5⟩ := ac_five HT5.out hM5; have HM5 := Lib.hid hM5; obtain ⟨s0, s1, -, -⟩ := fzr (HB9.out.below hM5.new HB9.out.lt); clear hM5)
                      | (refine step_ac (w0 := W3) (z := [] ++ r.take 5) (l := datF r) (by rfl) (.tmp 55) (.tmp 57) (by rfl) HM5.out (by rfl) (by rw [HDR.out]; rfl) (HDR3.out _ HM5.out.new) (by rw [List.nil_append, HT5.out, HDR.out]; omega) ?_; intro v6 w6 hM6; obtain ⟨A6, m6, c6, rfl, hm6, hM6⟩ := ac_len hM6; have HN6 := Lib.hid hM6.new; have HSU6 := Lib.hid (HSU.out w6 A6 m6 c6 hm6 (by have ho6 := hM6.own; rw [← hm6] at ho6; exact Reads.of_own ho6)); obtain ⟨s0, s1, -, -⟩ := fzr (HB9.out.below hM6.new HB9.out.lt); clear hM6 hm6)
                      | (go_at_call 38; (with_reducible refine HSU6.out.mono ?_); rintro e w7 ⟨rfl, rfl⟩; obtain ⟨s0, s1, -, -⟩ := fzr (HB9.out.below HN6.out HB9.out.lt))
                      | fail)
                  all_goals go_wp2_with fail
                  all_goals go_meet
                  all_goals exact ⟨rfl, HN6.out⟩
                case rest =>
                  obtain ⟨rfl, hn4⟩ := hcut
                  obtain ⟨W4, rfl⟩ : ∃ W4 : World, W4 = wc := ⟨_, rfl⟩
                  have HN4 := Lib.hid hn4
                  clear hn4
                  have HB4 := Lib.hid (HB9.out.below HN4.out HB9.out.lt)
                  obtain ⟨y0, y1, -, -⟩ := fzr HB4.out
                  have HW4 : Hid (New wr W4) := Lib.hid (New.then (New.then HN2.out HN3.out) HN4.out)
                  have hsum := st_sum (r := r) (by rw [HRL.out]; exact h9') (by rw [HK.out]; omega) (by rw [HRL.out, HK.out]; omega)
                  rw [HSM.out, HN5.out] at hsum
                  clear x0 x1
                  by_cases hne : N5 = SM
                  · have hq : ((N5 : Int) != (SM : Int)) = false := by simp [hne]
                    have hs1 : st r = 1 := by rw [hsum, if_pos hne.symm]
                    have HS1 := Lib.hid hs1
                    have HRS4 := Lib.hid (HRS.out.keep HW4.out)
                    have HOW4 : Hid (W4.ownsRow w.heap.size 5 1 (.slice A9 K c9) K (vb (datF r))) := Lib.hid (own_base (own_new HFB.out.own HN4.out) (New.then HRS.out.new HN2.out).size)
                    have hfl9 : fl ≤ 1000000 := by
                      have h1 := fbs_ge (fs.map Fi.fr)
                      rw [HRS.out.len, List.length_map, HFL.out] at h1
                      omega
                    have HB1x : Hid (fl + 1 ≤ maxLen) := Lib.hid (by unfold maxLen; omega)
                    have HB2x : Hid ((fl + 1) * 32 ≤ 140737488355328) := Lib.hid (by omega)
                    have HROW4 : Hid (W4.ownsRow w.heap.size 36 2 (.slice Ao fl co) fl (fiCs fs)) := Lib.hid (by rw [← HFL.out]; have := HRS4.out.row; rw [HFL.out] at this ⊢; exact this)
                    have HSZ : Hid (w.heap.size ≤ (W4.alloc (.cells #[.int .i64 (kn : Int), .slice A9 K c9] 36)).heap.size) := Lib.hid (Nat.le_trans HRS4.out.new.size (alloc_new W4 _).size)
                    clear hsum hne hs1
                    go_wp2_with
                      (at_builtin; refine wpList_append_any _ rfl (.tmp 63) (.tmp 65) 37 rfl w.heap.size 36 i0 (.agg #[.int .i64 0, .slice none 0 0]) 2 32 Try.underlying37 hi hz0 hz1 hz2 rfl (by decide) _ fl (fiCs fs) rfl (own_new HROW4.out (alloc_new W4 _)) _ (some ⟨W4.heap.size, 0, none⟩) 1 1 [.int .i64 (kn : Int), .slice A9 K c9] rfl (reads_two W4 _ _ _) (by simp [Value.oneCell']) HB1x.out HB2x.out HSZ.out ?_; intro v9 w9 hown9 hg9 hat9)
                    go_roundw
                    case rel =>
                      refine ⟨fs ++ [⟨(kn : Int), A9, c9, datF r⟩], p + 9 + K, by go_num, ?_⟩
                      have hR := HR.out
                      have hF := HFL.out
                      subst hR
                      subst hF
                      exact RS.step HRS4.out HS1.out HKN.out (by rw [HK.out]) HDR.out HOW4.out hg9 hown9
                    case measure => simp [intOf]; omega
                  · have hq : ((N5 : Int) != (SM : Int)) = true := by simp; omega
                    have hs2 : st r = 2 := by rw [hsum, if_neg (fun e => hne e.symm)]
                    have HS := Lib.hid (HSTOP.out W4 true HW4.out (by rw [hs2]; decide) (by rw [hs2]; rfl))
                    clear hsum hne hs2
                    go_wp2
                    go_ret3
                    exact HS.out
            · rw [if_neg hc9] at HDT
              go_cut [9] (fun s9 wx => ∃ b9 A9 c9, s9 = .pointer (some ⟨b9, 0, none⟩) ∧ FB w2 (datF r) K kn b9 A9 c9 wx)
              case first =>
                have HMD : Hid (Ac w2 (.slice (some ⟨w2.heap.size, 0, none⟩) 0 0) [] (w2.alloc (.cells #[] 5)).drew) := Lib.hid (Ac.made w2 w2 (new_refl w2)).drew
                have HDX : Hid (Reads (w2.alloc (.cells #[] 5)).drew (w2.alloc (.cells #[] 5)).drew.heap.size 1 (some ⟨gb, ob + p + 9, none⟩) (datF r).length (vb (datF r))) := Lib.hid (by rw [HDR.out]; exact HDT.out _ (Below.drew (alloc_new w2 _)))
                have HDXa : Hid (Reads ((w2.alloc mkM).alloc mkF).drew ((w2.alloc mkM).alloc mkF).drew.heap.size 1 (some ⟨gb, ob + p + 9, none⟩) (datF r).length (vb (datF r))) := Lib.hid (by rw [HDR.out]; exact HDT.out _ (Below.drew (New.then (alloc_new w2 _) (alloc_new _ _))))
                have HDXb : Hid (Reads ((w2.alloc mkF).alloc mkM).drew ((w2.alloc mkF).alloc mkM).drew.heap.size 1 (some ⟨gb, ob + p + 9, none⟩) (datF r).length (vb (datF r))) := Lib.hid (by rw [HDR.out]; exact HDT.out _ (Below.drew (New.then (alloc_new w2 _) (alloc_new _ _))))
                have HGB : Hid (gb < w2.heap.size) := Lib.hid (block_lt_of_cell HC0.out)
                have hne0 : gb ≠ w2.heap.size := Nat.ne_of_lt HGB.out
                have hne1 : gb ≠ w2.heap.size + 1 := Nat.ne_of_lt (Nat.lt_succ_of_lt HGB.out)
                go_region_held3 (fun w' => w'.cell? ⟨gb, ob + p, none⟩ = some (.int .u8 (kn : Int)))
                  (first | exact keepF (by assumption) (by assumption) | go_keep)
                  (first
                    | (refine step_acT (w0 := w2) (z := []) (l := datF r) (by rfl) (.tmp 41) (.tmp 46) (by rfl) (made_a w2) (by rfl) (by rw [HDR.out]; rfl) HDXa.out (by rw [HDR.out]; simp; omega) ?_; intro v5 w5 hM5 hT5; obtain ⟨A5, c5, rfl, hM5⟩ := ac_five HDR.out hM5; have HM5 := Lib.hid hM5; have s0 := (hM5.new.cell (p := ⟨gb, ob + p, none⟩) HGB.out).trans HC0.out; have HFa := Lib.hid (hT5 _ _ _ (frame_a w2) (by decide)); obtain ⟨x0, x1, f0, f1⟩ := fzr HFa.out; clear hM5 hT5)
                    | (refine step_acT (w0 := w2) (z := []) (l := datF r) (by rfl) (.tmp 41) (.tmp 46) (by rfl) (made_b w2) (by rfl) (by rw [HDR.out]; rfl) HDXb.out (by rw [HDR.out]; simp; omega) ?_; intro v5 w5 hM5 hT5; obtain ⟨A5, c5, rfl, hM5⟩ := ac_five HDR.out hM5; have HM5 := Lib.hid hM5; have s0 := (hM5.new.cell (p := ⟨gb, ob + p, none⟩) HGB.out).trans HC0.out; have HFb := Lib.hid (hT5 _ _ _ (frame_b w2) (by decide)); obtain ⟨x0, x1, f0, f1⟩ := fzr HFb.out; clear hM5 hT5)
                    | (refine step_acT (w0 := w2) (z := []) (l := datF r) (by rfl) (.tmp 41) (.tmp 46) (by rfl) HMD.out (by rfl) (by rw [HDR.out]; rfl) HDX.out (by rw [HDR.out]; simp; omega) ?_; intro v5 w5 hM5 hT5; have hne5 : gb ≠ w5.heap.size := Nat.ne_of_lt (Nat.lt_of_lt_of_le HGB.out hM5.new.size); obtain ⟨A5, c5, rfl, hM5⟩ := ac_five HDR.out hM5; have HM5 := Lib.hid hM5; have s0 := (hM5.new.cell (p := ⟨gb, ob + p, none⟩) HGB.out).trans HC0.out; clear hM5 hT5)
                    | fail)
                go_wp2_with fail
                all_goals go_meet
                all_goals first
                  | exact ⟨w2.heap.size + 1, A5, c5, rfl, FB.mk1 HDR.out HM5.out HFa.out (Nat.le_succ _)⟩
                  | exact ⟨w2.heap.size, A5, c5, rfl, FB.mk1 HDR.out HM5.out HFb.out (Nat.le_refl _)⟩
                  | exact ⟨w5.heap.size, A5, c5, rfl, FB.mk2 HDR.out HM5.out⟩
              case rest =>
                obtain ⟨b9, A9, c9, rfl, hfb⟩ := hcut
                obtain ⟨W3, rfl⟩ : ∃ W3 : World, W3 = wc := ⟨_, rfl⟩
                have HFB := Lib.hid hfb
                clear hfb HC0 hc0
                go_wp2_with fail
                have HB9 := Lib.hid HFB.out.blk
                obtain ⟨x0, x1, -, -⟩ := fzr HB9.out
                have HN3 := Lib.hid HFB.out.new
                have HRP3 := Lib.hid (HRP2.new HN3.out)
                have HD3 := Lib.hid (own_typed HFB.out.own).2.1
                obtain ⟨N5, hN5⟩ : ∃ x, nat4 (r.drop 5) = x := ⟨_, rfl⟩
                have HN5 := Lib.hid hN5
                have hT5 : (r.take 5).length = 5 := by rw [List.length_take, HRL.out]; omega
                have HT5 := Lib.hid hT5
                have HNU5 : Hid (∀ W c', New W3 W → Calls Try.prog 39 #[.slice (some ⟨gb, ob + p + 5, none⟩) 4 c'] W fun e w' => e = .returned (.int .u32 (N5 : Nat)) ∧ New W w') := Lib.hid (fun W c' hW => by
                  have h := number_any (some ⟨gb, ob + p + 5, none⟩) c' ((r.drop 5).take 4) 4 (by rw [List.length_take, List.length_drop, HRL.out]; omega) W (by rw [List.length_take, List.length_drop, HRL.out]; omega) (by rw [List.length_take]; omega) (by
                    have h := (reads_part (a := 5) (k := 4) HRP3.out (by omega)).new hW
                    rw [show ((r.drop 5).take 4).length = 4 by rw [List.length_take, List.length_drop, HRL.out]; omega]
                    exact h)
                  rwa [nat4_take, hN5] at h)
                obtain ⟨SM, hSM⟩ : ∃ x, crc (r.take 5 ++ datF r) = x := ⟨_, rfl⟩
                have HSM := Lib.hid hSM
                have HSU : Hid (∀ (W : World) (A6 : Option Addr) (m6 c6 : Nat), m6 = (([] ++ r.take 5) ++ datF r).length → Reads W W.heap.size 1 A6 m6 (vb (([] ++ r.take 5) ++ datF r)) → Calls Try.prog 38 #[.slice A6 m6 c6] W fun e w' => e = .returned (.int .u32 (SM : Nat)) ∧ W = w') := Lib.hid (fun W A6 m6 c6 hm6 hr => by
                  have hl2 : (([] ++ r.take 5) ++ datF r).length = 5 + K := by rw [List.nil_append, List.length_append, hT5, HDR.out]
                  subst hm6
                  have h := rsum_any A6 c6 (([] ++ r.take 5) ++ datF r) W (by rw [hl2]; omega) hr
                  rw [List.nil_append] at h
                  rw [hSM] at h
                  rw [List.nil_append]
                  exact h)
                have HT5R : Hid (∀ W, New W3 W → Reads W W.heap.size 1 (some ⟨gb, ob + p, none⟩) (r.take 5).length (vb (r.take 5))) := Lib.hid (fun W hW => by
                  rw [hT5]
                  exact reads_take (HRP3.out.new hW) (by omega))
                have HDR3 : Hid (∀ W, New W3 W → Reads W W.heap.size 1 A9 (datF r).length (vb (datF r))) := Lib.hid (fun W hW => by
                  rw [HDR.out]
                  exact HD3.out.new hW)
                have c5i : (5 : Int) ≤ (C : Int) := by omega
                have c9i : (9 : Int) ≤ (C : Int) := by omega
                have c5n : 5 ≤ C := by omega
                have c5ne : ¬ C = 5 := by omega
                have c9n : 9 ≤ C := by omega
                clear hN5 hT5 hSM
                go_cut [60] (fun s60 wx => s60 = .bool ((N5 : Int) != (SM : Int)) ∧ New W3 wx)
                case first =>
                  have HNa := Lib.hid (HNU5.out W3.drew (C - 5) (Below.drew (new_refl W3)))
                  have HNb := Lib.hid (HNU5.out (W3.alloc mkM).drew (C - 5) (Below.drew (alloc_new W3 _)))
                  have HMb : Hid (Ac W3 (.slice (some ⟨W3.heap.size, 0, none⟩) 0 0) [] (W3.alloc mkM).drew) := Lib.hid (Ac.made W3 W3 (new_refl W3)).drew
                  go_region_held3 (fun w' => w'.cell? ⟨b9, 0, none⟩ = some (.int .i64 (kn : Int)) ∧ w'.cell? ⟨b9, 1, none⟩ = some (.slice A9 K c9))
                    (go_keep)
                    (first
                      | (go_at_call 39; (with_reducible refine HNa.out.mono ?_); rintro e w4 ⟨rfl, hn4⟩; have HMA := Lib.hid (Ac.made W3 w4 (New.then (Below.drew (new_refl W3)) hn4)); obtain ⟨s0, s1, -, -⟩ := fzr (HB9.out.below (New.then (Below.drew (new_refl W3)) hn4) HB9.out.lt); clear hn4)
                      | (go_at_call 39; (with_reducible refine HNb.out.mono ?_); rintro e w4 ⟨rfl, hn4⟩; have HMA := Lib.hid (HMb.out.keep hn4); obtain ⟨s0, s1, -, -⟩ := fzr (HB9.out.below HMA.out.new HB9.out.lt); clear hn4)
                      | (refine step_ac (w0 := W3) (z := []) (l := r.take 5) (by rfl) (.tmp 52) (.tmp 54) (by rfl) HMA.out (by rfl) (by rw [HT5.out]; rfl) (HT5R.out _ HMA.out.new) (by rw [HT5.out]; simp) ?_; intro v5 w5 hM5; obtain ⟨A5, c5, rfl, hM5⟩ := ac_five HT5.out hM5; have HM5 := Lib.hid hM5; obtain ⟨s0, s1, -, -⟩ := fzr (HB9.out.below hM5.new HB9.out.lt); clear hM5)
                      | (refine step_ac (w0 := W3) (z := [] ++ r.take 5) (l := datF r) (by rfl) (.tmp 55) (.tmp 57) (by rfl) HM5.out (by rfl) (by rw [HDR.out]; rfl) (HDR3.out _ HM5.out.new) (by rw [List.nil_append, HT5.out, HDR.out]; omega) ?_; intro v6 w6 hM6; obtain ⟨A6, m6, c6, rfl, hm6, hM6⟩ := ac_len hM6; have HN6 := Lib.hid hM6.new; have HSU6 := Lib.hid (HSU.out w6 A6 m6 c6 hm6 (by have ho6 := hM6.own; rw [← hm6] at ho6; exact Reads.of_own ho6)); obtain ⟨s0, s1, -, -⟩ := fzr (HB9.out.below hM6.new HB9.out.lt); clear hM6 hm6)
                      | (go_at_call 38; (with_reducible refine HSU6.out.mono ?_); rintro e w7 ⟨rfl, rfl⟩; obtain ⟨s0, s1, -, -⟩ := fzr (HB9.out.below HN6.out HB9.out.lt))
                      | fail)
                  all_goals go_wp2_with fail
                  all_goals go_meet
                  all_goals exact ⟨rfl, HN6.out⟩
                case rest =>
                  obtain ⟨rfl, hn4⟩ := hcut
                  obtain ⟨W4, rfl⟩ : ∃ W4 : World, W4 = wc := ⟨_, rfl⟩
                  have HN4 := Lib.hid hn4
                  clear hn4
                  have HB4 := Lib.hid (HB9.out.below HN4.out HB9.out.lt)
                  obtain ⟨y0, y1, -, -⟩ := fzr HB4.out
                  have HW4 : Hid (New wr W4) := Lib.hid (New.then (New.then HN2.out HN3.out) HN4.out)
                  have hsum := st_sum (r := r) (by rw [HRL.out]; exact h9') (by rw [HK.out]; omega) (by rw [HRL.out, HK.out]; omega)
                  rw [HSM.out, HN5.out] at hsum
                  clear x0 x1
                  by_cases hne : N5 = SM
                  · have hq : ((N5 : Int) != (SM : Int)) = false := by simp [hne]
                    have hs1 : st r = 1 := by rw [hsum, if_pos hne.symm]
                    have HS1 := Lib.hid hs1
                    have HRS4 := Lib.hid (HRS.out.keep HW4.out)
                    have HOW4 : Hid (W4.ownsRow w.heap.size 5 1 (.slice A9 K c9) K (vb (datF r))) := Lib.hid (own_base (own_new HFB.out.own HN4.out) (New.then HRS.out.new HN2.out).size)
                    have hfl9 : fl ≤ 1000000 := by
                      have h1 := fbs_ge (fs.map Fi.fr)
                      rw [HRS.out.len, List.length_map, HFL.out] at h1
                      omega
                    have HB1x : Hid (fl + 1 ≤ maxLen) := Lib.hid (by unfold maxLen; omega)
                    have HB2x : Hid ((fl + 1) * 32 ≤ 140737488355328) := Lib.hid (by omega)
                    have HROW4 : Hid (W4.ownsRow w.heap.size 36 2 (.slice Ao fl co) fl (fiCs fs)) := Lib.hid (by rw [← HFL.out]; have := HRS4.out.row; rw [HFL.out] at this ⊢; exact this)
                    have HSZ : Hid (w.heap.size ≤ (W4.alloc (.cells #[.int .i64 (kn : Int), .slice A9 K c9] 36)).heap.size) := Lib.hid (Nat.le_trans HRS4.out.new.size (alloc_new W4 _).size)
                    clear hsum hne hs1
                    go_wp2_with
                      (at_builtin; refine wpList_append_any _ rfl (.tmp 63) (.tmp 65) 37 rfl w.heap.size 36 i0 (.agg #[.int .i64 0, .slice none 0 0]) 2 32 Try.underlying37 hi hz0 hz1 hz2 rfl (by decide) _ fl (fiCs fs) rfl (own_new HROW4.out (alloc_new W4 _)) _ (some ⟨W4.heap.size, 0, none⟩) 1 1 [.int .i64 (kn : Int), .slice A9 K c9] rfl (reads_two W4 _ _ _) (by simp [Value.oneCell']) HB1x.out HB2x.out HSZ.out ?_; intro v9 w9 hown9 hg9 hat9)
                    go_roundw
                    case rel =>
                      refine ⟨fs ++ [⟨(kn : Int), A9, c9, datF r⟩], p + 9 + K, by go_num, ?_⟩
                      have hR := HR.out
                      have hF := HFL.out
                      subst hR
                      subst hF
                      exact RS.step HRS4.out HS1.out HKN.out (by rw [HK.out]) HDR.out HOW4.out hg9 hown9
                    case measure => simp [intOf]; omega
                  · have hq : ((N5 : Int) != (SM : Int)) = true := by simp; omega
                    have hs2 : st r = 2 := by rw [hsum, if_neg (fun e => hne e.symm)]
                    have HS := Lib.hid (HSTOP.out W4 true HW4.out (by rw [hs2]; decide) (by rw [hs2]; rfl))
                    clear hsum hne hs2
                    go_wp2
                    go_ret3
                    exact HS.out
    · obtain rfl : p = n := by omega
      have hr0 : r = [] := List.eq_nil_of_length_eq_zero (by rw [HRL.out]; omega)
      have HS := Lib.hid (HSTOP.out wr false (new_refl wr) (by rw [hr0, st_nil]; decide) (by rw [hr0, st_nil]; rfl))
      go_wp2
      go_ret3
      exact HS.out
end Go.Proofs.Ytlbbhheaginddaa.fr
