/-
  WireBack, walked.
-/
import Derived.Test.YtgefanhcjkbfhaaDoorEnts
import Derived.Test.YtgefanhcjkbfhaaDoorAwake
namespace Go.Proofs.YtgefanhcjkbfhaaDoor.laws
open Go.RowKit Go.Proofs.YtgefanhcjkbfhaaDoor.mem Go.Proofs.YtgefanhcjkbfhaaDoor.kit Go.Proofs.YtgefanhcjkbfhaaDoor.wire Go.Proofs.YtgefanhcjkbfhaaDoor.rd
set_option linter.unusedVariables false

theorem _root_.Go.Proofs.YtgefanhcjkbfhaaDoor.rd.Ents.more {w : World} {B B' : Nat} {A : Option Addr} {es : List En} (h : Ents w B A es) (hB : B ≤ B') : Ents w B' A es := fun i hi => by
  obtain ⟨ho, hr, b, o, e, hlt, hc⟩ := h i hi
  exact ⟨ho, hr.more hB, b, o, e, by omega, hc⟩

/-- All that is written, as far as k entries. -/
def allB (n : Int) (l : List UInt8) (es : List En) (k : Nat) : List UInt8 := numB n ++ (lenB l ++ entsB (es.take k))
theorem allB_succ (n : Int) (l : List UInt8) (es : List En) (k : Nat) (h : k < es.length) : catB [allB n l es k, es[k].bytes] = allB n l es (k + 1) := by
  unfold allB catB
  rw [← List.take_append_getElem h, entsB_snoc]
  simp
theorem allB_zero (n : Int) (l : List UInt8) (es : List En) : catB [numB n, lenB l] = allB n l es 0 := by simp [allB, catB, entsB]

theorem carry_one {w : World} {w0 : World} {A A1 : Option Addr} {m c1 : Nat} {r : List Value} {l : List UInt8} {base : Nat} (ho : w.ownsRow base 5 1 (.slice A1 l.length c1) l.length (vb l)) (hn : New w0 w) (hr : Reads w w.heap.size 1 A m r) :
    Carry w0 A m r [.slice A1 l.length c1] [l] w :=
  ⟨⟨rfl, fun k hk => by
    have hk0 : k = 0 := by simp at hk; omega
    subst hk0
    exact ⟨A1, c1, rfl, (own_typed ho).2.1⟩⟩, hn, hr⟩
theorem carry_none {w : World} {w0 : World} {A : Option Addr} {m : Nat} {r : List Value} (hn : New w0 w) (hr : Reads w w.heap.size 1 A m r) : Carry w0 A m r [] [] w := ⟨⟨rfl, fun k hk => absurd hk (by simp)⟩, hn, hr⟩

theorem number_carry {w0 : World} {A0 : Option Addr} {m0 : Nat} {r0 vs : List Value} {ls : List (List UInt8)} (n : Int) (w : World) (hC : Carry w0 A0 m0 r0 vs ls w) :
    Calls Tryd.prog 10 #[.int .i64 n] w (fun x w' => ∃ A1 c1, x = .returned (.slice A1 (numB n).length c1) ∧ Carry w0 A0 m0 r0 (vs ++ [.slice A1 (numB n).length c1]) (ls ++ [numB n]) w') :=
  (wire.number_any n w).mono fun x w' k => by obtain ⟨A1, c1, rfl, ho, hn⟩ := k; exact ⟨A1, c1, rfl, hC.step ho hn⟩
theorem bytes_carry {w0 : World} {vs : List Value} {ls : List (List UInt8)} (A : Option Addr) (k : Nat) (l : List UInt8) (w : World) (hl : l.length ≤ 549755813888) (hC : Carry w0 A l.length (vb l) vs ls w) :
    Calls Tryd.prog 11 #[.slice A l.length k] w (fun x w' => ∃ A1 c1, x = .returned (.slice A1 (lenB l).length c1) ∧ Carry w0 A l.length (vb l) (vs ++ [.slice A1 (lenB l).length c1]) (ls ++ [lenB l]) w') :=
  (wire.bytes_any A k l w hl hC.2.2).mono fun x w' k => by obtain ⟨A1, c1, rfl, ho, hn⟩ := k; exact ⟨A1, c1, rfl, hC.step ho hn⟩
theorem entry_carry {w0 : World} {A0 : Option Addr} {m0 : Nat} {r0 vs : List Value} {ls : List (List UInt8)} (x : En) (w : World) (hx : x.Ok) (hl : x.data.length ≤ 274877906944) (hA : Reads w w.heap.size 1 x.A x.data.length (vb x.data)) (hC : Carry w0 A0 m0 r0 vs ls w) :
    Calls Tryd.prog 12 #[.agg #[.int .i64 x.term, .int .u8 x.kind, .int .i64 x.version, .int .i64 x.server, .bool x.good, .slice x.A x.data.length x.c]] w (fun z w' => ∃ A1 c1, z = .returned (.slice A1 x.bytes.length c1) ∧ Carry w0 A0 m0 r0 (vs ++ [.slice A1 x.bytes.length c1]) (ls ++ [x.bytes]) w') :=
  (wire.entry_any x.term x.kind x.version x.server x.good x.A x.c x.data w hx.k.1 hx.k.2 hl hA).mono fun z w' k => by obtain ⟨A1, c1, rfl, ho, hn⟩ := k; exact ⟨A1, c1, rfl, hC.step ho hn⟩
theorem join_carry {w0 : World} {A0 : Option Addr} {m0 : Nat} {r0 : List Value} (n : Nat) (t : TypeId) (cs : Array Value) (ls : List (List UInt8)) (w : World) (hn : n = ls.length) (hC : Carry w0 A0 m0 r0 cs.toList ls w) (hk0 : ls.length ≤ 1099511627776) (ht : (catB ls).length ≤ 1099511627776) :
    Calls Tryd.prog 16 #[.slice (some ⟨w.heap.size, 0, none⟩) n n] (w.alloc (.cells cs t)) (fun x w' => ∃ A1 c1, x = .returned (.slice A1 (catB ls).length c1) ∧ w'.ownsRow w0.heap.size 5 1 (.slice A1 (catB ls).length c1) (catB ls).length (vb (catB ls)) ∧ New w0 w') := by
  have hsz : cs.size = n := by rw [hn, ← hC.1.1]; simp
  have hr := reads_blk (Blk.new w t cs)
  rw [hsz] at hr
  have ha := (new_refl w).alloc (Nat.le_refl _) (.cells cs t)
  refine (join_any (some ⟨w.heap.size, 0, none⟩) n n cs.toList ls _ hn (hC.1.new ha) hr hk0 ht).mono fun x w' k => ?_
  obtain ⟨A1, c1, rfl, ho, hj⟩ := k
  exact ⟨A1, c1, rfl, own_base ho (hC.2.1.then ha).size, (hC.2.1.then ha).then hj⟩

theorem allB_len (n : Int) (l : List UInt8) (es : List En) (k : Nat) (h1 : es.length ≤ 200) (h2 : l.length ≤ 20000) (h3 : tot es es.length ≤ 2500) : (allB n l es k).length ≤ 60000 ∧ 16 ≤ (allB n l es k).length := by
  have ha := entsB_len (es.take k)
  have hb : ((es.take k).map fun e => e.data.length / 8).sum ≤ (es.map fun e => e.data.length / 8).sum := by
    have h := congrArg (fun l : List En => (l.map fun e => e.data.length / 8).sum) (List.take_append_drop k es)
    simp only [List.map_append, List.sum_append] at h
    omega
  have hc : (es.take k).length ≤ 200 := by simp; omega
  unfold tot at h3
  rw [List.take_length] at h3
  unfold allB lenB
  simp only [List.length_append, numB_length]
  omega

/-- The whole reader and the cut one, side by side. -/
structure Pair (w0 : World) (gr gs : Nat) (R S : List UInt8) (w : World) : Prop where
  r : rd.Good w gr R
  s : Cut w gs S
  new : New w0 w
  lr : w0.heap.size ≤ gr
  ls : w0.heap.size ≤ gs
  ne : gr ≠ gs
theorem ch_new {w0 w w' : World} {g : Nat} (h : New w0 w) (hch : Ch (fun j => j = g) w w') (hg : w0.heap.size ≤ g) : New w0 w' :=
  ((Ch.of_new h).then hch (fun i hi e => e)).below (Nat.le_refl _) (fun k hk e => by have e' : k = g := e; omega)
theorem Pair.stepR {w0 w w' : World} {gr gs : Nat} {R R' S : List UInt8} (h : Pair w0 gr gs R S w) (hG : rd.Good w' gr R') (hch : Ch (fun j => j = gr) w w') : Pair w0 gr gs R' S w' :=
  ⟨hG, h.s.other h.r.blk hch h.ne, ch_new h.new hch h.lr, h.lr, h.ls, h.ne⟩
theorem Pair.stepS {w0 w w' : World} {gr gs : Nat} {R S S' : List UInt8} (h : Pair w0 gr gs R S w) (hG : Cut w' gs S') (hch : Ch (fun j => j = gs) w w') : Pair w0 gr gs R S' w' :=
  ⟨h.r.other h.s.blk hch (fun e => h.ne e.symm), hG, ch_new h.new hch h.ls, h.lr, h.ls, h.ne⟩
theorem Pair.keep {w0 w w' : World} {gr gs : Nat} {R S : List UInt8} (h : Pair w0 gr gs R S w) (hn : New w w') : Pair w0 gr gs R S w' :=
  ⟨h.r.new hn, h.s.new hn, New.then h.new hn, h.lr, h.ls, h.ne⟩

theorem six_mk {w : World} {b o : Nat} {e : En} (s0 : w.cell? ⟨b, o, none⟩ = some (.int .i64 e.term)) (s1 : w.cell? ⟨b, o + 1, none⟩ = some (.int .u8 e.kind)) (s2 : w.cell? ⟨b, o + 2, none⟩ = some (.int .i64 e.version)) (s3 : w.cell? ⟨b, o + 3, none⟩ = some (.int .i64 e.server)) (s4 : w.cell? ⟨b, o + 4, none⟩ = some (.bool e.good)) (s5 : w.cell? ⟨b, o + 5, none⟩ = some (.slice e.A e.data.length e.c)) : SixAt w b o e := ⟨s0, s1, s2, s3, s4, s5⟩
theorem Pair.drew {w0 w : World} {gr gs : Nat} {R S : List UInt8} (h : Pair w0 gr gs R S w) : Pair w0 gr gs R S w.drew :=
  ⟨h.r, h.s, Below.drew h.new, h.lr, h.ls, h.ne⟩
theorem done_more (g : Nat) (R : List UInt8) (w : World) (hR : R ≠ []) (h : rd.Good w g R) : Calls Tryd.prog 34 #[.pointer (some ⟨g, 0, none⟩)] w fun e w' => e = .returned (.bool false) ∧ w = w' :=
  (done_good g R w h).mono fun e w' hh => ⟨by rw [hh.1]; simp [hR], hh.2⟩
theorem done_end (g : Nat) (w : World) (h : rd.Good w g []) : Calls Tryd.prog 34 #[.pointer (some ⟨g, 0, none⟩)] w fun e w' => e = .returned (.bool true) ∧ w = w' :=
  (done_good g [] w h).mono fun e w' hh => ⟨by rw [hh.1]; simp, hh.2⟩
theorem cut_end {w : World} {g : Nat} (h : Cut w g []) : Zero w g := by
  rcases h with h | ⟨k, hk, _⟩
  · exact h
  · exact absurd hk (by simp)

/-- Reading an entry of the whole one, beside an entry that came in. -/
theorem pair_entry {w0 : World} {gr gs b o : Nat} {S : List UInt8} (x y : En) (R : List UInt8) (w : World) (hx : x.Ok) (hl : (x.bytes ++ R).length ≤ 1099511627776) (h : Pair w0 gr gs (x.bytes ++ R) S w) (hb : b < w0.heap.size) (h6 : SixAt w b o y) :
    Calls Tryd.prog 29 #[.pointer (some ⟨gr, 0, none⟩)] w (fun e w' => ∃ A c, e = .returned (ent x.term x.kind x.version x.server x.good (.slice A x.data.length c)) ∧ Reads w' w'.heap.size 1 A x.data.length (vb x.data) ∧ Pair w0 gr gs R S w' ∧ SixAt w' b o y) :=
  (whole_entry x R gr w hx hl h.r).mono fun e w' ⟨A, c, he, ho, hG, hch⟩ => ⟨A, c, he, (own_typed ho).2.1, h.stepR hG hch, h6.keep fun i => hch.cell (p := ⟨b, i, none⟩) (Nat.lt_of_lt_of_le hb h.new.size) (fun e => by have e' : b = gr := e; have := h.lr; omega)⟩
theorem same_entry_six {b o : Nat} (x y : En) (A B : Option Addr) (c d : Nat) (w : World) (hl : x.data.length ≤ 1099511627776) (hA : Reads w w.heap.size 1 A x.data.length (vb x.data)) (hB : Reads w w.heap.size 1 B x.data.length (vb x.data)) (hb : b < w.heap.size) (h6 : SixAt w b o y) :
    Calls Tryd.prog 30 #[ent x.term x.kind x.version x.server x.good (.slice A x.data.length c), ent x.term x.kind x.version x.server x.good (.slice B x.data.length d)] w fun e w' => e = .returned (.bool true) ∧ New w w' ∧ SixAt w' b o y :=
  (same_entry x.term x.kind x.version x.server x.good A B c d x.data w hl hA hB).mono fun e w' ⟨he, hn⟩ => ⟨he, hn, h6.below hn hb⟩

theorem new_n (A : Option Addr) (n c : Nat) (l : List UInt8) (w : World) (hn : n = l.length) (hl : l.length ≤ 1099511627776) (hA : Reads w w.heap.size 1 A n (vb l)) :
    Calls Tryd.prog 21 #[.slice A n c] w (Made w l) := by
  subst hn
  exact new_any A c l w hl hA

set_option maxRecDepth 100000 in
set_option maxHeartbeats 4000000 in
theorem WireBack_any (T : TypeId) (q : Addr) (A : Option Addr) (ca : Nat) (es : List En) (n : Int) (B : Option Addr) (cb : Nat) (l : List UInt8) (cut : Int) (w : World) (hE : ErrAt w T q)
    (n0 : -9223372036854775808 ≤ n) (n1 : n ≤ 9223372036854775807) (c0 : -9223372036854775808 ≤ cut) (c1 : cut ≤ 9223372036854775807) (hle : es.length ≤ maxLen) (hll : l.length ≤ maxLen)
    (hEs : Ents w w.heap.size A es) (hB : Reads w w.heap.size 1 B l.length (vb l)) :
    Calls Tryd.prog 6 #[.slice A es.length ca, .int .i64 n, .slice B l.length cb, .int .i64 cut] w fun e w' => e = .returned (.bool true) ∧ New w w' := by
  have HE := Lib.hid hE
  have HL := Lib.hid hle
  have HEs := Lib.hid hEs
  have HB := Lib.hid hB
  unfold maxLen at hle hll
  clear hE hEs hB
  go_enter Tryd.func6, Tryd.ntmps6
  go_wp2_with (go_at_call 7; refine (awake_any T q _ HE.out).mono ?_; rintro e w1 ⟨rfl, hn1⟩)
  refine (entriesOf_any _ _ es _ HL.out ((HEs.out.below hn1).more hn1.size)).mono ?_
  rintro e w2 ⟨s, rfl, hs, rfl⟩
  have HS := Lib.hid hs
  clear hs
  by_cases hbig : s ≤ 2500 ∧ es.length ≤ 200 ∧ l.length ≤ 20000
  · obtain ⟨b1, b2, b3⟩ := hbig
    have t1 : ¬ (2500 : Int) < (s : Int) := by omega
    have t2 : ¬ (200 : Int) < (es.length : Int) := by omega
    have t3 : ¬ (20000 : Int) < (l.length : Int) := by omega
    have hC0 := carry_none (w0 := w) hn1 ((HB.out.below hn1).more hn1.size)
    have hz := allB_len n l es 0 b2 b3 (by rw [← HS.out b1]; exact b1)
    rw [← allB_zero] at hz
    go_wp2_with (first
      | (go_at_call 10; refine (number_carry _ _ hC0).mono ?_; rintro e w2 ⟨A2, c2, rfl, hC1⟩)
      | (go_at_call 11; refine (bytes_carry _ _ _ _ (by omega) hC1).mono ?_; rintro e w3 ⟨A3, c3, rfl, hC2⟩)
      | (go_at_call 16; refine (join_carry 2 _ _ [numB n, lenB l] _ rfl hC2 (by simp) (by omega)).mono ?_; rintro e w4 ⟨A4, c4, rfl, ho4, hn4⟩))
    have hlen := fun k => allB_len n l es k b2 b3 (by rw [← HS.out b1]; exact b1)
    have HLEN := Lib.hid hlen
    clear hlen hC0 hC1 hC2 hz
    go_loopw [9, 10] (fun v i wr => ∃ (k : Nat) (A' : Option Addr) (c' : Nat), k ≤ es.length ∧ i = .int .i64 k ∧ v = .slice A' (allB n l es k).length c' ∧ wr.ownsRow w.heap.size 5 1 (.slice A' (allB n l es k).length c') (allB n l es k).length (vb (allB n l es k)) ∧ New w wr) (fun _ i _ => es.length - (intOf i).toNat)
    case atStart => exact ⟨0, A4, c4, Nat.zero_le _, rfl, by rw [allB_zero], by rw [← allB_zero]; exact ho4, hn4⟩
    case round =>
      clear ho4 hn4
      obtain ⟨k, A', c', hk, rfl, rfl, ho, hn⟩ := hrel
      by_cases hlt : k < es.length
      · obtain ⟨hok, hrd, b, o, rfl, hb, hc⟩ := (HEs.out.below hn) k hlt
        obtain ⟨s0, s1, s2, s3, s4, s5⟩ := sixAt_of hc
        have hrd' := hrd.more hn.size
        have hC0 := carry_one ho hn ((HB.out.below hn).more hn.size)
        have hs := allB_succ n l es k hlt
        have hd : es[k].data.length ≤ 274877906944 := by
          have := (HLEN.out (k + 1)).1
          rw [← hs] at this
          simp [catB, bytes_len] at this
          omega
        have hz := HLEN.out (k + 1)
        rw [← hs] at hz
        have HOK := Lib.hid hok
        have HRD := Lib.hid hrd'
        have HC0 := Lib.hid hC0
        have HSU := Lib.hid hs
        have HZ := Lib.hid hz
        clear hc hrd hrd' hC0 ho hok hs hz
        go_wp2_with (first
          | (go_at_call 12; refine (entry_carry es[k] _ HOK.out hd HRD.out HC0.out).mono ?_; rintro e w5 ⟨A5, c5, rfl, hC1⟩)
          | (go_at_call 16; refine (join_carry 2 _ _ [allB n l es k, es[k].bytes] _ rfl hC1 (by simp) (by have := HZ.out; omega)).mono ?_; rintro e w6 ⟨A6, c6, rfl, ho6, hn6⟩))
        go_roundw
        case rel => exact ⟨k + 1, A6, c6, by omega, by go_num, by rw [HSU.out], by rw [← HSU.out]; exact ho6, hn6⟩
        case measure => simp [intOf]; omega
      · obtain rfl : k = es.length := by omega
        clear hk
        obtain ⟨hR1, hR2⟩ := HLEN.out es.length
        have hRe : allB n l es es.length = numB n ++ (lenB l ++ entsB es) := by unfold allB; rw [List.take_length]
        have HRE := Lib.hid hRe
        clear hRe
        generalize allB n l es es.length = R at *
        obtain ⟨k, hkc⟩ : ∃ k : Nat, cut % (R.length : Int) = (k : Int) := ⟨(cut % (R.length : Int)).toNat, by have := Int.emod_nonneg cut (show (R.length : Int) ≠ 0 by omega); omega⟩
        have hkl : k < R.length := by have := Int.emod_lt_of_pos cut (show (0 : Int) < (R.length : Int) by omega); omega
        have hp : ∀ W, Calls Tryd.prog 24 #[.int .i64 cut, .int .i64 (R.length : Int)] W (fun e w' => e = .returned (.int .i64 (k : Int)) ∧ W = w') := fun W => (pick_any cut R.length W (by omega) (by omega) c0 c1).mono fun e w' h => ⟨by rw [h.1, hkc], h.2⟩
        have HP := Lib.hid hp
        clear hp hkc
        obtain ⟨⟨hc1, hc2⟩, hrd, _⟩ := own_typed ho
        have HRD : Hid (Reads wr.drew wr.drew.heap.size 1 A' R.length (vb R)) := Lib.hid (Reads.drew hrd)
        have HRT : Hid (Reads wr.drew wr.drew.heap.size 1 A' k (vb (R.take k))) := Lib.hid (Reads.drew (reads_take hrd (Nat.le_of_lt hkl)))
        have hkt : (R.take k).length = k := by rw [List.length_take]; omega
        have HKT := Lib.hid hkt
        have HO := Lib.hid ho
        clear ho hrd hkt
        go_wp2_with (go_at_call 24; refine (HP.out _).mono ?_; rintro e w5 ⟨rfl, rfl⟩)
        have k0 : (0 : Int) ≤ (k : Int) := by omega
        have k1 : (k : Int) ≤ (c' : Int) := by omega
        have k2 : k ≤ c' := by omega
        go_region_held3 (fun w' => True) (trivial)
          (first
            | (go_at_call 21; (with_reducible refine (new_any A' c' R wr.drew (by omega) HRD.out).mono ?_); rintro e w6 ⟨gr, rfl, hgr, hGr, hn6⟩)
            | (go_at_call 21; (with_reducible refine (new_n A' k c' (R.take k) w6 HKT.out.symm (by have := HKT.out; omega) (Reads.new HRT.out hn6)).mono ?_); rintro e w7 ⟨gs, rfl, hgs, hGs, hn7⟩))
        have hN7 : New w w7 := New.then (New.then (Below.drew hn) hn6) hn7
        have hg1 : w.heap.size ≤ gr := Nat.le_trans hn.size hgr
        have hg2 : gr < w6.heap.size := by obtain ⟨cs, hcs⟩ := hGr.blk; exact hcs.lt
        have hP : Pair w gr gs (numB n ++ (lenB l ++ entsB es)) (numB n ++ (lenB l ++ entsB es)) w7 := by
          rw [← HRE.out]
          exact ⟨hGr.new hn7, Or.inr ⟨k, hkl, hGs⟩, hN7, hg1, by have := hn6.size; omega, by omega⟩
        have hRl : (numB n ++ (lenB l ++ entsB es)).length ≤ 60000 := by rw [← HRE.out]; exact hR1
        have hRl2 : (lenB l ++ entsB es).length ≤ 60000 := by rw [List.length_append] at hRl; omega
        have hRl3 : (entsB es).length ≤ 60000 := by rw [List.length_append] at hRl2; omega
        have hne : numB n ++ (lenB l ++ entsB es) ≠ [] := by intro e; have := congrArg List.length e; rw [List.length_append, numB_length] at this; simp at this
        have hll2 : l.length ≤ 1099511627776 := by omega
        have hcan := (lenB_canB l (entsB es) hll2).2.2
        clear hgr hGr hn6 hgs hGs hn7 HRD HRT HO HKT HP hR1 hR2
        clear k0 k1 k2 hc1 hc2
        have HNE := Lib.hid hne
        have HCAN := Lib.hid hcan
        clear hne hcan
        go_wp2_with (first
          | (go_at_call 34; refine (done_more _ _ _ HNE.out hP.r).mono ?_; rintro e w8 ⟨rfl, rfl⟩)
          | (go_at_call 25; refine (whole_number n (lenB l ++ entsB es) gr _ n0 n1 (by omega) hP.r).mono ?_; rintro e w8 ⟨rfl, hG, hch⟩; have hP := hP.stepR hG hch; clear hG hch))
        refine (whole_bytes l (entsB es) gr _ (by omega) hP.r).mono ?_
        rintro e w9 ⟨A9, c9, rfl, ho9, hG, hch⟩
        have hP := hP.stepR hG hch
        have hr9 := (own_typed ho9).2.1
        have HB9 := Lib.hid ((HB.out.below hP.new).more hP.new.size)
        clear hG hch ho9
        go_wp2_with (go_at_call 17; refine (same_any _ _ _ _ l _ hll2 hr9 HB9.out).mono ?_; rintro e w10 ⟨rfl, hn10⟩; have hP := hP.keep hn10)
        refine (cut_number T q gs _ _ (by omega) hP.s (HE.out.ch (Ch.of_new (S := fun _ => False) hP.new) id)).mono ?_
        rintro e w11 ⟨v11, rfl, hS, hch⟩
        rw [drop_numB] at hS
        have hP := hP.stepS hS hch
        clear hS hch
        go_wp2_with fail
        refine (cut_bytes T q gs _ _ (by omega) hP.s (HE.out.ch (Ch.of_new (S := fun _ => False) hP.new) id)).mono ?_
        rintro e w12 ⟨v12, rfl, hS, hch⟩
        rw [HCAN.out] at hS
        have hP := hP.stepS hS hch
        clear hS hch hr9 HB9 hn10
        go_wp2_with fail
        go_loopw [13] (fun i wr => ∃ k : Nat, k ≤ es.length ∧ i = .int .i64 k ∧ Pair w gr gs (entsB (es.drop k)) (entsB (es.drop k)) wr) (fun i _ => es.length - (intOf i).toNat)
        case atStart => exact ⟨0, Nat.zero_le _, rfl, by rw [List.drop_zero]; exact hP⟩
        case round =>
          clear hP
          obtain ⟨k, hk, rfl, hP⟩ := hrel
          by_cases hlt : k < es.length
          · have HRD := Lib.hid (HEs.out k hlt).2.1
            obtain ⟨hok, hrd, b, o, rfl, hb, hc⟩ := (HEs.out.below hP.new) k hlt
            have h6 := sixAt_of hc
            have hdr : entsB (es.drop k) = es[k].bytes ++ entsB (es.drop (k + 1)) := by rw [List.drop_eq_getElem_cons hlt, entsB_cons]
            rw [hdr] at hP
            have hln : (es[k].bytes ++ entsB (es.drop (k + 1))).length ≤ 60000 := by
              rw [← hdr]
              have := entsB_len (es.drop k)
              have h2 : ((es.drop k).map fun e => e.data.length / 8).sum ≤ (es.map fun e => e.data.length / 8).sum := by
                have h := congrArg (fun l : List En => (l.map fun e => e.data.length / 8).sum) (List.take_append_drop k es)
                simp only [List.map_append, List.sum_append] at h
                omega
              have h3 := HS.out b1
              unfold tot at h3
              rw [List.take_length] at h3
              have h4 : (es.drop k).length ≤ 200 := by rw [List.length_drop]; omega
              omega
            have hdl : es[k].data.length ≤ 60000 := by rw [List.length_append, bytes_len] at hln; omega
            have hnn : es[k].bytes ++ entsB (es.drop (k + 1)) ≠ [] := by intro e; have := congrArg List.length e; rw [List.length_append, bytes_len] at this; simp at this
            have hre : restE (es[k].bytes ++ entsB (es.drop (k + 1))) = entsB (es.drop (k + 1)) :=
              (entB_canE es[k].term es[k].kind es[k].version es[k].server es[k].good es[k].data _ hok.t.1 hok.t.2 hok.k.1 hok.k.2 hok.v.1 hok.v.2 hok.s.1 hok.s.2 (by omega)).2.2.2
            have HOK := Lib.hid hok
            have HNN := Lib.hid hnn
            have HREE := Lib.hid hre
            have h6' := h6
            obtain ⟨s0, s1, s2, s3, s4, s5⟩ := h6'
            clear hc hok hrd hnn hre hdr
            go_wp2_with fail
            have hPd := hP.drew
            have h6d : SixAt wr.drew b (o + k * 6) es[k] := h6
            have hdl2 : es[k].data.length ≤ 1099511627776 := by omega
            have hln2 : (es[k].bytes ++ entsB (es.drop (k + 1))).length ≤ 1099511627776 := by omega
            have hbd : b < w.heap.size := hb
            clear hP h6 hln hdl
            go_region_held3 (fun w' => w'.cell? ⟨b, o + k * 6, none⟩ = some (.int .i64 es[k].term) ∧ w'.cell? ⟨b, o + k * 6 + 1, none⟩ = some (.int .u8 es[k].kind) ∧ w'.cell? ⟨b, o + k * 6 + 2, none⟩ = some (.int .i64 es[k].version) ∧ w'.cell? ⟨b, o + k * 6 + 3, none⟩ = some (.int .i64 es[k].server) ∧ w'.cell? ⟨b, o + k * 6 + 4, none⟩ = some (.bool es[k].good) ∧ w'.cell? ⟨b, o + k * 6 + 5, none⟩ = some (.slice es[k].A es[k].data.length es[k].c))
              (go_keep)
              (first
                | (go_at_call 34; (with_reducible refine (done_more gr _ wr.drew HNN.out hPd.r).mono ?_); rintro e w13 ⟨rfl, rfl⟩)
                | (go_at_call 29; (with_reducible refine (pair_entry es[k] es[k] _ wr.drew HOK.out hln2 hPd hbd h6d).mono ?_); rintro e w13 ⟨A13, c13, rfl, hr13, hP13, s0, s1, s2, s3, s4, s5⟩)
                | (go_at_call 30; (with_reducible refine (same_entry_six es[k] es[k] A13 es[k].A c13 es[k].c w13 hdl2 hr13 ((Reads.below HRD.out hP13.new).more hP13.new.size) (Nat.lt_of_lt_of_le hbd hP13.new.size) (six_mk s0 s1 s2 s3 s4 s5)).mono ?_); rintro e w14 ⟨rfl, hn14, s0, s1, s2, s3, s4, s5⟩; have hP14 := hP13.keep hn14))
            go_wp2_with fail
            refine (cut_entry T q gs _ _ hln2 hP14.s (HE.out.ch (Ch.of_new (S := fun _ => False) hP14.new) id)).mono ?_
            rintro e w15 ⟨v15, rfl, hS, hch⟩
            rw [HREE.out] at hS
            have hP15 := hP14.stepS hS hch
            clear hS hch hP14 hP13 hPd h6d hr13
            go_wp2_with fail
            go_roundw
            case rel => exact ⟨k + 1, by omega, by go_num, hP15⟩
            case measure => simp [intOf]; omega
          · obtain rfl : k = es.length := by omega
            rw [List.drop_length] at hP
            have hr0 : rd.Good wr gr [] := hP.r
            have hz : Zero wr gs := cut_end hP.s
            have hN := hP.new
            have hE2 := HE.out.ch (Ch.of_new (S := fun _ => False) hN) id
            have HNO := Lib.hid (Number_no T q gr [] wr (by simp) hr0 hE2)
            have hlr := hP.lr
            clear hP hE2
            go_wp2_with (first
              | (go_at_call 34; (with_reducible refine (done_end gr wr hr0).mono ?_); rintro e w16 ⟨rfl, rfl⟩)
              | (go_at_call 34; (with_reducible refine (done_zero gs wr hz).mono ?_); rintro e w16 ⟨rfl, rfl⟩)
              | (go_at_call 32; (with_reducible refine (bad_good gr [] wr hr0).mono ?_); rintro e w16 ⟨rfl, rfl⟩)
              | (go_at_call 32; (with_reducible refine (bad_zero gs wr hz).mono ?_); rintro e w16 ⟨rfl, rfl⟩)
              | (go_at_call 25; (with_reducible refine HNO.out.mono ?_); rintro e w17 ⟨rfl, hz17, hch17⟩)
              | (go_at_call 32; (with_reducible refine (bad_zero gr w17 hz17).mono ?_); rintro e w18 ⟨rfl, rfl⟩))
            go_ret
            exact ⟨rfl, ch_new hN hch17 hlr⟩
  · by_cases b1 : s ≤ 2500
    · have t1 : ¬ (2500 : Int) < (s : Int) := by omega
      by_cases b2 : es.length ≤ 200
      · have t2 : ¬ (200 : Int) < (es.length : Int) := by omega
        have t3 : (20000 : Int) < (l.length : Int) := by omega
        clear hbig
        go_wp2
        go_ret
        exact ⟨rfl, hn1⟩
      · have t2 : (200 : Int) < (es.length : Int) := by omega
        clear hbig
        go_wp2
        go_ret
        exact ⟨rfl, hn1⟩
    · have t1 : (2500 : Int) < (s : Int) := by omega
      clear hbig
      go_wp2
      go_ret
      exact ⟨rfl, hn1⟩
end Go.Proofs.YtgefanhcjkbfhaaDoor.laws
