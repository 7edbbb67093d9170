/-
  The chapter's examples of ins, walked.
-/
import Derived.Test.YtmkonhfgmkdhoaaDoorInsT
import Derived.Test.YtmkonhfgmkdhoaaDoorInsU
namespace Go.Proofs.YtmkonhfgmkdhoaaDoor.ins
open Go.RowKit Go.Proofs.YtmkonhfgmkdhoaaDoor.mem Go.Proofs.YtmkonhfgmkdhoaaDoor.kit
set_option linter.unusedVariables false

theorem same_len (A B : Option Addr) (n m c d : Nat) (l : List UInt8) (w : World) (hn : n = l.length) (hm : m = l.length) (hl : l.length ≤ 1099511627776) (hA : Reads w w.heap.size 1 A n (vb l)) (hB : Reads w w.heap.size 1 B m (vb l)) :
    Calls Tryd.prog 12 #[.slice A n c, .slice B m d] w fun e w' => e = .returned (.bool true) ∧ New w w' := by
  subst hn
  subst hm
  exact same_any A B c d l w hl hA hB
theorem own_caps {w : World} {base n size : Nat} {e : TypeId} {A : Option Addr} {c : Nat} {xs : List Value} (h : w.ownsRow base e size (.slice A n c) n xs) : (n ≤ c ∧ c ≤ maxLen) ∧ Reads w w.heap.size size A n xs := by
  obtain ⟨A', c', e', h1, h2, hr⟩ := own_len h
  injection e' with eA _ ec
  subst eA
  subst ec
  exact ⟨⟨h1, h2⟩, hr⟩
theorem reads_new1 (w : World) (t : TypeId) (cs : Array Value) (n : Nat) (l : List UInt8) (hn : n = l.length) (h : cs.toList = vb l) : Reads (w.alloc (.cells cs t)) (w.alloc (.cells cs t)).heap.size 1 (some ⟨w.heap.size, 0, none⟩) n (vb l) :=
  ⟨by rw [vb_length, hn, Nat.mul_one], fun _ => ⟨_, rfl, by simp, fun j v hv => by
    rw [Addr.add_lit, Nat.zero_add, (Blk.new w t cs).cell j, ← hv, ← h]
    simp⟩⟩
theorem reads_new8 (w : World) (t : TypeId) (cs : Array Value) (n : Nat) (l : List In) (hn : n = l.length) (h : cs.toList = vi l) : Reads (w.alloc (.cells cs t)) (w.alloc (.cells cs t)).heap.size 8 (some ⟨w.heap.size, 0, none⟩) n (vi l) :=
  ⟨by rw [vi_length, hn], fun _ => ⟨_, rfl, by simp, fun j v hv => by
    rw [Addr.add_lit, Nat.zero_add, (Blk.new w t cs).cell j, ← hv, ← h]
    simp⟩⟩

def exL : List In := [⟨12, false, 0, 0, true, 0, 1, 0⟩, ⟨14, false, 3, 1, false, 12, 0, 2⟩, ⟨28, false, 0, 0, false, 0, 0, 0⟩]
def exB : List UInt8 := [44, 0, 0, 0, 0, 0, 0, 1, 78, 49, 0, 12, 0, 0, 0, 0, 28, 0, 0, 0, 0, 0, 0, 0]
theorem exL_ok : exL.all ok = true := by decide +kernel
theorem exL_flat : flat exL = exB := by decide +kernel
theorem ex_putE : putE exL = 0 := by
  unfold putE
  rw [if_neg (by decide), if_pos exL_ok]
theorem ex_putB : putB exL = exB := by
  unfold putB
  rw [if_neg (by decide), if_pos exL_ok, exL_flat]
theorem ex_ones : (pcs exB).all one = true := by decide +kernel
theorem ex_getE : getE exB = 0 := by
  unfold getE
  rw [if_neg (by decide), if_neg (by decide), if_pos ex_ones]
theorem ex_pcs : pcs exB = exL.map bs := by decide +kernel
theorem ex_getL : getL exB = exL := by
  unfold getL
  rw [if_pos ex_getE, ex_pcs, List.map_map]
  have h : ∀ i ∈ exL, (inOf ∘ bs) i = i := fun i hi => inOf_bs i (List.all_eq_true.1 exL_ok i hi)
  rw [List.map_congr_left h, List.map_id']
theorem ex_next : nx exL 1 = [2] := by decide +kernel

theorem put_ex (A : Option Addr) (c : Nat) (w : World) (hA : Reads w w.heap.size 8 A 3 (vi exL)) (hT : TAt w) :
    Calls Tryd.prog 8 #[.slice A 3 c] w fun e w' => ∃ A' c', e = .returned (.tuple #[.slice A' 24 c', .int .i64 0]) ∧ ((24 ≤ c' ∧ c' ≤ maxLen) ∧ Reads w' w'.heap.size 1 A' 24 (vb exB)) ∧ New w w' :=
  (put_any A 3 c exL w rfl (by omega) hA hT).mono fun e w' h => by
    obtain ⟨A', c', he, ho, hn⟩ := h
    rw [ex_putE, ex_putB] at he
    rw [ex_putB] at ho
    exact ⟨A', c', he, own_caps ho, hn⟩
theorem get_ex (A : Option Addr) (c : Nat) (w : World) (hc : 24 ≤ c ∧ c ≤ maxLen) (hA : Reads w w.heap.size 1 A 24 (vb exB)) (hT : TAt w) :
    Calls Tryd.prog 10 #[.slice A 24 c] w fun e w' => ∃ A' c', e = .returned (.tuple #[.slice A' 3 c', .int .i64 0]) ∧ Reads w' w'.heap.size 8 A' 3 (vi exL) ∧ New w w' :=
  (get_any A 24 c exB w rfl (by omega) hc hA hT).mono fun e w' h => by
    obtain ⟨A', c', he, ho, hn⟩ := h
    rw [ex_getE, ex_getL] at he
    rw [ex_getL] at ho
    exact ⟨A', c', he, (own_caps ho).2, hn⟩
theorem next_ex (A : Option Addr) (c : Nat) (w : World) (hA : Reads w w.heap.size 8 A 3 (vi exL)) :
    Calls Tryd.prog 16 #[.slice A 3 c, .int .i64 1] w fun e w' => ∃ ad c', e = .returned (.slice (some ad) 1 c') ∧ (ad.block < w'.heap.size ∧ w'.cell? ad = some (.int .i64 2)) ∧ New w w' :=
  (next_any A 3 c exL 1 w rfl (by omega) hA).mono fun e w' h => by
    obtain ⟨A', c', he, hr, hn⟩ := h
    rw [ex_next] at he hr
    obtain ⟨ad, e1, hb, hc⟩ := hr.2 (by simp)
    subst e1
    have := hc 0 _ rfl
    exact ⟨ad, c', he, ⟨hb, by simpa [Addr.add] using this⟩, hn⟩

set_option maxRecDepth 100000 in
set_option maxHeartbeats 2000000 in
theorem awake_any (w : World) (hT : TAt w) : Calls Tryd.prog 5 #[] w fun e w' => e = .returned (.bool true) ∧ New w w' := by
  have HT := Lib.hid hT
  clear hT
  go_enter Tryd.func5, Tryd.ntmps5
  have hL0 := reads_new8 w 37 #[.int .u8 12, .bool false, .int .i64 0, .int .i64 0, .bool true, .int .i64 0, .int .i64 1, .int .i64 0, .int .u8 14, .bool false, .int .i64 3, .int .i64 1, .bool false, .int .i64 12, .int .i64 0, .int .i64 2, .int .u8 28, .bool false, .int .i64 0, .int .i64 0, .bool false, .int .i64 0, .int .i64 0, .int .i64 0] 3 exL rfl rfl
  have hB0 := Blk.new w 37 #[.int .u8 12, .bool false, .int .i64 0, .int .i64 0, .bool true, .int .i64 0, .int .i64 1, .int .i64 0, .int .u8 14, .bool false, .int .i64 3, .int .i64 1, .bool false, .int .i64 12, .int .i64 0, .int .i64 2, .int .u8 28, .bool false, .int .i64 0, .int .i64 0, .bool false, .int .i64 0, .int .i64 0, .int .i64 0]
  have hN0 := new1 w (.cells #[.int .u8 12, .bool false, .int .i64 0, .int .i64 0, .bool true, .int .i64 0, .int .i64 1, .int .i64 0, .int .u8 14, .bool false, .int .i64 3, .int .i64 1, .bool false, .int .i64 12, .int .i64 0, .int .i64 2, .int .u8 28, .bool false, .int .i64 0, .int .i64 0, .bool false, .int .i64 0, .int .i64 0, .int .i64 0] 37)
  have HL0 := Lib.hid hL0
  have HB0 := Lib.hid hB0
  have HN0 := Lib.hid hN0
  clear hL0 hB0 hN0
  go_wp2_with (go_at_call 8; refine (put_ex _ _ _ HL0.out (HT.out.new HN0.out)).mono ?_; rintro e w1 ⟨A1, c1, rfl, ⟨hc1, hr1⟩, hn1⟩)
  have HN1 := Lib.hid (New.then HN0.out hn1)
  have HL1 := Lib.hid (HL0.out.new hn1)
  have HB1 := Lib.hid (HB0.out.below hn1 HB0.out.lt)
  have HC1 := Lib.hid hc1
  have HR1 := Lib.hid hr1
  clear hn1 hc1 hr1
  go_wp2_with (go_at_call 10; refine (get_ex _ _ _ HC1.out HR1.out (HT.out.new HN1.out)).mono ?_; rintro e w2 ⟨A2, c2, rfl, hr2, hn2⟩)
  have HN2 := Lib.hid (New.then HN1.out hn2)
  have HL2 := Lib.hid (HL1.out.new hn2)
  have HB2 := Lib.hid (HB1.out.below hn2 HB1.out.lt)
  have HR2 := Lib.hid (HR1.out.new hn2)
  have HG2 := Lib.hid hr2
  clear hn2 hr2
  go_wp2_with (go_at_call 16; refine (next_ex _ _ _ (HL2.out.new (new1 w2 _))).mono ?_; rintro e w3 ⟨ad, c3, rfl, ⟨hb3, hc3⟩, hn3⟩)
  have HW3 := Lib.hid ((reads_new1 w2 5 #[.int .u8 44, .int .u8 0, .int .u8 0, .int .u8 0, .int .u8 0, .int .u8 0, .int .u8 0, .int .u8 1, .int .u8 78, .int .u8 49, .int .u8 0, .int .u8 12, .int .u8 0, .int .u8 0, .int .u8 0, .int .u8 0, .int .u8 28, .int .u8 0, .int .u8 0, .int .u8 0, .int .u8 0, .int .u8 0, .int .u8 0, .int .u8 0] 24 exB rfl rfl).new hn3)
  have hn23 := New.then (new1 w2 _) hn3
  have HN3 := Lib.hid (New.then HN2.out hn23)
  have HL3 := Lib.hid (HL2.out.new hn23)
  have HB3 := Lib.hid (HB2.out.below hn23 HB2.out.lt)
  have HR3 := Lib.hid (HR2.out.new hn23)
  have HG3 := Lib.hid (HG2.out.new hn23)
  have HA3 := Lib.hid hb3
  have HC3 := Lib.hid hc3
  clear hn3 hn23 hb3 hc3
  go_wp2_with (go_at_call 12; refine (same_len _ _ 24 24 _ _ exB _ rfl rfl (by decide) HR3.out HW3.out).mono ?_; rintro e w4 ⟨rfl, hn4⟩)
  have HN4 := Lib.hid (New.then HN3.out hn4)
  have HA4 := Lib.hid (show ad.block < w4.heap.size by have := hn4.size; have := HA3.out; omega)
  have HC4 := Lib.hid ((hn4.cell HA3.out).trans HC3.out)
  have HB4 := Lib.hid (HB3.out.below hn4 HB3.out.lt)
  have HL4 := Lib.hid (HL3.out.new hn4)
  have HG4 := Lib.hid (HG3.out.new hn4)
  clear hn4
  go_wp2_with (go_at_call 13; refine (sameIns_any _ _ 3 _ _ exL _ rfl (by omega) HL4.out HG4.out).mono ?_; rintro e w5 ⟨rfl, hn5⟩; have c5 := (hn5.cell HA4.out).trans HC4.out; have hB5 := HB4.out.below hn5 HB4.out.lt; have x0 := hB5.cell 0; have x1 := hB5.cell 1; have x2 := hB5.cell 2; have x3 := hB5.cell 3; have x4 := hB5.cell 4; have x5 := hB5.cell 5; have x6 := hB5.cell 6; have x7 := hB5.cell 7; simp only [List.getElem?_toArray, List.getElem?_cons_zero, List.getElem?_cons_succ] at x0 x1 x2 x3 x4 x5 x6 x7)
  have hR : ok ⟨12, false, 0, 0, true, 0, 1, 0⟩ = true := by decide +kernel
  have HRR := Lib.hid hR
  have HN5 := Lib.hid (New.then HN4.out hn5)
  clear hR hn5
  go_wp2_with (go_at_call 17; refine (right_x _ _ _ _ _ _ _ _ true HRR.out _).mono ?_; rintro e w6 ⟨rfl, hn6⟩)
  go_ret
  exact ⟨rfl, New.then HN5.out hn6⟩
end Go.Proofs.YtmkonhfgmkdhoaaDoor.ins
