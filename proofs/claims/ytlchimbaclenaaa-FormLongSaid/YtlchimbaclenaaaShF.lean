/-
  Contract of shape.Check: the first fault.
-/
import Derived.Test.YtlchimbaclenaaaShE
namespace Go.Proofs.Ytlchimbaclenaaa.sh
open Go.RowKit Go.Proofs.Ytlchimbaclenaaa.mem Go.Proofs.Ytlchimbaclenaaa.kit Go.Proofs.Ytlchimbaclenaaa.ins
set_option linter.unusedVariables false

def CheckD (l : List In) (w : World) (e : Ending) (w' : World) : Prop := e = .returned (fv (chk l)) ∧ New w w'
theorem chk_none {l : List In} (h : l.length = 0) : chk l = (6, 0) := by unfold chk; rw [if_pos h]
theorem chk_long' {l : List In} (h : 4096 < l.length) : chk l = (3, 0) := by unfold chk; rw [if_neg (by omega), if_pos h]
theorem chk_mid {l : List In} (h0 : 0 < l.length) (h : l.length ≤ 4096) : chk l = askM l.length [Q4 l 0, Q4 l 1, Q4 l 2, Q4 l 3] := by unfold chk; rw [if_neg (by omega), if_neg (by omega)]; rfl

theorem new_chg {w W W' : World} {g : Nat} (h : New w W) (hc : Chg g W W') (hg : w.heap.size ≤ g) : New w W' :=
  h.trans (hc.below h.size (fun k _ e => by rw [e]; exact hg))
theorem new_row {w W : World} {b : Nat} (h : New w W) (hb : w.heap.size ≤ b) (vs : Array Value) : New w (W.setRow b vs) :=
  h.trans ((chs_row W b vs).below h.size (fun k _ e => by rw [e]; exact hb))

theorem prep {w0 w1 w2 w3 w4 : World} {B b0 b1 b2 b b3 g : Nat} {A : Option Addr} {n c : Nat} {l : List In} (hA : Reads w0 B 8 A n (vi l)) (hB : B ≤ w0.heap.size)
    (p1 : w1.cell? ⟨b0, 0, none⟩ = some (.slice A n c)) (p3 : b0 < w1.heap.size) (hn1 : New w0 w1)
    (q1 : w2.cell? ⟨b1, 0, none⟩ = some (.slice A n c)) (q3 : b1 < w2.heap.size) (hn2 : New w1 w2)
    (r1 : w3.cell? ⟨b2, 0, none⟩ = some (.slice A n c)) (r3 : b2 < w3.heap.size) (hn3 : New w2 w3)
    (s1 : w4.cell? ⟨b, 0, none⟩ = some (.slice A n c)) (s2 : w4.cell? ⟨b3, 0, none⟩ = some (.slice (some ⟨g, 0, none⟩) n n)) (s4 : w3.heap.size ≤ g) (s5 : b ≠ g) (s6 : b3 ≠ g) (hn4 : New w3 w4) (o : Obj) :
    PR (w4.alloc o) B b0 b1 b2 b b3 g A n c l := by
  have h1 := hn1.size
  have h2 := hn2.size
  have h3 := hn3.size
  have h4 := hn4.size
  have h5 : New w4 (w4.alloc o) := (new_refl w4).alloc (Nat.le_refl _) o
  have n2 : New w1 (w4.alloc o) := ((hn2.then hn3).then hn4).then h5
  have n3 : New w2 (w4.alloc o) := (hn3.then hn4).then h5
  have n4 : New w3 (w4.alloc o) := hn4.then h5
  exact ⟨hA.below ((hn1.then n2).mono hB), by omega, by have := (hn1.then n2).size; omega, (n2.cell (p := ⟨b0, 0, none⟩) p3).trans p1, (n3.cell (p := ⟨b1, 0, none⟩) q3).trans q1, (n4.cell (p := ⟨b2, 0, none⟩) r3).trans r1,
    (h5.cell (p := ⟨b, 0, none⟩) (block_lt_of_cell s1)).trans s1, (h5.cell (p := ⟨b3, 0, none⟩) (block_lt_of_cell s2)).trans s2, by omega, by omega, by omega, s5, s6⟩

abbrev qcells (b0 b1 b2 b b3 : Nat) : Array Value := #[.func (.func 28) #[] #[.pointer (some ⟨b0, 0, none⟩)], .func (.func 30) #[] #[.pointer (some ⟨b1, 0, none⟩)], .func (.func 31) #[] #[.pointer (some ⟨b2, 0, none⟩)], .func (.func 32) #[] #[.pointer (some ⟨b3, 0, none⟩), .pointer (some ⟨b, 0, none⟩)]]
theorem qcells_at (w : World) (b0 b1 b2 b b3 : Nat) (t : TypeId) : ∀ i, i < 4 → (w.alloc (.cells (qcells b0 b1 b2 b b3) t)).cell? ⟨w.heap.size, i, none⟩ = some (.func (.func (F4 i)) #[] (C4 b0 b1 b2 b b3 i)) := by
  intro i hi
  have h := Blk.new w t (qcells b0 b1 b2 b b3)
  rcases (show i = 0 ∨ i = 1 ∨ i = 2 ∨ i = 3 by omega) with rfl | rfl | rfl | rfl
  · exact h.cell 0
  · exact h.cell 1
  · exact h.cell 2
  · exact h.cell 3

theorem ask_made {w4 : World} {B b0 b1 b2 b b3 g : Nat} {A : Option Addr} {n c : Nat} {l : List In} (t : TypeId) (hP : PR (w4.alloc (.cells (qcells b0 b1 b2 b b3) t)) B b0 b1 b2 b b3 g A n c l) (hn : n = l.length) (hl : n ≤ 1099511627776) (hK : chk l = askM l.length [Q4 l 0, Q4 l 1, Q4 l 2, Q4 l 3])
    (hg : g < w4.heap.size) (hbo : Bo w4 g n (fun j => decide (j = 0))) :
    Calls Try.prog 16 #[.int .i64 (n : Int), .slice (some ⟨w4.heap.size, 0, none⟩) 4 4] (w4.alloc (.cells (qcells b0 b1 b2 b b3) t)) fun e w' => e = .returned (fv (chk l)) ∧ Chg g (w4.alloc (.cells (qcells b0 b1 b2 b b3) t)) w' := by
  refine (ask_any w4.heap.size g n 4 F4 (C4 b0 b1 b2 b b3) (Q4 l) (R4 l) _ hl (by omega) (qcells_at w4 b0 b1 b2 b b3 t) (by omega) ((hbo.alloc _).alike (fun j _ => (cmb_0 l j).symm)) (fun i hi => ?_) F4_enter (asks hP hn hl)).mono fun e w' ⟨h1, h2⟩ => ⟨by rw [hK, ← hn]; exact h1, h2⟩
  funext j
  simp only [R4]
  rw [if_neg (by omega)]
  split <;> rfl

theorem res_kept {w0 w1 w2 w3 w4 w5 : World} {b g : Nat} {t : TypeId} {cs : Array Value} (h : Blk w0 b t cs) (hb : b < w0.heap.size) (hn1 : New w0 w1) (hn2 : New w1 w2) (hn3 : New w2 w3) (hn4 : New w3 w4) (o : Obj) (hg : w3.heap.size ≤ g) (hch : Chg g (w4.alloc o) w5) : Blk w5 b t cs := by
  have h1 := hn1.size
  have h2 := hn2.size
  have h3 := hn3.size
  exact ((h.below (((hn1.then hn2).then hn3).then hn4) hb).alloc o).ch hch (by omega)

set_option maxRecDepth 100000 in
set_option maxHeartbeats 2000000 in
theorem check_any (A : Option Addr) (n c : Nat) (l : List In) (w : World) (hn : n = l.length) (hl : n ≤ 1099511627776) (hA : RI w A l) : Calls Try.prog 9 #[.slice A n c] w (CheckD l w) := by
  have ei : (Try.prog.info? 27).map (·.size) = some 2 := by kernel_rfl
  have hz := Blk.new w 27 #[.int .i64 0, .int .i64 0]
  have hnz : New w (w.alloc (.cells #[.int .i64 0, .int .i64 0] 27)) := (new_refl w).alloc (Nat.le_refl _) _
  rcases Nat.eq_zero_or_pos n with h0 | h0
  · have HK := Lib.hid (chk_none (l := l) (by omega))
    subst h0
    clear hn hA
    go_enter Try.func9, Try.ntmps9
    go_wp2_with (refine wpList_store_row rfl 27 _ _ rfl w.heap.size #[.int .i64 6, .int .i64 0] rfl rfl 27 _ hz ei rfl (by simp [Value.oneCell']) ?_)
    refine bodyPost_ret (results_cell_row rfl _ _ w.heap.size 27 _ (0, 0) _ rfl (setRow_heap _ _ _ _ _ _ hz) Try.underlying27 rfl ei) rfl ?_
    exact ⟨ret_fv HK.out, new_row hnz (Nat.le_refl _) _⟩
  · by_cases h1 : 4096 < n
    · have HK := Lib.hid (chk_long' (l := l) (by omega))
      have t1 : (4096 : Int) < (n : Int) := by omega
      have t2 : ((n : Int) == 0) = false := by simp; omega
      clear hn hA
      go_enter Try.func9, Try.ntmps9
      go_wp2_with (refine wpList_store_row rfl 27 _ _ rfl w.heap.size #[.int .i64 3, .int .i64 0] rfl rfl 27 _ hz ei rfl (by simp [Value.oneCell']) ?_)
      refine bodyPost_ret (results_cell_row rfl _ _ w.heap.size 27 _ (0, 0) _ rfl (setRow_heap _ _ _ _ _ _ hz) Try.underlying27 rfl ei) rfl ?_
      exact ⟨ret_fv HK.out, new_row hnz (Nat.le_refl _) _⟩
    · have HK := Lib.hid (chk_mid (l := l) (by omega) (by omega))
      have t1 : ¬ (4096 : Int) < (n : Int) := by omega
      have t2 : ((n : Int) == 0) = false := by simp; omega
      have HN := Lib.hid hn
      have HA : Hid (Reads (w.alloc (.cells #[.int .i64 0, .int .i64 0] 27)) w.heap.size 8 A n (vi l)) := Lib.hid (by have h : Reads w w.heap.size 8 A l.length (vi l) := hA; rw [← hn] at h; exact h.below hnz)
      have HZ := Lib.hid hz
      have HNZ := Lib.hid hnz
      obtain ⟨x, hx⟩ : ∃ x, chk l = x := ⟨_, rfl⟩
      obtain ⟨xe, xa⟩ := x
      have HX := Lib.hid hx
      clear hn hA hx hz hnz
      go_enter Try.func9, Try.ntmps9
      go_wp2_with (first
        | (go_at_call 17; refine (right_made A n c _).mono ?_; rintro e w1 ⟨b0, rfl, p1, p2, p3, hn1⟩)
        | (go_at_call 18; refine (forward_made A n c _).mono ?_; rintro e w2 ⟨b1, rfl, q1, q2, q3, hn2⟩)
        | (go_at_call 19; refine (ended_made A n c _).mono ?_; rintro e w3 ⟨b2, rfl, r1, r2, r3, hn3⟩)
        | (go_at_call 20; refine (comeTo_made A n c _ h0 hl).mono ?_; rintro e w4 ⟨b, b3, g, rfl, s1, s2, s3, s4, s5, s6, s7, hn4⟩)
        | (go_at_call 16; refine (ask_made _ (prep HA.out (by simp) p1 p3 hn1 q1 q3 hn2 r1 r3 hn3 s1 s2 s4 s5 s6 hn4 _) HN.out hl HK.out s7.lt s7).mono ?_; rintro e w5 ⟨rfl, hch⟩; rw [HX.out]; have HR := Lib.hid (res_kept HZ.out (by simp) hn1 hn2 hn3 hn4 (.cells (qcells b0 b1 b2 b b3) 45) s4 hch); have HNW := Lib.hid (new_chg (((((HNZ.out.then hn1).then hn2).then hn3).then hn4).alloc ((((HNZ.out.then hn1).then hn2).then hn3).then hn4).size (.cells (qcells b0 b1 b2 b b3) 45)) hch (Nat.le_trans (((HNZ.out.then hn1).then hn2).then hn3).size s4)))
        | (refine wpList_store_row rfl 27 _ _ rfl w.heap.size #[.int .i64 xe, .int .i64 (xa : Int)] rfl rfl 27 _ HR.out ei rfl (by simp [Value.oneCell']) ?_))
      refine bodyPost_ret (results_cell_row rfl _ _ w.heap.size 27 _ (0, 0) _ rfl (setRow_heap _ _ _ _ _ _ HR.out) Try.underlying27 rfl ei) rfl ?_
      exact ⟨ret_fv HX.out, new_row HNW.out (Nat.le_refl _) _⟩
end Go.Proofs.Ytlchimbaclenaaa.sh
