/-
  The chapter's examples, walked; readers that nobody made.
-/
import Derived.Test.YtpkiopijfhkagaaGreatDoorNew
import Derived.Test.YtpkiopijfhkagaaGreatDoorRefW
namespace Go.Proofs.YtpkiopijfhkagaaGreatDoor.laws
open Go.RowKit Go.Proofs.YtpkiopijfhkagaaGreatDoor.mem Go.Proofs.YtpkiopijfhkagaaGreatDoor.kit Go.Proofs.YtpkiopijfhkagaaGreatDoor.wire Go.Proofs.YtpkiopijfhkagaaGreatDoor.rd
set_option linter.unusedVariables false

/-- A literal list of bytes. -/
theorem reads_lit (w : World) (t : TypeId) (cs : Array Value) (n : Nat) (l : List UInt8) (hn : n = l.length) (h : cs.toList = vb l) : Reads (w.alloc (.cells cs t)) (w.alloc (.cells cs t)).heap.size 1 (some ⟨w.heap.size, 0, none⟩) n (vb l) := by
  have hs : cs.size = n := by rw [hn, ← vb_length, ← h]; simp
  have := reads_blk (Blk.new w t cs)
  rw [h, hs] at this
  exact this

theorem same_n (A B : Option Addr) (n m c d : Nat) (l : List UInt8) (w : World) (hn : n = l.length) (hm : m = l.length) (hl : l.length ≤ 1099511627776) (hA : Reads w w.heap.size 1 A l.length (vb l)) (hB : Reads w w.heap.size 1 B m (vb l)) :
    Calls Tryz.prog 16 #[.slice A n c, .slice B m d] w fun e w' => e = .returned (.bool true) ∧ New w w' := by
  subst hn
  subst hm
  exact same_any A B c d l w hl hA hB

theorem n258 : numB 258 = [0, 0, 0, 0, 0, 0, 1, 2] := by decide +kernel
theorem nm1 : numB (-1) = [255, 255, 255, 255, 255, 255, 255, 255] := by decide +kernel
theorem n7 : lenB [7] = [0, 0, 0, 0, 0, 0, 0, 1, 7] := by decide +kernel

theorem alloc_new (w : World) (o : Obj) : New w (w.alloc o) := (new_refl w).alloc (Nat.le_refl _) o
theorem _root_.Go.Proofs.YtpkiopijfhkagaaGreatDoor.rd.Zero.new {w w' : World} {g : Nat} (h : Zero w g) (hn : New w w') : Zero w' g := Blk.below h hn h.lt

set_option maxRecDepth 100000 in
set_option maxHeartbeats 1000000 in
theorem awake_any (T : TypeId) (q : Addr) (w : World) (hE : ErrAt w T q) : Calls Tryz.prog 8 #[] w fun e w' => e = .returned (.bool true) ∧ New w w' := by
  have HE := Lib.hid hE
  clear hE
  go_enter Tryz.func8, Tryz.ntmps8
  go_wp2_with (go_at_call 20; refine (new_any _ 5 [1, 2, 3, 4, 5] _ (by simp) (reads_lit _ _ _ 5 [1, 2, 3, 4, 5] rfl rfl)).mono ?_; rintro e w1 ⟨g, rfl, hge, hG, hn⟩)
  have hN : New w w1 := New.then (alloc_new w _) hn
  have hgw : w.heap.size ≤ g := by simp at hge; omega
  clear hn hge
  go_wp2_with (go_at_call 24; refine (Number_no T q g _ _ (by simp) hG (HE.out.ch (Ch.of_new (S := fun _ => False) hN) id)).mono ?_; rintro e w2 ⟨rfl, hZ, hch⟩)
  have hN2 : New w w2 := (Ch.of_new hN).then hch (fun i hi e => e) |>.below (Nat.le_refl _) (fun k hk e => by have e' : k = g := e; omega)
  clear hN hch hG
  go_wp2_with (go_at_call 11; refine (number_any _ _).mono ?_; rintro e w3 ⟨A1, c1, rfl, ho, hn⟩)
  go_wp2_with (go_at_call 16; refine (same_n _ _ _ 8 _ _ (numB 258) _ rfl (numB_length _).symm (by rw [numB_length]; omega) ((own_typed ho).2.1.new (alloc_new _ _)) (reads_lit _ _ _ 8 _ (numB_length _).symm (by rw [n258]; rfl))).mono ?_; rintro e w4 ⟨rfl, hn4⟩)
  have hN4 : New w w4 := New.then (New.then (New.then hN2 hn) (alloc_new w3 _)) hn4
  have hZ4 := ((hZ.new hn).new (alloc_new w3 _)).new hn4
  clear hZ hN2 hn hn4 ho
  go_wp2_with (go_at_call 11; refine (number_any _ _).mono ?_; rintro e w5 ⟨A2, c2, rfl, ho, hn⟩)
  go_wp2_with (go_at_call 16; refine (same_n _ _ _ 8 _ _ (numB (-1)) _ rfl (numB_length _).symm (by rw [numB_length]; omega) ((own_typed ho).2.1.new (alloc_new _ _)) (reads_lit _ _ _ 8 _ (numB_length _).symm (by rw [nm1]; rfl))).mono ?_; rintro e w6 ⟨rfl, hn6⟩)
  have hN6 : New w w6 := New.then (New.then (New.then hN4 hn) (alloc_new w5 _)) hn6
  have hZ6 := ((hZ4.new hn).new (alloc_new w5 _)).new hn6
  clear hZ4 hN4 hn hn6 ho
  go_wp2_with (go_at_call 12; refine (bytes_any _ 1 [7] _ (by simp) (reads_lit _ _ _ 1 [7] rfl rfl)).mono ?_; rintro e w7 ⟨A3, c3, rfl, ho, hn⟩)
  go_wp2_with (go_at_call 16; refine (same_n _ _ _ 9 _ _ (lenB [7]) _ rfl (by rw [n7]; rfl) (by rw [n7]; simp) ((own_typed ho).2.1.new (alloc_new _ _)) (reads_lit _ _ _ 9 _ (by rw [n7]; rfl) (by rw [n7]; rfl))).mono ?_; rintro e w8 ⟨rfl, hn8⟩)
  have hN8 : New w w8 := New.then (New.then (New.then (New.then hN6 (alloc_new w6 _)) hn) (alloc_new w7 _)) hn8
  have hZ8 := (((hZ6.new (alloc_new w6 _)).new hn).new (alloc_new w7 _)).new hn8
  clear hZ6 hN6 hn hn8 ho
  go_wp2_with (first
    | (go_at_call 31; refine (bad_zero _ _ hZ8).mono ?_; rintro e w9 ⟨rfl, rfl⟩)
    | (go_at_call 33; refine (done_zero _ _ hZ8).mono ?_; rintro e w9 ⟨rfl, rfl⟩))
  go_ret
  exact ⟨rfl, hN8⟩

/-- An empty list reads as nothing. -/
theorem reads_nil (w : World) (A : Option Addr) : Reads w w.heap.size 1 A 0 (vb []) := ⟨rfl, fun h => absurd h (by omega)⟩

end Go.Proofs.YtpkiopijfhkagaaGreatDoor.laws
