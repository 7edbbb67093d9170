/-
  Contracts of the kit's functions on entries: lent, kept.
-/
import Derived.Test.YtpkiopijfhkagaaGreatDoorReaderE
import Derived.Test.YtpkiopijfhkagaaGreatDoorNew
namespace Go.Proofs.YtpkiopijfhkagaaGreatDoor.kit
open Go.RowKit Go.Proofs.YtpkiopijfhkagaaGreatDoor.mem Go.Proofs.YtpkiopijfhkagaaGreatDoor.wire Go.Proofs.YtpkiopijfhkagaaGreatDoor.rd
set_option linter.unusedVariables false

/-- A lent list reads as the list. -/
theorem lent_reads {w : World} {g : Nat} {l : List UInt8} (h : Blk w g 5 (vb (l ++ marks 1 12)).toArray) : Reads w w.heap.size 1 (some ⟨g, 0, none⟩) l.length (vb l) :=
  ⟨by rw [vb_length, Nat.mul_one], fun _ => ⟨_, rfl, h.lt, fun j u hu => by
    have hj : j < l.length := by
      rcases Nat.lt_or_ge j l.length with h' | h'
      · exact h'
      · rw [List.getElem?_eq_none (by rw [vb_length]; exact h')] at hu; cases hu
    rw [vb_get l j hj] at hu
    rw [Addr.add_lit, Nat.zero_add, h.cell j, lm_left l _ j hj]
    exact hu⟩⟩

/-- A lent entry. -/
def LentE (w : World) (t k v s : Int) (g : Bool) (l : List UInt8) (e : Ending) (w' : World) : Prop :=
  ∃ b, e = .returned (ent t k v s g (.slice (some ⟨b, 0, none⟩) l.length (l.length + 12))) ∧ w.heap.size ≤ b ∧ Blk w' b 5 (vb (l ++ marks 1 12)).toArray ∧ New w w'

set_option maxRecDepth 100000 in
theorem lent_entry (t k v s : Int) (g : Bool) (A : Option Addr) (c : Nat) (l : List UInt8) (w : World) (hl : l.length ≤ 1099511627776) (hA : Reads w w.heap.size 1 A l.length (vb l)) :
    Calls Tryz.prog 10 #[ent t k v s g (.slice A l.length c)] w (LentE w t k v s g l) := by
  have hn1 := (new_refl w).alloc (Nat.le_refl _) (.cells #[.int .i64 t, .int .u8 k, .int .i64 v, .int .i64 s, .bool g, .slice A l.length c] 28)
  have hn := hn1.alloc (by simp) (.cells zent 28)
  have HL := Lib.hid (lent_any A c l _ hl (hA.new hn))
  have hx0 := (Blk.new w 28 #[.int .i64 t, .int .u8 k, .int .i64 v, .int .i64 s, .bool g, .slice A l.length c]).alloc (.cells zent 28)
  have HX := Lib.hid hx0
  have hr0 := Blk.new (w.alloc (.cells #[.int .i64 t, .int .u8 k, .int .i64 v, .int .i64 s, .bool g, .slice A l.length c] 28)) 28 zent
  have HR : Hid (Blk ((w.alloc (.cells #[.int .i64 t, .int .u8 k, .int .i64 v, .int .i64 s, .bool g, .slice A l.length c] 28)).alloc (.cells zent 28)) (w.heap.size + 1) 28 zent) := Lib.hid (by simpa using hr0)
  have ei := ent_size
  clear hA hx0 hr0
  go_enter Tryz.func10, Tryz.ntmps10
  go_wp2_with (first
    | (go_at_call 9; refine HL.out.mono ?_; rintro e w1 ⟨⟨rfl, hb⟩, hn2⟩; have hX := HX.out.below hn2 HX.out.lt; have x0 : w1.cell? ⟨w.heap.size, 0, none⟩ = some (.int .i64 t) := (hX.cell 0).trans rfl; have x1 : w1.cell? ⟨w.heap.size, 1, none⟩ = some (.int .u8 k) := (hX.cell 1).trans rfl; have x2 : w1.cell? ⟨w.heap.size, 2, none⟩ = some (.int .i64 v) := (hX.cell 2).trans rfl; have x3 : w1.cell? ⟨w.heap.size, 3, none⟩ = some (.int .i64 s) := (hX.cell 3).trans rfl; have x4 : w1.cell? ⟨w.heap.size, 4, none⟩ = some (.bool g) := (hX.cell 4).trans rfl; have x5 : w1.cell? ⟨w.heap.size, 5, none⟩ = some (.slice A l.length c) := (hX.cell 5).trans rfl; have z5 := hX.frozen 5; have HR1 := Lib.hid (HR.out.below hn2 HR.out.lt); have HB := Lib.hid hb; clear hX hb)
    | (refine wpList_store_row rfl 28 _ _ rfl (w.heap.size + 1) #[.int .i64 t, .int .u8 k, .int .i64 v, .int .i64 s, .bool g, .slice (some ⟨w.heap.size + 1 + 1, 0, none⟩) l.length (l.length + 12)] rfl rfl 28 _ (HR1.out.far (p := ⟨w.heap.size, 5, none⟩) (by simp) _) ei (Eq.trans (b := 6) rfl rfl) (by simp [Value.oneCell']) ?_))
  have hb' : Blk w1 (w.heap.size + 1 + 1) 5 (vb (l ++ marks 1 12)).toArray := by simpa using HB.out
  have hN : New w w1 := New.then hn hn2
  refine bodyPost_ret (results_cell_row rfl _ _ (w.heap.size + 1) 28 _ (0, 0) _ rfl (setRow_heap _ _ _ _ _ _ (HR1.out.far (p := ⟨w.heap.size, 5, none⟩) (by simp) _)) Tryz.underlying28 rfl ei) rfl ?_
  exact ⟨w.heap.size + 1 + 1, rfl, by omega, (hb'.far (p := ⟨w.heap.size, 5, none⟩) (by simp only; omega) _).ch (ch_setRow _ (w.heap.size + 1) _) (fun e => absurd e (by omega)), New.then_row (Below.setCell hN (p := ⟨w.heap.size, 5, none⟩) (Nat.le_refl _) _) (w.heap.size + 1) _ (by omega)⟩

set_option maxRecDepth 100000 in
theorem kept_entry (t k v s : Int) (g : Bool) (b : Nat) (B : Option Addr) (d : Nat) (l : List UInt8) (w : World) (hl : l.length ≤ 1099511627776) (hb : Blk w b 5 (vb (l ++ marks 1 12)).toArray) (hB : Reads w w.heap.size 1 B l.length (vb l)) :
    Calls Tryz.prog 18 #[ent t k v s g (.slice (some ⟨b, 0, none⟩) l.length (l.length + 12)), ent t k v s g (.slice B l.length d)] w fun e w' => e = .returned (.bool true) ∧ New w w' := by
  have hn1 := (new_refl w).alloc (Nat.le_refl _) (.cells #[.int .i64 t, .int .u8 k, .int .i64 v, .int .i64 s, .bool g, .slice (some ⟨b, 0, none⟩) l.length (l.length + 12)] 28)
  have hn := hn1.alloc (by simp) (.cells #[.int .i64 t, .int .u8 k, .int .i64 v, .int .i64 s, .bool g, .slice B l.length d] 28)
  have hb1 := hb.below hn hb.lt
  have HS := Lib.hid (same_entry t k v s g (some ⟨b, 0, none⟩) B (l.length + 12) d l _ hl (lent_reads hb1) (hB.new hn))
  have HB := Lib.hid hb
  have HR := Lib.hid hB
  have hx0 := (Blk.new w 28 #[.int .i64 t, .int .u8 k, .int .i64 v, .int .i64 s, .bool g, .slice (some ⟨b, 0, none⟩) l.length (l.length + 12)]).alloc (.cells #[.int .i64 t, .int .u8 k, .int .i64 v, .int .i64 s, .bool g, .slice B l.length d] 28)
  have hy0 := Blk.new (w.alloc (.cells #[.int .i64 t, .int .u8 k, .int .i64 v, .int .i64 s, .bool g, .slice (some ⟨b, 0, none⟩) l.length (l.length + 12)] 28)) 28 #[.int .i64 t, .int .u8 k, .int .i64 v, .int .i64 s, .bool g, .slice B l.length d]
  have HX := Lib.hid hx0
  have HY := Lib.hid hy0
  clear hb hB hb1 hx0 hy0
  go_enter Tryz.func18, Tryz.ntmps18
  go_wp2_with (first
    | (go_at_call 29; refine HS.out.mono ?_; rintro e w1 ⟨rfl, hn2⟩; have hN := New.then hn hn2; have c5 : w1.cell? ⟨w.heap.size, 5, none⟩ = some (.slice (some ⟨b, 0, none⟩) l.length (l.length + 12)) := ((HX.out.below hn2 HX.out.lt).cell 5).trans rfl; have c6 : w1.cell? ⟨w.heap.size + 1, 5, none⟩ = some (.slice B l.length d) := (by simpa using ((HY.out.below hn2 HY.out.lt).cell 5)))
    | (go_at_call 17; refine (kept_any b B d l _ hl (HB.out.below hN HB.out.lt) (HR.out.new hN)).mono ?_; rintro e w2 ⟨rfl, hn3⟩))
  go_ret
  exact ⟨rfl, New.then hN hn3⟩
end Go.Proofs.YtpkiopijfhkagaaGreatDoor.kit
