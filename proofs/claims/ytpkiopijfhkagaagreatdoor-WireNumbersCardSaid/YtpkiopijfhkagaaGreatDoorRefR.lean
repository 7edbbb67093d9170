/-
  Contracts of the document's reader: New, Bad, Done, Number.
-/
import Derived.Test.YtpkiopijfhkagaaGreatDoorNew
import Derived.Test.YtpkiopijfhkagaaGreatDoorRefW
namespace Go.Proofs.YtpkiopijfhkagaaGreatDoor.rread
open Go.RowKit Go.Proofs.YtpkiopijfhkagaaGreatDoor.mem Go.Proofs.YtpkiopijfhkagaaGreatDoor.kit Go.Proofs.YtpkiopijfhkagaaGreatDoor.wire Go.Proofs.YtpkiopijfhkagaaGreatDoor.rd
set_option linter.unusedVariables false

/-- The document's reader: all bytes, where it stands, whether it is bad. -/
def DR (w : World) (g : Nat) (l : List UInt8) (at_ : Nat) (bad : Bool) : Prop :=
  at_ ≤ l.length ∧ ∃ A c, Blk w g 79 #[.slice A l.length c, .int .i64 (at_ : Int), .bool bad] ∧ Reads w w.heap.size 1 A l.length (vb l) ∧ (l.length ≤ c ∧ c ≤ maxLen) ∧ ∀ ad, A = some ad → ∃ cs, Blk w ad.block 5 cs

theorem DR.new {w w' : World} {g : Nat} {l : List UInt8} {a : Nat} {b : Bool} (h : DR w g l a b) (hn : New w w') : DR w' g l a b := by
  obtain ⟨h1, A, c, hb, hr, hcc, ht⟩ := h
  exact ⟨h1, A, c, hb.below hn hb.lt, hr.new hn, hcc, fun ad e => by obtain ⟨cs, hcs⟩ := ht ad e; exact ⟨cs, hcs.below hn hcs.lt⟩⟩

/-- A store of another place, or of bad. -/
theorem DR.at_ {w : World} {g : Nat} {l : List UInt8} {a : Nat} {b : Bool} (h : DR w g l a b) (a' : Nat) (ha : a' ≤ l.length) : DR (w.setCell ⟨g, 1, none⟩ (.int .i64 (a' : Int))) g l a' b := by
  obtain ⟨h1, A, c, hb, hr, hcc, ht⟩ := h
  have hch : Ch (fun b => b = g) w (w.setCell ⟨g, 1, none⟩ (.int .i64 (a' : Int))) := (Ch.refl (fun b => b = g) w).setCell (p := ⟨g, 1, none⟩) (fun _ => rfl) _
  have hne : ∀ ad, A = some ad → ¬ ad.block = g := fun ad e => by obtain ⟨cs, hcs⟩ := ht ad e; exact hcs.ne_ hb (by decide)
  exact ⟨ha, A, c, hb.set_ 1 _, hr.ch hch hne, hcc, fun ad e => by obtain ⟨cs, hcs⟩ := ht ad e; exact ⟨cs, hcs.ch hch (hne ad e)⟩⟩
theorem DR.fall {w : World} {g : Nat} {l : List UInt8} {a : Nat} {b : Bool} (h : DR w g l a b) : DR (w.setCell ⟨g, 2, none⟩ (.bool true)) g l a true := by
  obtain ⟨h1, A, c, hb, hr, hcc, ht⟩ := h
  have hch : Ch (fun b => b = g) w (w.setCell ⟨g, 2, none⟩ (.bool true)) := (Ch.refl (fun b => b = g) w).setCell (p := ⟨g, 2, none⟩) (fun _ => rfl) _
  have hne : ∀ ad, A = some ad → ¬ ad.block = g := fun ad e => by obtain ⟨cs, hcs⟩ := ht ad e; exact hcs.ne_ hb (by decide)
  exact ⟨h1, A, c, hb.set_ 2 _, hr.ch hch hne, hcc, fun ad e => by obtain ⟨cs, hcs⟩ := ht ad e; exact ⟨cs, hcs.ch hch (hne ad e)⟩⟩

set_option maxRecDepth 100000 in
theorem bad_any (g : Nat) (l : List UInt8) (a : Nat) (b : Bool) (w : World) (h : DR w g l a b) : Calls Tryz.prog 32 #[.pointer (some ⟨g, 0, none⟩)] w fun e w' => e = .returned (.bool b) ∧ w = w' := by
  obtain ⟨h1, A, c, hb, hr, hcc, ht⟩ := h
  have c2 : w.cell? ⟨g, 2, none⟩ = some (.bool b) := (hb.cell 2).trans rfl
  clear hb hr ht
  go_enter Tryz.func32, Tryz.ntmps32
  go_wp2
  go_ret
  exact ⟨rfl, rfl⟩

set_option maxRecDepth 100000 in
theorem done_any (g : Nat) (l : List UInt8) (a : Nat) (b : Bool) (w : World) (hl : l.length ≤ 1099511627776) (h : DR w g l a b) : Calls Tryz.prog 34 #[.pointer (some ⟨g, 0, none⟩)] w fun e w' => e = .returned (.bool (!b && decide (a = l.length))) ∧ New w w' := by
  obtain ⟨h1, A, c, hb, hr, hcc, ht⟩ := h
  have c0 : w.cell? ⟨g, 0, none⟩ = some (.slice A l.length c) := (hb.cell 0).trans rfl
  have c1 : w.cell? ⟨g, 1, none⟩ = some (.int .i64 (a : Int)) := (hb.cell 1).trans rfl
  have c2 : w.cell? ⟨g, 2, none⟩ = some (.bool b) := (hb.cell 2).trans rfl
  have e : ((a : Int) == (l.length : Int)) = decide (a = l.length) := by
    by_cases hh : a = l.length
    · simp [hh]
    · have h2 : ¬ ((a : Int) = (l.length : Int)) := by omega
      simp [hh, h2]
  clear hb hr ht
  cases b
  all_goals
    go_enter Tryz.func34, Tryz.ntmps34
    go_wp2
    go_quiet (fail)
    go_wp2
    go_ret
    refine ⟨?_, (new_refl w).drewN _⟩
    first
      | (simp; done)
      | simpa using e

set_option maxRecDepth 100000 in
theorem new_any (A : Option Addr) (c : Nat) (l : List UInt8) (w : World) (hl : l.length ≤ 1099511627776) (hA : Reads w w.heap.size 1 A l.length (vb l)) :
    Calls Tryz.prog 21 #[.slice A l.length c] w fun e w' => ∃ g, e = .returned (.pointer (some ⟨g, 0, none⟩)) ∧ w.heap.size ≤ g ∧ DR w' g l 0 false ∧ New w w' := by
  obtain ⟨i0, hi, hz0, hz1, hz2⟩ := info_parts byte_info
  have HA := Lib.hid hA
  clear hA
  have hn0 := (new_refl w).alloc (Nat.le_refl _) (.cells #[] 5)
  have HO := Lib.hid (World.ownsRow_made (e := 5) (base := w.heap.size) (size := 1) w #[] 0 (Nat.le_refl _) (by unfold maxLen; omega) (by simp))
  go_enter Tryz.func21, Tryz.ntmps21
  go_wp2_with
    (at_builtin; refine wpList_append_any _ rfl (.tmp 3) (.tmp 4) 23 rfl w.heap.size 5 i0 _ 1 1 Tryz.underlying23 hi hz0 hz1 hz2 rfl (by omega) (.slice (some ⟨w.heap.size, 0, none⟩) 0 0) _ _ rfl HO.out _ _ _ _ _ rfl (HA.out.new hn0) (vb_one _) (by unfold maxLen; omega) (by omega) hn0.size ?_; intro v2 w2 hown2 hg2 _; rw [List.nil_append, Nat.zero_add] at hown2; obtain ⟨A2, c2, hv2, _⟩ := own_len hown2; subst hv2; have HO2 := Lib.hid hown2; clear hown2)
  have hN : New w w2 := hn0.grown hg2 hn0.size (fun k hk => by simp [Value.ownBlock] at hk; omega)
  have hn3 := (new_refl w2).alloc (Nat.le_refl _) (.cells #[.slice A2 l.length c2, .int .i64 0, .bool false] 79)
  obtain ⟨hcc, hr, ht⟩ := own_typed HO2.out
  go_ret
  exact ⟨w2.heap.size, rfl, hN.size, ⟨Nat.zero_le _, A2, c2, Blk.new _ _ _, hr.new hn3, hcc, fun ad e => by obtain ⟨cs, hcs⟩ := ht ad e; exact ⟨cs, hcs.alloc _⟩⟩, New.then hN hn3⟩

/-- What a number that is read leaves. -/
def NumR (w : World) (g : Nat) (l : List UInt8) (a : Nat) (e : Ending) (w' : World) : Prop :=
  e = .returned (.int .i64 (numV (l.drop a))) ∧ DR w' g l (a + 8) false ∧ Ch (fun j => j = g) w w'
def NumN (w : World) (g : Nat) (l : List UInt8) (a : Nat) (e : Ending) (w' : World) : Prop :=
  e = .returned (.int .i64 0) ∧ DR w' g l a true ∧ Ch (fun j => j = g) w w'

set_option maxRecDepth 100000 in
theorem number_no (g : Nat) (l : List UInt8) (a : Nat) (b : Bool) (w : World) (hl : l.length ≤ 1099511627776) (hb : b = true ∨ l.length < a + 8) (h : DR w g l a b) :
    Calls Tryz.prog 25 #[.pointer (some ⟨g, 0, none⟩)] w (NumN w g l a) := by
  have HD := Lib.hid h
  obtain ⟨h1, A, c, hbk, hr, hcc, ht⟩ := h
  have c0 : w.cell? ⟨g, 0, none⟩ = some (.slice A l.length c) := (hbk.cell 0).trans rfl
  have c1 : w.cell? ⟨g, 1, none⟩ = some (.int .i64 (a : Int)) := (hbk.cell 1).trans rfl
  have c2 : w.cell? ⟨g, 2, none⟩ = some (.bool b) := (hbk.cell 2).trans rfl
  have hz := hbk.frozen 2
  clear hbk hr ht
  cases b
  · have hd : decide ((l.length : Int) - (a : Int) < 8) = true := by
      rcases hb with hb | hb
      · cases hb
      · simp; omega
    go_enter Tryz.func25, Tryz.ntmps25
    go_wp2
    go_quiet (fail)
    go_wp2
    go_ret
    exact ⟨rfl, (HD.out.new ((new_refl w).drewN _)).fall, ((Ch.refl (fun j => j = g) w).drewN _).setCell (p := ⟨g, 2, none⟩) (fun _ => rfl) _⟩
  · go_enter Tryz.func25, Tryz.ntmps25
    go_wp2
    go_quiet (fail)
    go_wp2
    go_ret
    exact ⟨rfl, (HD.out.new ((new_refl w).drewN _)).fall, ((Ch.refl (fun j => j = g) w).drewN _).setCell (p := ⟨g, 2, none⟩) (fun _ => rfl) _⟩

set_option maxRecDepth 100000 in
theorem number_ok (g : Nat) (l : List UInt8) (a : Nat) (w : World) (hl : l.length ≤ 1099511627776) (h8 : a + 8 ≤ l.length) (h : DR w g l a false) :
    Calls Tryz.prog 25 #[.pointer (some ⟨g, 0, none⟩)] w (NumR w g l a) := by
  have HD := Lib.hid h
  obtain ⟨h1, A, c, hbk, hr, hcc, ht⟩ := h
  have c0 : w.cell? ⟨g, 0, none⟩ = some (.slice A l.length c) := (hbk.cell 0).trans rfl
  have c1 : w.cell? ⟨g, 1, none⟩ = some (.int .i64 (a : Int)) := (hbk.cell 1).trans rfl
  have c2 : w.cell? ⟨g, 2, none⟩ = some (.bool false) := (hbk.cell 2).trans rfl
  have hz := hbk.frozen 1
  have HR := Lib.hid hr
  have HB := Lib.hid hbk
  clear hbk hr ht
  have hd : decide ((l.length : Int) - (a : Int) < 8) = false := by simp; omega
  go_enter Tryz.func25, Tryz.ntmps25
  go_wp2
  go_quiet (fail)
  go_wp2
  clear c0 c1 c2 hz
  go_loopw [3, 4] (fun n i wr => ∃ k : Nat, k ≤ 8 ∧ i = .int .i64 k ∧ n = .int .u64 (wd ((l.drop a).take k) : Nat) ∧ New w wr) (fun _ i _ => 8 - (intOf i).toNat)
  case atStart => exact ⟨0, Nat.zero_le _, rfl, rfl, (new_refl w).drewN _⟩
  case round =>
    obtain ⟨k, hk, rfl, rfl, hn⟩ := hrel
    have hbr := HB.out.below hn HB.out.lt
    have c0 : wr.cell? ⟨g, 0, none⟩ = some (.slice A l.length c) := (hbr.cell 0).trans rfl
    have c1 : wr.cell? ⟨g, 1, none⟩ = some (.int .i64 (a : Int)) := (hbr.cell 1).trans rfl
    have hz := hbr.frozen 1
    clear hbr
    by_cases hlt : k < 8
    · obtain ⟨ad, u, rfl, hbd, hx, hc⟩ := HR.out.at_ (k := a + k) (by omega)
      rw [vb_get l (a + k) (by omega)] at hx
      injection hx with hx
      subst hx
      have hc2 := (hn.cell (p := ad.add (a + k)) (by rw [block_of_add]; exact hbd)).trans hc
      have hs : wd ((l.drop a).take (k + 1)) = wd ((l.drop a).take k) * 256 + (l[a + k]'(by omega)).toNat := by
        rw [← List.take_append_getElem (show k < (l.drop a).length by rw [List.length_drop]; omega), wd_snoc, List.getElem_drop]
      have hlt2 := wd_take7 (l.drop a) k hlt
      have hb := (l[a + k]'(by omega)).toNat_lt
      have HS := Lib.hid hs
      generalize wd ((l.drop a).take k) = n at *
      generalize (l[a + k]'(by omega)).toNat = b at *
      clear hs hc
      go_wp2
      go_quiet (fail)
      go_wp2
      go_roundw
      case rel =>
        refine ⟨k + 1, by omega, by go_num, ?_, hn.drewN _⟩
        rw [HS.out]
        go_num
      case measure => simp [intOf]; omega
    · obtain rfl : k = 8 := by omega
      have hD := (HD.out.new hn).at_ (a + 8) (by omega)
      go_wp2
      go_ret
      exact ⟨rfl, hD, (Ch.of_new (S := fun j => j = g) hn).setCell (p := ⟨g, 1, none⟩) (fun _ => rfl) _⟩
end Go.Proofs.YtpkiopijfhkagaaGreatDoor.rread
