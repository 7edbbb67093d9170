/-
  The bag of lists, and what ApartBytes answers.
-/
import Derived.Test.YtpkiopijfhkagaaGreatDoorFlat
import Derived.Test.YtpkiopijfhkagaaGreatDoorFlat0
import Derived.Great.Walk
namespace Go.Proofs.YtpkiopijfhkagaaGreatDoor.kit
open Go.RowKit Go.Proofs.YtpkiopijfhkagaaGreatDoor.mem Go.Proofs.YtpkiopijfhkagaaGreatDoor.wire
set_option linter.unusedVariables false

def nil_ : Value := .slice none 0 0
/-- A bag with lists of bytes alone. -/
def bagCells (v : Value) : Array Value := #[nil_, nil_, nil_, nil_, nil_, v, nil_, nil_, nil_, nil_, nil_, nil_, nil_, nil_, nil_, nil_, nil_, nil_, nil_, nil_, nil_]
def Bag (w : World) (g : Nat) (v : Value) : Prop := Blk w g 73 (bagCells v)

/-- What putting a list into the bag leaves. -/
def Put (w : World) (B g n : Nat) (xs : List Value) (x : Value) (e : Ending) (w' : World) : Prop :=
  e = .returned (.tuple #[]) ∧ ∃ v', Bag w' g v' ∧ w'.ownsRow B 23 1 v' (n + 1) (xs ++ [x]) ∧ Below B w w'

theorem longer_ch {w : World} {u : Value} {e t : TypeId} {B n m : Nat} {v v' : Value} {xs news : List Value} {w' : World} (ho : w.ownsRow B e 1 v n xs) (hl : Longer (w.alloc (.cells #[u] t)) e B v n m xs news v' w') : Ch (fun b => v.ownBlock = some b) w w' := by
  have h0 : Ch (fun b => v.ownBlock = some b) w (w.alloc (.cells #[u] t)) := (Ch.refl _ _).alloc _
  rcases hl.2 with ⟨_, _, _, _, hg⟩ | ⟨_, hg⟩
  · exact h0.then (Ch.of_grown hg) (fun _ _ h => h.symm)
  · exact h0.then (Ch.of_new (S := fun _ => False) hg) (fun _ _ h => h.elim)

theorem bag_longer {w : World} {u : Value} {g n m B : Nat} {t : TypeId} {v v' : Value} {xs news : List Value} {w' : World} (hg : Bag w g v) (ho : w.ownsRow B 23 1 v n xs) (hl : Longer (w.alloc (.cells #[u] t)) 23 B v n m xs news v' w') : Blk w' g 73 (bagCells v) :=
  Blk.ch hg (longer_ch ho hl) (fun h => own_blk_ne ho hg (by decide) h)

set_option maxRecDepth 100000 in
theorem put_any (B g n : Nat) (v : Value) (xs : List Value) (A : Option Addr) (m c : Nat) (w : World) (hn : n ≤ 1000000) (hB : B ≤ w.heap.size) (hg : Bag w g v) (hgB : B ≤ g) (ho : w.ownsRow B 23 1 v n xs) :
    Calls Tryz.prog 38 #[.pointer (some ⟨g, 0, none⟩), .slice A m c] w (Put w B g n xs (.slice A m c)) := by
  obtain ⟨i0, hi0, hz0, hz1, hz2⟩ := info_parts rows_info
  obtain ⟨Av, cv, hv, _⟩ := own_len ho
  subst hv
  have hc5 : w.cell? ⟨g, 5, none⟩ = some (.slice Av n cv) := by rw [Blk.cell hg 5]; rfl
  have hz := Blk.frozen hg 5
  have HO := Lib.hid ho
  have HGG := Lib.hid hg
  clear ho hg
  go_enter Tryz.func38, Tryz.ntmps38
  go_wp2_with
    (at_builtin; refine wpList_append_two _ rfl (.tmp 8) (.tmp 10) 39 rfl B 23 i0 _ 24 Tryz.underlying39 hi0 hz0 hz1 hz2 rfl (.slice Av n cv) _ _ rfl (HO.out.alloc _) _ _ 1 1 _ rfl (reads_new _ _ _) (by simp [Value.oneCell']) (by unfold maxLen; omega) (by omega) (by simp; omega) ?_; intro v2 w2 hl2; obtain ⟨A2, c2, hv2, _⟩ := own_len hl2.1; subst hv2; have hb2 : Blk w2 g 73 (bagCells (.slice Av n cv)) := bag_longer HGG.out HO.out hl2; have hcell2 : w2.cell? ⟨g, 5, none⟩ = some (.slice Av n cv) := (hb2.cell 5).trans rfl; have hfr2 := hb2.frozen 5; have HB2 := Lib.hid hb2; have HL2 := Lib.hid hl2; clear hb2 hl2)
  have hch : Ch (fun b => b = g) w2 (w2.setCell ⟨g, 5, none⟩ (.slice A2 (n + 1) c2)) := (Ch.refl (fun b => b = g) w2).setCell (p := ⟨g, 5, none⟩) (fun _ => rfl) _
  have hbel := (longer_ch HO.out HL2.out).below hB (fun k _ hk => (own_lt HO.out hk).1)
  refine Great.bodyPost_end0 rfl rfl ?_
  exact ⟨rfl, _, HB2.out.set_ 5 _, own_ch HL2.out.1 hch (fun b hb e => own_blk_ne HL2.out.1 HB2.out (by decide) (hb.trans (congrArg some e))), hbel.setCell (p := ⟨g, 5, none⟩) hgB _⟩

end Go.Proofs.YtpkiopijfhkagaaGreatDoor.kit
