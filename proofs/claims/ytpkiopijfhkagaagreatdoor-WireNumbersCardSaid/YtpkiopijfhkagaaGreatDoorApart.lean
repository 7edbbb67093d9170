/-
  The bag of lists: do they all lie apart?
-/
import Derived.Test.YtpkiopijfhkagaaGreatDoorPut
namespace Go.Proofs.YtpkiopijfhkagaaGreatDoor.kit
open Go.RowKit Go.Proofs.YtpkiopijfhkagaaGreatDoor.mem Go.Proofs.YtpkiopijfhkagaaGreatDoor.wire
set_option linter.unusedVariables false

/-- Before the lists of bytes are looked at, and after. -/
structure ASt (w : World) (g : Nat) (v : Value) (w' : World) : Prop where
  bag : Bag w' g v
  new : New w w'
structure AfterB (w : World) (g : Nat) (v : Value) (vs : List Value) (w' : World) : Prop where
  bag : Bag w' g v
  ch : Ch (InRows vs) w w'
theorem ASt.more {w w1 w2 : World} {g : Nat} {v : Value} (h : ASt w g v w1) (hn : New w1 w2) : ASt w g v w2 := ⟨Blk.below h.bag hn (Blk.lt h.bag), New.then h.new hn⟩
theorem AfterB.more {w w1 w2 : World} {g : Nat} {v : Value} {vs : List Value} (h : AfterB w g v vs w1) (hn : New w1 w2) : AfterB w g v vs w2 := ⟨Blk.below h.bag hn (Blk.lt h.bag), h.ch.then (Ch.of_new (S := fun _ => False) hn) (fun _ _ hf => hf.elim)⟩
theorem rows_not {w : World} {B g : Nat} {v lsv : Value} {w0 : World} {vs : List Value} {ns : List Nat} {cont : Nat → List Value → Prop} (hF : FS w0 B lsv vs ns cont w) (hg : Bag w g v) (hl : vs.length ≤ ns.length) : ¬ InRows vs g := by
  rintro ⟨k, u, hu, hb⟩
  have hk : k < vs.length := by
    rcases Nat.lt_or_ge k vs.length with h | h
    · exact h
    · rw [List.getElem?_eq_none h] at hu; cases hu
  obtain ⟨A, c, xs, hv, ho, _⟩ := hF.each k (by omega)
  rw [hu] at hv
  injection hv with hv
  rw [hv] at hb
  exact own_blk_ne ho hg (by decide) hb
theorem AfterB.mk' {w w1 w2 : World} {B g : Nat} {v lsv : Value} {vs : List Value} {ns : List Nat} {cont : Nat → List Value → Prop} (hF : FS w B lsv vs ns cont w) (h : ASt w g v w1) (hg : Bag w g v) (hch : Ch (InRows vs) w w2) : AfterB w g v vs w2 :=
  ⟨Blk.ch hg hch (rows_not hF hg (by have := hF.row.1; omega)), hch⟩

set_option maxRecDepth 100000 in
set_option maxHeartbeats 2000000 in
theorem apart_any (w : World) (B g : Nat) (A : Option Addr) (C : Nat) (vs : List Value) (ns : List Nat) (hB : B ≤ w.heap.size) (hK : ns.length ≤ 1000000) (hns : ∀ k (h : k < ns.length), ns[k] ≤ 1099511627776) (hg : Bag w g (.slice A ns.length C)) (hF : FS w B (.slice A ns.length C) vs ns (fun _ _ => True) w) :
    Calls Tryz.prog 39 #[.pointer (some ⟨g, 0, none⟩)] w fun e w' => e = .returned (.bool true) ∧ Ch (InRows vs) w w' := by
  have hS : ASt w g (.slice A ns.length C) w := ⟨hg, new_refl w⟩
  have HG := Lib.hid hg
  have HF := Lib.hid hF
  have HNS := Lib.hid hns
  have hc : w.cell? ⟨g, 0, none⟩ = some (.slice none 0 0) := (Blk.cell hg 0).trans rfl
  clear hg hF hns
  go_enter Tryz.func39, Tryz.ntmps39
  go_wp2_with (first
    | (go_at_call 53; refine (flatLimbs_none _).mono ?_; rintro e w1 ⟨rfl, hn⟩; replace hS := hS.more hn; replace hc : w1.cell? ⟨g, 1, none⟩ = some (Value.slice none 0 0) := (Blk.cell hS.bag 1).trans rfl; clear hn)
    | (go_at_call 54; refine (flatWords_none _).mono ?_; rintro e w1 ⟨rfl, hn⟩; replace hS := hS.more hn; replace hc : w1.cell? ⟨g, 2, none⟩ = some (Value.slice none 0 0) := (Blk.cell hS.bag 2).trans rfl; clear hn)
    | (go_at_call 55; refine (flatInts_none _).mono ?_; rintro e w1 ⟨rfl, hn⟩; replace hS := hS.more hn; replace hc : w1.cell? ⟨g, 3, none⟩ = some (Value.slice none 0 0) := (Blk.cell hS.bag 3).trans rfl; clear hn)
    | (go_at_call 56; refine (flatLongs_none _).mono ?_; rintro e w1 ⟨rfl, hn⟩; replace hS := hS.more hn; replace hc : w1.cell? ⟨g, 4, none⟩ = some (Value.slice none 0 0) := (Blk.cell hS.bag 4).trans rfl; clear hn)
    | (go_at_call 57; refine (flatTexts_none _).mono ?_; rintro e w1 ⟨rfl, hn⟩; replace hS := hS.more hn; replace hc : w1.cell? ⟨g, 5, none⟩ = some (Value.slice A ns.length C) := (Blk.cell hS.bag 5).trans rfl; clear hn)
    | (go_at_call 58; refine (flat_scr w B A C vs ns _ hB hK HNS.out (HF.out.more hS.new hB)).mono ?_; rintro e w1 ⟨rfl, hn⟩; replace hS := AfterB.mk' HF.out hS HG.out hn; replace hc : w1.cell? ⟨g, 6, none⟩ = some (Value.slice none 0 0) := (Blk.cell hS.bag 6).trans rfl; clear hn)
    | (go_at_call 59; refine (flatTruths_none _).mono ?_; rintro e w1 ⟨rfl, hn⟩; replace hS := hS.more hn; replace hc : w1.cell? ⟨g, 7, none⟩ = some (Value.slice none 0 0) := (Blk.cell hS.bag 7).trans rfl; clear hn)
    | (go_at_call 60; refine (flatIns_none _).mono ?_; rintro e w1 ⟨rfl, hn⟩; replace hS := hS.more hn; replace hc : w1.cell? ⟨g, 8, none⟩ = some (Value.slice none 0 0) := (Blk.cell hS.bag 8).trans rfl; clear hn)
    | (go_at_call 61; refine (flatSpans_none _).mono ?_; rintro e w1 ⟨rfl, hn⟩; replace hS := hS.more hn; replace hc : w1.cell? ⟨g, 9, none⟩ = some (Value.slice none 0 0) := (Blk.cell hS.bag 9).trans rfl; clear hn)
    | (go_at_call 62; refine (flatKnowns_none _).mono ?_; rintro e w1 ⟨rfl, hn⟩; replace hS := hS.more hn; replace hc : w1.cell? ⟨g, 10, none⟩ = some (Value.slice none 0 0) := (Blk.cell hS.bag 10).trans rfl; clear hn)
    | (go_at_call 63; refine (flatPlaces_none _).mono ?_; rintro e w1 ⟨rfl, hn⟩; replace hS := hS.more hn; replace hc : w1.cell? ⟨g, 11, none⟩ = some (Value.slice none 0 0) := (Blk.cell hS.bag 11).trans rfl; clear hn)
    | (go_at_call 64; refine (flatFaults_none _).mono ?_; rintro e w1 ⟨rfl, hn⟩; replace hS := hS.more hn; replace hc : w1.cell? ⟨g, 12, none⟩ = some (Value.slice none 0 0) := (Blk.cell hS.bag 12).trans rfl; clear hn)
    | (go_at_call 65; refine (flatOutcomes_none _).mono ?_; rintro e w1 ⟨rfl, hn⟩; replace hS := hS.more hn; replace hc : w1.cell? ⟨g, 13, none⟩ = some (Value.slice none 0 0) := (Blk.cell hS.bag 13).trans rfl; clear hn)
    | (go_at_call 66; refine (flatFlats_none _).mono ?_; rintro e w1 ⟨rfl, hn⟩; replace hS := hS.more hn; replace hc : w1.cell? ⟨g, 14, none⟩ = some (Value.slice none 0 0) := (Blk.cell hS.bag 14).trans rfl; clear hn)
    | (go_at_call 67; refine (flatBundles_none _).mono ?_; rintro e w1 ⟨rfl, hn⟩; replace hS := hS.more hn; replace hc : w1.cell? ⟨g, 15, none⟩ = some (Value.slice none 0 0) := (Blk.cell hS.bag 15).trans rfl; clear hn)
    | (go_at_call 68; refine (flatEntries_none _).mono ?_; rintro e w1 ⟨rfl, hn⟩; replace hS := hS.more hn; replace hc : w1.cell? ⟨g, 16, none⟩ = some (Value.slice none 0 0) := (Blk.cell hS.bag 16).trans rfl; clear hn)
    | (go_at_call 69; refine (flatHeldRow_none _).mono ?_; rintro e w1 ⟨rfl, hn⟩; replace hS := hS.more hn; replace hc : w1.cell? ⟨g, 17, none⟩ = some (Value.slice none 0 0) := (Blk.cell hS.bag 17).trans rfl; clear hn)
    | (go_at_call 70; refine (flatRegistries_none _).mono ?_; rintro e w1 ⟨rfl, hn⟩; replace hS := hS.more hn; replace hc : w1.cell? ⟨g, 18, none⟩ = some (Value.slice none 0 0) := (Blk.cell hS.bag 18).trans rfl; clear hn)
    | (go_at_call 71; refine (flatLetters_none _).mono ?_; rintro e w1 ⟨rfl, hn⟩; replace hS := hS.more hn; replace hc : w1.cell? ⟨g, 19, none⟩ = some (Value.slice none 0 0) := (Blk.cell hS.bag 19).trans rfl; clear hn)
    | (go_at_call 72; refine (flatSteps_none _).mono ?_; rintro e w1 ⟨rfl, hn⟩; replace hS := hS.more hn; replace hc : w1.cell? ⟨g, 20, none⟩ = some (Value.slice none 0 0) := (Blk.cell hS.bag 20).trans rfl; clear hn)
    | (go_at_call 73; refine (flatTales_none _).mono ?_; rintro e w1 ⟨rfl, hn⟩; replace hS := hS.more hn; clear hn))
  go_ret
  exact ⟨rfl, hS.ch⟩
end Go.Proofs.YtpkiopijfhkagaaGreatDoor.kit
