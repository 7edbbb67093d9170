/-
  Contracts: a new reader; entries that are the same.
-/
import Derived.Test.YtpkiopijfhkagaaGreatDoorReaderE
namespace Go.Proofs.YtpkiopijfhkagaaGreatDoor.rd
open Go.RowKit Go.Proofs.YtpkiopijfhkagaaGreatDoor.mem Go.Proofs.YtpkiopijfhkagaaGreatDoor.kit Go.Proofs.YtpkiopijfhkagaaGreatDoor.wire
set_option linter.unusedVariables false

def Made (w : World) (l : List UInt8) (e : Ending) (w' : World) : Prop := ∃ g, e = .returned (.pointer (some ⟨g, 0, none⟩)) ∧ w.heap.size ≤ g ∧ Good w' g l ∧ New w w'

theorem own_typed {w : World} {base n size : Nat} {e : TypeId} {A : Option Addr} {c : Nat} {xs : List Value} (h : w.ownsRow base e size (.slice A n c) n xs) : (n ≤ c ∧ c ≤ maxLen) ∧ Reads w w.heap.size size A n xs ∧ ∀ ad, A = some ad → ∃ cs, Blk w ad.block e cs := by
  obtain ⟨A', c', e', h1, h2, hr⟩ := own_len h
  injection e' with eA _ ec
  subst eA
  subst ec
  refine ⟨⟨h1, h2⟩, hr, fun ad e => ?_⟩
  rcases h.2 with ⟨h3, _⟩ | ⟨g, cap, cur, h3, _, hg, _⟩
  · injection h3 with h3
    rw [h3] at e
    cases e
  · injection h3 with h3
    rw [h3] at e
    injection e with e
    subst e
    exact ⟨cur, hg⟩

set_option maxRecDepth 100000 in
theorem new_any (A : Option Addr) (c : Nat) (l : List UInt8) (w : World) (hl : l.length ≤ 1099511627776) (hA : Reads w w.heap.size 1 A l.length (vb l)) :
    Calls Tryz.prog 20 #[.slice A l.length c] w (Made w l) := by
  have HC := Lib.hid (clone_any A c l w hl hA)
  clear hA
  go_enter Tryz.func20, Tryz.ntmps20
  go_wp2_with (go_at_call 40; refine HC.out.mono ?_; rintro e w1 ⟨A1, c1, rfl, ho, hn⟩)
  go_ret
  obtain ⟨⟨h1, h2⟩, hr, ht⟩ := own_typed ho
  have hn2 := (new_refl w1).alloc (Nat.le_refl _) (.cells #[.slice A1 l.length c1, .pointer (some ⟨w1.heap.size, 0, none⟩)] 77)
  exact ⟨w1.heap.size, rfl, hn.size, ⟨A1, c1, Blk.new _ _ _, h1, h2, hr.new hn2, fun ad e => by obtain ⟨cs, hcs⟩ := ht ad e; exact ⟨cs, hcs.alloc _⟩⟩, New.then hn hn2⟩

abbrev ent (term kind version server : Int) (good : Bool) (v : Value) : Value := .agg #[.int .i64 term, .int .u8 kind, .int .i64 version, .int .i64 server, .bool good, v]

set_option maxRecDepth 100000 in
theorem same_entry (term kind version server : Int) (good : Bool) (A B : Option Addr) (c d : Nat) (l : List UInt8) (w : World) (hl : l.length ≤ 1099511627776) (hA : Reads w w.heap.size 1 A l.length (vb l)) (hB : Reads w w.heap.size 1 B l.length (vb l)) :
    Calls Tryz.prog 29 #[ent term kind version server good (.slice A l.length c), ent term kind version server good (.slice B l.length d)] w fun e w' => e = .returned (.bool true) ∧ New w w' := by
  have hn1 := (new_refl w).alloc (Nat.le_refl _) (.cells #[.int .i64 term, .int .u8 kind, .int .i64 version, .int .i64 server, .bool good, .slice A l.length c] 28)
  have hn := hn1.alloc (by simp) (.cells #[.int .i64 term, .int .u8 kind, .int .i64 version, .int .i64 server, .bool good, .slice B l.length d] 28)
  have HS := Lib.hid (same_any A B c d l _ hl (hA.new hn) (hB.new hn))
  clear hA hB
  go_enter Tryz.func29, Tryz.ntmps29
  go_wp2_with (go_at_call 16; refine HS.out.mono ?_; rintro e w1 ⟨rfl, hn2⟩)
  go_ret
  exact ⟨rfl, New.then hn hn2⟩
end Go.Proofs.YtpkiopijfhkagaaGreatDoor.rd
