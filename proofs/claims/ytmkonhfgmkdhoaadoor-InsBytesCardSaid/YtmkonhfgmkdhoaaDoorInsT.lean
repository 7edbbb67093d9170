/-
  Contracts of ins: Get, of any bytes; Put and Get of what the laws' examples are.
-/
import Derived.Test.YtmkonhfgmkdhoaaDoorInsS
namespace Go.Proofs.YtmkonhfgmkdhoaaDoor.ins
open Go.RowKit Go.Shelf Go.Proofs.YtmkonhfgmkdhoaaDoor.mem Go.Proofs.YtmkonhfgmkdhoaaDoor.kit
set_option linter.unusedVariables false

theorem reads_spot {w : World} {A : Option Addr} {n : Nat} {l : List UInt8} (h : Reads w w.heap.size 1 A n (vb l)) : ∃ g o, 0 < n → A = some ⟨g, o, none⟩ := by
  by_cases h0 : 0 < n
  · obtain ⟨ad, u, rfl, hb, hx, hc⟩ := h.at_ h0
    have hs := spot_of hc
    obtain ⟨g, o, sp⟩ := ad
    have hsp : sp = none := by simpa [Addr.add] using hs
    subst hsp
    exact ⟨g, o, fun _ => rfl⟩
  · exact ⟨0, 0, fun h => absurd h h0⟩

set_option maxRecDepth 100000 in
theorem get_any (A : Option Addr) (n c : Nat) (l : List UInt8) (w : World) (hn : n = l.length) (hl : n ≤ 1099511627776) (hc : n ≤ c ∧ c ≤ maxLen) (hA : Reads w w.heap.size 1 A n (vb l)) (hT : TAt w) :
    Calls Tryd.prog 10 #[.slice A n c] w (GetD w l) := by
  by_cases hg : 32768 < n
  · have hE : getE l = 3 := by simp only [getE]; rw [if_pos (by omega)]
    have HE := Lib.hid hE
    have t1 : (32768 : Int) < (n : Int) := by omega
    clear hE hA hT hn
    go_enter Tryd.func10, Tryd.ntmps10
    go_wp2
    exact bodyPost_ret (v := .tuple #[.slice none 0 0, .int .i64 3]) (by simp [results, Tryd.results10, go_sem]) rfl (getD_no HE.out (by decide) (new2 w _ _))
  · by_cases h8 : n % 8 = 0
    · obtain ⟨g, o, hgo⟩ := reads_spot hA
      exact get_body A n c l w hn (by omega) h8 hc hA g o hgo hT
    · have hE : getE l = 4 := by simp only [getE]; rw [if_neg (by omega), if_pos (by omega)]
      have HE := Lib.hid hE
      have t1 : ¬ (32768 : Int) < (n : Int) := by omega
      have t2 : (((n : Int) % 8) == 0) = false := by simp; omega
      have t3 : (((n : Int) % 8) != 0) = true := by simp; omega
      clear hE hA hT hn
      go_enter Tryd.func10, Tryd.ntmps10
      go_wp2
      exact bodyPost_ret (v := .tuple #[.slice none 0 0, .int .i64 4]) (by simp [results, Tryd.results10, go_sem]) rfl (getD_no HE.out (by decide) (new2 w _ _))
end Go.Proofs.YtmkonhfgmkdhoaaDoor.ins
