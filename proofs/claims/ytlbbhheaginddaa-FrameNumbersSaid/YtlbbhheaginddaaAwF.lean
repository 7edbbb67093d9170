/-
  The frames' laws: the chapter's examples, as mathematics.
-/
import Derived.Test.YtlbbhheaginddaaSame
namespace Go.Proofs.Ytlbbhheaginddaa.fr
open Go.RowKit Go.Proofs.Ytlbbhheaginddaa.mem Go.Proofs.Ytlbbhheaginddaa.kit Go.Proofs.Ytlbbhheaginddaa.wire Go.Proofs.Ytlbbhheaginddaa.crc
set_option linter.unusedVariables false

def exF : Fr := (7, [97])
def exX : Nat := crc (head5 exF ++ exF.2)
theorem ex_bytes : fbs [exF] = [7, 0, 0, 0, 1] ++ be4 exX ++ [97] := by
  rw [fbs_cons, fbs_nil, List.append_nil]
  rfl
theorem ex_len : (fbs [exF]).length = 10 := by rw [fbs_cons, fbs_nil, List.append_nil, fb_length]; rfl
theorem ex_fb : fbs [exF] = fb exF := by rw [fbs_cons, fbs_nil, List.append_nil]
theorem st_nil : st [] = 0 := by unfold st; rw [if_pos (by simp)]
theorem ex_scan : told (fbs [exF]) = [exF] ∧ crc.left (fbs [exF]) = [] := by
  obtain ⟨h1, h2⟩ := scan_fb exF (by simp [exF]) []
  obtain ⟨h3, h4⟩ := scan_not [] (by rw [st_nil]; decide)
  rw [List.append_nil, h3] at h1
  rw [List.append_nil, h4] at h2
  rw [ex_fb]
  exact ⟨h1, h2⟩
theorem ex_cut : told ((fbs [exF]).take 9) = [] ∧ crc.left ((fbs [exF]).take 9) = (fbs [exF]).take 9 ∧ st ((fbs [exF]).take 9) = 0 := by
  have h := st_cut exF (by simp [exF]) 9 (by simp [exF])
  rw [← ex_fb] at h
  obtain ⟨h1, h2⟩ := scan_not ((fbs [exF]).take 9) (by rw [h]; decide)
  exact ⟨h1, h2, h⟩
theorem ex_sum : crc [49, 50, 51, 52, 53, 54, 55, 56, 57] = 3808858755 := by decide +kernel
theorem ex_ne : crc (head5 exF ++ [98]) ≠ crc (head5 exF ++ exF.2) := by
  rw [show head5 exF = [7, 0, 0, 0, 1] from rfl, show exF.2 = [97] from rfl]
  decide +kernel
def exW : List UInt8 := [7, 0, 0, 0, 1] ++ be4 exX ++ [98]
theorem ex_worse : told exW = [] ∧ crc.left exW = exW ∧ st exW = 2 := by
  have h := st_spoilt exF (by simp [exF]) [98] [] (by simp [exF]) ex_ne
  have e : exW = head9 exF ++ ([98] ++ []) := rfl
  rw [← e] at h
  obtain ⟨h1, h2⟩ := scan_not exW (by rw [h]; decide)
  exact ⟨h1, h2, h⟩
end Go.Proofs.Ytlbbhheaginddaa.fr
