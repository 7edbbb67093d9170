/-
  FrameBack: frames cut anywhere, as mathematics.
-/
import Derived.Test.YtdbolkmhmgbgfaaFBack
namespace Go.Proofs.Ytdbolkmhmgbgfaa.fr
open Go.RowKit Go.Proofs.Ytdbolkmhmgbgfaa.mem Go.Proofs.Ytdbolkmhmgbgfaa.kit Go.Proofs.Ytdbolkmhmgbgfaa.wire Go.Proofs.Ytdbolkmhmgbgfaa.crc
set_option linter.unusedVariables false

def flen (fs : List Fi) (k : Nat) : Nat := (fbs ((fs.take k).map Fi.fr)).length
theorem flen_zero (fs : List Fi) : flen fs 0 = 0 := by simp [flen, fbs_nil]
theorem flen_all (fs : List Fi) : flen fs fs.length = (fbs (fs.map Fi.fr)).length := by unfold flen; rw [List.take_length]
theorem flen_succ (fs : List Fi) (k : Nat) (h : k < fs.length) : flen fs (k + 1) = flen fs k + 9 + fs[k].data.length := by
  unfold flen
  rw [← List.take_append_getElem h, List.map_append, fbs_append, List.length_append, List.map_cons, List.map_nil, fbs_cons, fbs_nil, List.append_nil, fb_length]
  show _ + (9 + fs[k].data.length) = _
  omega
theorem flen_tot (fs : List Fi) : (fbs (fs.map Fi.fr)).length = 9 * fs.length + tot fs := by
  induction fs with
  | nil => rfl
  | cons a t ih =>
    rw [List.map_cons, fbs_cons, List.length_append, ih, fb_length]
    simp only [tot, List.map_cons, List.sum_cons, List.length_cons]
    show 9 + a.data.length + _ = _
    omega
theorem okF_of (fs : List Fi) (hok : ∀ i (h : i < fs.length), fs[i].Ok) : okF (fs.map Fi.fr) := fun f hf => by
  obtain ⟨x, hx, rfl⟩ := List.mem_map.1 hf
  obtain ⟨i, hi, rfl⟩ := List.getElem_of_mem hx
  exact (hok i hi).2.2
theorem all_told (fs : List Fi) (hok : ∀ i (h : i < fs.length), fs[i].Ok) : told (fbs (fs.map Fi.fr)) = fs.map Fi.fr ∧ st (crc.left (fbs (fs.map Fi.fr))) = 0 := by
  have h := scan_cut (fs.map Fi.fr) (okF_of fs hok) [] st_nil
  rw [List.append_nil] at h
  exact ⟨h.1, by rw [h.2]; exact st_nil⟩
theorem cut_at (fs : List Fi) (hok : ∀ i (h : i < fs.length), fs[i].Ok) (k t : Nat) (hk : k ≤ fs.length) (h1 : flen fs k ≤ t) (h2 : (k = fs.length ∧ t ≤ flen fs fs.length) ∨ (k < fs.length ∧ t < flen fs (k + 1))) :
    told ((fbs (fs.map Fi.fr)).take t) = (fs.take k).map Fi.fr ∧ st (crc.left ((fbs (fs.map Fi.fr)).take t)) = 0 := by
  have hokk : okF ((fs.take k).map Fi.fr) := fun f hf => by
    obtain ⟨x, hx, rfl⟩ := List.mem_map.1 hf
    exact okF_of fs hok _ (List.mem_map.2 ⟨x, List.mem_of_mem_take hx, rfl⟩)
  have e0 : fbs (fs.map Fi.fr) = fbs ((fs.take k).map Fi.fr) ++ fbs ((fs.drop k).map Fi.fr) := by
    rw [← fbs_append, ← List.map_append, List.take_append_drop]
  have e1 : (fbs (fs.map Fi.fr)).take t = fbs ((fs.take k).map Fi.fr) ++ (fbs ((fs.drop k).map Fi.fr)).take (t - flen fs k) := by
    rw [e0, List.take_append, List.take_of_length_le (by exact h1)]
    rfl
  have e2 : st ((fbs ((fs.drop k).map Fi.fr)).take (t - flen fs k)) = 0 := by
    rcases h2 with ⟨rfl, h2⟩ | ⟨hlt, h2⟩
    · rw [List.drop_length, List.map_nil, fbs_nil, List.take_nil]
      exact st_nil
    · rw [flen_succ fs k hlt] at h2
      rw [List.drop_eq_getElem_cons hlt, List.map_cons, fbs_cons, List.take_append_of_le_length (by rw [fb_length]; show _ ≤ 9 + fs[k].data.length; omega)]
      exact st_cut _ (hok k hlt).2.2 _ (by show _ < 9 + fs[k].data.length; omega)
  rw [e1]
  obtain ⟨h3, h4⟩ := scan_cut _ hokk _ e2
  exact ⟨h3, by rw [h4]; exact e2⟩
theorem FrArr.take {w : World} {A : Option Addr} {fs : List Fi} (h : FrArr w A fs) (k : Nat) : FrArr w A (fs.take k) := fun i hi => by
  have hi' : i < fs.length := by rw [List.length_take] at hi; omega
  obtain ⟨g, e, h0, h1, h2, h3⟩ := h i hi'
  rw [List.getElem_take]
  exact ⟨g, e, h0, h1, h2, h3⟩
theorem FrArr.new {w w' : World} {A : Option Addr} {fs : List Fi} (h : FrArr w A fs) (hW : New w w') : FrArr w' A fs := fun i hi => by
  obtain ⟨g, e, hg, h0, h1, h2⟩ := h i hi
  exact ⟨g, e, by have := hW.size; omega, (hW.cell (p := ⟨g, i * 2, none⟩) hg).trans h0, (hW.cell (p := ⟨g, i * 2 + 1, none⟩) hg).trans h1, h2.new hW⟩
end Go.Proofs.Ytdbolkmhmgbgfaa.fr
