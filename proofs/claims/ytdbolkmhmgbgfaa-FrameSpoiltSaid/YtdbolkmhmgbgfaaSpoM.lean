/-
  FrameSpoilt, as mathematics: bits turned in a frame's Data.
-/
import Derived.Test.YtdbolkmhmgbgfaaFBackA
namespace Go.Proofs.Ytdbolkmhmgbgfaa.fr
open Go.RowKit Go.Proofs.Ytdbolkmhmgbgfaa.mem Go.Proofs.Ytdbolkmhmgbgfaa.kit Go.Proofs.Ytdbolkmhmgbgfaa.wire Go.Proofs.Ytdbolkmhmgbgfaa.crc
set_option linter.unusedVariables false

theorem scan_stop (l : List Fr) (h : okF l) (r : List UInt8) (hr : st r ≠ 1) : told (fbs l ++ r) = l ∧ crc.left (fbs l ++ r) = r := by
  obtain ⟨e1, e2⟩ := scan_fbs l h r
  obtain ⟨e3, e4⟩ := scan_not r hr
  rw [e1, e2, e3, e4]
  simp

/-- The bytes of frames, a frame's Data turned in its first k bits from place p on. -/
def spo (fs : List Fi) (j : Nat) (d : List UInt8) : List UInt8 :=
  match fs[j]? with
  | some x => fbs ((fs.take j).map Fi.fr) ++ (head9 x.fr ++ (d ++ fbs ((fs.drop (j + 1)).map Fi.fr)))
  | none => []
theorem spo_eq (fs : List Fi) (j : Nat) (d : List UInt8) (h : j < fs.length) : spo fs j d = fbs ((fs.take j).map Fi.fr) ++ (head9 fs[j].fr ++ (d ++ fbs ((fs.drop (j + 1)).map Fi.fr))) := by
  unfold spo
  rw [List.getElem?_eq_getElem h]
theorem spo_self (fs : List Fi) (j : Nat) (h : j < fs.length) : spo fs j fs[j].data = fbs (fs.map Fi.fr) := by
  rw [spo_eq fs j _ h]
  conv => rhs; rw [← List.take_append_drop j fs, List.drop_eq_getElem_cons h, List.map_append, fbs_append, List.map_cons, fbs_cons]
  show _ = _ ++ ((head9 fs[j].fr ++ fs[j].fr.2) ++ _)
  rw [List.append_assoc]
  rfl
theorem spo_length (fs : List Fi) (j : Nat) (d : List UInt8) (h : j < fs.length) (hd : d.length = fs[j].data.length) : (spo fs j d).length = (fbs (fs.map Fi.fr)).length := by
  rw [← spo_self fs j h, spo_eq fs j _ h, spo_eq fs j _ h]
  simp only [List.length_append, hd]
theorem spo_at (fs : List Fi) (j i : Nat) (d : List UInt8) (h : j < fs.length) (hi : i < d.length) : (spo fs j d)[flen fs j + 9 + i]? = some d[i] := by
  rw [spo_eq fs j _ h, ← List.append_assoc, List.getElem?_append_right (by rw [List.length_append, head9_length]; show flen fs j + 9 ≤ _; omega)]
  rw [List.length_append, head9_length, show flen fs j + 9 + i - ((fbs ((fs.take j).map Fi.fr)).length + 9) = i by show flen fs j + 9 + i - (flen fs j + 9) = i; omega, List.getElem?_append_left hi, List.getElem?_eq_getElem hi]
theorem set_mid (a h d r : List UInt8) (i : Nat) (b : UInt8) (hi : i < d.length) : (a ++ (h ++ (d ++ r))).set (a.length + h.length + i) b = a ++ (h ++ (d.set i b ++ r)) := by
  rw [List.set_append_right _ _ (by omega), show a.length + h.length + i - a.length = h.length + i by omega, List.set_append_right _ _ (by omega), show h.length + i - h.length = i by omega, List.set_append_left _ _ hi]
theorem spo_set (fs : List Fi) (j i : Nat) (d : List UInt8) (b : UInt8) (h : j < fs.length) (hi : i < d.length) : (spo fs j d).set (flen fs j + 9 + i) b = spo fs j (d.set i b) := by
  rw [spo_eq fs j _ h, spo_eq fs j _ h]
  exact set_mid (fbs ((fs.take j).map Fi.fr)) (head9 fs[j].fr) d _ i b hi
theorem spo_told (fs : List Fi) (hok : ∀ i (h : i < fs.length), fs[i].Ok) (j p t : Nat) (hj : j < fs.length) (ht : t < 4294967296) (h0 : t ≠ 0) (hp : p + 32 ≤ 8 * fs[j].data.length) :
    told (spo fs j (turns fs[j].data p t 32)) = (fs.take j).map Fi.fr ∧ st (crc.left (spo fs j (turns fs[j].data p t 32))) = 2 := by
  have hokk : okF ((fs.take j).map Fi.fr) := fun f hf => by
    obtain ⟨x, hx, rfl⟩ := List.mem_map.1 hf
    exact okF_of fs hok _ (List.mem_map.2 ⟨x, List.mem_of_mem_take hx, rfl⟩)
  have h2 : st (head9 fs[j].fr ++ (turns fs[j].data p t 32 ++ fbs ((fs.drop (j + 1)).map Fi.fr))) = 2 :=
    st_spoilt fs[j].fr (hok j hj).2.2 _ _ (turns_length _ _ _ _) (crc_burst _ _ p t ht h0 hp)
  rw [spo_eq fs j _ hj]
  obtain ⟨e1, e2⟩ := scan_stop _ hokk _ (show st (head9 fs[j].fr ++ (turns fs[j].data p t 32 ++ fbs ((fs.drop (j + 1)).map Fi.fr))) ≠ 1 by rw [h2]; decide)
  exact ⟨e1, by rw [e2]; exact h2⟩
end Go.Proofs.Ytdbolkmhmgbgfaa.fr
