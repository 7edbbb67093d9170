/-
  Numbers in bytes, as mathematics.
-/
import Derived.Test.YtgddfclclibcgaaDoorPkB
namespace Go.Proofs.YtgddfclclibcgaaDoor.pk
open Go.RowKit Go.Proofs.YtgddfclclibcgaaDoor.mem Go.Proofs.YtgddfclclibcgaaDoor.kit
set_option linter.unusedVariables false

theorem snoc_ind {α : Type} {P : List α → Prop} (h0 : P []) (h1 : ∀ l b, P l → P (l ++ [b])) (l : List α) : P l := by
  have h : ∀ (m : List α), P m.reverse := by
    intro m
    induction m with
    | nil => exact h0
    | cons a m ih => rw [List.reverse_cons]; exact h1 _ _ ih
  have := h l.reverse
  rwa [List.reverse_reverse] at this
/-- A number's bytes, the highest one first. -/
def beN (l : List UInt8) : Nat := l.foldl (fun n b => 256 * n + b.toNat) 0
theorem beN_snoc (l : List UInt8) (b : UInt8) : beN (l ++ [b]) = 256 * beN l + b.toNat := by simp [beN]
theorem beN_lt (l : List UInt8) : beN l < 256 ^ l.length := by
  refine snoc_ind (P := fun l => beN l < 256 ^ l.length) (by decide) (fun l b ih => ?_) l
  · rw [beN_snoc, List.length_append]
    have := b.toNat_lt
    show _ < 256 ^ (l.length + 1)
    rw [Nat.pow_succ]
    omega
/-- The bytes of a number that stand ahead, and how many. -/
def hiB (k v : Nat) (m : Nat) : List UInt8 := (List.range m).map fun i => UInt8.ofNat (v / 256 ^ (k - 1 - i))
def beB (k v : Nat) : List UInt8 := hiB k v k
theorem hiB_length (k v m : Nat) : (hiB k v m).length = m := by simp [hiB]
theorem beB_length (k v : Nat) : (beB k v).length = k := hiB_length k v k
theorem hiB_succ (k v m : Nat) : hiB k v (m + 1) = hiB k v m ++ [UInt8.ofNat (v / 256 ^ (k - 1 - m))] := by simp [hiB, List.range_succ]
theorem hiB_val (k v : Nat) : ∀ m, m ≤ k → beN (hiB k v m) = v / 256 ^ (k - m) % 256 ^ m
  | 0, _ => by show (0 : Nat) = _ % 256 ^ 0; rw [Nat.pow_zero, Nat.mod_one]
  | m + 1, h => by
    have hb : (UInt8.ofNat (v / 256 ^ (k - 1 - m))).toNat = v / 256 ^ (k - 1 - m) % 256 := by rw [UInt8.toNat_ofNat']
    have e : k - m = (k - 1 - m) + 1 := by omega
    have e2 : k - (m + 1) = k - 1 - m := by omega
    rw [hiB_succ, beN_snoc, hiB_val k v m (by omega), hb, e, e2, Nat.pow_succ, Nat.pow_succ, ← Nat.div_div_eq_div_mul, Nat.mul_comm (256 ^ m) 256, Nat.mod_mul]
    omega
theorem beB_val (k v : Nat) : beN (beB k v) = v % 256 ^ k := by
  have := hiB_val k v k (Nat.le_refl _)
  rwa [Nat.sub_self, Nat.pow_zero, Nat.div_one] at this
/-- A number's bytes are its own. -/
theorem beB_beN : ∀ (l : List UInt8), beB l.length (beN l) = l := by
  have key : ∀ (l : List UInt8) (m : Nat), m ≤ l.length → hiB l.length (beN l) m = l.take m := by
    refine snoc_ind (P := fun l => ∀ (m : Nat), m ≤ l.length → hiB l.length (beN l) m = l.take m) ?_ ?_
    · intro m hm
      have e : m = 0 := by simpa using hm
      subst e
      rfl
    · intro l b ih m hm
      have hl : (l ++ [b]).length = l.length + 1 := by simp
      have hbl := b.toNat_lt
      apply List.ext_getElem
      · rw [hiB_length, List.length_take]; omega
      · intro i h1 h2
        rw [hiB_length] at h1
        have hg : (hiB (l ++ [b]).length (beN (l ++ [b])) m)[i]'(by rw [hiB_length]; exact h1) = UInt8.ofNat (beN (l ++ [b]) / 256 ^ ((l ++ [b]).length - 1 - i)) := by simp [hiB]
        have hx : (l ++ [b]).length - 1 - i = l.length - i := by rw [hl]; omega
        rw [hg, List.getElem_take, hx, beN_snoc]
        by_cases hi : i < l.length
        · have h := ih (i + 1) (by omega)
          have h3 : (hiB l.length (beN l) (i + 1))[i]'(by rw [hiB_length]; omega) = (l.take (i + 1))[i]'(by rw [List.length_take]; omega) := by simp only [h]
          have hg2 : (hiB l.length (beN l) (i + 1))[i]'(by rw [hiB_length]; omega) = UInt8.ofNat (beN l / 256 ^ (l.length - 1 - i)) := by simp [hiB]
          rw [hg2, List.getElem_take] at h3
          rw [List.getElem_append_left hi, ← h3]
          have e : l.length - i = (l.length - 1 - i) + 1 := by omega
          rw [e, Nat.pow_succ, Nat.mul_comm (256 ^ (l.length - 1 - i)) 256, ← Nat.div_div_eq_div_mul]
          congr 2
          omega
        · have e : i = l.length := by rw [hl] at hm; omega
          subst e
          rw [Nat.sub_self, Nat.pow_zero, Nat.div_one, List.getElem_append_right (Nat.le_refl _)]
          simp only [Nat.sub_self, List.getElem_cons_zero]
          apply UInt8.toNat_inj.1
          rw [UInt8.toNat_ofNat']
          omega
  intro l
  have := key l l.length (Nat.le_refl _)
  rwa [List.take_length] at this

theorem take_snoc {l : List UInt8} {m : Nat} (h : m < l.length) : l.take (m + 1) = l.take m ++ [l[m]] := List.take_succ_eq_append_getElem h
theorem pow_256 (s : Nat) : 2 ^ (8 * s) = 256 ^ s := by rw [Nat.pow_mul]
/-- The next byte, put in at its place. -/
theorem or_step (a b s : Nat) (hb : b < 256) : (a * 256 ^ (s + 1)) ||| (b * 2 ^ (8 * s)) = (256 * a + b) * 256 ^ s := by
  have h1 : b * 2 ^ (8 * s) < 2 ^ (8 * (s + 1)) := by
    rw [pow_256, pow_256, Nat.pow_succ, Nat.mul_comm (256 ^ s)]
    exact (Nat.mul_lt_mul_right (Nat.pow_pos (by decide))).2 hb
  rw [← pow_256 (s + 1), Nat.mul_comm a, ← Nat.two_pow_add_eq_or_of_lt h1, pow_256, pow_256, Nat.pow_succ, Nat.add_mul]
  congr 1
  rw [Nat.mul_assoc, Nat.mul_comm (256 ^ s), Nat.mul_assoc, Nat.mul_comm a]
theorem fit_lt {a s k : Nat} {n : Nat} (h : a < 256 ^ n) (hk : n + s ≤ 8) : a * 256 ^ s < 18446744073709551616 := by
  have h1 : a * 256 ^ s < 256 ^ n * 256 ^ s := (Nat.mul_lt_mul_right (Nat.pow_pos (by decide))).2 h
  rw [← Nat.pow_add] at h1
  exact Nat.lt_of_lt_of_le h1 (Nat.le_trans (Nat.pow_le_pow_right (by decide) hk) (by decide))

/-! ### what Get and Set tell -/
def pieceOf (l : List UInt8) (p k : Nat) : List UInt8 := (l.drop p).take k
/-- The number at a place. -/
def getN (l : List UInt8) (p k : Int) : Nat := if errM l.length p k = 0 then beN (pieceOf l p.toNat k.toNat) else 0
/-- A number is put there. -/
def putN (L : List UInt8) (p k v m : Nat) : List UInt8 := L.take p ++ hiB k v m ++ L.drop (p + m)
def setN (n : Nat) (L : List UInt8) (p k : Int) (v : Nat) : List UInt8 := if errM n p k = 0 then putN L p.toNat k.toNat v k.toNat else L
theorem putN_0 (L : List UInt8) (p k v : Nat) : putN L p k v 0 = L := by simp [putN, hiB]
theorem putN_length {L : List UInt8} {p k v m : Nat} (h : p + m ≤ L.length) : (putN L p k v m).length = L.length := by
  simp [putN, hiB_length]
  omega
theorem putN_set {L : List UInt8} {p k v m : Nat} (h : p + m < L.length) : (putN L p k v m).set (p + m) (UInt8.ofNat (v / 256 ^ (k - 1 - m))) = putN L p k v (m + 1) := by
  unfold putN
  have hl : (L.take p ++ hiB k v m).length = p + m := by simp [hiB_length]; omega
  rw [List.set_append_right _ _ (by rw [hl]; exact Nat.le_refl _), hl, Nat.sub_self, hiB_succ]
  have e : L.drop (p + m) = L[p + m] :: L.drop (p + (m + 1)) := by rw [← List.getElem_cons_drop h]; rfl
  rw [e]
  simp
theorem errM_0 {n : Nat} {p k : Int} (h : errM n p k = 0) : isz k = true ∧ 0 ≤ p ∧ p + k ≤ n := by
  unfold errM at h
  split at h
  · cases h
  · rename_i hz
    split at h
    · cases h
    · rename_i hp
      have := isz_rng (k := k) (by simpa using hz)
      refine ⟨by simpa using hz, by omega, by omega⟩
theorem errM_ok {n : Nat} {p k : Int} (hz : isz k = true) (h0 : 0 ≤ p) (h1 : p + k ≤ n) : errM n p k = 0 := by
  unfold errM
  rw [if_neg (by rw [hz]; decide), if_neg (by omega)]
end Go.Proofs.YtgddfclclibcgaaDoor.pk
