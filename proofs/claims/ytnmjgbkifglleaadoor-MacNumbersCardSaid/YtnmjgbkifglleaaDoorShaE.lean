/-
  Contracts: a message's end; a state's bytes.
-/
import Derived.Test.YtnmjgbkifglleaaDoorShaD
import Derived.Lib.AppendZerosOnto
namespace Go.Proofs.YtnmjgbkifglleaaDoor.sha
open Go.RowKit Go.Proofs.YtnmjgbkifglleaaDoor.mem
set_option linter.unusedVariables false

theorem byte_inf : (Tryd.prog.info? 5).map (fun i => (i.zero, i.size, i.bytes)) = some (some (.int .u8 0), 1, 1) := by kernel_rfl
theorem byte_one : (Tryd.prog.info? 5).map (·.size) = some 1 := by kernel_rfl
def zrow (n : Nat) : Array Value := madeCells (Value.int .u8 0).cells n
theorem make_bytes (n c : Nat) (hnc : n ≤ c) (hc : c ≤ 140737488355328) (W : World) :
    (Instr.makeSlice 22 (.int .i64 (n : Int)) (.int .i64 (c : Int))).run Tryd.prog W = .ok (.slice (some ⟨W.heap.size, 0, none⟩) n c) (W.alloc (.cells (zrow c) 5)) := by
  obtain ⟨i0, hi, hz0, hz1, hz2⟩ := info_parts byte_inf
  have hr := run_make (P := Tryd.prog) W 22 5 i0 _ Tryd.underlying22 hi hz0 .i64 .i64 n c (by omega) (by omega) (by rw [hz2]; omega) (by omega)
  simp only [Int.toNat_natCast, hz1, Nat.mul_one] at hr
  exact hr
/-- A block that holds just these bytes. -/
def Bf (W : World) (g : Nat) (X : List UInt8) : Prop := Blk W g 5 (vb X).toArray
theorem Bf.set {W : World} {g : Nat} {X : List UInt8} (h : Bf W g X) (i : Nat) (b : UInt8) : Bf (W.setCell ⟨g, i, none⟩ (.int .u8 (b.toNat : Int))) g (X.set i b) := by
  have h2 := Blk.set_ h i (.int .u8 (b.toNat : Int))
  have e : (vb X).toArray.setIfInBounds i (.int .u8 (b.toNat : Int)) = (vb (X.set i b)).toArray := by simp [vb, List.map_set]
  rw [e] at h2
  exact h2
theorem Bf.cell {W : World} {g : Nat} {X : List UInt8} (h : Bf W g X) {i : Nat} (hi : i < X.length) : ∃ v, W.cell? ⟨g, i, none⟩ = some v := by
  refine ⟨.int .u8 (X[i].toNat : Int), (Blk.cell h i).trans ?_⟩
  simpa using vb_get X i hi
theorem Bf.reads {W : World} {g : Nat} {X : List UInt8} (h : Bf W g X) : Reads W W.heap.size 1 (some ⟨g, 0, none⟩) X.length (vb X) := by
  refine ⟨by rw [vb_length, Nat.mul_one], fun _ => ⟨_, rfl, Blk.lt h, fun j u hu => ?_⟩⟩
  rw [Addr.add_lit, Nat.zero_add, Blk.cell h j]
  simpa using hu
theorem start_row (sz m n : Nat) (l : List UInt8) (Z : Array Value) (hZ : Z.toList = vb (List.replicate sz 0)) (hm : m = l.length) (h9 : m + 9 ≤ sz) (hb : (be8 (8 * n)).length = 8) (pre : List UInt8) (hpre : l ++ 128 :: List.replicate (sz - 9 - m) (0 : UInt8) = pre) (T : List UInt8) (hT : T = List.replicate 8 0) :
    (splice Z.toList 0 (vb l)).toArray.setIfInBounds m (.int .u8 128) = (vb (pre ++ T)).toArray := by
  have hvl : (vb l).length = m := by rw [vb_length, hm]
  have e1 : splice Z.toList 0 (vb l) = vb (l ++ List.replicate (sz - m) 0) := by
    rw [hZ, splice, vb_append, hvl]
    simp [vb]
  have e2 : pre ++ T = (l ++ List.replicate (sz - m) 0).set m 128 := by
    have e3 : List.replicate (sz - l.length) (0 : UInt8) = 0 :: (List.replicate (sz - 9 - l.length) 0 ++ List.replicate 8 0) := by
      rw [List.replicate_append_replicate, ← List.replicate_succ]
      congr 1
      omega
    rw [← hpre, hT, hm, List.set_append_right _ _ (Nat.le_refl _), Nat.sub_self, e3, List.set_cons_zero]
    simp
  rw [e1, e2]
  simp [vb, List.map_set]
theorem be8_at (m k : Nat) (h : k < 8) : (be8 m)[7 - k]? = some (UInt8.ofNat (m / 2 ^ (8 * k))) := by
  match k, h with
  | 0, _ => simp [be8]
  | 1, _ => rfl
  | 2, _ => rfl
  | 3, _ => rfl
  | 4, _ => rfl
  | 5, _ => rfl
  | 6, _ => rfl
  | 7, _ => rfl
def tailB (n k : Nat) : List UInt8 := List.replicate (8 - k) 0 ++ (be8 (8 * n)).drop (8 - k)
theorem tailB_length (n k : Nat) (h : k ≤ 8) : (tailB n k).length = 8 := by simp [tailB, be8]
theorem tailB_set (n k : Nat) (h : k < 8) : (tailB n k).set (7 - k) (UInt8.ofNat (8 * n / 2 ^ (8 * k))) = tailB n (k + 1) := by
  have hb := be8_at (8 * n) k h
  obtain ⟨hlt, e⟩ := List.getElem?_eq_some_iff.1 hb
  unfold tailB
  rw [← e, show 8 - k = (7 - k) + 1 by omega, show 8 - (k + 1) = 7 - k by omega, List.replicate_succ', List.append_assoc, List.set_append_right _ _ (by simp), List.length_replicate, Nat.sub_self]
  conv => rhs; rw [List.drop_eq_getElem_cons hlt]
  rfl
theorem tail_val (n k : Nat) (X : Nat) (hX : X = 8 * n / 2 ^ (8 * k)) : (8 * (n : Int)) / 2 ^ (8 * k) % 256 = ((UInt8.ofNat X).toNat : Int) := by
  have e : (8 * (n : Int)) / 2 ^ (8 * k) = ((8 * n / 2 ^ (8 * k) : Nat) : Int) := by simp
  rw [e, ← hX, UInt8.toNat_ofNat']
  omega

theorem copy_src {w : World} {B m : Nat} {A : Option Addr} {xs : List Value} (h : Reads w B 1 A m xs) (h0 : 0 < m) : ∃ ad, A = some ad ∧ ∀ j v, xs[j]? = some v → w.cell? (ad.add j) = some v := by
  obtain ⟨ad, e, -, hc⟩ := h.2 h0
  exact ⟨ad, e, hc⟩
theorem copy_in {W : World} {g : Nat} {Z : Array Value} (sz : Nat) (hg : Blk W g 5 Z) (hz : Z.size = sz) (A : Option Addr) (m c : Nat) (xs : List Value) (hx : xs.length = m) (hm : m ≤ sz) (h1 : ∀ v ∈ xs, v.oneCell' = true) (hA : 0 < m → ∃ ad, A = some ad ∧ ∀ j v, xs[j]? = some v → W.cell? (ad.add j) = some v) (ty : TypeId) :
    ∃ W2, (Builtin.copy_ #[22, 22] ty #[.slice (some ⟨g, 0, none⟩) sz sz, .slice A m c]).run Tryd.prog W = .ok (.int .i64 (m : Int)) W2 ∧ Blk W2 g 5 (splice Z.toList 0 xs).toArray ∧ ∀ B a, Below B a W → B ≤ g → Below B a W2 := by
  by_cases h0 : m = 0
  · subst h0
    obtain rfl : xs = [] := List.eq_nil_of_length_eq_zero hx
    refine ⟨W, run_copy_none (P := Tryd.prog) W 22 22 ty 5 _ A sz sz 0 c Tryd.underlying22 byte_one (by simp), ?_, fun B a h _ => h⟩
    simpa [splice] using hg
  · obtain ⟨ad, rfl, hc⟩ := hA (by omega)
    have hr := run_copy_row (P := Tryd.prog) W 22 22 ty 5 g 0 sz sz ad m c Z 5 xs Tryd.underlying22 byte_one hg (by rw [hx]; exact (Nat.min_eq_left hm).symm) hc (by rw [hx, hz]; omega) h1
    rw [hx] at hr
    refine ⟨_, hr, ?_, fun B a h hB => below_setRow h hB _⟩
    have h3 := Blk.row hg (Z.toList.take 0 ++ xs ++ Z.toList.drop (0 + m)).toArray
    simpa [splice, hx] using h3
theorem splice_cell {w : World} {g : Nat} {t : TypeId} {L : List Value} (h : w.heap[g]? = some (.cells L.toArray t (0, 0))) {i : Nat} (hi : i < L.length) : ∃ v, w.cell? ⟨g, i, none⟩ = some v := by
  refine ⟨L[i], (Blk.cell (t := t) h i).trans ?_⟩
  simp [hi]

theorem zrow_64 : (zrow 64).toList = vb (List.replicate 64 0) := by kernel_rfl
set_option maxRecDepth 100000 in
set_option maxHeartbeats 4000000 in
theorem end_64 (A : Option Addr) (m c n : Nat) (l : List UInt8) (w : World) (hm : m = l.length) (h64 : m < 56) (hn : n ≤ 1099511627776) (hA : Reads w w.heap.size 1 A m (vb l)) :
    Calls Tryd.prog 24 #[.slice A m c, .int .u64 n] w fun e w' => e = .returned (.slice (some ⟨w.heap.size, 0, none⟩) 64 64) ∧ Bf w' w.heap.size (pad l n) ∧ New w w' := by
  have hmk : ∀ W : World, (Instr.makeSlice 22 (.int .i64 64) (.int .i64 64)).run Tryd.prog W = .ok (.slice (some ⟨W.heap.size, 0, none⟩) 64 64) (W.alloc (.cells (zrow 64) 5)) := fun W => make_bytes 64 64 (by omega) (by omega) W
  have hvl : (vb l).length = m := by rw [vb_length, hm]
  have hz : (zrow 64).toList.length = 64 := by rw [zrow_64, vb_length, List.length_replicate]
  have hA1 : Reads (w.alloc (.cells (zrow 64) 5)) w.heap.size 1 A m (vb l) := hA.alloc (Nat.le_refl _) _
  have HL := Lib.hid hm
  obtain ⟨pre, hpre⟩ : ∃ pre, l ++ 128 :: List.replicate (64 - 9 - m) (0 : UInt8) = pre := ⟨_, rfl⟩
  have hpl : pre.length = 64 - 8 := by rw [← hpre]; simp; omega
  have hpad : pad l n = pre ++ tailB n 8 := by
    rw [← hpre, pad, padz, ← hm, if_pos h64]
    simp [tailB]
  have hst := start_row 64 m n l (zrow 64) zrow_64 hm (by omega) rfl pre hpre (tailB n 0) (by simp [tailB, be8])
  obtain ⟨Z, hZ⟩ : ∃ Z, zrow 64 = Z := ⟨_, rfl⟩
  rw [hZ] at hst hmk hz hA1
  rw [hpad]
  have HST := Lib.hid hst
  have HA := Lib.hid hA1
  have HPL := Lib.hid hpl
  obtain ⟨w2, hcp, hg2, hbl⟩ := copy_in 64 (Blk.new w 5 Z) (by rw [← hz, Array.length_toList]) A m c (vb l) hvl (by omega) (vb_one l) (fun h0 => copy_src HA.out h0) 3
  have hn2 : New w w2 := hbl _ _ ((new_refl w).alloc (Nat.le_refl _) _) (Nat.le_refl _)
  have hfz := Blk.frozen hg2 m
  obtain ⟨v0, hv0⟩ := splice_cell hg2 (i := m) (by rw [length_splice _ _ _ (by rw [hz, hvl]; omega), hz]; omega)
  have HG2 := Lib.hid hg2
  have HN2 := Lib.hid hn2
  have hmi : (m : Int) < 64 := by omega
  have hmi2 : ¬ ((m : Int) + 1 + 8 > 64) := by omega
  clear hst hpl hpad hA hA1 hZ hpre hvl hz hm hbl hg2 hn2 HA
  go_enter Tryd.func24, Tryd.ntmps24
  go_wp2
  have HB0 : Hid (Bf (w2.setCell ⟨w.heap.size, m, none⟩ (.int .u8 128)) w.heap.size (pre ++ tailB n 0)) := Lib.hid (by
    have h := Blk.set_ (w := w2) (t := 5) HG2.out m (.int .u8 128)
    rw [HST.out] at h
    exact h)
  have HN0 := Lib.hid (Below.setCell HN2.out (p := ⟨w.heap.size, m, none⟩) (Nat.le_refl _) (.int .u8 128))
  go_loopw [8, 26] (fun _ i wr => ∃ k : Nat, k ≤ 8 ∧ i = .int .i64 k ∧ Bf wr w.heap.size (pre ++ tailB n k) ∧ New w wr) (fun _ i _ => 8 - (intOf i).toNat)
  case atStart => exact ⟨0, Nat.zero_le _, rfl, HB0.out, HN0.out⟩
  case round =>
    clear HB0 HN0 hfz hv0 hcp hmk HG2 HN2
    obtain ⟨k, hk, rfl, hb, hnw⟩ := hrel
    have HB := Lib.hid hb
    have HN := Lib.hid hnw
    clear hb hnw
    by_cases hlt : k < 8
    · have hlt' : (k : Int) < 8 := by omega
      obtain ⟨v1, hv1⟩ := HB.out.cell (i := 64 - 1 - k) (by rw [List.length_append, HPL.out, tailB_length n k hk]; omega)
      have hfz := Blk.frozen HB.out (64 - 1 - k)
      have HV := Lib.hid (tail_val n k _ rfl)
      go_wp2
      go_roundw
      case rel =>
        refine ⟨k + 1, by omega, by go_num, ?_, HN.out.setCell (Nat.le_refl _) _⟩
        rw [HV.out]
        have h := HB.out.set (64 - 1 - k) (UInt8.ofNat (8 * n / 2 ^ (8 * k)))
        rw [List.set_append_right _ _ (by rw [HPL.out]; omega), HPL.out, show 64 - 1 - k - (64 - 8) = 7 - k by omega, tailB_set n k hlt] at h
        exact h
      case measure => simp [intOf]; omega
    · obtain rfl : k = 8 := by omega
      go_wp2
      go_ret
      exact ⟨rfl, HB.out, HN.out⟩

theorem zrow_128 : (zrow 128).toList = vb (List.replicate 128 0) := by kernel_rfl
set_option maxRecDepth 100000 in
set_option maxHeartbeats 4000000 in
theorem end_128 (A : Option Addr) (m c n : Nat) (l : List UInt8) (w : World) (hm : m = l.length) (h64 : 56 ≤ m ∧ m < 64) (hn : n ≤ 1099511627776) (hA : Reads w w.heap.size 1 A m (vb l)) :
    Calls Tryd.prog 24 #[.slice A m c, .int .u64 n] w fun e w' => e = .returned (.slice (some ⟨w.heap.size, 0, none⟩) 128 128) ∧ Bf w' w.heap.size (pad l n) ∧ New w w' := by
  have hmk : ∀ W : World, (Instr.makeSlice 22 (.int .i64 128) (.int .i64 128)).run Tryd.prog W = .ok (.slice (some ⟨W.heap.size, 0, none⟩) 128 128) (W.alloc (.cells (zrow 128) 5)) := fun W => make_bytes 128 128 (by omega) (by omega) W
  have hvl : (vb l).length = m := by rw [vb_length, hm]
  have hz : (zrow 128).toList.length = 128 := by rw [zrow_128, vb_length, List.length_replicate]
  have hA1 : Reads (w.alloc (.cells (zrow 128) 5)) w.heap.size 1 A m (vb l) := hA.alloc (Nat.le_refl _) _
  have HL := Lib.hid hm
  obtain ⟨pre, hpre⟩ : ∃ pre, l ++ 128 :: List.replicate (128 - 9 - m) (0 : UInt8) = pre := ⟨_, rfl⟩
  have hpl : pre.length = 128 - 8 := by rw [← hpre]; simp; omega
  have hpad : pad l n = pre ++ tailB n 8 := by
    rw [← hpre, pad, padz, ← hm, if_neg (by omega)]
    simp [tailB]
  have hst := start_row 128 m n l (zrow 128) zrow_128 hm (by omega) rfl pre hpre (tailB n 0) (by simp [tailB, be8])
  obtain ⟨Z, hZ⟩ : ∃ Z, zrow 128 = Z := ⟨_, rfl⟩
  rw [hZ] at hst hmk hz hA1
  rw [hpad]
  have HST := Lib.hid hst
  have HA := Lib.hid hA1
  have HPL := Lib.hid hpl
  obtain ⟨w2, hcp, hg2, hbl⟩ := copy_in 128 (Blk.new w 5 Z) (by rw [← hz, Array.length_toList]) A m c (vb l) hvl (by omega) (vb_one l) (fun h0 => copy_src HA.out h0) 3
  have hn2 : New w w2 := hbl _ _ ((new_refl w).alloc (Nat.le_refl _) _) (Nat.le_refl _)
  have hfz := Blk.frozen hg2 m
  obtain ⟨v0, hv0⟩ := splice_cell hg2 (i := m) (by rw [length_splice _ _ _ (by rw [hz, hvl]; omega), hz]; omega)
  have HG2 := Lib.hid hg2
  have HN2 := Lib.hid hn2
  have hmi : (m : Int) < 128 := by omega
  have hmi2 : ((m : Int) + 1 + 8 > 64) := by omega
  clear hst hpl hpad hA hA1 hZ hpre hvl hz hm hbl hg2 hn2 HA
  go_enter Tryd.func24, Tryd.ntmps24
  go_wp2
  have HB0 : Hid (Bf (w2.setCell ⟨w.heap.size, m, none⟩ (.int .u8 128)) w.heap.size (pre ++ tailB n 0)) := Lib.hid (by
    have h := Blk.set_ (w := w2) (t := 5) HG2.out m (.int .u8 128)
    rw [HST.out] at h
    exact h)
  have HN0 := Lib.hid (Below.setCell HN2.out (p := ⟨w.heap.size, m, none⟩) (Nat.le_refl _) (.int .u8 128))
  go_loopw [8, 26] (fun _ i wr => ∃ k : Nat, k ≤ 8 ∧ i = .int .i64 k ∧ Bf wr w.heap.size (pre ++ tailB n k) ∧ New w wr) (fun _ i _ => 8 - (intOf i).toNat)
  case atStart => exact ⟨0, Nat.zero_le _, rfl, HB0.out, HN0.out⟩
  case round =>
    clear HB0 HN0 hfz hv0 hcp hmk HG2 HN2
    obtain ⟨k, hk, rfl, hb, hnw⟩ := hrel
    have HB := Lib.hid hb
    have HN := Lib.hid hnw
    clear hb hnw
    by_cases hlt : k < 8
    · have hlt' : (k : Int) < 8 := by omega
      obtain ⟨v1, hv1⟩ := HB.out.cell (i := 128 - 1 - k) (by rw [List.length_append, HPL.out, tailB_length n k hk]; omega)
      have hfz := Blk.frozen HB.out (128 - 1 - k)
      have HV := Lib.hid (tail_val n k _ rfl)
      go_wp2
      go_roundw
      case rel =>
        refine ⟨k + 1, by omega, by go_num, ?_, HN.out.setCell (Nat.le_refl _) _⟩
        rw [HV.out]
        have h := HB.out.set (128 - 1 - k) (UInt8.ofNat (8 * n / 2 ^ (8 * k)))
        rw [List.set_append_right _ _ (by rw [HPL.out]; omega), HPL.out, show 128 - 1 - k - (128 - 8) = 7 - k by omega, tailB_set n k hlt] at h
        exact h
      case measure => simp [intOf]; omega
    · obtain rfl : k = 8 := by omega
      go_wp2
      go_ret
      exact ⟨rfl, HB.out, HN.out⟩
end Go.Proofs.YtnmjgbkifglleaaDoor.sha
