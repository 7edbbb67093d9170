/-
  The document's times.
-/
import Derived.Test.YtnmjgbkifglleaaDoorShaQ
import Derived.Test.YtnmjgbkifglleaaDoorShaE
import Derived.Deep.RegionHeld3
namespace Go.Proofs.YtnmjgbkifglleaaDoor.sha
open Go.RowKit Go.Proofs.YtnmjgbkifglleaaDoor.mem
set_option linter.unusedVariables false
theorem quad_inf : (Tryd.prog.info? 40).map (fun i => (i.zero, i.size, i.bytes)) = some (some (.int .u64 0), 1, 8) := by kernel_rfl
def qrow (n : Nat) : Array Value := madeCells (Value.int .u64 0).cells n
theorem make_quads (n : Nat) (hc : n ≤ 1000000) (x : Int) (hx : x = (n : Int)) (W : World) :
    (Instr.makeSlice 42 (.int .i64 x) (.int .i64 x)).run Tryd.prog W = .ok (.slice (some ⟨W.heap.size, 0, none⟩) n n) (W.alloc (.cells (qrow n) 40)) := by
  subst hx
  obtain ⟨i0, hi, hz0, hz1, hz2⟩ := info_parts quad_inf
  have hr := run_make (P := Tryd.prog) W 42 40 i0 _ Tryd.underlying42 hi hz0 .i64 .i64 n n (by omega) (by omega) (by rw [hz2]; omega) (by omega)
  simp only [Int.toNat_natCast, hz1, Nat.mul_one] at hr
  exact hr
theorem qrow_eq (n : Nat) : qrow n = (vq (List.replicate n 0)).toArray := by
  unfold qrow madeCells vq
  apply Array.ext'
  simp [Value.cells, Nat.mod_one]
  apply List.ext_getElem
  · simp
  · intro i h1 h2
    simp
/-- A block that holds just these words. -/
def Qf (W : World) (g : Nat) (X : List Nat) : Prop := Blk W g 40 (vq X).toArray
theorem Qf.set {W : World} {g : Nat} {X : List Nat} (h : Qf W g X) (i : Nat) (b : Nat) : Qf (W.setCell ⟨g, i, none⟩ (.int .u64 (b : Int))) g (X.set i b) := by
  have h2 := Blk.set_ h i (.int .u64 (b : Int))
  have e : (vq X).toArray.setIfInBounds i (.int .u64 (b : Int)) = (vq (X.set i b)).toArray := by simp [vq, List.map_set]
  rw [e] at h2
  exact h2
theorem Qf.cell {W : World} {g : Nat} {X : List Nat} (h : Qf W g X) {i : Nat} (hi : i < X.length) : W.cell? ⟨g, i, none⟩ = some (.int .u64 (X[i] : Int)) := by
  refine (Blk.cell h i).trans ?_
  simpa using vq_get X i hi
theorem Qf.reads {W : World} {g : Nat} {X : List Nat} (h : Qf W g X) : Reads W W.heap.size 1 (some ⟨g, 0, none⟩) X.length (vq X) := by
  refine ⟨by rw [vq_length, Nat.mul_one], fun _ => ⟨_, rfl, Blk.lt h, fun j u hu => ?_⟩⟩
  rw [Addr.add_lit, Nat.zero_add, Blk.cell h j]
  simpa using hu
/-- What times has made so far. -/
structure TS (w : World) (g N lim : Nat) (o : List Nat) (wr : World) : Prop where
  new : New w wr
  q : Qf wr g o
  len : o.length = N
  lt : ∀ x ∈ o, x < 4294967296
  zero : ∀ j, lim ≤ j → o.getD j 0 = 0
theorem TS.start (w : World) (N lim : Nat) : TS w w.heap.size N lim (List.replicate N 0) (w.alloc (.cells (qrow N) 40)) := by
  refine ⟨(new_refl w).alloc (Nat.le_refl _) _, ?_, by simp, fun x hx => by simp at hx; omega, fun j _ => by simp [List.getD_eq_getElem?_getD, List.getElem?_replicate]; split <;> rfl⟩
  rw [qrow_eq]
  exact Blk.new w _ _
theorem TS.set {w wr : World} {N lim lim' : Nat} {o : List Nat} (h : TS w w.heap.size N lim o wr) (i v : Nat) (hi : i < lim') (hl : lim ≤ lim') (hv : v < 4294967296) : TS w w.heap.size N lim' (o.set i v) (wr.setCell ⟨w.heap.size, i, none⟩ (.int .u64 (v : Int))) := by
  refine ⟨h.new.setCell (by simp) _, h.q.set i v, by rw [List.length_set]; exact h.len, fun x hx => ?_, fun j hj => ?_⟩
  · rcases List.mem_or_eq_of_mem_set hx with h1 | rfl
    · exact h.lt x h1
    · exact hv
  · rw [List.getD_eq_getElem?_getD, List.getElem?_set_ne (by omega), ← List.getD_eq_getElem?_getD]
    exact h.zero j (by omega)
theorem TS.drewN {w wr : World} {g N lim : Nat} {o : List Nat} (h : TS w g N lim o wr) (k : Nat) : TS w g N lim o (wr.drewN k) := ⟨h.new.drewN k, h.q.drewN k, h.len, h.lt, h.zero⟩
theorem TS.cell {w wr : World} {g N lim : Nat} {o : List Nat} (h : TS w g N lim o wr) (i : Nat) (hi : i < N) : ∃ x, x < 4294967296 ∧ o[i]? = some x ∧ wr.cell? ⟨g, i, none⟩ = some (.int .u64 (x : Int)) := by
  have hl : i < o.length := by rw [h.len]; exact hi
  exact ⟨o[i], h.lt _ (List.getElem_mem hl), List.getElem?_eq_getElem hl, h.q.cell hl⟩
theorem step_at {a o b : List Nat} {i k x y z v r S : Nat} (hz : o[i + k]? = some z) (hv : b[k]? = some v) (hA : a.getD i 0 = y) (hr : y * v = r)
    (h : num o + x * 4294967296 ^ (i + k) = S + a.getD i 0 * num (b.take k) * 4294967296 ^ i) :
    num (o.set (i + k) ((z + r + x) % 4294967296)) + (z + r + x) / 4294967296 * 4294967296 ^ (i + (k + 1)) = S + a.getD i 0 * num (b.take (k + 1)) * 4294967296 ^ i := by
  obtain ⟨h1, e1⟩ := List.getElem?_eq_some_iff.1 hz
  obtain ⟨h2, e2⟩ := List.getElem?_eq_some_iff.1 hv
  exact step_num o b i k x (z + r + x) (a.getD i 0) S h2 h1 (by rw [e1, e2, hA, hr]) h
theorem round_num (a b o : List Nat) (i m x z : Nat) {n : Nat} (hn : n = a.length) (hm : m = b.length) (hi : i < n) (hz : o[i + m]? = some z) (h0 : o.getD (i + m) 0 = 0)
    (h : num o + x * 4294967296 ^ (i + m) = num (a.take i) * num b + a.getD i 0 * num (b.take m) * 4294967296 ^ i) : num (o.set (i + m) x) = num (a.take (i + 1)) * num b := by
  obtain ⟨hl, e⟩ := List.getElem?_eq_some_iff.1 hz
  have h2 := num_set o (i + m) x hl
  have e0 : o[i + m] = 0 := by rw [← h0]; simp [List.getD_eq_getElem?_getD, hl]
  have hia : i < a.length := by omega
  have ea : a.getD i 0 = a[i] := by simp [List.getD_eq_getElem?_getD, hia]
  rw [e0, Nat.zero_mul, Nat.add_zero, h, hm, List.take_length, ea] at h2
  rw [hm, h2, num_take_succ a i hia, Nat.add_mul]
  congr 1
  rw [Nat.mul_assoc, Nat.mul_comm (num b), ← Nat.mul_assoc]
set_option maxRecDepth 100000 in
set_option maxHeartbeats 4000000 in
theorem rtimes_any (A B : Option Addr) (c d n m : Nat) (a b : List Nat) (w : World) (ha : ∀ x ∈ a, x < 4294967296) (hb : ∀ x ∈ b, x < 4294967296) (hn : n = a.length) (hm : m = b.length) (h0 : 0 < n) (hla : n ≤ 1000) (hlb : m ≤ 1000)
    (hA : Reads w w.heap.size 1 A n (vq a)) (hB : Reads w w.heap.size 1 B m (vq b)) :
    Calls Tryd.prog 66 #[.slice A n c, .slice B m d] w fun e w' => ∃ o, e = .returned (.slice (some ⟨w.heap.size, 0, none⟩) (n + m) (n + m)) ∧ TS w w.heap.size (n + m) (n + m) o w' ∧ num o = num a * num b := by
  have hmk : ∀ W : World, (Instr.makeSlice 42 (.int .i64 ((n : Int) + (m : Int))) (.int .i64 ((n : Int) + (m : Int)))).run Tryd.prog W = .ok (.slice (some ⟨W.heap.size, 0, none⟩) (n + m) (n + m)) (W.alloc (.cells (qrow (n + m)) 40)) := fun W => make_quads (n + m) (by omega) _ (by omega) W
  have ha0 := Lib.hid ha
  have hb0 := Lib.hid hb
  have hn0 := Lib.hid hn
  have hm0 := Lib.hid hm
  clear ha hb hn hm
  go_enter Tryd.func66, Tryd.ntmps66
  go_wp2
  go_loopw [6] (fun v wr => ∃ i : Nat, i ≤ n ∧ v = .int .i64 (i : Int) ∧ ∃ o, TS w w.heap.size (n + m) (i + m) o wr ∧ Hid (num o = num (a.take i) * num b)) (fun v _ => n - (intOf v).toNat)
  case atStart => exact ⟨0, Nat.zero_le _, rfl, _, TS.start w (n + m) _, Lib.hid (by simp [num_zeros, num])⟩
  case round =>
    obtain ⟨i, hi, rfl, o, hT, HV⟩ := hrel
    by_cases hlt : i < n
    · go_wp2
      go_loopw [7, 8] (fun v u wr => ∃ k x : Nat, k ≤ m ∧ x < 4294967296 ∧ v = .int .u64 (x : Int) ∧ u = .int .i64 (k : Int) ∧ ∃ o, TS w w.heap.size (n + m) (i + m) o wr ∧ Hid (num o + x * 4294967296 ^ (i + k) = num (a.take i) * num b + a.getD i 0 * num (b.take k) * 4294967296 ^ i)) (fun _ u _ => m - (intOf u).toNat)
      case atStart => exact ⟨0, 0, Nat.zero_le _, by omega, rfl, rfl, o, hT, Lib.hid (by simp [num, HV.out])⟩
      case round =>
        obtain ⟨k, x, hk, hx, rfl, rfl, o, hT, HV⟩ := hrel
        by_cases hkm : k < m
        · obtain ⟨p, u, rfl, hp, hu, hc⟩ := hA.at_ hlt
          obtain ⟨q, u', rfl, hq, hu', hc'⟩ := hB.at_ hkm
          rw [vq_get a i (by rw [← hn0.out]; exact hlt)] at hu
          rw [vq_get b k (by rw [← hm0.out]; exact hkm)] at hu'
          injection hu with hu
          injection hu' with hu'
          subst hu
          subst hu'
          have h1 := (hT.new.cell (p := p.add i) (by rw [block_of_add]; exact hp)).trans hc
          have h2 := (hT.new.cell (p := q.add k) (by rw [block_of_add]; exact hq)).trans hc'
          obtain ⟨z, hz, hoz, h3⟩ := hT.cell (i + k) (by omega)
          have h4 := hT.q.frozen (i + k)
          have hy := ha0.out a[i] (List.getElem_mem _)
          have hv := hb0.out b[k] (List.getElem_mem _)
          have HA : Hid (a.getD i 0 = a[i]) := Lib.hid (by simp [List.getD_eq_getElem?_getD, ← hn0.out, hlt])
          have HB : Hid (b[k]? = some b[k]) := Lib.hid (List.getElem?_eq_getElem _)
          have HZ := Lib.hid hoz
          clear hc hc' hoz
          generalize a[i] = y at *
          generalize b[k] = v at *
          obtain ⟨r, hr⟩ : ∃ r, y * v = r := ⟨_, rfl⟩
          have hrb : r ≤ 18446744065119617025 := by rw [← hr]; exact Nat.mul_le_mul (show y ≤ 4294967295 by omega) (show v ≤ 4294967295 by omega)
          have hri : (y : Int) * (v : Int) = (r : Int) := by rw [← hr]; simp
          have hand : bits BinOp.and IntKind.u64 ((z : Int) + (r : Int) + (x : Int)) 4294967295 = (((z + r + x) % 4294967296 : Nat) : Int) := by
            rw [show (z : Int) + (r : Int) + (x : Int) = ((z + r + x : Nat) : Int) by omega, show (4294967295 : Int) = ((4294967295 : Nat) : Int) from rfl, u64_and_nat _ _ (by omega) (by omega), show (4294967295 : Nat) = 2 ^ 32 - 1 from rfl, Nat.and_two_pow_sub_one_eq_mod]
          have HR := Lib.hid hr
          clear hr
          go_wp2
          go_quiet (fail)
          go_wp2
          have e : ((z : Int) + (r : Int) + (x : Int)) % 4294967296 = (((z + r + x) % 4294967296 : Nat) : Int) := by omega
          have e2 : ((z : Int) + (r : Int) + (x : Int)) / 4294967296 = (((z + r + x) / 4294967296 : Nat) : Int) := by omega
          rw [e, e2]
          clear hand hri
          go_roundw
          case rel => exact ⟨k + 1, (z + r + x) / 4294967296, by omega, by omega, rfl, by go_num, _, (hT.drewN _).set (i + k) ((z + r + x) % 4294967296) (lim' := i + m) (by omega) (Nat.le_refl _) (by omega), Lib.hid (step_at HZ.out HB.out HA.out HR.out HV.out)⟩
          case measure => simp [intOf]; omega
        · obtain rfl : k = m := by omega
          obtain ⟨z, hz, hoz, h3⟩ := hT.cell (i + k) (by omega)
          have h4 := hT.q.frozen (i + k)
          have HZ := Lib.hid hoz
          clear hoz
          go_wp2
          go_roundw
          case rel => exact ⟨i + 1, by omega, by go_num, _, (hT.set (i + k) x (lim' := i + 1 + k) (by omega) (by omega) hx), Lib.hid (round_num a b o i k x z hn0.out hm0.out (by omega) HZ.out (hT.zero _ (Nat.le_refl _)) HV.out)⟩
          case measure => simp [intOf]; omega
    · obtain rfl : i = n := by omega
      go_wp2
      go_ret
      exact ⟨o, rfl, hT, by rw [HV.out, hn0.out, List.take_length]⟩
end Go.Proofs.YtnmjgbkifglleaaDoor.sha
