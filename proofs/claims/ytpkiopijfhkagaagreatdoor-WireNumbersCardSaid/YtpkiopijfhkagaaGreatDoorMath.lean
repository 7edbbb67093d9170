/-
  What bytes say, as plain mathematics: numbers there and back; what is cut.
-/
import Derived.Test.YtpkiopijfhkagaaGreatDoorNew
namespace Go.Proofs.YtpkiopijfhkagaaGreatDoor.rd
open Go.RowKit Go.Proofs.YtpkiopijfhkagaaGreatDoor.mem Go.Proofs.YtpkiopijfhkagaaGreatDoor.kit Go.Proofs.YtpkiopijfhkagaaGreatDoor.wire
set_option linter.unusedVariables false

theorem nbyte_nat (n : Int) (k : Nat) : (nbyte n k).toNat = (IntKind.u64.wrap n).toNat / 2 ^ (8 * (7 - k)) % 256 := by
  have h := nbyte_eq n k
  have h0 : 0 ≤ IntKind.u64.wrap n := by rw [IntKind.wrap_u64]; omega
  obtain ⟨m, hm⟩ := Int.eq_ofNat_of_zero_le h0
  rw [hm] at h ⊢
  have h2 : ((m : Int) / 2 ^ (8 * (7 - k)) % 256) = ((m / 2 ^ (8 * (7 - k)) % 256 : Nat) : Int) := by
    rw [Int.natCast_emod, Int.natCast_ediv, Int.natCast_pow]; rfl
  rw [h2] at h
  have := Int.ofNat.inj h
  simpa using this.symm

theorem wd_numB (n : Int) : wd (numB n) = (IntKind.u64.wrap n).toNat := by
  have hlt : (IntKind.u64.wrap n).toNat < 18446744073709551616 := by rw [IntKind.wrap_u64]; omega
  simp only [wd, numB, List.range, List.range.loop, List.map_cons, List.map_nil, List.foldl_cons, List.foldl_nil, nbyte_nat]
  generalize (IntKind.u64.wrap n).toNat = m at *
  simp only [Nat.reduceMul, Nat.reduceSub, Nat.reducePow]
  omega

theorem numV_numB (n : Int) (r : List UInt8) (h0 : -9223372036854775808 ≤ n) (h1 : n ≤ 9223372036854775807) : numV (numB n ++ r) = n := by
  unfold numV
  rw [List.take_append_of_le_length (by rw [numB_length]; omega), List.take_of_length_le (by rw [numB_length]; omega), wd_numB, IntKind.wrap_u64]
  unfold wrap64
  omega

theorem drop_numB (n : Int) (r : List UInt8) : (numB n ++ r).drop 8 = r := by
  have := List.drop_left (l₁ := numB n) (l₂ := r)
  rwa [numB_length] at this

/-- A number that is cut behind its end is the same. -/
theorem numV_take (l : List UInt8) (k : Nat) (h : 8 ≤ k) : numV (l.take k) = numV l := by
  unfold numV
  rw [List.take_take, Nat.min_eq_left h]

theorem lenB_canB (d r : List UInt8) (h : d.length ≤ 1099511627776) : canB (lenB d ++ r) ∧ valB (lenB d ++ r) = d ∧ restB (lenB d ++ r) = r := by
  have hn : numV (lenB d ++ r) = (d.length : Int) := by unfold lenB; rw [List.append_assoc]; exact numV_numB _ _ (by omega) (by omega)
  have hd : (lenB d ++ r).drop 8 = d ++ r := by unfold lenB; rw [List.append_assoc]; exact drop_numB _ _
  refine ⟨⟨by simp only [lenB, List.length_append, numB_length]; omega, by rw [hn]; omega, by rw [hn]; simp only [lenB, List.length_append, numB_length]; omega⟩, ?_, ?_⟩
  · unfold valB; rw [hn, hd]; simp
  · unfold restB; rw [hn, hd]; simp

/-- What is cut of bytes that may be read counted. -/
theorem cutB (R : List UInt8) (k : Nat) (hk : k < R.length) (h : canB (R.take k)) : ∃ k', restB (R.take k) = (restB R).take k' ∧ k' < (restB R).length := by
  obtain ⟨h8, v0, v1⟩ := h
  have hlen : (R.take k).length = k := by simp; omega
  rw [hlen] at h8 v1
  rw [numV_take R k h8] at v0 v1
  refine ⟨k - 8 - (numV R).toNat, ?_, ?_⟩
  · unfold restB
    rw [numV_take R k h8, List.drop_take, List.drop_take]
  · unfold restB
    rw [List.length_drop, List.length_drop]
    omega
theorem cutN (R : List UInt8) (k : Nat) (hk : k < R.length) (h : 8 ≤ (R.take k).length) : ∃ k', (R.take k).drop 8 = (R.drop 8).take k' ∧ k' < (R.drop 8).length := by
  have hlen : (R.take k).length = k := by simp; omega
  rw [hlen] at h
  exact ⟨k - 8, by rw [List.drop_take], by rw [List.length_drop]; omega⟩
theorem cutE (R : List UInt8) (k : Nat) (hk : k < R.length) (h : canE (R.take k)) : ∃ k', restE (R.take k) = (restE R).take k' ∧ k' < (restE R).length := by
  obtain ⟨h40, _, _, hb⟩ := h
  have hlen : (R.take k).length = k := by simp; omega
  rw [hlen] at h40
  unfold restE
  rw [List.drop_take] at hb ⊢
  exact cutB (R.drop 40) (k - 40) (by rw [List.length_drop]; omega) hb

theorem entB_canE (term kind version server : Int) (good : Bool) (d r : List UInt8) (t0 : -9223372036854775808 ≤ term) (t1 : term ≤ 9223372036854775807) (k0 : 0 ≤ kind) (k1 : kind ≤ 255)
    (v0 : -9223372036854775808 ≤ version) (v1 : version ≤ 9223372036854775807) (s0 : -9223372036854775808 ≤ server) (s1 : server ≤ 9223372036854775807) (hd : d.length ≤ 1099511627776) :
    canE (entB term kind version server good d ++ r) ∧ (∀ v, entV (entB term kind version server good d ++ r) v = ent term kind version server good v) ∧ dataE (entB term kind version server good d ++ r) = d ∧ restE (entB term kind version server good d ++ r) = r := by
  have e : entB term kind version server good d ++ r = numB term ++ (numB kind ++ (numB version ++ (numB server ++ (numB (trB good) ++ (lenB d ++ r))))) := by simp [entB]
  rw [e]
  have d8 := drop_numB term (numB kind ++ (numB version ++ (numB server ++ (numB (trB good) ++ (lenB d ++ r)))))
  have d16 : (numB term ++ (numB kind ++ (numB version ++ (numB server ++ (numB (trB good) ++ (lenB d ++ r)))))).drop 16 = numB version ++ (numB server ++ (numB (trB good) ++ (lenB d ++ r))) := by
    rw [show 16 = 8 + 8 from rfl, ← List.drop_drop, drop_numB, drop_numB]
  have d24 : (numB term ++ (numB kind ++ (numB version ++ (numB server ++ (numB (trB good) ++ (lenB d ++ r)))))).drop 24 = numB server ++ (numB (trB good) ++ (lenB d ++ r)) := by
    rw [show 24 = 16 + 8 from rfl, ← List.drop_drop, d16, drop_numB]
  have d32 : (numB term ++ (numB kind ++ (numB version ++ (numB server ++ (numB (trB good) ++ (lenB d ++ r)))))).drop 32 = numB (trB good) ++ (lenB d ++ r) := by
    rw [show 32 = 24 + 8 from rfl, ← List.drop_drop, d24, drop_numB]
  have d40 : (numB term ++ (numB kind ++ (numB version ++ (numB server ++ (numB (trB good) ++ (lenB d ++ r)))))).drop 40 = lenB d ++ r := by
    rw [show 40 = 32 + 8 from rfl, ← List.drop_drop, d32, drop_numB]
  obtain ⟨b1, b2, b3⟩ := lenB_canB d r hd
  have hg : 0 ≤ trB good ∧ trB good ≤ 1 := by cases good <;> simp [trB]
  have n0 := numV_numB term (numB kind ++ (numB version ++ (numB server ++ (numB (trB good) ++ (lenB d ++ r))))) t0 t1
  have n1 := numV_numB kind (numB version ++ (numB server ++ (numB (trB good) ++ (lenB d ++ r)))) (by omega) (by omega)
  have n2 := numV_numB version (numB server ++ (numB (trB good) ++ (lenB d ++ r))) v0 v1
  have n3 := numV_numB server (numB (trB good) ++ (lenB d ++ r)) s0 s1
  have n4 := numV_numB (trB good) (lenB d ++ r) (by omega) (by omega)
  refine ⟨⟨?_, ?_, ?_, ?_⟩, fun v => ?_, ?_, ?_⟩
  · simp [numB_length, lenB]; omega
  · rw [d8, n1]; exact ⟨k0, k1⟩
  · rw [d32, n4]; exact hg
  · rw [d40]; exact b1
  · unfold entV
    rw [d8, d16, d24, d32, n0, n1, n2, n3, n4]
    have : (trB good == 1) = good := by cases good <;> rfl
    rw [this]
  · unfold dataE; rw [d40]; exact b2
  · unfold restE; rw [d40]; exact b3

end Go.Proofs.YtpkiopijfhkagaaGreatDoor.rd
