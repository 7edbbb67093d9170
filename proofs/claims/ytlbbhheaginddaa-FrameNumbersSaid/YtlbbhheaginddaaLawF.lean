/-
  The frames' laws: what they call of their own.
-/
import Derived.Test.YtlbbhheaginddaaPutH
namespace Go.Proofs.Ytlbbhheaginddaa.fr
open Go.RowKit Go.Proofs.Ytlbbhheaginddaa.mem Go.Proofs.Ytlbbhheaginddaa.kit Go.Proofs.Ytlbbhheaginddaa.wire Go.Proofs.Ytlbbhheaginddaa.crc
set_option linter.unusedVariables false

/-- Frames in a row of two cells each, which may begin anywhere in its block. -/
def FrOf (w : World) (A : Option Addr) (fs : List Fi) : Prop :=
  ∀ (i : Nat) (h : i < fs.length), ∃ g o, A = some ⟨g, o, none⟩ ∧ g < w.heap.size ∧ w.cell? ⟨g, o + i * 2, none⟩ = some (.int .i64 fs[i].kind) ∧ w.cell? ⟨g, o + i * 2 + 1, none⟩ = some (.slice fs[i].A fs[i].data.length fs[i].c) ∧ Reads w w.heap.size 1 fs[i].A fs[i].data.length (vb fs[i].data)
theorem FrArr.of {w : World} {A : Option Addr} {fs : List Fi} (h : FrArr w A fs) : FrOf w A fs := fun i hi => by
  obtain ⟨g, e, h0, h1, h2, h3⟩ := h i hi
  exact ⟨g, 0, e, h0, by rw [Nat.zero_add]; exact h1, by rw [Nat.zero_add]; exact h2, h3⟩
theorem FrOf.take {w : World} {A : Option Addr} {fs : List Fi} (h : FrOf w A fs) (k : Nat) : FrOf w A (fs.take k) := fun i hi => by
  have hi' : i < fs.length := by rw [List.length_take] at hi; omega
  obtain ⟨g, o, e, h0, h1, h2, h3⟩ := h i hi'
  rw [List.getElem_take]
  exact ⟨g, o, e, h0, h1, h2, h3⟩
theorem FrOf.new {w w' : World} {A : Option Addr} {fs : List Fi} (h : FrOf w A fs) (hW : New w w') : FrOf w' A fs := fun i hi => by
  obtain ⟨g, o, e, hg, h0, h1, h2⟩ := h i hi
  exact ⟨g, o, e, by have := hW.size; omega, (hW.cell (p := ⟨g, o + i * 2, none⟩) hg).trans h0, (hW.cell (p := ⟨g, o + i * 2 + 1, none⟩) hg).trans h1, h2.new hW⟩

/-- How many bytes frames hold. -/
def tot (fs : List Fi) : Nat := (fs.map fun x => x.data.length).sum
theorem tot_snoc (fs : List Fi) (k : Nat) (h : k < fs.length) : tot (fs.take (k + 1)) = tot (fs.take k) + fs[k].data.length := by
  unfold tot
  rw [← List.take_append_getElem h]
  simp only [List.map_append, List.sum_append, List.map_cons, List.map_nil, List.sum_cons, List.sum_nil]
  omega
theorem tot_take (fs : List Fi) (k : Nat) : tot (fs.take k) ≤ tot fs := by
  have h : tot fs = tot (fs.take k) + tot (fs.drop k) := by
    unfold tot
    conv => lhs; rw [← List.take_append_drop k fs]
    rw [List.map_append, List.sum_append]
  omega

theorem le_tot (fs : List Fi) (i : Nat) (h : i < fs.length) : fs[i].data.length ≤ tot fs := by
  have h1 := tot_snoc fs i h
  have h2 := tot_take fs (i + 1)
  omega

set_option maxRecDepth 100000 in
theorem great_any (A : Option Addr) (n c : Nat) (fs : List Fi) (w : World) (hn : n = fs.length) (hnl : n ≤ 4398046511104) (hdl : ∀ i (h : i < fs.length), fs[i].data.length ≤ 140737488351232) (hA : FrOf w A fs) :
    Calls Try.prog 11 #[.slice A n c] w fun e w' => e = .returned (.bool (decide (20000 < n + tot fs))) ∧ w' = w := by
  have HA := Lib.hid hA
  have HN := Lib.hid hn
  have HD := Lib.hid hdl
  clear hA hn hdl
  go_enter Try.func11, Try.ntmps11
  go_wp2
  go_loopw [3, 4] (fun v i wr => ∃ k m : Nat, k ≤ n ∧ i = .int .i64 k ∧ v = .int .i64 m ∧ m = n + tot (fs.take k) ∧ m ≤ 140737488371232 ∧ wr = w) (fun _ i _ => n - (intOf i).toNat)
  case atStart => exact ⟨0, n, Nat.zero_le _, rfl, rfl, by simp [tot], by omega, rfl⟩
  case round =>
    obtain ⟨k, m, hk, rfl, rfl, hm, hmb, rfl⟩ := hrel
    have HM := Lib.hid hm
    clear hm
    by_cases hlt : k < n
    · by_cases hm2 : m ≤ 20000
      · have hlf : k < fs.length := by have := HN.out; omega
        obtain ⟨g, o, rfl, hg, g0, g1, hr⟩ := HA.out k hlf
        have hx1 := HD.out k hlf
        have hx2 := tot_snoc fs k hlf
        obtain ⟨x, hx⟩ : ∃ x, fs[k] = x := ⟨_, rfl⟩
        rw [hx] at g1 hx1 hx2
        have HT := Lib.hid hx2
        clear hr g0 hx hx2
        obtain ⟨dl, hdl⟩ : ∃ dl, x.data.length = dl := ⟨_, rfl⟩
        rw [hdl] at g1 hx1 HT
        go_wp2
        go_roundw
        case rel => exact ⟨k + 1, m + dl, by omega, by go_num, by go_num, by rw [HT.out, HM.out]; omega, by omega, by trivial⟩
        case measure => simp [intOf]; omega
      · go_wp2
        have h1 := tot_take fs k
        have h2 := HM.out
        have h3 : 20000 < n + tot fs := by omega
        go_ret
        simp [h3]
    · obtain rfl : k = n := by omega
      have h2 := HM.out
      rw [HN.out, List.take_length, ← HN.out] at h2
      have HM2 := Lib.hid h2
      clear h2
      go_wp2
      go_ret
      rw [← HM2.out]
      simp
      omega
end Go.Proofs.Ytlbbhheaginddaa.fr
