/-
  Contracts of the document's reader: Entry.
-/
import Derived.Test.YtpkiopijfhkagaaGreatDoorRefRC
import Derived.Test.YtpkiopijfhkagaaGreatDoorReaderE
namespace Go.Proofs.YtpkiopijfhkagaaGreatDoor.rread
open Go.RowKit Go.Proofs.YtpkiopijfhkagaaGreatDoor.mem Go.Proofs.YtpkiopijfhkagaaGreatDoor.kit Go.Proofs.YtpkiopijfhkagaaGreatDoor.wire Go.Proofs.YtpkiopijfhkagaaGreatDoor.rd
set_option linter.unusedVariables false

theorem number_at (g : Nat) (l : List UInt8) (a b : Nat) (n : Int) (w : World) (hl : l.length ≤ 1099511627776) (h8 : b ≤ l.length) (hb : a + 8 = b) (hn : numV (l.drop a) = n) (h : DR w g l a false) :
    Calls Tryz.prog 25 #[.pointer (some ⟨g, 0, none⟩)] w fun e w' => e = .returned (.int .i64 n) ∧ DR w' g l b false ∧ Ch (fun j => j = g) w w' := by
  subst hb
  subst hn
  exact number_ok g l a w hl h8 h

/-- What an entry that is read leaves. -/
def EntR (w : World) (g : Nat) (l : List UInt8) (a : Nat) (e : Ending) (w' : World) : Prop :=
  ∃ A c, e = .returned (.agg (ecells (l.drop a) (.slice A (dataE (l.drop a)).length c))) ∧ w'.ownsRow w.heap.size 5 1 (.slice A (dataE (l.drop a)).length c) (dataE (l.drop a)).length (vb (dataE (l.drop a))) ∧ DR w' g l (a + 48 + (numV (l.drop (a + 40))).toNat) false ∧ Ch (fun j => j = g) w w'

theorem DR.past {w w' : World} {g : Nat} {l : List UInt8} {a : Nat} {b : Bool} {rb : Nat} {old : Array Value} (h : DR w g l a b) (hr : Blk w rb 28 old) (hch : Ch (fun j => j = rb) w w') (hne : rb ≠ g) : DR w' g l a b := by
  obtain ⟨h1, A, c, hb, hrd, hcc, ht⟩ := h
  have hn : ∀ ad, A = some ad → ¬ ad.block = rb := fun ad e => by obtain ⟨cs, hcs⟩ := ht ad e; exact hcs.ne_ hr (by decide)
  exact ⟨h1, A, c, hb.ch hch (fun e => hne e.symm), hrd.ch hch hn, hcc, fun ad e => by obtain ⟨cs, hcs⟩ := ht ad e; exact ⟨cs, hcs.ch hch (hn ad e)⟩⟩

set_option maxRecDepth 100000 in
set_option maxHeartbeats 2000000 in
theorem entry_ok (g : Nat) (l : List UInt8) (a : Nat) (w : World) (hl : l.length ≤ 1099511627776) (ha : a ≤ l.length) (hv : canE (l.drop a)) (h : DR w g l a false) :
    Calls Tryz.prog 30 #[.pointer (some ⟨g, 0, none⟩)] w (EntR w g l a) := by
  have hlt : g < w.heap.size := by obtain ⟨_, _, _, hx, _⟩ := h; exact hx.lt
  obtain ⟨h40, hk, hg, hB⟩ := hv
  rw [List.length_drop] at h40
  simp only [List.drop_drop] at hk hg hB
  have hn := (new_refl w).alloc (Nat.le_refl _) (.cells zent 28)
  have HB := Lib.hid (Blk.new w 28 zent)
  have ei := ent_size
  have hD0 := Lib.hid (h.new hn)
  clear h
  obtain ⟨n0, hn0⟩ : ∃ n, numV (l.drop a) = n := ⟨_, rfl⟩
  obtain ⟨n1, hn1⟩ : ∃ n, numV (l.drop (a + 8)) = n := ⟨_, rfl⟩
  obtain ⟨n2, hn2⟩ : ∃ n, numV (l.drop (a + 16)) = n := ⟨_, rfl⟩
  obtain ⟨n3, hn3⟩ : ∃ n, numV (l.drop (a + 24)) = n := ⟨_, rfl⟩
  obtain ⟨n4, hn4⟩ : ∃ n, numV (l.drop (a + 32)) = n := ⟨_, rfl⟩
  rw [hn1] at hk
  rw [hn4] at hg
  obtain ⟨D, hDD⟩ : ∃ D, dataE (l.drop a) = D := ⟨_, rfl⟩
  have hDB : valB (l.drop (a + 40)) = D := by rw [← hDD]; simp [dataE, List.drop_drop]
  obtain ⟨m, hm⟩ : ∃ m, (numV (l.drop (a + 40))).toNat = m := ⟨_, rfl⟩
  have H5 : ∀ w5, DR w5 g l (a + 40) false → Calls Tryz.prog 27 #[.pointer (some ⟨g, 0, none⟩)] w5 fun e w' => ∃ A c, e = .returned (.slice A D.length c) ∧ w'.ownsRow w5.heap.size 5 1 (.slice A D.length c) D.length (vb D) ∧ DR w' g l (a + 48 + m) false ∧ Ch (fun j => j = g) w5 w' := by
    intro w5 h5
    have h6 := bytes_ok g l (a + 40) w5 hl (by omega) hB h5
    unfold BytR at h6
    rw [hDB, hm] at h6
    exact h6
  have hE : ∀ v, ecells (l.drop a) v = #[.int .i64 n0, .int .u8 n1, .int .i64 n2, .int .i64 n3, .bool (n4 == 1), v] := by
    intro v
    simp only [ecells, List.drop_drop, hn0, hn1, hn2, hn3, hn4]
  have hGoal : EntR w g l a = fun e w' => ∃ A c, e = .returned (.agg #[.int .i64 n0, .int .u8 n1, .int .i64 n2, .int .i64 n3, .bool (n4 == 1), .slice A D.length c]) ∧ w'.ownsRow w.heap.size 5 1 (.slice A D.length c) D.length (vb D) ∧ DR w' g l (a + 48 + m) false ∧ Ch (fun j => j = g) w w' := by
    funext e w'
    unfold EntR
    rw [hDD, hm]
    simp only [hE]
  rw [hGoal]
  clear hGoal hE
  have H0 := Lib.hid (fun w0 => number_at g l a (a + 8) n0 w0 hl (by omega) rfl hn0)
  have H1 := Lib.hid (fun w0 => number_at g l (a + 8) (a + 16) n1 w0 hl (by omega) rfl hn1)
  have H2 := Lib.hid (fun w0 => number_at g l (a + 16) (a + 24) n2 w0 hl (by omega) rfl hn2)
  have H3 := Lib.hid (fun w0 => number_at g l (a + 24) (a + 32) n3 w0 hl (by omega) rfl hn3)
  have H4 := Lib.hid (fun w0 => number_at g l (a + 32) (a + 40) n4 w0 hl (by omega) rfl hn4)
  have H5 := Lib.hid H5
  have HDL := Lib.hid hDB
  clear hDB hDD hm hn0 hn1 hn2 hn3 hn4 hB
  obtain ⟨k0, k1⟩ := hk
  obtain ⟨g0, g1⟩ := hg
  have ku : IntKind.u8.wrap n1 = n1 := IntWalk.u8_in _ (by omega)
  have d0 : decide (n1 < 0) = false := by simp; omega
  have d1 : decide (255 < n1) = false := by simp; omega
  have d2 : decide (n4 < 0) = false := by simp; omega
  have d3 : decide (1 < n4) = false := by simp; omega
  go_enter Tryz.func30, Tryz.ntmps30
  go_wp2_with (go_at_call 25; with_reducible refine (H0.out _ hD0.out).mono ?_; rintro e w1 ⟨rfl, hD, hc1⟩; have hD1 := Lib.hid hD; clear hD)
  go_wp2_with (go_at_call 25; with_reducible refine (H1.out _ hD1.out).mono ?_; rintro e w2 ⟨rfl, hD, hc2⟩; have hD2 := Lib.hid hD; clear hD)
  go_wp2_with (go_at_call 25; with_reducible refine (H2.out _ hD2.out).mono ?_; rintro e w3 ⟨rfl, hD, hc3⟩; have hD3 := Lib.hid hD; clear hD)
  go_wp2_with (go_at_call 25; with_reducible refine (H3.out _ hD3.out).mono ?_; rintro e w4 ⟨rfl, hD, hc4⟩; have hD4 := Lib.hid hD; clear hD)
  go_wp2_with (go_at_call 25; with_reducible refine (H4.out _ hD4.out).mono ?_; rintro e w5 ⟨rfl, hD, hc5⟩; have hD5 := Lib.hid hD; clear hD)
  have HB5 := Lib.hid (Blk.ch (Blk.ch (Blk.ch (Blk.ch (Blk.ch HB.out hc1 (fun e => absurd (show _ = g from e) (by omega))) hc2 (fun e => absurd (show _ = g from e) (by omega))) hc3 (fun e => absurd (show _ = g from e) (by omega))) hc4 (fun e => absurd (show _ = g from e) (by omega))) hc5 (fun e => absurd (show _ = g from e) (by omega)))
  have HC := Lib.hid ((((((Ch.of_new (S := fun j => j = g) hn).then hc1 (fun _ _ hh => hh)).then hc2 (fun _ _ hh => hh)).then hc3 (fun _ _ hh => hh)).then hc4 (fun _ _ hh => hh)).then hc5 (fun _ _ hh => hh))
  have hz5 : w.heap.size ≤ w5.heap.size := HC.out.size
  clear hc1 hc2 hc3 hc4 hc5
  go_wp2_with (first
    | (go_at_call 27; with_reducible refine (H5.out _ hD5.out).mono ?_; rintro e w6 ⟨A, c, rfl, ho, hD, hc6⟩; have HO := Lib.hid ho; clear ho; obtain ⟨rA, rc, c0, c1, c2, z1, z2, hle⟩ := hD.cells; have hD6 := Lib.hid hD; clear hD; have HR := Lib.hid (HB5.out.ch hc6 (fun e => absurd (show _ = g from e) (by omega))))
    | (refine wpList_store_row rfl 28 _ _ rfl w.heap.size #[.int .i64 n0, .int .u8 n1, .int .i64 n2, .int .i64 n3, .bool (n4 == 1), .slice A D.length c] rfl rfl 28 _ HR.out ei rfl (by simp [Value.oneCell']) ?_)
    | fail)
  refine bodyPost_ret (results_cell_row rfl _ _ w.heap.size 28 _ (0, 0) _ rfl (setRow_heap _ _ _ _ _ _ HR.out) Tryz.underlying28 rfl ei) rfl ?_
  have cc := ch_setRow w6 w.heap.size #[.int .i64 n0, .int .u8 n1, .int .i64 n2, .int .i64 n3, .bool (n4 == 1), .slice A D.length c]
  have ho := own_base HO.out hz5
  exact ⟨A, c, rfl, own_ch ho cc (fun j hj e => own_blk_ne ho HR.out (by decide) (hj.trans (congrArg some e))), DR.past hD6.out HR.out cc (by omega), (HC.out.then hc6 (fun _ _ hh => hh)).then cc (fun i hi e => absurd e (by omega))⟩
end Go.Proofs.YtpkiopijfhkagaaGreatDoor.rread
