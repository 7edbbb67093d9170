/-
  Contracts of the document's reader: Entry that is not there.
-/
import Derived.Test.YtpkiopijfhkagaaGreatDoorRefRE
namespace Go.Proofs.YtpkiopijfhkagaaGreatDoor.rread
open Go.RowKit Go.Proofs.YtpkiopijfhkagaaGreatDoor.mem Go.Proofs.YtpkiopijfhkagaaGreatDoor.kit Go.Proofs.YtpkiopijfhkagaaGreatDoor.wire Go.Proofs.YtpkiopijfhkagaaGreatDoor.rd
set_option linter.unusedVariables false

theorem number_gen (g : Nat) (l : List UInt8) (a : Nat) (b : Bool) (w : World) (hl : l.length ≤ 1099511627776) (h : DR w g l a b) :
    Calls Tryz.prog 25 #[.pointer (some ⟨g, 0, none⟩)] w fun e w' => ∃ n a' b', e = .returned (.int .i64 n) ∧ DR w' g l a' b' ∧ Ch (fun j => j = g) w w' ∧ (b' = false → b = false ∧ a + 8 ≤ l.length ∧ a' = a + 8 ∧ numV (l.drop a) = n) := by
  by_cases hc : b = true ∨ l.length < a + 8
  · refine (number_no g l a b w hl hc h).mono ?_
    rintro e w1 ⟨rfl, hD, hch⟩
    exact ⟨0, a, true, rfl, hD, hch, fun hh => by cases hh⟩
  · have hb : b = false := by cases b <;> simp_all
    subst hb
    have h8 : a + 8 ≤ l.length := Nat.le_of_not_lt fun hh => hc (Or.inr hh)
    refine (number_ok g l a w hl h8 h).mono ?_
    rintro e w1 ⟨rfl, hD, hch⟩
    exact ⟨_, _, _, rfl, hD, hch, fun _ => ⟨rfl, h8, rfl, rfl⟩⟩

theorem bytes_fall (g : Nat) (l : List UInt8) (a : Nat) (b : Bool) (w : World) (hl : l.length ≤ 1099511627776) (hc : ¬ (b = false ∧ canB (l.drop a))) (h : DR w g l a b) :
    Calls Tryz.prog 27 #[.pointer (some ⟨g, 0, none⟩)] w (FallR w g l (.slice none 0 0)) := by
  by_cases hb : b = true ∨ l.length < a + 8
  · exact bytes_bad g l a b w hl hb h
  · have hb0 : b = false := by cases b <;> simp_all
    subst hb0
    have h8 : a + 8 ≤ l.length := Nat.le_of_not_lt fun hh => hb (Or.inr hh)
    refine bytes_over g l a w hl h8 ?_ h
    by_cases h0 : numV (l.drop a) < 0
    · exact Or.inl h0
    · refine Or.inr (Int.lt_of_not_ge fun h1 => hc ⟨rfl, ?_, by omega, ?_⟩)
      · rw [List.length_drop]; omega
      · rw [List.length_drop]; omega

theorem fall_close {w w6 : World} {g rb : Nat} {l : List UInt8} {a : Nat} {b : Bool} (hrb : w.heap.size ≤ rb) (hne : rb ≠ g) (hR : Blk w6 rb 28 zent) (hD : DR w6 g l a b) (hch : Ch (fun j => j = g) w w6) :
    FallR w g l (.agg zent) (.returned (.agg zent)) ((w6.setCell ⟨g, 2, none⟩ (.bool true)).setRow rb zent) := by
  have h1 : Ch (fun j => j = g) w6 (w6.setCell ⟨g, 2, none⟩ (.bool true)) := (Ch.refl (fun j => j = g) w6).setCell (p := ⟨g, 2, none⟩) (fun _ => rfl) _
  have hR1 := hR.ch h1 hne
  have cc := ch_setRow (w6.setCell ⟨g, 2, none⟩ (.bool true)) rb zent
  exact ⟨rfl, ⟨a, DR.past hD.fall hR1 cc hne⟩, (hch.then h1 (fun _ _ hh => hh)).then cc (fun i hi e => absurd e (by omega))⟩

set_option maxRecDepth 100000 in
set_option maxHeartbeats 2000000 in
theorem entry_no (g : Nat) (l : List UInt8) (a : Nat) (b : Bool) (w : World) (hl : l.length ≤ 1099511627776) (ha : a ≤ l.length) (hv : ¬ (b = false ∧ canE (l.drop a))) (h : DR w g l a b) :
    Calls Tryz.prog 30 #[.pointer (some ⟨g, 0, none⟩)] w (FallR w g l (.agg zent)) := by
  have hlt : g < w.heap.size := by obtain ⟨_, _, _, hx, _⟩ := h; exact hx.lt
  have hn := (new_refl w).alloc (Nat.le_refl _) (.cells zent 28)
  have HB := Lib.hid (Blk.new w 28 zent)
  have ei := ent_size
  have hD0 := Lib.hid (h.new hn)
  clear h
  have H0 := Lib.hid (fun a b w0 => number_gen g l a b w0 hl)
  go_enter Tryz.func30, Tryz.ntmps30
  go_wp2_with (go_at_call 25; with_reducible refine (H0.out _ _ _ hD0.out).mono ?_; rintro e w1 ⟨n0, a1, b1, rfl, hD, hc1, hp⟩; have hD1 := Lib.hid hD; have P1 := Lib.hid hp; clear hD hp)
  go_wp2_with (go_at_call 25; with_reducible refine (H0.out _ _ _ hD1.out).mono ?_; rintro e w2 ⟨n1, a2, b2, rfl, hD, hc2, hp⟩; have hD2 := Lib.hid hD; have P2 := Lib.hid hp; clear hD hp)
  go_wp2_with (go_at_call 25; with_reducible refine (H0.out _ _ _ hD2.out).mono ?_; rintro e w3 ⟨n2, a3, b3, rfl, hD, hc3, hp⟩; have hD3 := Lib.hid hD; have P3 := Lib.hid hp; clear hD hp)
  go_wp2_with (go_at_call 25; with_reducible refine (H0.out _ _ _ hD3.out).mono ?_; rintro e w4 ⟨n3, a4, b4, rfl, hD, hc4, hp⟩; have hD4 := Lib.hid hD; have P4 := Lib.hid hp; clear hD hp)
  go_wp2_with (go_at_call 25; with_reducible refine (H0.out _ _ _ hD4.out).mono ?_; rintro e w5 ⟨n4, a5, b5, rfl, hD, hc5, hp⟩; have hD5 := Lib.hid hD; have P5 := Lib.hid hp; clear hD hp)
  have HB5 := Lib.hid (Blk.ch (Blk.ch (Blk.ch (Blk.ch (Blk.ch HB.out hc1 (fun e => absurd (show _ = g from e) (by omega))) hc2 (fun e => absurd (show _ = g from e) (by omega))) hc3 (fun e => absurd (show _ = g from e) (by omega))) hc4 (fun e => absurd (show _ = g from e) (by omega))) hc5 (fun e => absurd (show _ = g from e) (by omega)))
  have HC := Lib.hid ((((((Ch.of_new (S := fun j => j = g) hn).then hc1 (fun _ _ hh => hh)).then hc2 (fun _ _ hh => hh)).then hc3 (fun _ _ hh => hh)).then hc4 (fun _ _ hh => hh)).then hc5 (fun _ _ hh => hh))
  have hz5 : w.heap.size ≤ w5.heap.size := HC.out.size
  clear hc1 hc2 hc3 hc4 hc5
  have HV := Lib.hid hv
  clear hv
  by_cases hg : b5 = false ∧ canB (l.drop a5)
  · obtain ⟨rfl, hB⟩ := hg
    have HX : Hid ((0 ≤ n1 ∧ n1 ≤ 255) → (0 ≤ n4 ∧ n4 ≤ 1) → False) := Lib.hid (by
      intro hk hq
      obtain ⟨rfl, i5, rfl, v5⟩ := P5.out rfl
      obtain ⟨rfl, i4, rfl, v4⟩ := P4.out rfl
      obtain ⟨rfl, i3, rfl, v3⟩ := P3.out rfl
      obtain ⟨rfl, i2, rfl, v2⟩ := P2.out rfl
      obtain ⟨rfl, i1, rfl, v1⟩ := P1.out rfl
      rw [show a + 8 + 8 + 8 + 8 = a + 32 from by omega] at v5
      rw [show a + 8 + 8 + 8 + 8 + 8 = a + 40 from by omega] at hB
      refine HV.out ⟨rfl, ?_, ?_, ?_, ?_⟩
      · rw [List.length_drop]; omega
      · rw [List.drop_drop, v2]; exact hk
      · rw [List.drop_drop, v5]; exact hq
      · rw [List.drop_drop]; exact hB)
    have H5 := bytes_ok g l a5 w5 hl hD5.out.1 hB hD5.out
    unfold BytR at H5
    generalize valB (l.drop a5) = D at H5
    generalize (numV (l.drop a5)).toNat = m at H5
    have H5 := Lib.hid H5
    clear hB
    obtain ⟨t1, ht1⟩ : ∃ t, decide (n1 < 0) = t := ⟨_, rfl⟩
    obtain ⟨t2, ht2⟩ : ∃ t, decide (255 < n1) = t := ⟨_, rfl⟩
    obtain ⟨t3, ht3⟩ : ∃ t, decide (n4 < 0) = t := ⟨_, rfl⟩
    obtain ⟨t4, ht4⟩ : ∃ t, decide (1 < n4) = t := ⟨_, rfl⟩
    have HT : Hid (t1 = true ∨ t2 = true ∨ t3 = true ∨ t4 = true) := Lib.hid (by
      rcases Decidable.em (n1 < 0) with h1 | h1
      · exact Or.inl (ht1 ▸ decide_eq_true h1)
      · rcases Decidable.em (255 < n1) with h2 | h2
        · exact Or.inr (Or.inl (ht2 ▸ decide_eq_true h2))
        · rcases Decidable.em (n4 < 0) with h3 | h3
          · exact Or.inr (Or.inr (Or.inl (ht3 ▸ decide_eq_true h3)))
          · rcases Decidable.em (1 < n4) with h4 | h4
            · exact Or.inr (Or.inr (Or.inr (ht4 ▸ decide_eq_true h4)))
            · exact (HX.out ⟨by omega, by omega⟩ ⟨by omega, by omega⟩).elim)
    cases t1
    case' false => cases t2
    case' false.false => cases t3
    case' false.false.false => cases t4
    case false.false.false.false => exact absurd HT.out (by simp)
    all_goals
      clear HT HX
      go_wp2_with (first
        | (go_at_call 27; with_reducible refine H5.out.mono ?_; rintro e w6 ⟨A, c, rfl, ho, hD, hc6⟩; clear ho; obtain ⟨rA, rc, c0, c1, c2, z1, z2, hle⟩ := hD.cells; have hD6 := Lib.hid hD; clear hD; have HR := Lib.hid (HB5.out.ch hc6 (fun e => absurd (show _ = g from e) (by omega))); have HR1 := Lib.hid (HR.out.ch (w' := w6.setCell ⟨g, 2, none⟩ (.bool true)) ((Ch.refl (fun j => j = g) w6).setCell (p := ⟨g, 2, none⟩) (fun _ => rfl) _) (fun e => absurd (show _ = g from e) (by omega))))
        | (refine wpList_store_row rfl 28 _ _ rfl w.heap.size zent rfl rfl 28 _ HR1.out ei rfl (by simp [Value.oneCell']) ?_)
        | fail)
      refine bodyPost_ret (results_cell_row rfl _ _ w.heap.size 28 _ (0, 0) _ rfl (setRow_heap _ _ _ _ _ _ HR1.out) Tryz.underlying28 rfl ei) rfl ?_
      exact fall_close (Nat.le_refl _) (by omega) HR.out hD6.out (HC.out.then hc6 (fun _ _ hh => hh))
  · have H5 := bytes_fall g l a5 b5 w5 hl hg hD5.out
    unfold FallR at H5
    have H5 := Lib.hid H5
    clear hg
    go_wp2_with (first
      | (go_at_call 27; with_reducible refine H5.out.mono ?_; rintro e w6 ⟨rfl, ⟨a6, hD⟩, hc6⟩; obtain ⟨rA, rc, c0, c1, c2, z1, z2, hle⟩ := hD.cells; have hD6 := Lib.hid hD; clear hD; have HR := Lib.hid (HB5.out.ch hc6 (fun e => absurd (show _ = g from e) (by omega))); have HR1 := Lib.hid (HR.out.ch (w' := w6.setCell ⟨g, 2, none⟩ (.bool true)) ((Ch.refl (fun j => j = g) w6).setCell (p := ⟨g, 2, none⟩) (fun _ => rfl) _) (fun e => absurd (show _ = g from e) (by omega))))
      | (refine wpList_store_row rfl 28 _ _ rfl w.heap.size zent rfl rfl 28 _ HR1.out ei rfl (by simp [Value.oneCell']) ?_)
      | fail)
    refine bodyPost_ret (results_cell_row rfl _ _ w.heap.size 28 _ (0, 0) _ rfl (setRow_heap _ _ _ _ _ _ HR1.out) Tryz.underlying28 rfl ei) rfl ?_
    exact fall_close (Nat.le_refl _) (by omega) HR.out hD6.out (HC.out.then hc6 (fun _ _ hh => hh))
end Go.Proofs.YtpkiopijfhkagaaGreatDoor.rread
