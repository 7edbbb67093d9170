/-
  A row that grows; ShaApart.
-/
import Derived.Test.YtdbolkmhmgbgfabDoorShaG
import Derived.Test.YtdbolkmhmgbgfabDoorBag
namespace Go.Proofs.YtdbolkmhmgbgfabDoor.sha
open Go.RowKit Go.Proofs.YtdbolkmhmgbgfabDoor.mem Go.Proofs.YtdbolkmhmgbgfabDoor.kit
set_option linter.unusedVariables false

/-- A row of the call's own that grows. -/
structure Ac (w0 : World) (v : Value) (z : List UInt8) (w : World) : Prop where
  own : w.ownsRow w0.heap.size 5 1 v z.length (vb z)
  new : New w0 w
theorem Ac.keep {w0 w w' : World} {v : Value} {z : List UInt8} (h : Ac w0 v z w) (hn : New w w') : Ac w0 v z w' := ⟨own_new h.own hn, New.then h.new hn⟩
theorem Ac.made (w0 w : World) (h : New w0 w) : Ac w0 (.slice (some ⟨w.heap.size, 0, none⟩) 0 0) [] (w.alloc (.cells #[] 5)) :=
  ⟨World.ownsRow_made (e := 5) (base := w0.heap.size) (size := 1) w #[] 0 h.size (by unfold maxLen; omega) (by simp), h.alloc h.size _⟩
theorem wpList_ac {ops : Array Oper} {rest : List Oper} {o : Oper} {a : Act} {Q : Exit → Act → World → Prop} {w : World} (hgd : o.guard = none) (s x : Operand)
    (ho : o.op = .call { callee := .builtin .append, args := #[s, x], argTypes := #[22, 22] })
    {w0 : World} {v : Value} {z l : List UInt8} {A : Option Addr} {c : Nat} (h : Ac w0 v z w) (hs : a.eval s = v) (hx : a.eval x = .slice A l.length c) (hr : Reads w w.heap.size 1 A l.length (vb l)) (hb : z.length + l.length ≤ 1099511627776)
    (hK : ∀ v' w', Ac w0 v' (z ++ l) w' → wpList Tryd.prog ops Q rest (a.put o.dst v') w') : wpList Tryd.prog ops Q (o :: rest) a w := by
  obtain ⟨i0, hi, hz0, hz1, hz2⟩ := info_parts byte_info
  refine wpList_append_any w hgd s x 22 ho w0.heap.size 5 i0 _ 1 1 Tryd.underlying22 hi hz0 hz1 hz2 rfl (by omega) v _ _ hs h.own _ A l.length c (vb l) hx hr (vb_one _) (by unfold maxLen; omega) (by omega) h.new.size ?_
  intro v' w' hown hg _
  refine hK v' w' ⟨?_, h.new.grown hg h.new.size (fun k hk => (h.own.lt k hk).1)⟩
  rw [vb_append, List.length_append]
  exact hown
theorem reads_blk3 (w : World) (t : TypeId) (a b c : Value) : Reads (w.alloc (.cells #[a, b, c] t)) (w.alloc (.cells #[a, b, c] t)).heap.size 1 (some ⟨w.heap.size, 0, none⟩) 3 [a, b, c] := by
  refine ⟨rfl, fun _ => ⟨_, rfl, by simp, fun j u hu => ?_⟩⟩
  rw [Addr.add_lit, Nat.zero_add, (Blk.new w t #[a, b, c]).cell j]
  simpa using hu

theorem ac_row {w0 w : World} {v : Value} {lb lm : List UInt8} {n m : Nat} (hn : n = lb.length) (hm : m = lm.length) (h : Ac w0 v (([] ++ lb) ++ lm) w) : ∃ A c, v = .slice A (n + m) c ∧ (n + m ≤ c ∧ c ≤ maxLen) ∧ Reads w w.heap.size 1 A (n + m) (vb (lb ++ lm)) ∧ w.ownsRow w0.heap.size 5 1 (.slice A (n + m) c) (n + m) (vb (lb ++ lm)) := by
  obtain ⟨ho, -⟩ := h
  rw [List.nil_append, List.length_append, ← hn, ← hm] at ho
  obtain ⟨A, c, rfl, h1, h2, hr⟩ := own_len ho
  exact ⟨A, c, rfl, ⟨h1, h2⟩, hr, ho⟩

theorem ac_one {w0 w : World} {v : Value} {lb : List UInt8} {n : Nat} (hn : n = lb.length) (h : Ac w0 v ([] ++ lb) w) : ∃ A c, v = .slice A n c ∧ Ac w0 (.slice A n c) ([] ++ lb) w := by
  have ho := h.own
  rw [List.nil_append, ← hn] at ho
  obtain ⟨A, c, rfl, h1, h2, hr⟩ := own_len ho
  exact ⟨A, c, rfl, h⟩
/-- Three rows that were made apart. -/
theorem rst3 {w w1 w3 w4 w5 : World} {A3 A4 A5 : Option Addr} {c3 c4 c5 n3 : Nat} {D L : List UInt8} (hD : D.length = 32) (hL : L.length = n3) (h1 : New w w1) (h3 : New w w3) (h34 : New w3 w4) (h45 : New w4 w5)
    (o3 : w3.ownsRow w1.heap.size 5 1 (.slice A3 n3 c3) n3 (vb L)) (o4 : w4.ownsRow w3.heap.size 5 1 (.slice A4 32 c4) 32 (vb D)) (o5 : w5.ownsRow w4.heap.size 5 1 (.slice A5 32 c5) 32 (vb D)) :
    RSt w [(.slice A4 32 c4, D), (.slice A5 32 c5, D), (.slice A3 n3 c3, L)] w5 := by
  subst hL
  have b4 : w.heap.size ≤ w3.heap.size := h3.size
  have b5 : w.heap.size ≤ w4.heap.size := Nat.le_trans b4 h34.size
  have p4 := own_new o4 h45
  have p3 := own_new (own_new o3 h34) h45
  refine ⟨New.then (New.then h3 h34) h45, fun k hk => ?_, fun j k hj hk g hg => ?_⟩
  · match k, hk with
    | 0, _ => exact ⟨⟨A4, c4, by simp [hD]⟩, by simp only [List.getElem_cons_zero]; rw [hD]; exact own_base p4 b4⟩
    | 1, _ => exact ⟨⟨A5, c5, by simp [hD]⟩, by simp only [List.getElem_cons_succ, List.getElem_cons_zero]; rw [hD]; exact own_base o5 b5⟩
    | 2, _ => exact ⟨⟨A3, c3, by simp⟩, by simp only [List.getElem_cons_succ, List.getElem_cons_zero]; exact own_base p3 h1.size⟩
    | k + 3, hk => simp at hk; omega
  · intro hg2
    match j, k, hj, hk with
    | 0, 1, _, _ => have q1 := (o4.lt g hg).2; have q2 := (o5.lt g hg2).1; omega
    | 0, 2, _, _ => have q1 := (o4.lt g hg).1; have q2 := (o3.lt g hg2).2; omega
    | 1, 2, _, _ => have q1 := (o5.lt g hg).1; have q2 := (o3.lt g hg2).2; have := h34.size; omega
    | j, k + 3, _, hk => simp at hk; omega
    | 1, 1, h, _ => omega
    | 1, 0, h, _ => omega
    | 0, 0, h, _ => omega
    | j + 2, 0, h, _ => omega
    | j + 2, 1, h, _ => omega
    | j + 2, 2, h, _ => omega

set_option maxRecDepth 100000 in
set_option maxHeartbeats 4000000 in
theorem ShaApart_any (A B : Option Addr) (n m c d : Nat) (lb lm : List UInt8) (w : World) (h : GAt w) (hn : n = lb.length) (hm : m = lm.length) (hn1 : n ≤ 140737488351232) (hm1 : m ≤ 140737488351232) (hc : n ≤ c ∧ c ≤ maxLen) (hA : Reads w w.heap.size 1 A n (vb lb)) (hB : Reads w w.heap.size 1 B m (vb lm)) :
    Calls Tryd.prog 3 #[.slice A n c, .slice B m d] w fun e w' => e = .returned (.bool true) ∧ New w w' := by
  have HAW := Lib.hid (awake_any w h)
  by_cases hbig : 20000 < n + m
  · have hbi : (20000 : Int) < (n : Int) + (m : Int) := by omega
    clear hA hB hn hm hc hbig h
    go_enter Tryd.func3, Tryd.ntmps3
    go_wp2_with (first
      | (go_at_call 5; (with_reducible refine HAW.out.mono ?_); rintro e w1 ⟨rfl, hn1⟩; have HN1 := Lib.hid hn1; clear hn1))
    go_ret
    exact ⟨rfl, HN1.out⟩
  · have hbi : ¬ (20000 : Int) < (n : Int) + (m : Int) := by omega
    obtain ⟨D, hD⟩ : ∃ D, sum lb = D := ⟨_, rfl⟩
    have hDl : D.length = 32 := by rw [← hD]; exact sum_length _
    have HSX : Hid (∀ W, New w W → Calls Tryd.prog 6 #[.slice A n c] W fun e w' => ∃ A4 c4, e = .returned (.slice A4 32 c4) ∧ w'.ownsRow W.heap.size 5 1 (.slice A4 32 c4) 32 (vb D) ∧ New W w') := Lib.hid (fun W hW => (sum_any A n c lb W hn (by omega) hc (h.new hW).s (h.new hW).k (hA.new hW)).mono fun e w' k => by
      obtain ⟨A4, c4, he, ho, hq⟩ := k
      rw [hD, hDl] at he ho
      exact ⟨A4, c4, he, ho, hq⟩)
    have HSY : Hid (∀ W A3 c3, New w W → (n + m ≤ c3 ∧ c3 ≤ maxLen) → Reads W W.heap.size 1 A3 (n + m) (vb (lb ++ lm)) → Calls Tryd.prog 6 #[.slice A3 n c3] W fun e w' => ∃ A4 c4, e = .returned (.slice A4 32 c4) ∧ w'.ownsRow W.heap.size 5 1 (.slice A4 32 c4) 32 (vb D) ∧ New W w') := Lib.hid (fun W A3 c3 hW hc3 hr => by
      have ht := reads_take hr (show n ≤ n + m by omega)
      rw [hn, List.take_left' rfl, ← hn] at ht
      exact (sum_any A3 n c3 lb W hn (by omega) ⟨by omega, hc3.2⟩ (h.new hW).s (h.new hW).k ht).mono fun e w' k => by
        obtain ⟨A4, c4, he, ho, hq⟩ := k
        rw [hD, hDl] at he ho
        exact ⟨A4, c4, he, ho, hq⟩)
    have HSM : Hid (∀ (w5 : World) (A4 A5 : Option Addr) (c4 c5 : Nat), Reads w5 w5.heap.size 1 A4 32 (vb D) → Reads w5 w5.heap.size 1 A5 32 (vb D) → Calls Tryd.prog 7 #[.slice A4 32 c4, .slice A5 32 c5] w5 fun e w' => e = .returned (.bool true) ∧ New w5 w') := Lib.hid (fun w5 A4 A5 c4 c5 h4 h5 => same_two A4 A5 32 32 c4 c5 D w5 hDl.symm hDl.symm (by omega) h4 h5)
    have HAP : Hid (∀ (w6 : World) (A3 A4 A5 : Option Addr) (c3 c4 c5 : Nat), RSt w [(.slice A4 32 c4, D), (.slice A5 32 c5, D), (.slice A3 (n + m) c3, lb ++ lm)] w6 → Calls Tryd.prog 8 #[.slice (some ⟨w6.heap.size, 0, none⟩) 3 3] (w6.alloc (.cells #[.slice A4 32 c4, .slice A5 32 c5, .slice A3 (n + m) c3] 22)) fun e w' => e = .returned (.bool true) ∧ New w w') := Lib.hid (fun w6 A3 A4 A5 c3 c4 c5 hR => by
      have hR' := hR.keep (alloc_new w6 (.cells #[.slice A4 32 c4, .slice A5 32 c5, .slice A3 (n + m) c3] 22))
      refine (apart_rs (some ⟨w6.heap.size, 0, none⟩) 3 hR' rfl (by show 3 ≤ 1000000; omega) (fun p hp => ?_) (reads_blk3 w6 _ _ _ _)).mono fun e w' k => ⟨k.1, hR'.new.trans k.2⟩
      simp only [List.mem_cons, List.not_mem_nil, or_false] at hp
      rcases hp with rfl | rfl | rfl
      · simp only; omega
      · simp only; omega
      · simp only [List.length_append]; omega)
    have HA := Lib.hid hA
    have HB := Lib.hid hB
    have HN := Lib.hid hn
    have HM := Lib.hid hm
    have HDL := Lib.hid hDl
    have hz : lb.length + lm.length ≤ 20000 := by omega
    have HZ := Lib.hid hz
    have hnm : (n : Int) ≤ (n : Int) + (m : Int) := by omega
    clear hA hB hn hm hc hbig h hD hDl hz
    go_enter Tryd.func3, Tryd.ntmps3
    go_wp2_with (first
      | (go_at_call 5; (with_reducible refine HAW.out.mono ?_); rintro e w1 ⟨rfl, hn1⟩; have HN1 := Lib.hid hn1; have HA1 := Lib.hid (New.then hn1 (alloc_new w1 (.cells #[] 5))); clear hn1)
      | (at_builtin; refine wpList_ac (w0 := w1) (z := []) (l := lb) (by rfl) (.tmp 16) (.tmp 17) (by rfl) (Ac.made w1 w1 (new_refl w1)) (by rfl) (by rw [← HN.out]; rfl) (by rw [← HN.out]; exact HA.out.new HA1.out) (by have := HZ.out; simp; omega) ?_; intro v2 w2 hac2; obtain ⟨A2, c2, rfl, hac2⟩ := ac_one HN.out hac2; have HAC2 := Lib.hid hac2; clear hac2)
      | (at_builtin; refine wpList_ac (w0 := w1) (z := [] ++ lb) (l := lm) (by rfl) (.tmp 18) (.tmp 19) (by rfl) HAC2.out (by rfl) (by rw [← HM.out]; rfl) (by rw [← HM.out]; exact HB.out.new (New.then HN1.out HAC2.out.new)) (by have := HZ.out; simp; omega) ?_; intro v3 w3 hac3; have HN3 := Lib.hid (New.then HN1.out hac3.new); obtain ⟨A3, c3, rfl, hc3, hr3, ho3⟩ := ac_row HN.out HM.out hac3; have HC3 := Lib.hid hc3; have HR3 := Lib.hid hr3; have HO3 := Lib.hid ho3; have hk1 : n ≤ c3 := Nat.le_trans (Nat.le_add_right _ _) hc3.1; have hk2 : (n : Int) ≤ (c3 : Int) := (by omega); clear hac3 hr3 ho3 hc3))
    have HX3 := Lib.hid (HSX.out w3.drew (Below.drew HN3.out))
    go_region_held3 (fun _ => True)
      (trivial)
      (first
        | (go_at_call 6; (with_reducible refine HX3.out.mono ?_); rintro e w4 ⟨A4, c4, rfl, ho4, hn4⟩; have HO4 := Lib.hid ho4; have HN34 := Lib.hid hn4; have HY4 := Lib.hid (HSY.out w4 A3 c3 (New.then (Below.drew HN3.out) hn4) HC3.out (Reads.new (w := w3.drew) HR3.out hn4)); clear ho4 hn4)
        | (go_at_call 6; (with_reducible refine HY4.out.mono ?_); rintro e w5 ⟨A5, c5, rfl, ho5, hn5⟩; have HO5 := Lib.hid ho5; have HN45 := Lib.hid hn5; clear ho5 hn5))
    have HRS := Lib.hid (rst3 (w := w) (w1 := w1) (w3 := w3.drew) (w4 := w4) (w5 := w5) (A3 := A3) (A4 := A4) (A5 := A5) (c3 := c3) (c4 := c4) (c5 := c5) (n3 := n + m) (D := D) (L := lb ++ lm) HDL.out (by rw [List.length_append, ← HN.out, ← HM.out]) HN1.out (Below.drew HN3.out) HN34.out HN45.out HO3.out HO4.out HO5.out)
    have HSM5 := Lib.hid (HSM.out w5 A4 A5 c4 c5 (Reads.of_own (own_new HO4.out HN45.out)) (Reads.of_own HO5.out))
    go_wp2_with (first
      | (go_at_call 7; (with_reducible refine HSM5.out.mono ?_); rintro e w6 ⟨rfl, hn6⟩; have HAP6 := Lib.hid (HAP.out w6 A3 A4 A5 c3 c4 c5 (HRS.out.keep hn6)); clear hn6)
      | (go_at_call 8; (with_reducible refine HAP6.out.mono ?_); rintro e w7 ⟨rfl, hn7⟩; have HN7 := Lib.hid hn7; clear hn7))
    go_ret
    exact ⟨rfl, HN7.out⟩
end Go.Proofs.YtdbolkmhmgbgfabDoor.sha
