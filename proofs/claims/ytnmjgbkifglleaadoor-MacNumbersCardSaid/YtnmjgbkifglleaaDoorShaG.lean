/-
  sha's laws: the example, digests known of old.
-/
import Derived.Test.YtnmjgbkifglleaaDoorShaF
import Derived.Test.YtnmjgbkifglleaaDoorKitB
import Derived.Lib.SlBytesConst
namespace Go.Proofs.YtnmjgbkifglleaaDoor.sha
open Go.RowKit Go.Proofs.YtnmjgbkifglleaaDoor.mem
set_option linter.unusedVariables false

theorem sum_abc : sum [97, 98, 99] = [186, 120, 22, 191, 143, 1, 207, 234, 65, 65, 64, 222, 93, 174, 34, 35, 176, 3, 97, 163, 150, 23, 122, 156, 180, 16, 255, 97, 242, 0, 21, 173] := by decide +kernel
theorem sum_nil : sum [] = [227, 176, 196, 66, 152, 252, 28, 20, 154, 251, 244, 200, 153, 111, 185, 36, 39, 174, 65, 228, 100, 155, 147, 76, 164, 149, 153, 27, 120, 82, 184, 85] := by decide +kernel

/-- What the package's variables hold. -/
structure GAt (w : World) : Prop where
  s : SAt w
  k : KAt w
theorem GAt.new {w w' : World} (h : GAt w) (hn : New w w') : GAt w' := ⟨h.s.new hn, h.k.new hn⟩

theorem Dig.cells {w w' : World} {l : List UInt8} {e : Ending} (h : Dig w l e w') (h0 : 0 < l.length) : ∃ g c, e = .returned (.slice (some ⟨g, 0, none⟩) l.length c) ∧ (∀ i (hi : i < l.length), w'.cell? ⟨g, i, none⟩ = some (.int .u8 (l[i].toNat : Int))) ∧ g < w'.heap.size ∧ New w w' := by
  obtain ⟨A, c, rfl, ho, hn⟩ := h
  obtain ⟨ad, e, hb, hc⟩ := (Reads.of_own ho).2 h0
  obtain ⟨g, cap, hv, _, hlt⟩ := ho.form h0
  have hA : A = some ⟨g, 0, none⟩ := by injection hv
  subst hA
  simp only [Option.some.injEq] at e
  subst e
  refine ⟨g, c, rfl, fun i hi => ?_, hlt, hn⟩
  have := hc i _ (vb_get l i hi)
  rwa [Addr.add_lit, Nat.zero_add] at this
theorem reads_mark (w : World) (cs : Array Value) (fr : Nat × Nat) : Reads (w.alloc (.cells cs 5 fr)) (w.alloc (.cells cs 5 fr)).heap.size 1 (some ⟨w.heap.size, 0, none⟩) cs.size cs.toList :=
  ⟨by simp, fun _ => ⟨_, rfl, by simp, fun j u hu => by
    rw [Addr.add_lit, Nat.zero_add, World.cell?_alloc_mark, ← Array.getElem?_toList]
    exact hu⟩⟩
theorem GAt.mark {w : World} (h : GAt w) (o : Obj) : GAt (w.alloc o) := h.new (alloc_new w o)

theorem ex_abc (w : World) (h : GAt w) : Calls Tryd.prog 11 #[.slice (some ⟨w.heap.size, 0, none⟩) 3 3] (w.alloc (.cells #[.int .u8 97, .int .u8 98, .int .u8 99] 5 (3, 4))) fun e w' => ∃ g c, e = .returned (.slice (some ⟨g, 0, none⟩) 32 c) ∧ w'.cell? ⟨g, 0, none⟩ = some (.int .u8 186) ∧ w'.cell? ⟨g, 1, none⟩ = some (.int .u8 120) ∧ w'.cell? ⟨g, 30, none⟩ = some (.int .u8 21) ∧ w'.cell? ⟨g, 31, none⟩ = some (.int .u8 173) ∧ g < w'.heap.size ∧ New w w' := by
  have hg := h.mark (.cells #[.int .u8 97, .int .u8 98, .int .u8 99] 5 (3, 4))
  have hr := sum_any (some ⟨w.heap.size, 0, none⟩) 3 3 [97, 98, 99] (w.alloc (.cells #[.int .u8 97, .int .u8 98, .int .u8 99] 5 (3, 4))) rfl (by omega) (by unfold maxLen; omega) hg.s hg.k (reads_mark w _ _)
  rw [sum_abc] at hr
  refine hr.mono fun e w' k => ?_
  obtain ⟨g, c, rfl, hc, hlt, hn⟩ := k.cells (by simp)
  exact ⟨g, c, rfl, hc 0 (by simp), hc 1 (by simp), hc 30 (by simp), hc 31 (by simp), hlt, New.then (alloc_new w _) hn⟩
theorem ex_nil (w : World) (h : GAt w) : Calls Tryd.prog 11 #[.slice none 0 0] w fun e w' => ∃ g c, e = .returned (.slice (some ⟨g, 0, none⟩) 32 c) ∧ w'.cell? ⟨g, 0, none⟩ = some (.int .u8 227) ∧ w'.cell? ⟨g, 31, none⟩ = some (.int .u8 85) ∧ New w w' := by
  have hr := sum_any none 0 0 [] w rfl (by omega) (by unfold maxLen; omega) h.s h.k Reads.none_
  rw [sum_nil] at hr
  refine hr.mono fun e w' k => ?_
  obtain ⟨g, c, rfl, hc, hlt, hn⟩ := k.cells (by simp)
  exact ⟨g, c, rfl, hc 0 (by simp), hc 31 (by simp), hn⟩

set_option maxRecDepth 100000 in
set_option maxHeartbeats 4000000 in
theorem awake_any (w : World) (h : GAt w) : Calls Tryd.prog 8 #[] w fun e w' => e = .returned (.bool true) ∧ New w w' := by
  have HP := Lib.hid (ex_abc w h)
  have HQ : Hid (∀ W, New w W → Calls Tryd.prog 11 #[.slice none 0 0] W fun e w' => ∃ g c, e = .returned (.slice (some ⟨g, 0, none⟩) 32 c) ∧ w'.cell? ⟨g, 0, none⟩ = some (.int .u8 227) ∧ w'.cell? ⟨g, 31, none⟩ = some (.int .u8 85) ∧ New W w') := Lib.hid (fun W hW => ex_nil W (h.new hW))
  have kc := fun (w : World) (C : Array Value) (n c : Nat) => Lib.run_convert_bytes_const (P := Tryd.prog) w 22 5 C n c Tryd.underlying22 Tryd.underlying5
  clear h
  go_enter Tryd.func8, Tryd.ntmps8
  go_wp2_with (first
    | (go_at_call 11; (with_reducible refine HP.out.mono ?_); rintro e w3 ⟨g3, c3, rfl, k0, k1, k30, k31, hg3, hn3⟩; have HN3 := Lib.hid hn3; clear hn3)
    | (go_at_call 11; (with_reducible refine (HQ.out w3 HN3.out).mono ?_); rintro e w4 ⟨g4, c4, rfl, m0, m31, hn4⟩; have HN4 := Lib.hid (New.then HN3.out hn4); have q0 := (hn4.cell (p := ⟨g3, 0, none⟩) hg3).trans k0; have q1 := (hn4.cell (p := ⟨g3, 1, none⟩) hg3).trans k1; have q30 := (hn4.cell (p := ⟨g3, 30, none⟩) hg3).trans k30; have q31 := (hn4.cell (p := ⟨g3, 31, none⟩) hg3).trans k31; clear hn4))
  go_ret
  exact ⟨rfl, HN4.out⟩
end Go.Proofs.YtnmjgbkifglleaaDoor.sha
