/-
  frame.Put: frames that may not be.
-/
import Derived.Test.YtlbbhheaginddaaPutG
namespace Go.Proofs.Ytlbbhheaginddaa.fr
open Go.RowKit Go.Proofs.Ytlbbhheaginddaa.mem Go.Proofs.Ytlbbhheaginddaa.kit Go.Proofs.Ytlbbhheaginddaa.wire Go.Proofs.Ytlbbhheaginddaa.crc
set_option linter.unusedVariables false

/-- What is wrong with a frame. -/
def Fi.Wrong (x : Fi) (y : Int) : Prop := (y = 2 ∧ (x.kind < 0 ∨ 255 < x.kind)) ∨ (y = 3 ∧ 0 ≤ x.kind ∧ x.kind ≤ 255 ∧ 262144 < x.data.length)
theorem must_wrong (x : Fi) (y : Int) (n c : Nat) (w : World) (hn : n = x.data.length) (h : x.Wrong y) : Calls Try.prog 18 #[.agg #[.int .i64 x.kind, .slice x.A n c]] w (Fault w y) := by
  subst hn
  obtain ⟨rfl, h⟩ | ⟨rfl, h0, h1, h2⟩ := h
  · exact must_arg _ _ _ _ _ h
  · exact must_long _ _ _ _ _ h0 h1 h2
def PutErr (w : World) (y : Int) (e : Ending) (w' : World) : Prop := e = .returned (.tuple #[.slice none 0 0, .int .i64 y]) ∧ New w w'

set_option maxRecDepth 100000 in
set_option maxHeartbeats 2000000 in
theorem put_err (A : Option Addr) (n c : Nat) (fs : List Fi) (j : Nat) (y : Int) (w : World) (hn : n = fs.length) (hj : j < fs.length) (hok : ∀ i (h : i < fs.length), i < j → fs[i].Ok) (hbad : ∀ (h : j < fs.length), fs[j].Wrong y) (hfl : fs.length ≤ 268435456) (hA : FrArr w A fs) :
    Calls Try.prog 5 #[.slice A n c] w (PutErr w y) := by
  have hmf : ∀ (fn : Fn) (first cap : Array Value) (w : World), (Instr.makeFunc fn first cap).run Try.prog w = .ok (.func fn first cap) w := fun _ _ _ _ => rfl
  obtain ⟨i0, hi, hz0, hz1, hz2⟩ := info_parts row_info
  have HOK := Lib.hid hok
  have HA := Lib.hid hA
  have HBAD := Lib.hid hbad
  have HN := Lib.hid hn
  have hnl : n ≤ 268435456 := by omega
  have hP0 : PS w fs 0 (.slice none 0 0) ((w.alloc (.cells #[.slice none 0 0] 24)).alloc (.cells #[.int .i64 0] 28)) :=
    ⟨New.then (alloc_new w _) (alloc_new _ _), ⟨[], World.ownsRow_nil _ _ _ _, PtS.nil _ _⟩, (Blk.new w _ _).alloc _, by have h := Blk.new (w.alloc (.cells #[.slice none 0 0] 24)) 28 #[.int .i64 0]; rwa [World.size_alloc] at h⟩
  have HP0 := Lib.hid hP0
  have hjn : j < n := by omega
  have HJ := Lib.hid hj
  clear hok hA hn hP0 hfl hbad hj
  go_enter_defers Try.func5, Try.ntmps5
  go_wp2
  go_loopw [4, 10] (fun v i wr => ∃ k : Nat, k ≤ j ∧ i = .int .i64 k ∧ PS w fs k v wr) (fun _ i _ => j - (intOf i).toNat)
  case atStart => exact ⟨0, Nat.zero_le _, rfl, HP0.out⟩
  case round =>
    clear HP0
    obtain ⟨k, hk, rfl, hps⟩ := hrel
    have HPS := Lib.hid hps
    clear hps
    by_cases hlt : k < j
    · have hlf : k < fs.length := by have := HN.out; omega
      have hkn : k < n := by omega
      obtain ⟨g, rfl, hg, g0, g1, hr⟩ := HA.out k hlf
      have k0 := (HPS.out.new.cell (p := ⟨g, k * 2, none⟩) hg).trans g0
      have k1 := (HPS.out.new.cell (p := ⟨g, k * 2 + 1, none⟩) hg).trans g1
      have HR := Lib.hid hr
      have HX := Lib.hid (HOK.out k hlf hlt)
      obtain ⟨x, hx⟩ : ∃ x, fs[k] = x := ⟨_, rfl⟩
      rw [hx] at k0 k1 HR HX
      have HXK := Lib.hid hx
      clear g0 g1 hr hx hg
      have HM := Lib.hid (must_ok x.kind x.A x.data.length x.c (wr.alloc (.cells #[.int .i64 x.kind, .slice x.A x.data.length x.c] 31)) HX.out.1 HX.out.2.1 HX.out.2.2)
      have HP1 := Lib.hid (HPS.out.keep (alloc_new wr (.cells #[.int .i64 x.kind, .slice x.A x.data.length x.c] 31)))
      have HB1 := Lib.hid (Blk.new wr 31 #[.int .i64 x.kind, .slice x.A x.data.length x.c])
      go_wp2_with (go_at_call 18; (refine HM.out.mono ?_); rintro e w6 ⟨rfl, hn6⟩)
      have HP6 := Lib.hid (HP1.out.keep hn6)
      have HB6 := Lib.hid (HB1.out.below hn6 HB1.out.lt)
      clear HM HP1 HB1 HPS k0 k1 hn6
      obtain ⟨x0, x1, -, -⟩ := fzf HB6.out
      have hkd := HX.out.kind
      have hHD := head_any x.fr x.A x.data.length x.c w6.drew rfl HX.out.2.2 (HR.out.new (Below.drew HP6.out.new))
      rw [← hkd] at hHD
      have HHD := Lib.hid hHD
      clear hkd hHD
      obtain ⟨vs, hrow, hpts⟩ := HP6.out.row
      have HROW := Lib.hid hrow
      have HPTS := Lib.hid hpts
      have hk2 : 2 * k + 2 ≤ maxLen := by unfold maxLen; omega
      have hk3 : (2 * k + 2) * 24 ≤ 140737488355328 := by omega
      have hN6d : New w6 w6.drew := Below.drew (new_refl w6)
      clear hrow hpts
      go_region_held3 (fun w' => w'.cell? ⟨wr.heap.size, 0, none⟩ = some (.int .i64 x.kind) ∧ w'.cell? ⟨wr.heap.size, 1, none⟩ = some (.slice x.A x.data.length x.c))
        (go_keep)
        (first
          | (go_at_call 19; (with_reducible refine HHD.out.mono ?_); rintro e w7 ⟨Ah, ch, rfl, ho7, hn7⟩; have hN7 := New.then hN6d hn7; have HO7 := Lib.hid ho7; clear ho7; obtain ⟨s0, s1, -, -⟩ := fzf (HB6.out.below hN7 HB6.out.lt))
          | (refine step_append_any _ (by rfl) (.tmp 16) (.tmp 21) 46 (by rfl) (w.heap.size + 2) 24 i0 _ 1 24 Try.underlying46 hi hz0 hz1 hz2 rfl (by omega) _ (2 * k) vs (by rfl) (own_new HROW.out (New.then hN7 (alloc_new w7 _))) _ (some ⟨w7.heap.size, 0, none⟩) 2 2 [.slice Ah (head9 x.fr).length ch, .slice x.A x.data.length x.c] (by rfl) (reads_blk (Blk.new w7 24 #[.slice Ah (head9 x.fr).length ch, .slice x.A x.data.length x.c])) (by simp [Value.oneCell']) hk2 hk3 (by have := HP6.out.r3.lt; have := hN7.size; simp; omega) ?_; intro v9 w9 hown9 hg9 hat9; obtain ⟨s0, s1, -, -⟩ := fzf (((HB6.out.below hN7 HB6.out.lt).alloc _).ch (Ch.of_grown hg9) (fun e => by obtain ⟨_, cs, hb⟩ := own_cells HROW.out e.symm; exact hb.ne_ HB6.out (by decide) rfl))))
      go_wp2_with fail
      go_roundw
      case rel =>
        exact ⟨k + 1, by omega, by go_num, HP6.out.step hlf HXK.out HROW.out HPTS.out HR.out hN7 HP6.out.new.size HO7.out hown9 hg9⟩
      case measure => simp [intOf]; omega
    · obtain rfl : k = j := by omega
      have hlf : k < fs.length := HJ.out
      obtain ⟨g, rfl, hg, g0, g1, -⟩ := HA.out k hlf
      have k0 := (HPS.out.new.cell (p := ⟨g, k * 2, none⟩) hg).trans g0
      have k1 := (HPS.out.new.cell (p := ⟨g, k * 2 + 1, none⟩) hg).trans g1
      have HX := Lib.hid (HBAD.out hlf)
      obtain ⟨x, hx⟩ : ∃ x, fs[k] = x := ⟨_, rfl⟩
      rw [hx] at k0 k1 HX
      clear g0 g1 hx hg HBAD
      have HM := Lib.hid (must_wrong x y x.data.length x.c (wr.alloc (.cells #[.int .i64 x.kind, .slice x.A x.data.length x.c] 31)) rfl HX.out)
      have HP1 := Lib.hid (HPS.out.keep (alloc_new wr (.cells #[.int .i64 x.kind, .slice x.A x.data.length x.c] 31)))
      clear HPS
      go_wp2_with (go_at_call 18; (refine HM.out.mono ?_); rintro e w6 ⟨rfl, hn6⟩)
      have hP6 := HP1.out.keep hn6
      refine leaves_cons (f := 17) (args := #[.pointer (some ⟨w.heap.size, 0, none⟩), .pointer (some ⟨w.heap.size + 1, 0, none⟩)]) (by simp) (by simp [go_sem]) ?_
      refine (catch_fault w.heap.size (w.heap.size + 1) y _ _ [] w6 hP6.r2 hP6.r3).mono ?_
      rintro e u' w'' ⟨rfl, rfl, rfl⟩
      have a2 := hP6.r2.set_ 0 (.slice none 0 0)
      have a3 := hP6.r3.far (p := ⟨w.heap.size, 0, none⟩) (by simp) (.slice none 0 0)
      have n1 : New w (w6.setCell ⟨w.heap.size, 0, none⟩ (.slice none 0 0)) := hP6.new.setCell (p := ⟨w.heap.size, 0, none⟩) (Nat.le_refl _) _
      generalize (w6.setCell ⟨w.heap.size, 0, none⟩ (.slice none 0 0)) = w8 at *
      have b2 := a2.far (p := ⟨w.heap.size + 1, 0, none⟩) (by simp) (.int .i64 y)
      have b3 := a3.set_ 0 (.int .i64 y)
      have n2 : New w (w8.setCell ⟨w.heap.size + 1, 0, none⟩ (.int .i64 y)) := n1.setCell (p := ⟨w.heap.size + 1, 0, none⟩) (Nat.le_succ _) _
      generalize (w8.setCell ⟨w.heap.size + 1, 0, none⟩ (.int .i64 y)) = w9 at *
      have d2 : w9.cell? ⟨w.heap.size, 0, none⟩ = some (.slice none 0 0) := (b2.cell 0).trans rfl
      have d3 : w9.cell? ⟨w.heap.size + 1, 0, none⟩ = some (.int .i64 y) := (b3.cell 0).trans rfl
      refine ⟨.tuple #[.slice none 0 0, .int .i64 y], by simp [results, Try.results5, go_sem, d2, d3], rfl, n2⟩
end Go.Proofs.Ytlbbhheaginddaa.fr
