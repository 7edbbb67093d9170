/-
  The document's answer for ins: an instruction's bytes.
-/
import Derived.Test.YtmkonhfgmkdhoaaDoorInsK
import Derived.Test.YtmkonhfgmkdhoaaDoorInsP
import Derived.Test.YtmkonhfgmkdhoaaDoorInsV
namespace Go.Proofs.YtmkonhfgmkdhoaaDoor.ins
open Go.RowKit Go.Proofs.YtmkonhfgmkdhoaaDoor.mem Go.Proofs.YtmkonhfgmkdhoaaDoor.kit
set_option linter.unusedVariables false
set_option linter.unusedSimpArgs false

/-- RBy bytes in a new block. -/
def RBy (w : World) (i : In) (e : Ending) (w' : World) : Prop :=
  ∃ g, e = .returned (.slice (some ⟨g, 0, none⟩) 8 8) ∧ w.heap.size ≤ g ∧ Blk w' g 5 (vb (bs i)).toArray ∧ New w w'
theorem rby_mk {w w1 : World} {g : Nat} {i : In} {x0 x1 x2 x3 x4 x5 x6 x7 : Int} (hs : w1.heap.size = g) (hg : w.heap.size ≤ g) (hn : New w w1)
    (h0 : x0 = first i % 256) (h1 : x1 = (16 * i.dst + i.src) % 256) (h2 : x2 = i.off / 256 % 256) (h3 : x3 = i.off % 256) (h4 : x4 = i.imm / 16777216 % 256) (h5 : x5 = i.imm / 65536 % 256) (h6 : x6 = i.imm / 256 % 256) (h7 : x7 = i.imm % 256) :
    RBy w i (.returned (.slice (some ⟨g, 0, none⟩) 8 8)) (w1.alloc (.cells #[.int .u8 x0, .int .u8 x1, .int .u8 x2, .int .u8 x3, .int .u8 x4, .int .u8 x5, .int .u8 x6, .int .u8 x7] 5)) := by
  subst hs
  refine ⟨_, rfl, hg, ?_, hn.alloc hn.size _⟩
  rw [bs_cells, ← h0, ← h1, ← h2, ← h3, ← h4, ← h5, ← h6, ← h7]
  exact Blk.new _ _ _

set_option maxRecDepth 100000 in
set_option maxHeartbeats 2000000 in
theorem rbytes_0nr (o d s f m : Int) (w : World) (o0 : 1 ≤ o) (o1 : o ≤ 28) (d0 : 0 ≤ d) (d1 : d ≤ 10) (s0 : 0 ≤ s) (s1 : s ≤ 10) (f0 : -32768 ≤ f) (f1 : f ≤ 32767) (m0 : -2147483648 ≤ m) (m1 : m ≤ 2147483647) :
    Calls Tryd.prog 22 #[.agg #[.int .u8 o, .bool false, .int .i64 d, .int .i64 s, .bool false, .int .i64 f, .int .i64 m, .int .i64 0]] w (RBy w ⟨o, false, d, s, false, f, m, 0⟩) := by
  by_cases hf : f < 0 <;> by_cases hm : m < 0
  all_goals
    go_enter Tryd.func22, Tryd.ntmps22
    go_wp2
    go_quiet (fail)
    go_wp2
    go_ret
    refine rby_mk (by exact World.size_alloc _ _) (by omega) (New.drewN (new1 w _) _) ?_ ?_ ?_ ?_ ?_ ?_ ?_ ?_
    all_goals (simp [first, up]; try omega)

set_option maxRecDepth 100000 in
set_option maxHeartbeats 2000000 in
theorem rbytes_0ni (o d s f m : Int) (w : World) (o0 : 1 ≤ o) (o1 : o ≤ 28) (d0 : 0 ≤ d) (d1 : d ≤ 10) (s0 : 0 ≤ s) (s1 : s ≤ 10) (f0 : -32768 ≤ f) (f1 : f ≤ 32767) (m0 : -2147483648 ≤ m) (m1 : m ≤ 2147483647) :
    Calls Tryd.prog 22 #[.agg #[.int .u8 o, .bool false, .int .i64 d, .int .i64 s, .bool true, .int .i64 f, .int .i64 m, .int .i64 0]] w (RBy w ⟨o, false, d, s, true, f, m, 0⟩) := by
  by_cases hf : f < 0 <;> by_cases hm : m < 0
  all_goals
    go_enter Tryd.func22, Tryd.ntmps22
    go_wp2
    go_quiet (fail)
    go_wp2
    go_ret
    refine rby_mk (by exact World.size_alloc _ _) (by omega) (New.drewN (new1 w _) _) ?_ ?_ ?_ ?_ ?_ ?_ ?_ ?_
    all_goals (simp [first, up]; try omega)

set_option maxRecDepth 100000 in
set_option maxHeartbeats 2000000 in
theorem rbytes_0Nr (o d s f m : Int) (w : World) (o0 : 1 ≤ o) (o1 : o ≤ 28) (d0 : 0 ≤ d) (d1 : d ≤ 10) (s0 : 0 ≤ s) (s1 : s ≤ 10) (f0 : -32768 ≤ f) (f1 : f ≤ 32767) (m0 : -2147483648 ≤ m) (m1 : m ≤ 2147483647) :
    Calls Tryd.prog 22 #[.agg #[.int .u8 o, .bool true, .int .i64 d, .int .i64 s, .bool false, .int .i64 f, .int .i64 m, .int .i64 0]] w (RBy w ⟨o, true, d, s, false, f, m, 0⟩) := by
  by_cases hf : f < 0 <;> by_cases hm : m < 0
  all_goals
    go_enter Tryd.func22, Tryd.ntmps22
    go_wp2
    go_quiet (fail)
    go_wp2
    go_ret
    refine rby_mk (by exact World.size_alloc _ _) (by omega) (New.drewN (new1 w _) _) ?_ ?_ ?_ ?_ ?_ ?_ ?_ ?_
    all_goals (simp [first, up]; try omega)

set_option maxRecDepth 100000 in
set_option maxHeartbeats 2000000 in
theorem rbytes_0Ni (o d s f m : Int) (w : World) (o0 : 1 ≤ o) (o1 : o ≤ 28) (d0 : 0 ≤ d) (d1 : d ≤ 10) (s0 : 0 ≤ s) (s1 : s ≤ 10) (f0 : -32768 ≤ f) (f1 : f ≤ 32767) (m0 : -2147483648 ≤ m) (m1 : m ≤ 2147483647) :
    Calls Tryd.prog 22 #[.agg #[.int .u8 o, .bool true, .int .i64 d, .int .i64 s, .bool true, .int .i64 f, .int .i64 m, .int .i64 0]] w (RBy w ⟨o, true, d, s, true, f, m, 0⟩) := by
  by_cases hf : f < 0 <;> by_cases hm : m < 0
  all_goals
    go_enter Tryd.func22, Tryd.ntmps22
    go_wp2
    go_quiet (fail)
    go_wp2
    go_ret
    refine rby_mk (by exact World.size_alloc _ _) (by omega) (New.drewN (new1 w _) _) ?_ ?_ ?_ ?_ ?_ ?_ ?_ ?_
    all_goals (simp [first, up]; try omega)

set_option maxRecDepth 100000 in
set_option maxHeartbeats 2000000 in
theorem rbytes_1nr (o d s f m : Int) (w : World) (o0 : 1 ≤ o) (o1 : o ≤ 28) (d0 : 0 ≤ d) (d1 : d ≤ 10) (s0 : 0 ≤ s) (s1 : s ≤ 10) (f0 : -32768 ≤ f) (f1 : f ≤ 32767) (m0 : -2147483648 ≤ m) (m1 : m ≤ 2147483647) :
    Calls Tryd.prog 22 #[.agg #[.int .u8 o, .bool false, .int .i64 d, .int .i64 s, .bool false, .int .i64 f, .int .i64 m, .int .i64 1]] w (RBy w ⟨o, false, d, s, false, f, m, 1⟩) := by
  by_cases hf : f < 0 <;> by_cases hm : m < 0
  all_goals
    go_enter Tryd.func22, Tryd.ntmps22
    go_wp2
    go_quiet (fail)
    go_wp2
    go_ret
    refine rby_mk (by exact World.size_alloc _ _) (by omega) (New.drewN (new1 w _) _) ?_ ?_ ?_ ?_ ?_ ?_ ?_ ?_
    all_goals (simp [first, up]; try omega)

set_option maxRecDepth 100000 in
set_option maxHeartbeats 2000000 in
theorem rbytes_1ni (o d s f m : Int) (w : World) (o0 : 1 ≤ o) (o1 : o ≤ 28) (d0 : 0 ≤ d) (d1 : d ≤ 10) (s0 : 0 ≤ s) (s1 : s ≤ 10) (f0 : -32768 ≤ f) (f1 : f ≤ 32767) (m0 : -2147483648 ≤ m) (m1 : m ≤ 2147483647) :
    Calls Tryd.prog 22 #[.agg #[.int .u8 o, .bool false, .int .i64 d, .int .i64 s, .bool true, .int .i64 f, .int .i64 m, .int .i64 1]] w (RBy w ⟨o, false, d, s, true, f, m, 1⟩) := by
  by_cases hf : f < 0 <;> by_cases hm : m < 0
  all_goals
    go_enter Tryd.func22, Tryd.ntmps22
    go_wp2
    go_quiet (fail)
    go_wp2
    go_ret
    refine rby_mk (by exact World.size_alloc _ _) (by omega) (New.drewN (new1 w _) _) ?_ ?_ ?_ ?_ ?_ ?_ ?_ ?_
    all_goals (simp [first, up]; try omega)

set_option maxRecDepth 100000 in
set_option maxHeartbeats 2000000 in
theorem rbytes_2nr (o d s f m : Int) (w : World) (o0 : 1 ≤ o) (o1 : o ≤ 28) (d0 : 0 ≤ d) (d1 : d ≤ 10) (s0 : 0 ≤ s) (s1 : s ≤ 10) (f0 : -32768 ≤ f) (f1 : f ≤ 32767) (m0 : -2147483648 ≤ m) (m1 : m ≤ 2147483647) :
    Calls Tryd.prog 22 #[.agg #[.int .u8 o, .bool false, .int .i64 d, .int .i64 s, .bool false, .int .i64 f, .int .i64 m, .int .i64 2]] w (RBy w ⟨o, false, d, s, false, f, m, 2⟩) := by
  by_cases hf : f < 0 <;> by_cases hm : m < 0
  all_goals
    go_enter Tryd.func22, Tryd.ntmps22
    go_wp2
    go_quiet (fail)
    go_wp2
    go_ret
    refine rby_mk (by exact World.size_alloc _ _) (by omega) (New.drewN (new1 w _) _) ?_ ?_ ?_ ?_ ?_ ?_ ?_ ?_
    all_goals (simp [first, up]; try omega)

set_option maxRecDepth 100000 in
set_option maxHeartbeats 2000000 in
theorem rbytes_2ni (o d s f m : Int) (w : World) (o0 : 1 ≤ o) (o1 : o ≤ 28) (d0 : 0 ≤ d) (d1 : d ≤ 10) (s0 : 0 ≤ s) (s1 : s ≤ 10) (f0 : -32768 ≤ f) (f1 : f ≤ 32767) (m0 : -2147483648 ≤ m) (m1 : m ≤ 2147483647) :
    Calls Tryd.prog 22 #[.agg #[.int .u8 o, .bool false, .int .i64 d, .int .i64 s, .bool true, .int .i64 f, .int .i64 m, .int .i64 2]] w (RBy w ⟨o, false, d, s, true, f, m, 2⟩) := by
  by_cases hf : f < 0 <;> by_cases hm : m < 0
  all_goals
    go_enter Tryd.func22, Tryd.ntmps22
    go_wp2
    go_quiet (fail)
    go_wp2
    go_ret
    refine rby_mk (by exact World.size_alloc _ _) (by omega) (New.drewN (new1 w _) _) ?_ ?_ ?_ ?_ ?_ ?_ ?_ ?_
    all_goals (simp [first, up]; try omega)

set_option maxRecDepth 100000 in
set_option maxHeartbeats 2000000 in
theorem rbytes_4nr (o d s f m : Int) (w : World) (o0 : 1 ≤ o) (o1 : o ≤ 28) (d0 : 0 ≤ d) (d1 : d ≤ 10) (s0 : 0 ≤ s) (s1 : s ≤ 10) (f0 : -32768 ≤ f) (f1 : f ≤ 32767) (m0 : -2147483648 ≤ m) (m1 : m ≤ 2147483647) :
    Calls Tryd.prog 22 #[.agg #[.int .u8 o, .bool false, .int .i64 d, .int .i64 s, .bool false, .int .i64 f, .int .i64 m, .int .i64 4]] w (RBy w ⟨o, false, d, s, false, f, m, 4⟩) := by
  by_cases hf : f < 0 <;> by_cases hm : m < 0
  all_goals
    go_enter Tryd.func22, Tryd.ntmps22
    go_wp2
    go_quiet (fail)
    go_wp2
    go_ret
    refine rby_mk (by exact World.size_alloc _ _) (by omega) (New.drewN (new1 w _) _) ?_ ?_ ?_ ?_ ?_ ?_ ?_ ?_
    all_goals (simp [first, up]; try omega)

set_option maxRecDepth 100000 in
set_option maxHeartbeats 2000000 in
theorem rbytes_4ni (o d s f m : Int) (w : World) (o0 : 1 ≤ o) (o1 : o ≤ 28) (d0 : 0 ≤ d) (d1 : d ≤ 10) (s0 : 0 ≤ s) (s1 : s ≤ 10) (f0 : -32768 ≤ f) (f1 : f ≤ 32767) (m0 : -2147483648 ≤ m) (m1 : m ≤ 2147483647) :
    Calls Tryd.prog 22 #[.agg #[.int .u8 o, .bool false, .int .i64 d, .int .i64 s, .bool true, .int .i64 f, .int .i64 m, .int .i64 4]] w (RBy w ⟨o, false, d, s, true, f, m, 4⟩) := by
  by_cases hf : f < 0 <;> by_cases hm : m < 0
  all_goals
    go_enter Tryd.func22, Tryd.ntmps22
    go_wp2
    go_quiet (fail)
    go_wp2
    go_ret
    refine rby_mk (by exact World.size_alloc _ _) (by omega) (New.drewN (new1 w _) _) ?_ ?_ ?_ ?_ ?_ ?_ ?_ ?_
    all_goals (simp [first, up]; try omega)

set_option maxRecDepth 100000 in
set_option maxHeartbeats 2000000 in
theorem rbytes_8nr (o d s f m : Int) (w : World) (o0 : 1 ≤ o) (o1 : o ≤ 28) (d0 : 0 ≤ d) (d1 : d ≤ 10) (s0 : 0 ≤ s) (s1 : s ≤ 10) (f0 : -32768 ≤ f) (f1 : f ≤ 32767) (m0 : -2147483648 ≤ m) (m1 : m ≤ 2147483647) :
    Calls Tryd.prog 22 #[.agg #[.int .u8 o, .bool false, .int .i64 d, .int .i64 s, .bool false, .int .i64 f, .int .i64 m, .int .i64 8]] w (RBy w ⟨o, false, d, s, false, f, m, 8⟩) := by
  by_cases hf : f < 0 <;> by_cases hm : m < 0
  all_goals
    go_enter Tryd.func22, Tryd.ntmps22
    go_wp2
    go_quiet (fail)
    go_wp2
    go_ret
    refine rby_mk (by exact World.size_alloc _ _) (by omega) (New.drewN (new1 w _) _) ?_ ?_ ?_ ?_ ?_ ?_ ?_ ?_
    all_goals (simp [first, up]; try omega)

set_option maxRecDepth 100000 in
set_option maxHeartbeats 2000000 in
theorem rbytes_8ni (o d s f m : Int) (w : World) (o0 : 1 ≤ o) (o1 : o ≤ 28) (d0 : 0 ≤ d) (d1 : d ≤ 10) (s0 : 0 ≤ s) (s1 : s ≤ 10) (f0 : -32768 ≤ f) (f1 : f ≤ 32767) (m0 : -2147483648 ≤ m) (m1 : m ≤ 2147483647) :
    Calls Tryd.prog 22 #[.agg #[.int .u8 o, .bool false, .int .i64 d, .int .i64 s, .bool true, .int .i64 f, .int .i64 m, .int .i64 8]] w (RBy w ⟨o, false, d, s, true, f, m, 8⟩) := by
  by_cases hf : f < 0 <;> by_cases hm : m < 0
  all_goals
    go_enter Tryd.func22, Tryd.ntmps22
    go_wp2
    go_quiet (fail)
    go_wp2
    go_ret
    refine rby_mk (by exact World.size_alloc _ _) (by omega) (New.drewN (new1 w _) _) ?_ ?_ ?_ ?_ ?_ ?_ ?_ ?_
    all_goals (simp [first, up]; try omega)

theorem rbytes_any (i : In) (w : World) (h : ok i = true) : Calls Tryd.prog 22 #[i.val] w (RBy w i) := by
  obtain ⟨d0, d1, s0, s1, hf, hi, o0, o1, hz⟩ := ok_facts i h
  obtain ⟨o, n, d, s, u, f, m, z⟩ := i
  simp only at d0 d1 s0 s1 hf hi o0 o1 hz
  simp [far] at hf
  simp [fits] at hi
  unfold In.val
  rcases hz with ⟨ho, rfl, hz⟩ | ⟨ho, rfl⟩
  · simp [sizd] at hz
    rcases hz with ((rfl | rfl) | rfl) | rfl <;> cases u
    · exact rbytes_1nr o d s f m w o0 o1 d0 d1 s0 s1 hf.1 hf.2 hi.1 hi.2
    · exact rbytes_1ni o d s f m w o0 o1 d0 d1 s0 s1 hf.1 hf.2 hi.1 hi.2
    · exact rbytes_2nr o d s f m w o0 o1 d0 d1 s0 s1 hf.1 hf.2 hi.1 hi.2
    · exact rbytes_2ni o d s f m w o0 o1 d0 d1 s0 s1 hf.1 hf.2 hi.1 hi.2
    · exact rbytes_4nr o d s f m w o0 o1 d0 d1 s0 s1 hf.1 hf.2 hi.1 hi.2
    · exact rbytes_4ni o d s f m w o0 o1 d0 d1 s0 s1 hf.1 hf.2 hi.1 hi.2
    · exact rbytes_8nr o d s f m w o0 o1 d0 d1 s0 s1 hf.1 hf.2 hi.1 hi.2
    · exact rbytes_8ni o d s f m w o0 o1 d0 d1 s0 s1 hf.1 hf.2 hi.1 hi.2
  · cases n <;> cases u
    · exact rbytes_0nr o d s f m w o0 o1 d0 d1 s0 s1 hf.1 hf.2 hi.1 hi.2
    · exact rbytes_0ni o d s f m w o0 o1 d0 d1 s0 s1 hf.1 hf.2 hi.1 hi.2
    · exact rbytes_0Nr o d s f m w o0 o1 d0 d1 s0 s1 hf.1 hf.2 hi.1 hi.2
    · exact rbytes_0Ni o d s f m w o0 o1 d0 d1 s0 s1 hf.1 hf.2 hi.1 hi.2
end Go.Proofs.YtmkonhfgmkdhoaaDoor.ins
