/-
  The document's answer for ins: the instruction that eight bytes may have.
-/
import Derived.Test.YtmkonhfgmkdhoaaDoorInsAB
import Derived.Deep.CutBlock
import Derived.Deep.DeepCutAuto
import Derived.BigRegion
import Derived.Laws.IdiomStrings
namespace Go.Proofs.YtmkonhfgmkdhoaaDoor.ins
open Go.RowKit Go.Proofs.YtmkonhfgmkdhoaaDoor.mem Go.Proofs.YtmkonhfgmkdhoaaDoor.kit
set_option linter.unusedVariables false
set_option linter.unusedSimpArgs false

theorem fz8 {w : World} {g : Nat} {t : TypeId} {x0 x1 x2 x3 x4 x5 x6 x7 : Value} (h : Blk w g t #[x0, x1, x2, x3, x4, x5, x6, x7]) :
    (w.cell? ⟨g, 0, none⟩ = some x0 ∧ w.cell? ⟨g, 1, none⟩ = some x1 ∧ w.cell? ⟨g, 2, none⟩ = some x2 ∧ w.cell? ⟨g, 3, none⟩ = some x3 ∧ w.cell? ⟨g, 4, none⟩ = some x4 ∧ w.cell? ⟨g, 5, none⟩ = some x5 ∧ w.cell? ⟨g, 6, none⟩ = some x6 ∧ w.cell? ⟨g, 7, none⟩ = some x7) ∧ (∀ i, w.frozen? ⟨g, i, none⟩ = false) :=
  ⟨⟨(h.cell 0).trans rfl, (h.cell 1).trans rfl, (h.cell 2).trans rfl, (h.cell 3).trans rfl, (h.cell 4).trans rfl, (h.cell 5).trans rfl, (h.cell 6).trans rfl, (h.cell 7).trans rfl⟩, fun i => h.frozen i⟩
/-- The bytes that are read. -/
structure B8 (w : World) (g o : Nat) (b0 b1 b2 b3 b4 b5 b6 b7 : Int) : Prop where
  lt : g < w.heap.size
  c0 : w.cell? ⟨g, o, none⟩ = some (.int .u8 b0)
  c1 : w.cell? ⟨g, o + 1, none⟩ = some (.int .u8 b1)
  c2 : w.cell? ⟨g, o + 2, none⟩ = some (.int .u8 b2)
  c3 : w.cell? ⟨g, o + 3, none⟩ = some (.int .u8 b3)
  c4 : w.cell? ⟨g, o + 4, none⟩ = some (.int .u8 b4)
  c5 : w.cell? ⟨g, o + 5, none⟩ = some (.int .u8 b5)
  c6 : w.cell? ⟨g, o + 6, none⟩ = some (.int .u8 b6)
  c7 : w.cell? ⟨g, o + 7, none⟩ = some (.int .u8 b7)
theorem B8.new {w w' : World} {g o : Nat} {b0 b1 b2 b3 b4 b5 b6 b7 : Int} (h : B8 w g o b0 b1 b2 b3 b4 b5 b6 b7) (hn : New w w') : B8 w' g o b0 b1 b2 b3 b4 b5 b6 b7 := by
  have c : ∀ j, w'.cell? ⟨g, j, none⟩ = w.cell? ⟨g, j, none⟩ := fun j => hn.cell (p := ⟨g, j, none⟩) h.lt
  exact ⟨Nat.lt_of_lt_of_le h.lt hn.size, (c _).trans h.c0, (c _).trans h.c1, (c _).trans h.c2, (c _).trans h.c3, (c _).trans h.c4, (c _).trans h.c5, (c _).trans h.c6, (c _).trans h.c7⟩
/-- The call's own two instructions: what it tells (z) and what it has read (i). -/
structure O2 (w W : World) (o : Int) (n : Bool) (d s : Int) (u : Bool) (f m z : Int) : Prop where
  new : New w W
  r : Blk W w.heap.size 37 #[.int .u8 0, .bool false, .int .i64 0, .int .i64 0, .bool false, .int .i64 0, .int .i64 0, .int .i64 0]
  i : Blk W (w.heap.size + 1) 37 #[.int .u8 o, .bool n, .int .i64 d, .int .i64 s, .bool u, .int .i64 f, .int .i64 m, .int .i64 z]

theorem o2_at {w W : World} {o : Int} {n : Bool} {d s : Int} {u : Bool} {f m z : Int} (h : O2 w W o n d s u f m z) :
    (W.cell? ⟨w.heap.size + 1, 0, none⟩ = some (.int .u8 o) ∧ W.cell? ⟨w.heap.size + 1, 1, none⟩ = some (.bool n) ∧ W.cell? ⟨w.heap.size + 1, 2, none⟩ = some (.int .i64 d) ∧ W.cell? ⟨w.heap.size + 1, 3, none⟩ = some (.int .i64 s) ∧ W.cell? ⟨w.heap.size + 1, 4, none⟩ = some (.bool u) ∧ W.cell? ⟨w.heap.size + 1, 5, none⟩ = some (.int .i64 f) ∧ W.cell? ⟨w.heap.size + 1, 6, none⟩ = some (.int .i64 m) ∧ W.cell? ⟨w.heap.size + 1, 7, none⟩ = some (.int .i64 z)) ∧ (∀ i, W.frozen? ⟨w.heap.size + 1, i, none⟩ = false) := fz8 h.i
theorem O2.off {w W : World} {o : Int} {n : Bool} {d s : Int} {u : Bool} {f m z : Int} (h : O2 w W o n d s u f m z) (x : Int) : O2 w (W.setCell ⟨w.heap.size + 1, 5, none⟩ (.int .i64 x)) o n d s u x m z :=
  ⟨h.new.setCell (p := ⟨w.heap.size + 1, 5, none⟩) (Nat.le_succ _) _, h.r.far (p := ⟨w.heap.size + 1, 5, none⟩) (by simp) _, h.i.set_ 5 _⟩
theorem O2.imm {w W : World} {o : Int} {n : Bool} {d s : Int} {u : Bool} {f m z : Int} (h : O2 w W o n d s u f m z) (x : Int) : O2 w (W.setCell ⟨w.heap.size + 1, 6, none⟩ (.int .i64 x)) o n d s u f x z :=
  ⟨h.new.setCell (p := ⟨w.heap.size + 1, 6, none⟩) (Nat.le_succ _) _, h.r.far (p := ⟨w.heap.size + 1, 6, none⟩) (by simp) _, h.i.set_ 6 _⟩
theorem O2.siz {w W : World} {o : Int} {n : Bool} {d s : Int} {u : Bool} {f m z : Int} (h : O2 w W o n d s u f m z) (x : Int) : O2 w (W.setCell ⟨w.heap.size + 1, 7, none⟩ (.int .i64 x)) o n d s u f m x :=
  ⟨h.new.setCell (p := ⟨w.heap.size + 1, 7, none⟩) (Nat.le_succ _) _, h.r.far (p := ⟨w.heap.size + 1, 7, none⟩) (by simp) _, h.i.set_ 7 _⟩
theorem O2.nar {w W : World} {o : Int} {n : Bool} {d s : Int} {u : Bool} {f m z : Int} (h : O2 w W o n d s u f m z) (x : Bool) : O2 w (W.setCell ⟨w.heap.size + 1, 1, none⟩ (.bool x)) o x d s u f m z :=
  ⟨h.new.setCell (p := ⟨w.heap.size + 1, 1, none⟩) (Nat.le_succ _) _, h.r.far (p := ⟨w.heap.size + 1, 1, none⟩) (by simp) _, h.i.set_ 1 _⟩
theorem O2.drew {w W : World} {o : Int} {n : Bool} {d s : Int} {u : Bool} {f m z : Int} (h : O2 w W o n d s u f m z) : O2 w W.drew o n d s u f m z := ⟨Below.drew h.new, h.r, h.i⟩

/-- What the two last calls tell. -/
def OneD (w : World) (x : In) (B : Bool) (e : Ending) (w' : World) : Prop := e = .returned (.tuple #[x.val, .bool B]) ∧ New w w'

/-- The bytes that are read, as a list. -/
def Is8 (p : List UInt8) (b0 b1 b2 b3 b4 b5 b6 b7 : Int) : Prop := p.length = 8 ∧ vb p = [.int .u8 b0, .int .u8 b1, .int .u8 b2, .int .u8 b3, .int .u8 b4, .int .u8 b5, .int .u8 b6, .int .u8 b7]
theorem conv_back (w : World) (a : Addr) (c : Nat) (p : List UInt8) (n : Nat) (hn : n = p.length) (h : ∀ j u, (vb p)[j]? = some u → w.cell? (a.add j) = some u) : (convert 23 9 (.slice (some a) n c)).run Tryd.prog w = .ok (.string ⟨p.toArray⟩) w := by
  subst hn
  exact run_convert_bytes_back w 23 9 5 a c p Tryd.underlying23 Tryd.underlying5 Tryd.underlying9 (fun j hj => h j _ (vb_get p j hj))
theorem B8.conv {w : World} {g o : Nat} {b0 b1 b2 b3 b4 b5 b6 b7 : Int} (h : B8 w g o b0 b1 b2 b3 b4 b5 b6 b7) {p : List UInt8} (hp : Is8 p b0 b1 b2 b3 b4 b5 b6 b7) (c : Nat) : (convert 23 9 (.slice (some ⟨g, o, none⟩) 8 c)).run Tryd.prog w = .ok (.string ⟨p.toArray⟩) w :=
  conv_back w _ c p 8 hp.1.symm (fun j u hu => by
    rw [hp.2] at hu
    rw [Addr.add_lit]
    rcases j with _ | _ | _ | _ | _ | _ | _ | _ | j
    · rw [← hu]; exact h.c0
    · rw [← hu]; exact h.c1
    · rw [← hu]; exact h.c2
    · rw [← hu]; exact h.c3
    · rw [← hu]; exact h.c4
    · rw [← hu]; exact h.c5
    · rw [← hu]; exact h.c6
    · rw [← hu]; exact h.c7
    · simp at hu)
theorem B8.row {w : World} {g o r : Nat} {b0 b1 b2 b3 b4 b5 b6 b7 : Int} {cs : Array Value} (h : B8 w g o b0 b1 b2 b3 b4 b5 b6 b7) (hr : g ≠ r) : B8 (w.setRow r cs) g o b0 b1 b2 b3 b4 b5 b6 b7 := by
  have c : ∀ j, (w.setRow r cs).cell? ⟨g, j, none⟩ = w.cell? ⟨g, j, none⟩ := fun j => cell_setRow_other w r cs ⟨g, j, none⟩ hr
  exact ⟨by rw [size_setRow]; exact h.lt, (c _).trans h.c0, (c _).trans h.c1, (c _).trans h.c2, (c _).trans h.c3, (c _).trans h.c4, (c _).trans h.c5, (c _).trans h.c6, (c _).trans h.c7⟩
theorem O2.past {w W W' : World} {o : Int} {n : Bool} {d s : Int} {u : Bool} {f m z : Int} (h : O2 w W o n d s u f m z) (hn : New W W') : O2 w W' o n d s u f m z :=
  ⟨New.then h.new hn, h.r.below hn h.r.lt, h.i.below hn h.i.lt⟩
theorem O2.put {w W : World} {o : Int} {n : Bool} {d s : Int} {u : Bool} {f m z : Int} (h : O2 w W o n d s u f m z) (cs : Array Value) :
    New w (W.setRow w.heap.size cs) ∧ Blk (W.setRow w.heap.size cs) w.heap.size 37 cs ∧ Blk (W.setRow w.heap.size cs) (w.heap.size + 1) 37 #[.int .u8 o, .bool n, .int .i64 d, .int .i64 s, .bool u, .int .i64 f, .int .i64 m, .int .i64 z] :=
  ⟨⟨h.new.os, h.new.tape, h.new.output, by simpa using h.new.size, fun k hk => (setRow_other W w.heap.size k cs (by omega)).trans (h.new.block k hk)⟩, setRow_heap _ _ _ _ _ _ h.r, (setRow_other W w.heap.size (w.heap.size + 1) cs (by omega)).trans h.i⟩
theorem conv_row {w : World} {g r : Nat} {cs : Array Value} {c : Nat} {p : List UInt8} {n : Nat} (hr : g ≠ r) (hn : n = p.length) (h : ∀ j u, (vb p)[j]? = some u → w.cell? ((⟨g, 0, none⟩ : Addr).add j) = some u) : (convert 23 9 (.slice (some ⟨g, 0, none⟩) n c)).run Tryd.prog (w.setRow r cs) = .ok (.string ⟨p.toArray⟩) (w.setRow r cs) :=
  conv_back _ _ c p n hn (fun j u hu => by
    rw [cell_setRow_other w r cs _ (by rw [block_of_add]; exact hr)]
    exact h j u hu)
theorem one_done {w w' : World} {x y : In} {p : List UInt8} {B : Bool} (hx : x = y) (hB : (ok y && decide (bs y = p)) = B) (hn : New w w') : OneD w x (ok x && decide (bs x = p)) (.returned (.tuple #[y.val, .bool B])) w' := by
  subst hx
  rw [← hB]
  exact ⟨rfl, hn⟩

def two (k : Nat) : Nat := 2 ^ k
theorem two_s (k : Nat) : two (k + 1) = 2 * two k := by unfold two; omega
theorem two_le (k : Nat) (h : k ≤ 3) : two k ≤ 8 := by
  have h4 : k = 0 ∨ k = 1 ∨ k = 2 ∨ k = 3 := by omega
  rcases h4 with rfl | rfl | rfl | rfl <;> decide
theorem two_isz (k : Nat) (h : k ≤ 3) : ((two k : Nat) : Int) = isz (k : Int) := by
  have h4 : k = 0 ∨ k = 1 ∨ k = 2 ∨ k = 3 := by omega
  rcases h4 with rfl | rfl | rfl | rfl <;> decide
theorem int_eq {k : IntKind} {a b : Int} (h : a = b) : Value.int k a = Value.int k b := by rw [h]

set_option maxRecDepth 100000 in
set_option maxHeartbeats 8000000 in
theorem rone_any (g o c : Nat) (b0 b1 b2 b3 b4 b5 b6 b7 : Int) (w : World) (hc : 8 ≤ c ∧ c ≤ maxLen) (h00 : 0 ≤ b0) (h01 : b0 ≤ 255) (h10 : 0 ≤ b1) (h11 : b1 ≤ 255) (h20 : 0 ≤ b2) (h21 : b2 ≤ 255) (h30 : 0 ≤ b3) (h31 : b3 ≤ 255)
    (h40 : 0 ≤ b4) (h41 : b4 ≤ 255) (h50 : 0 ≤ b5) (h51 : b5 ≤ 255) (h60 : 0 ≤ b6) (h61 : b6 ≤ 255) (h70 : 0 ≤ b7) (h71 : b7 ≤ 255) (hB : B8 w g o b0 b1 b2 b3 b4 b5 b6 b7)
    (op : Int) (U : Bool) (hop : b0 % 32 = op) (hU : decide (b0 / 32 % 2 = 1) = U) (p : List UInt8) (hp : Is8 p b0 b1 b2 b3 b4 b5 b6 b7) :
    Calls Tryd.prog 25 #[.slice (some ⟨g, o, none⟩) 8 c] w (OneD w (inN b0 b1 b2 b3 b4 b5 b6 b7) (ok (inN b0 b1 b2 b3 b4 b5 b6 b7) && decide (bs (inN b0 b1 b2 b3 b4 b5 b6 b7) = p))) := by
  have HB := Lib.hid hB
  have HC := Lib.hid hc
  have HP8 := Lib.hid hp
  clear hp
  have hc8 : (8 : Int) ≤ (c : Int) := by have := hc.1; omega
  obtain ⟨lt, c0, c1, c2, c3, c4, c5, c6, c7⟩ := hB
  have HOP := Lib.hid hop
  have HU := Lib.hid hU
  have o0 : 0 ≤ op := by omega
  have o1 : op ≤ 31 := by omega
  clear hc hop hU
  go_enter Tryd.func25, Tryd.ntmps25
  go_wp2
  go_cut [4] (fun s4 wx => s4 = .pointer (some ⟨w.heap.size + 1, 0, none⟩) ∧ O2 w wx op false (b1 / 16) (b1 % 16) U 0 0 0)
  case first =>
    have e1 : b0.tmod 32 = op := by rw [Int.tmod_eq_emod_of_nonneg h00]; exact HOP.out
    have e2 : IntKind.i64.wrap b1 = b1 := IntWalk.i64_in _ (by omega)
    have e3 : b1.tdiv 16 = b1 / 16 := Int.tdiv_eq_ediv_of_nonneg h10
    have e4 : IntKind.i64.wrap (b1 / 16) = b1 / 16 := IntWalk.i64_in _ (by omega)
    have e5 : b1.tmod 16 = b1 % 16 := Int.tmod_eq_emod_of_nonneg h10
    have e6 : b0.tdiv 32 = b0 / 32 := Int.tdiv_eq_ediv_of_nonneg h00
    have e7 : IntKind.u8.wrap (b0 / 32) = b0 / 32 := IntWalk.u8_in _ (by omega)
    have e8 : (b0 / 32).tmod 2 = b0 / 32 % 2 := Int.tmod_eq_emod_of_nonneg (by omega)
    have e9 : (b0 / 32 % 2 == 1) = U := HU.out
    go_region_held3 (fun w' => w'.cell? ⟨g, o, none⟩ = some (.int .u8 b0) ∧ w'.cell? ⟨g, o + 1, none⟩ = some (.int .u8 b1)) (go_keep) (fail)
    all_goals go_wp2_with fail
    all_goals go_meet
    all_goals exact ⟨rfl, ⟨Below.drew (new2 w _ _), (Blk.new w _ _).alloc _, by have h := Blk.new (w.alloc (.cells #[.int .u8 0, .bool false, .int .i64 0, .int .i64 0, .bool false, .int .i64 0, .int .i64 0, .int .i64 0] 37)) 37 #[.int .u8 op, .bool false, .int .i64 (b1 / 16), .int .i64 (b1 % 16), .bool U, .int .i64 0, .int .i64 0, .int .i64 0]; rw [World.size_alloc] at h; exact h⟩⟩
  case rest =>
    clear lt c0 c1 c2 c3 c4 c5 c6 c7
    obtain ⟨rfl, ho⟩ := hcut
    have HO := Lib.hid ho
    clear ho
    obtain ⟨F, hF⟩ : ∃ F, 256 * b2 + b3 = F := ⟨_, rfl⟩
    have f0 : 0 ≤ F := by omega
    have f1 : F ≤ 65535 := by omega
    have HF := Lib.hid hF
    clear hF
    go_wp2
    go_cut [] (fun wx => O2 w wx op false (b1 / 16) (b1 % 16) U F 0 0)
    case first =>
      obtain ⟨lt, c0, c1, c2, c3, c4, c5, c6, c7⟩ := HB.out.new HO.out.new
      obtain ⟨⟨x0, x1, x2, x3, x4, x5, x6, x7⟩, hz⟩ := o2_at HO.out
      have z5 := hz 5
      have ne : w.heap.size + 1 ≠ g := by have := HB.out.lt; omega
      have e1 : IntKind.i64.wrap b2 = b2 := IntWalk.i64_in _ (by omega)
      have e2 : IntKind.i64.wrap b3 = b3 := IntWalk.i64_in _ (by omega)
      have e3 : IntKind.i64.wrap (256 * b2) = 256 * b2 := IntWalk.i64_in _ (by omega)
      have e5 : IntKind.i64.wrap (256 * b2 + b3) = F := by rw [HF.out]; exact IntWalk.i64_in _ (by omega)
      clear hz
      go_region_held3 (fun w' => w'.cell? ⟨g, o + 2, none⟩ = some (.int .u8 b2) ∧ w'.cell? ⟨g, o + 3, none⟩ = some (.int .u8 b3)) (go_keep) (fail)
      all_goals go_wp2_with fail
      all_goals go_meet
      all_goals exact (HO.out.off F).drew
    case rest =>
      have HO2 := Lib.hid hcut
      clear hcut HO
      obtain ⟨⟨x0, x1, x2, x3, x4, x5, x6, x7⟩, hz⟩ := o2_at HO2.out
      have z5 := hz 5
      clear hz
      go_upto_if 41 with (fail)
      go_cut [] (fun wx => O2 w wx op false (b1 / 16) (b1 % 16) U (s16 F) 0 0)
      case first =>
        by_cases hs : 32768 ≤ F
        · have e : s16 F = F - 65536 := by unfold s16; rw [if_pos hs]
          have HE := Lib.hid e
          clear e
          go_wp2_with fail
          go_meet
          rw [HE.out]
          exact HO2.out.off _
        · have e : s16 F = F := by unfold s16; rw [if_neg hs]
          have HE := Lib.hid e
          clear e
          go_wp2_with fail
          go_meet
          rw [HE.out]
          exact HO2.out
      case rest =>
        clear x0 x1 x2 x3 x4 x5 x6 x7 z5
        have HO3 := Lib.hid hcut
        clear hcut HO2
        obtain ⟨M, hM⟩ : ∃ M, 16777216 * b4 + 65536 * b5 + 256 * b6 + b7 = M := ⟨_, rfl⟩
        have m0 : 0 ≤ M := by omega
        have m1 : M ≤ 4294967295 := by omega
        have HM := Lib.hid hM
        clear hM
        go_wp2
        go_cut [] (fun wx => O2 w wx op false (b1 / 16) (b1 % 16) U (s16 F) M 0)
        case first =>
          obtain ⟨lt, c0, c1, c2, c3, c4, c5, c6, c7⟩ := HB.out.new HO3.out.new
          obtain ⟨⟨x0, x1, x2, x3, x4, x5, x6, x7⟩, hz⟩ := o2_at HO3.out
          have z6 := hz 6
          have ne : w.heap.size + 1 ≠ g := by have := HB.out.lt; omega
          have e1 : IntKind.i64.wrap b4 = b4 := IntWalk.i64_in _ (by omega)
          have e2 : IntKind.i64.wrap b5 = b5 := IntWalk.i64_in _ (by omega)
          have e3 : IntKind.i64.wrap b6 = b6 := IntWalk.i64_in _ (by omega)
          have e4 : IntKind.i64.wrap b7 = b7 := IntWalk.i64_in _ (by omega)
          have e5 : IntKind.i64.wrap (16777216 * b4) = 16777216 * b4 := IntWalk.i64_in _ (by omega)
          have e6 : IntKind.i64.wrap (65536 * b5) = 65536 * b5 := IntWalk.i64_in _ (by omega)
          have e7 : IntKind.i64.wrap (256 * b6) = 256 * b6 := IntWalk.i64_in _ (by omega)
          have e8 : IntKind.i64.wrap (16777216 * b4 + 65536 * b5) = 16777216 * b4 + 65536 * b5 := IntWalk.i64_in _ (by omega)
          have e9 : IntKind.i64.wrap (16777216 * b4 + 65536 * b5 + 256 * b6) = 16777216 * b4 + 65536 * b5 + 256 * b6 := IntWalk.i64_in _ (by omega)
          have e10 : IntKind.i64.wrap (16777216 * b4 + 65536 * b5 + 256 * b6 + b7) = M := by rw [HM.out]; exact IntWalk.i64_in _ (by omega)
          clear hz
          go_region_held3 (fun w' => w'.cell? ⟨g, o + 4, none⟩ = some (.int .u8 b4) ∧ w'.cell? ⟨g, o + 5, none⟩ = some (.int .u8 b5) ∧ w'.cell? ⟨g, o + 6, none⟩ = some (.int .u8 b6) ∧ w'.cell? ⟨g, o + 7, none⟩ = some (.int .u8 b7)) (go_keep) (fail)
          all_goals go_wp2_with fail
          all_goals go_meet
          all_goals exact (HO3.out.imm M).drew
        case rest =>
          have HO4 := Lib.hid hcut
          clear hcut HO3
          obtain ⟨⟨x0, x1, x2, x3, x4, x5, x6, x7⟩, hz⟩ := o2_at HO4.out
          have z6 := hz 6
          clear hz
          go_upto_if 71 with (fail)
          go_cut [] (fun wx => O2 w wx op false (b1 / 16) (b1 % 16) U (s16 F) (s32 M) 0)
          case first =>
            by_cases hs : 2147483648 ≤ M
            · have e : s32 M = M - 4294967296 := by unfold s32; rw [if_pos hs]
              have HE := Lib.hid e
              clear e
              go_wp2_with fail
              go_meet
              rw [HE.out]
              exact HO4.out.imm _
            · have e : s32 M = M := by unfold s32; rw [if_neg hs]
              have HE := Lib.hid e
              clear e
              go_wp2_with fail
              go_meet
              rw [HE.out]
              exact HO4.out
          case rest =>
            clear x0 x1 x2 x3 x4 x5 x6 x7 z6
            have HO5 := Lib.hid hcut
            clear hcut HO4
            obtain ⟨lt, c0, -, -, -, -, -, -, -⟩ := HB.out.new HO5.out.new
            obtain ⟨⟨x0, x1, x2, x3, x4, x5, x6, x7⟩, hz⟩ := o2_at HO5.out
            have z1 := hz 1
            have z7 := hz 7
            clear hz
            obtain ⟨t, ht⟩ : ∃ t : Nat, b0 / 64 = (t : Int) := ⟨(b0 / 64).toNat, by omega⟩
            have ht3 : t ≤ 3 := by omega
            obtain ⟨SZ, hSZ⟩ : ∃ SZ, decide (op = 14 ∨ op = 15) = SZ := ⟨_, rfl⟩
            have HSZ := Lib.hid hSZ
            clear hSZ
            go_upto_region 9 with (fail)
            have HT := Lib.hid ht
            clear ht lt c0
            go_cut [88] (fun s88 wx => s88 = .bool SZ ∧ O2 w wx op false (b1 / 16) (b1 % 16) U (s16 F) (s32 M) 0)
            case first =>
              by_cases h14 : op = 14
              · have HS1 : Hid (SZ = true) := Lib.hid (by rw [← HSZ.out]; simp [h14])
                have g1 : (op == 14) = true := by simp [h14]
                go_wp2_with fail
                go_meet
                exact ⟨by rw [HS1.out], HO5.out⟩
              · have g1 : (op == 14) = false := by simp [h14]
                by_cases h15 : op = 15
                · have HS1 : Hid (SZ = true) := Lib.hid (by rw [← HSZ.out]; simp [h15])
                  have g2 : (op == 15) = true := by simp [h15]
                  go_wp2_with fail
                  go_meet
                  exact ⟨by rw [HS1.out], HO5.out⟩
                · have HS1 : Hid (SZ = false) := Lib.hid (by rw [← HSZ.out]; simp [h14, h15])
                  have g2 : (op == 15) = false := by simp [h15]
                  go_wp2_with fail
                  go_meet
                  exact ⟨by rw [HS1.out], HO5.out⟩
            case rest =>
              clear x0 x1 x2 x3 x4 x5 x6 x7 z1 z7
              obtain ⟨rfl, ho6⟩ := hcut
              have HO6 := Lib.hid ho6
              clear ho6 HO5
              obtain ⟨⟨x0, x1, x2, x3, x4, x5, x6, x7⟩, hz⟩ := o2_at HO6.out
              have z1 := hz 1
              have z7 := hz 7
              clear hz
              obtain ⟨N, hN⟩ : ∃ N, (if SZ then false else decide (t % 2 = 1)) = N := ⟨_, rfl⟩
              obtain ⟨Z, hZ⟩ : ∃ Z, (if SZ then isz (t : Int) else 0) = Z := ⟨_, rfl⟩
              have HN := Lib.hid hN
              have HZ := Lib.hid hZ
              clear hN hZ
              go_upto_if 88 with (fail)
              go_cut [] (fun wx => O2 w wx op N (b1 / 16) (b1 % 16) U (s16 F) (s32 M) Z)
              case first =>
                rcases SZ with _ | _
                · have eN : (b0 / 64 % 2 == 1) = N := by
                    rw [← HN.out, if_neg (by decide), HT.out, Bool.eq_iff_iff]
                    simp
                    omega
                  have HZ0 : Hid (Z = 0) := Lib.hid (by rw [← HZ.out, if_neg (by decide)])
                  go_wp2_with fail
                  go_meet
                  rw [HZ0.out]
                  exact HO6.out.nar N
                · go_wp2_with fail
                  go_loopw [6] (fun i wr => ∃ k : Nat, k ≤ t ∧ i = .int .i64 k ∧ O2 w wr op false (b1 / 16) (b1 % 16) U (s16 F) (s32 M) ((two k : Nat) : Int)) (fun i _ => t - (intOf i).toNat)
                  case atStart => exact ⟨0, Nat.zero_le _, rfl, HO6.out.siz 1⟩
                  case round =>
                    clear HO6 x0 x1 x2 x3 x4 x5 x6 x7 z1 z7
                    obtain ⟨k, hk, rfl, hok⟩ := hrel
                    have HOK := Lib.hid hok
                    clear hok
                    obtain ⟨⟨x0, x1, x2, x3, x4, x5, x6, x7⟩, hz⟩ := o2_at HOK.out
                    have z7 := hz 7
                    clear hz
                    have hk8 := two_le k (by omega)
                    have h2 := two_s k
                    by_cases hlt : k < t
                    · generalize two k = P at *
                      have HP : Hid ((2 : Int) * (P : Int) = ((two (k + 1) : Nat) : Int)) := Lib.hid (by rw [h2]; rfl)
                      have hq : (k : Int) < b0 / 64 := by have := HT.out; omega
                      clear h2
                      go_wp2_with fail
                      go_roundw
                      case rel => exact ⟨k + 1, by omega, by go_num, by rw [← HP.out]; exact HOK.out.siz _⟩
                      case measure => simp [intOf]; omega
                    · obtain rfl : k = t := by omega
                      have hq : ¬ (k : Int) < b0 / 64 := by have := HT.out; omega
                      clear h2
                      go_wp2_with fail
                      go_meet
                      have q1 : N = false := by rw [← HN.out]; simp
                      have q2 : Z = ((two k : Nat) : Int) := by rw [← HZ.out, two_isz k ht3]; simp
                      rw [q1, q2]
                      exact HOK.out
              case rest =>
                clear x0 x1 x2 x3 x4 x5 x6 x7 z1 z7
                have HO7 := Lib.hid hcut
                clear hcut HO6
                have HX : Hid (inN b0 b1 b2 b3 b4 b5 b6 b7 = ⟨op, N, b1 / 16, b1 % 16, U, s16 F, s32 M, Z⟩) := Lib.hid (In.ext' HOP.out (by
                  show (if b0 % 32 = 14 ∨ b0 % 32 = 15 then false else decide (b0 / 64 % 2 = 1)) = N
                  rw [HOP.out, HT.out, ← HN.out, ← HSZ.out]
                  by_cases hq : op = 14 ∨ op = 15
                  · rw [if_pos hq, if_pos (by simpa using hq)]
                  · rw [if_neg hq, if_neg (by simpa using hq), decide_eq_decide]
                    omega) rfl rfl HU.out (by rw [← HF.out]; rfl) (by rw [← HM.out]; rfl) (by
                  show (if b0 % 32 = 14 ∨ b0 % 32 = 15 then isz (b0 / 64) else 0) = Z
                  rw [HOP.out, HT.out, ← HZ.out, ← HSZ.out]
                  by_cases hq : op = 14 ∨ op = 15
                  · rw [if_pos hq, if_pos (by simpa using hq)]
                  · rw [if_neg hq, if_neg (by simpa using hq)]))
                obtain ⟨R, hR⟩ : ∃ R, ok ⟨op, N, b1 / 16, b1 % 16, U, s16 F, s32 M, Z⟩ = R := ⟨_, rfl⟩
                have HR := Lib.hid hR
                clear hR
                have HB0 := Lib.hid (HB.out.new (New.then HO7.out.new (Below.drew (new_refl wc))))
                have HO0 := Lib.hid HO7.out.drew
                have HGR : Hid (g ≠ w.heap.size) := Lib.hid (by have := HB.out.lt; omega)
                go_wp2_with fail
                refine wp_region_held_drew (S := fun w' => w'.cell? ⟨w.heap.size + 1, 0, none⟩ = some (.int .u8 op) ∧ w'.cell? ⟨w.heap.size + 1, 1, none⟩ = some (.bool N) ∧ w'.cell? ⟨w.heap.size + 1, 2, none⟩ = some (.int .i64 (b1 / 16)) ∧ w'.cell? ⟨w.heap.size + 1, 3, none⟩ = some (.int .i64 (b1 % 16)) ∧ w'.cell? ⟨w.heap.size + 1, 4, none⟩ = some (.bool U) ∧ w'.cell? ⟨w.heap.size + 1, 5, none⟩ = some (.int .i64 (s16 F)) ∧ w'.cell? ⟨w.heap.size + 1, 6, none⟩ = some (.int .i64 (s32 M)) ∧ w'.cell? ⟨w.heap.size + 1, 7, none⟩ = some (.int .i64 Z) ∧ (convert 23 9 (.slice (some ⟨g, o, none⟩) 8 c)).run Tryd.prog w' = .ok (.string ⟨p.toArray⟩) w') (by kernel_rfl) ?_ (fun hHeld => ?_)
                · exact ⟨(fz8 HO0.out.i).1.1, (fz8 HO0.out.i).1.2.1, (fz8 HO0.out.i).1.2.2.1, (fz8 HO0.out.i).1.2.2.2.1, (fz8 HO0.out.i).1.2.2.2.2.1, (fz8 HO0.out.i).1.2.2.2.2.2.1, (fz8 HO0.out.i).1.2.2.2.2.2.2.1, (fz8 HO0.out.i).1.2.2.2.2.2.2.2, B8.conv HB0.out HP8.out c⟩
                rcases R with _ | _
                · refine wpAnyH_take (i := 0) (v := ?v1) rfl (by kernel_rfl) (by kernel_rfl) (by kernel_rfl) (fun _ _ _ h => h) (Or.inl ⟨by kernel_rfl, ?y1⟩) hHeld ?r1
                  case y1 => (intro w hSw; (try dsimp only at hSw); go_simp; (try with_reducible rfl))
                  (try simp only [Act.put, List.setIfInBounds_toArray, List.set_cons_zero, List.set_cons_succ, List.getElem_toArray, List.getElem_cons_zero, List.getElem_cons_succ])
                  refine wpAnyH_take (i := 1) (v := ?v2) rfl (by kernel_rfl) (by kernel_rfl) (by kernel_rfl) (fun _ _ _ h => h) (Or.inl ⟨by kernel_rfl, ?y2⟩) hHeld ?r2
                  case y2 => (intro w hSw; (try dsimp only at hSw); go_simp; (try with_reducible rfl))
                  (try simp only [Act.put, List.setIfInBounds_toArray, List.set_cons_zero, List.set_cons_succ, List.getElem_toArray, List.getElem_cons_zero, List.getElem_cons_succ])
                  refine wpAnyH_ready (rs := [2]) (by kernel_rfl) (by simp) ?_
                  refine AllReadyH.cons rfl (fun K hK => ?_) AllReadyH.nil
                  go_simp
                  go_at_call 21
                  (with_reducible refine (rright_x op N (b1 / 16) (b1 % 16) U (s16 F) (s32 M) Z false HR.out _).mono ?_)
                  rintro e w2 ⟨rfl, hn2⟩
                  have HO2b := Lib.hid (HO0.out.past hn2)
                  have HB2b := Lib.hid (HB0.out.new hn2)
                  go_wp2_with fail
                  refine hK.out _ _ ?_ (fun hHeld => ?_)
                  · exact ⟨(fz8 HO2b.out.i).1.1, (fz8 HO2b.out.i).1.2.1, (fz8 HO2b.out.i).1.2.2.1, (fz8 HO2b.out.i).1.2.2.2.1, (fz8 HO2b.out.i).1.2.2.2.2.1, (fz8 HO2b.out.i).1.2.2.2.2.2.1, (fz8 HO2b.out.i).1.2.2.2.2.2.2.1, (fz8 HO2b.out.i).1.2.2.2.2.2.2.2, B8.conv HB2b.out HP8.out c⟩
                  clear hK K
                  (try simp only [Act.put, List.setIfInBounds_toArray, List.set_cons_zero, List.set_cons_succ, List.getElem_toArray, List.getElem_cons_zero, List.getElem_cons_succ])
                  refine wpAnyH_take (i := 3) (v := ?v3) rfl (by kernel_rfl) (by kernel_rfl) (by kernel_rfl) (fun _ _ _ h => h) (Or.inl ⟨by kernel_rfl, ?y3⟩) hHeld ?r3
                  case y3 => (intro w hSw; (try dsimp only at hSw); go_simp; (try with_reducible rfl))
                  (try simp only [Act.put, List.setIfInBounds_toArray, List.set_cons_zero, List.set_cons_succ, List.getElem_toArray, List.getElem_cons_zero, List.getElem_cons_succ])
                  refine wpAnyH_take (i := 4) (v := undef) rfl (by kernel_rfl) (by kernel_rfl) (by kernel_rfl) (fun _ _ _ h => h) (Or.inr ⟨by kernel_rfl, rfl⟩) hHeld ?_
                  (try simp only [Act.put, List.setIfInBounds_toArray, List.set_cons_zero, List.set_cons_succ, List.getElem_toArray, List.getElem_cons_zero, List.getElem_cons_succ])
                  refine wpAnyH_take (i := 5) (v := undef) rfl (by kernel_rfl) (by kernel_rfl) (by kernel_rfl) (fun _ _ _ h => h) (Or.inr ⟨by kernel_rfl, rfl⟩) hHeld ?_
                  (try simp only [Act.put, List.setIfInBounds_toArray, List.set_cons_zero, List.set_cons_succ, List.getElem_toArray, List.getElem_cons_zero, List.getElem_cons_succ])
                  refine wpAnyH_take (i := 6) (v := undef) rfl (by kernel_rfl) (by kernel_rfl) (by kernel_rfl) (fun _ _ _ h => h) (Or.inr ⟨by kernel_rfl, rfl⟩) hHeld ?_
                  (try simp only [Act.put, List.setIfInBounds_toArray, List.set_cons_zero, List.set_cons_succ, List.getElem_toArray, List.getElem_cons_zero, List.getElem_cons_succ])
                  refine wpAnyH_take (i := 7) (v := undef) rfl (by kernel_rfl) (by kernel_rfl) (by kernel_rfl) (fun _ _ _ h => h) (Or.inr ⟨by kernel_rfl, rfl⟩) hHeld ?_
                  (try simp only [Act.put, List.setIfInBounds_toArray, List.set_cons_zero, List.set_cons_succ, List.getElem_toArray, List.getElem_cons_zero, List.getElem_cons_succ])
                  refine wpAnyH_take (i := 8) (v := undef) rfl (by kernel_rfl) (by kernel_rfl) (by kernel_rfl) (fun _ _ _ h => h) (Or.inr ⟨by kernel_rfl, rfl⟩) hHeld ?_
                  (try simp only [Act.put, List.setIfInBounds_toArray, List.set_cons_zero, List.set_cons_succ, List.getElem_toArray, List.getElem_cons_zero, List.getElem_cons_succ])
                  refine wpAnyH_take (i := 9) (v := undef) rfl (by kernel_rfl) (by kernel_rfl) (by kernel_rfl) (fun _ _ _ h => h) (Or.inr ⟨by kernel_rfl, rfl⟩) hHeld ?_
                  (try simp only [Act.put, List.setIfInBounds_toArray, List.set_cons_zero, List.set_cons_succ, List.getElem_toArray, List.getElem_cons_zero, List.getElem_cons_succ])
                  refine wpAnyH_take (i := 10) (v := ?v10) rfl (by kernel_rfl) (by kernel_rfl) (by kernel_rfl) (fun _ _ _ h => h) (Or.inl ⟨by kernel_rfl, ?y10⟩) hHeld ?r10
                  case y10 => (intro w hSw; (try dsimp only at hSw); go_simp; (try with_reducible rfl))
                  (try simp only [Act.put, List.setIfInBounds_toArray, List.set_cons_zero, List.set_cons_succ, List.getElem_toArray, List.getElem_cons_zero, List.getElem_cons_succ])
                  refine wpAnyH_ready (rs := [11]) (by kernel_rfl) (by simp) ?_
                  refine AllReadyH.cons rfl (fun K hK => ?_) AllReadyH.nil
                  rw [if_pos (by kernel_rfl)]
                  refine wp_store_row 37 _ _ rfl w.heap.size #[.int .u8 op, .bool N, .int .i64 (b1 / 16), .int .i64 (b1 % 16), .bool U, .int .i64 (s16 F), .int .i64 (s32 M), .int .i64 Z] rfl rfl 37 _ HO2b.out.r ins_size (Eq.trans (b := 8) rfl rfl) (by simp [Value.oneCell']) ?_
                  have HPT := Lib.hid (HO2b.out.put #[.int .u8 op, .bool N, .int .i64 (b1 / 16), .int .i64 (b1 % 16), .bool U, .int .i64 (s16 F), .int .i64 (s32 M), .int .i64 Z])
                  have HBR := Lib.hid (HB2b.out.row (cs := #[.int .u8 op, .bool N, .int .i64 (b1 / 16), .int .i64 (b1 % 16), .bool U, .int .i64 (s16 F), .int .i64 (s32 M), .int .i64 Z]) HGR.out)
                  refine hK.out _ _ ?_ (fun hHeld => ?_)
                  · exact ⟨(fz8 HPT.out.2.2).1.1, (fz8 HPT.out.2.2).1.2.1, (fz8 HPT.out.2.2).1.2.2.1, (fz8 HPT.out.2.2).1.2.2.2.1, (fz8 HPT.out.2.2).1.2.2.2.2.1, (fz8 HPT.out.2.2).1.2.2.2.2.2.1, (fz8 HPT.out.2.2).1.2.2.2.2.2.2.1, (fz8 HPT.out.2.2).1.2.2.2.2.2.2.2, B8.conv HBR.out HP8.out c⟩
                  clear hK K
                  (try simp only [Act.put, List.setIfInBounds_toArray, List.set_cons_zero, List.set_cons_succ, List.getElem_toArray, List.getElem_cons_zero, List.getElem_cons_succ])
                  refine wpAnyH_take (i := 12) (v := ?v101) rfl (by kernel_rfl) (by kernel_rfl) (by kernel_rfl) (fun _ _ _ h => h) (Or.inl ⟨by kernel_rfl, ?y101⟩) hHeld ?r101
                  case y101 => (intro w hSw; (try dsimp only at hSw); go_simp; (try with_reducible rfl))
                  (try simp only [Act.put, List.setIfInBounds_toArray, List.set_cons_zero, List.set_cons_succ, List.getElem_toArray, List.getElem_cons_zero, List.getElem_cons_succ])
                  refine wpAnyH_done (by kernel_rfl) ?_ _
                  obtain ⟨⟨y0, y1, y2, y3, y4, y5, y6, y7⟩, -⟩ := fz8 HPT.out.2.1
                  go_wp2
                  refine bodyPost_ret (v := .tuple #[.agg #[.int .u8 op, .bool N, .int .i64 (b1 / 16), .int .i64 (b1 % 16), .bool U, .int .i64 (s16 F), .int .i64 (s32 M), .int .i64 Z], .bool false]) (by simp [results, Tryd.results25, go_sem, *]) rfl (one_done HX.out ?_ HPT.out.1)
                  rw [HR.out]
                  rfl
                · obtain ⟨y, hy⟩ : ∃ y, bs ⟨op, N, b1 / 16, b1 % 16, U, s16 F, s32 M, Z⟩ = y := ⟨_, rfl⟩
                  have HY := Lib.hid hy
                  have HY8 : Hid (8 = y.length) := Lib.hid (by rw [← hy]; rfl)
                  clear hy
                  obtain ⟨E, hE⟩ : ∃ E, (y == p) = E := ⟨_, rfl⟩
                  have HE := Lib.hid hE
                  clear hE
                  refine wpAnyH_take (i := 0) (v := ?v102) rfl (by kernel_rfl) (by kernel_rfl) (by kernel_rfl) (fun _ _ _ h => h) (Or.inl ⟨by kernel_rfl, ?y102⟩) hHeld ?r102
                  case y102 => (intro w hSw; (try dsimp only at hSw); go_simp; (try with_reducible rfl))
                  (try simp only [Act.put, List.setIfInBounds_toArray, List.set_cons_zero, List.set_cons_succ, List.getElem_toArray, List.getElem_cons_zero, List.getElem_cons_succ])
                  refine wpAnyH_take (i := 1) (v := ?v103) rfl (by kernel_rfl) (by kernel_rfl) (by kernel_rfl) (fun _ _ _ h => h) (Or.inl ⟨by kernel_rfl, ?y103⟩) hHeld ?r103
                  case y103 => (intro w hSw; (try dsimp only at hSw); go_simp; (try with_reducible rfl))
                  (try simp only [Act.put, List.setIfInBounds_toArray, List.set_cons_zero, List.set_cons_succ, List.getElem_toArray, List.getElem_cons_zero, List.getElem_cons_succ])
                  refine wpAnyH_ready (rs := [2]) (by kernel_rfl) (by simp) ?_
                  refine AllReadyH.cons rfl (fun K hK => ?_) AllReadyH.nil
                  go_simp
                  go_at_call 21
                  (with_reducible refine (rright_x op N (b1 / 16) (b1 % 16) U (s16 F) (s32 M) Z true HR.out _).mono ?_)
                  rintro e w2 ⟨rfl, hn2⟩
                  have HO2b := Lib.hid (HO0.out.past hn2)
                  have HB2b := Lib.hid (HB0.out.new hn2)
                  go_wp2_with fail
                  refine hK.out _ _ ?_ (fun hHeld => ?_)
                  · exact ⟨(fz8 HO2b.out.i).1.1, (fz8 HO2b.out.i).1.2.1, (fz8 HO2b.out.i).1.2.2.1, (fz8 HO2b.out.i).1.2.2.2.1, (fz8 HO2b.out.i).1.2.2.2.2.1, (fz8 HO2b.out.i).1.2.2.2.2.2.1, (fz8 HO2b.out.i).1.2.2.2.2.2.2.1, (fz8 HO2b.out.i).1.2.2.2.2.2.2.2, B8.conv HB2b.out HP8.out c⟩
                  clear hK K
                  (try simp only [Act.put, List.setIfInBounds_toArray, List.set_cons_zero, List.set_cons_succ, List.getElem_toArray, List.getElem_cons_zero, List.getElem_cons_succ])
                  refine wpAnyH_take (i := 3) (v := ?v104) rfl (by kernel_rfl) (by kernel_rfl) (by kernel_rfl) (fun _ _ _ h => h) (Or.inl ⟨by kernel_rfl, ?y104⟩) hHeld ?r104
                  case y104 => (intro w hSw; (try dsimp only at hSw); go_simp; (try with_reducible rfl))
                  (try simp only [Act.put, List.setIfInBounds_toArray, List.set_cons_zero, List.set_cons_succ, List.getElem_toArray, List.getElem_cons_zero, List.getElem_cons_succ])
                  refine wpAnyH_take (i := 4) (v := ?v105) rfl (by kernel_rfl) (by kernel_rfl) (by kernel_rfl) (fun _ _ _ h => h) (Or.inl ⟨by kernel_rfl, ?y105⟩) hHeld ?r105
                  case y105 => (intro w hSw; (try dsimp only at hSw); go_simp; (try with_reducible rfl))
                  (try simp only [Act.put, List.setIfInBounds_toArray, List.set_cons_zero, List.set_cons_succ, List.getElem_toArray, List.getElem_cons_zero, List.getElem_cons_succ])
                  refine wpAnyH_take (i := 7) (v := ?v106) rfl (by kernel_rfl) (by kernel_rfl) (by kernel_rfl) (fun _ _ _ h => h) (Or.inl ⟨by kernel_rfl, ?y106⟩) hHeld ?r106
                  case y106 => (intro w hSw; (try dsimp only at hSw); go_simp; (try with_reducible rfl))
                  (try simp only [Act.put, List.setIfInBounds_toArray, List.set_cons_zero, List.set_cons_succ, List.getElem_toArray, List.getElem_cons_zero, List.getElem_cons_succ])
                  refine wpAnyH_take (i := 8) (v := ?v107) rfl (by kernel_rfl) (by kernel_rfl) (by kernel_rfl) (fun _ _ _ h => h) (Or.inl ⟨by kernel_rfl, ?y107⟩) hHeld ?r107
                  case y107 => (intro w hSw; (try dsimp only at hSw); go_simp; (try with_reducible rfl))
                  (try simp only [Act.put, List.setIfInBounds_toArray, List.set_cons_zero, List.set_cons_succ, List.getElem_toArray, List.getElem_cons_zero, List.getElem_cons_succ])
                  refine wpAnyH_ready (rs := [5]) (by kernel_rfl) (by simp) ?_
                  refine AllReadyH.cons rfl (fun K hK => ?_) AllReadyH.nil
                  go_simp
                  go_at_call 22
                  (with_reducible refine (rbytes_x op N (b1 / 16) (b1 % 16) U (s16 F) (s32 M) Z y HR.out HY.out _).mono ?_)
                  rintro e w3 ⟨g3, rfl, ⟨hg3, hr3⟩, hn3⟩
                  have HO3b := Lib.hid (HO2b.out.past hn3)
                  have HB3b := Lib.hid (HB2b.out.new hn3)
                  have HG3 := Lib.hid hg3
                  have HR3 := Lib.hid hr3
                  clear hg3 hr3
                  go_wp2_with fail
                  refine hK.out _ _ ?_ (fun hHeld => ?_)
                  · exact ⟨(fz8 HO3b.out.i).1.1, (fz8 HO3b.out.i).1.2.1, (fz8 HO3b.out.i).1.2.2.1, (fz8 HO3b.out.i).1.2.2.2.1, (fz8 HO3b.out.i).1.2.2.2.2.1, (fz8 HO3b.out.i).1.2.2.2.2.2.1, (fz8 HO3b.out.i).1.2.2.2.2.2.2.1, (fz8 HO3b.out.i).1.2.2.2.2.2.2.2, B8.conv HB3b.out HP8.out c⟩
                  clear hK K
                  (try simp only [Act.put, List.setIfInBounds_toArray, List.set_cons_zero, List.set_cons_succ, List.getElem_toArray, List.getElem_cons_zero, List.getElem_cons_succ])
                  obtain ⟨ad3, ea3, hb3, hc3⟩ := HR3.out.2 (by omega)
                  injection ea3 with ea3
                  subst ea3
                  have HC3 := Lib.hid hc3
                  have HNE : Hid (g3 ≠ w.heap.size) := Lib.hid (by have := HG3.out; have := HO2b.out.i.lt; omega)
                  clear hc3 hb3
                  refine wpAnyH_ready (rs := [6, 11]) (by kernel_rfl) (by simp) ?_
                  refine AllReadyH.cons rfl (fun K hK => ?_) (AllReadyH.cons rfl (fun K hK => ?_) AllReadyH.nil)
                  · go_simp
                    rw [conv_back w3 ⟨g3, 0, none⟩ 8 y 8 HY8.out HC3.out]
                    refine hK.out _ _ ?_ (fun hHeld => ?_)
                    · exact ⟨(fz8 HO3b.out.i).1.1, (fz8 HO3b.out.i).1.2.1, (fz8 HO3b.out.i).1.2.2.1, (fz8 HO3b.out.i).1.2.2.2.1, (fz8 HO3b.out.i).1.2.2.2.2.1, (fz8 HO3b.out.i).1.2.2.2.2.2.1, (fz8 HO3b.out.i).1.2.2.2.2.2.2.1, (fz8 HO3b.out.i).1.2.2.2.2.2.2.2, B8.conv HB3b.out HP8.out c⟩
                    clear hK K
                    (try simp only [Act.put, List.setIfInBounds_toArray, List.set_cons_zero, List.set_cons_succ, List.getElem_toArray, List.getElem_cons_zero, List.getElem_cons_succ])
                    refine wpAnyH_take (i := 9) (v := ?v108) rfl (by kernel_rfl) (by kernel_rfl) (by kernel_rfl) (fun _ _ _ h => h) (Or.inl ⟨by kernel_rfl, ?y108⟩) hHeld ?r108
                    case y108 => (intro w hSw; (try dsimp only at hSw); go_simp; (try with_reducible rfl))
                    (try simp only [Act.put, List.setIfInBounds_toArray, List.set_cons_zero, List.set_cons_succ, List.getElem_toArray, List.getElem_cons_zero, List.getElem_cons_succ])
                    refine wpAnyH_take (i := 10) (v := ?v109) rfl (by kernel_rfl) (by kernel_rfl) (by kernel_rfl) (fun _ _ _ h => h) (Or.inl ⟨by kernel_rfl, ?y109⟩) hHeld ?r109
                    case y109 => (intro w hSw; (try dsimp only at hSw); go_simp; (try with_reducible rfl))
                    (try simp only [Act.put, List.setIfInBounds_toArray, List.set_cons_zero, List.set_cons_succ, List.getElem_toArray, List.getElem_cons_zero, List.getElem_cons_succ])
                    refine wpAnyH_ready (rs := [11]) (by kernel_rfl) (by simp) ?_
                    refine AllReadyH.cons rfl (fun K hK => ?_) AllReadyH.nil
                    rw [if_pos (by kernel_rfl)]
                    refine wp_store_row 37 _ _ rfl w.heap.size #[.int .u8 op, .bool N, .int .i64 (b1 / 16), .int .i64 (b1 % 16), .bool U, .int .i64 (s16 F), .int .i64 (s32 M), .int .i64 Z] rfl rfl 37 _ HO3b.out.r ins_size (Eq.trans (b := 8) rfl rfl) (by simp [Value.oneCell']) ?_
                    have HPT := Lib.hid (HO3b.out.put #[.int .u8 op, .bool N, .int .i64 (b1 / 16), .int .i64 (b1 % 16), .bool U, .int .i64 (s16 F), .int .i64 (s32 M), .int .i64 Z])
                    have HBR := Lib.hid (HB3b.out.row (cs := #[.int .u8 op, .bool N, .int .i64 (b1 / 16), .int .i64 (b1 % 16), .bool U, .int .i64 (s16 F), .int .i64 (s32 M), .int .i64 Z]) HGR.out)
                    refine hK.out _ _ ?_ (fun hHeld => ?_)
                    · exact ⟨(fz8 HPT.out.2.2).1.1, (fz8 HPT.out.2.2).1.2.1, (fz8 HPT.out.2.2).1.2.2.1, (fz8 HPT.out.2.2).1.2.2.2.1, (fz8 HPT.out.2.2).1.2.2.2.2.1, (fz8 HPT.out.2.2).1.2.2.2.2.2.1, (fz8 HPT.out.2.2).1.2.2.2.2.2.2.1, (fz8 HPT.out.2.2).1.2.2.2.2.2.2.2, B8.conv HBR.out HP8.out c⟩
                    clear hK K
                    (try simp only [Act.put, List.setIfInBounds_toArray, List.set_cons_zero, List.set_cons_succ, List.getElem_toArray, List.getElem_cons_zero, List.getElem_cons_succ])
                    refine wpAnyH_take (i := 12) (v := ?v110) rfl (by kernel_rfl) (by kernel_rfl) (by kernel_rfl) (fun _ _ _ h => h) (Or.inl ⟨by kernel_rfl, ?y110⟩) hHeld ?r110
                    case y110 => (intro w hSw; (try dsimp only at hSw); go_simp; (try with_reducible rfl))
                    (try simp only [Act.put, List.setIfInBounds_toArray, List.set_cons_zero, List.set_cons_succ, List.getElem_toArray, List.getElem_cons_zero, List.getElem_cons_succ])
                    refine wpAnyH_done (by kernel_rfl) ?_ _
                    obtain ⟨⟨y0, y1, y2, y3, y4, y5, y6, y7⟩, -⟩ := fz8 HPT.out.2.1
                    go_wp2
                    have hE := HE.out
                    refine bodyPost_ret (v := .tuple #[.agg #[.int .u8 op, .bool N, .int .i64 (b1 / 16), .int .i64 (b1 % 16), .bool U, .int .i64 (s16 F), .int .i64 (s32 M), .int .i64 Z], .bool E]) (by simp [results, Tryd.results25, go_sem, *]) rfl (one_done HX.out ?_ HPT.out.1)
                    rw [HR.out, HY.out, ← HE.out, Bool.true_and, Bool.eq_iff_iff, decide_eq_true_eq, beq_iff_eq]
                  · rw [if_pos (by kernel_rfl)]
                    refine wp_store_row 37 _ _ rfl w.heap.size #[.int .u8 op, .bool N, .int .i64 (b1 / 16), .int .i64 (b1 % 16), .bool U, .int .i64 (s16 F), .int .i64 (s32 M), .int .i64 Z] rfl rfl 37 _ HO3b.out.r ins_size (Eq.trans (b := 8) rfl rfl) (by simp [Value.oneCell']) ?_
                    have HPT := Lib.hid (HO3b.out.put #[.int .u8 op, .bool N, .int .i64 (b1 / 16), .int .i64 (b1 % 16), .bool U, .int .i64 (s16 F), .int .i64 (s32 M), .int .i64 Z])
                    have HBR := Lib.hid (HB3b.out.row (cs := #[.int .u8 op, .bool N, .int .i64 (b1 / 16), .int .i64 (b1 % 16), .bool U, .int .i64 (s16 F), .int .i64 (s32 M), .int .i64 Z]) HGR.out)
                    refine hK.out _ _ ?_ (fun hHeld => ?_)
                    · exact ⟨(fz8 HPT.out.2.2).1.1, (fz8 HPT.out.2.2).1.2.1, (fz8 HPT.out.2.2).1.2.2.1, (fz8 HPT.out.2.2).1.2.2.2.1, (fz8 HPT.out.2.2).1.2.2.2.2.1, (fz8 HPT.out.2.2).1.2.2.2.2.2.1, (fz8 HPT.out.2.2).1.2.2.2.2.2.2.1, (fz8 HPT.out.2.2).1.2.2.2.2.2.2.2, B8.conv HBR.out HP8.out c⟩
                    clear hK K
                    (try simp only [Act.put, List.setIfInBounds_toArray, List.set_cons_zero, List.set_cons_succ, List.getElem_toArray, List.getElem_cons_zero, List.getElem_cons_succ])
                    refine wpAnyH_ready (rs := [6]) (by kernel_rfl) (by simp) ?_
                    refine AllReadyH.cons rfl (fun K hK => ?_) AllReadyH.nil
                    go_simp
                    rw [conv_row (w := w3) (cs := #[.int .u8 op, .bool N, .int .i64 (b1 / 16), .int .i64 (b1 % 16), .bool U, .int .i64 (s16 F), .int .i64 (s32 M), .int .i64 Z]) (c := 8) HNE.out HY8.out HC3.out]
                    refine hK.out _ _ ?_ (fun hHeld => ?_)
                    · exact ⟨(fz8 HPT.out.2.2).1.1, (fz8 HPT.out.2.2).1.2.1, (fz8 HPT.out.2.2).1.2.2.1, (fz8 HPT.out.2.2).1.2.2.2.1, (fz8 HPT.out.2.2).1.2.2.2.2.1, (fz8 HPT.out.2.2).1.2.2.2.2.2.1, (fz8 HPT.out.2.2).1.2.2.2.2.2.2.1, (fz8 HPT.out.2.2).1.2.2.2.2.2.2.2, B8.conv HBR.out HP8.out c⟩
                    clear hK K
                    (try simp only [Act.put, List.setIfInBounds_toArray, List.set_cons_zero, List.set_cons_succ, List.getElem_toArray, List.getElem_cons_zero, List.getElem_cons_succ])
                    refine wpAnyH_take (i := 9) (v := ?v111) rfl (by kernel_rfl) (by kernel_rfl) (by kernel_rfl) (fun _ _ _ h => h) (Or.inl ⟨by kernel_rfl, ?y111⟩) hHeld ?r111
                    case y111 => (intro w hSw; (try dsimp only at hSw); go_simp; (try with_reducible rfl))
                    (try simp only [Act.put, List.setIfInBounds_toArray, List.set_cons_zero, List.set_cons_succ, List.getElem_toArray, List.getElem_cons_zero, List.getElem_cons_succ])
                    refine wpAnyH_take (i := 10) (v := ?v112) rfl (by kernel_rfl) (by kernel_rfl) (by kernel_rfl) (fun _ _ _ h => h) (Or.inl ⟨by kernel_rfl, ?y112⟩) hHeld ?r112
                    case y112 => (intro w hSw; (try dsimp only at hSw); go_simp; (try with_reducible rfl))
                    (try simp only [Act.put, List.setIfInBounds_toArray, List.set_cons_zero, List.set_cons_succ, List.getElem_toArray, List.getElem_cons_zero, List.getElem_cons_succ])
                    refine wpAnyH_take (i := 12) (v := ?v113) rfl (by kernel_rfl) (by kernel_rfl) (by kernel_rfl) (fun _ _ _ h => h) (Or.inl ⟨by kernel_rfl, ?y113⟩) hHeld ?r113
                    case y113 => (intro w hSw; (try dsimp only at hSw); go_simp; (try with_reducible rfl))
                    (try simp only [Act.put, List.setIfInBounds_toArray, List.set_cons_zero, List.set_cons_succ, List.getElem_toArray, List.getElem_cons_zero, List.getElem_cons_succ])
                    refine wpAnyH_done (by kernel_rfl) ?_ _
                    obtain ⟨⟨y0, y1, y2, y3, y4, y5, y6, y7⟩, -⟩ := fz8 HPT.out.2.1
                    go_wp2
                    have hE := HE.out
                    refine bodyPost_ret (v := .tuple #[.agg #[.int .u8 op, .bool N, .int .i64 (b1 / 16), .int .i64 (b1 % 16), .bool U, .int .i64 (s16 F), .int .i64 (s32 M), .int .i64 Z], .bool E]) (by simp [results, Tryd.results25, go_sem, *]) rfl (one_done HX.out ?_ HPT.out.1)
                    rw [HR.out, HY.out, ← HE.out, Bool.true_and, Bool.eq_iff_iff, decide_eq_true_eq, beq_iff_eq]
end Go.Proofs.YtmkonhfgmkdhoaaDoor.ins
