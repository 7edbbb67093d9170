/-
  The chapter's examples.
-/
import Derived.Test.YtddojdgnakajmaaGreatDoorTZF
namespace Go.Proofs.YtddojdgnakajmaaGreatDoor.txt
open Go.RowKit Go.Proofs.YtddojdgnakajmaaGreatDoor.mem Go.Proofs.YtddojdgnakajmaaGreatDoor.kit Go.Proofs.YtddojdgnakajmaaGreatDoor.ins
set_option linter.unusedVariables false
set_option linter.unusedSimpArgs false

def exA : Bs := [109, 111, 118, 32, 114, 48, 44, 32, 49, 10, 106, 101, 113, 51, 50, 32, 114, 50, 44, 32, 45, 53, 44, 32, 101, 110, 100, 10, 108, 111, 97, 100, 50, 32, 114, 51, 44, 32, 91, 114, 49, 32, 43, 32, 49, 50, 93, 10, 112, 117, 116, 56, 32, 91, 114, 49, 48, 32, 45, 32, 56, 93, 44, 32, 114, 51, 10, 101, 110, 100, 58, 10, 101, 120, 105, 116]
def exB : Bs := [106, 117, 109, 112, 32, 104, 101, 114, 101]
def exC : Bs := [97, 100, 100, 32, 114, 49, 48, 44, 32, 49]
def exI : List In := [⟨12, false, 0, 0, true, 0, 1, 0⟩, ⟨17, true, 2, 0, true, 2, -5, 0⟩, ⟨14, false, 3, 1, false, 12, 0, 2⟩, ⟨15, false, 10, 3, false, -8, 0, 8⟩, ⟨28, false, 0, 0, false, 0, 0, 0⟩]
theorem ex_A : parseM exA = ((0, 0), exI) := by kernel_rfl
theorem ex_B : parseM exB = ((121, 1), []) := by kernel_rfl
theorem ex_C : parseM exC = ((120, 1), []) := by kernel_rfl
theorem ex_D : showM [⟨17, true, 2, 0, true, 2, -5, 0⟩] = (0, [106, 101, 113, 51, 50, 32, 114, 50, 44, 32, 45, 53, 44, 32, 43, 50, 10]) := by kernel_rfl

/-- What text's functions lean on. -/
structure TW (w : World) (T : TypeId) (q : Addr) : Prop where
  m : MaxT w
  e : ErrT w T q
  n : NamesAt w
  p : PowT w
theorem TW.new {w w' : World} {T : TypeId} {q : Addr} (h : TW w T q) (hn : New w w') : TW w' T q := ⟨h.m.ch (Ch.of_new (S := fun _ => False) hn) id, h.e.new hn, h.n.new hn, h.p.new hn⟩
theorem parse_A (T : TypeId) (q : Addr) (w : World) (h : TW w T q) : Calls Tryz.prog 6 #[.string ⟨exA.toArray⟩] w fun e w' => ∃ g c, e = .returned (.tuple #[.slice (some ⟨g, 0, none⟩) 5 c, .agg #[.int .i64 0, .int .i64 0]]) ∧ 5 ≤ c ∧ c ≤ maxLen ∧ RI w' (some ⟨g, 0, none⟩) exI ∧ New w w' := by
  have h1 := parse_any T q exA w h.m h.e h.n
  rw [ex_A] at h1
  refine h1.mono ?_
  rintro e w' ⟨v, rfl, ho, hn⟩
  obtain ⟨g, c, rfl⟩ := own_some ho (by decide)
  obtain ⟨⟨h2, h3⟩, h4, -⟩ := own_typed ho
  exact ⟨g, c, rfl, h2, h3, h4, hn⟩
theorem parse_B (T : TypeId) (q : Addr) (w : World) (h : TW w T q) : Calls Tryz.prog 6 #[.string ⟨exB.toArray⟩] w fun e w' => ∃ v, e = .returned (.tuple #[v, .agg #[.int .i64 121, .int .i64 1]]) ∧ New w w' := by
  have h1 := parse_any T q exB w h.m h.e h.n
  rw [ex_B] at h1
  exact h1.mono fun e w' ⟨v, he, ho, hn⟩ => ⟨v, he, hn⟩
theorem parse_C (T : TypeId) (q : Addr) (w : World) (h : TW w T q) : Calls Tryz.prog 6 #[.string ⟨exC.toArray⟩] w fun e w' => ∃ v, e = .returned (.tuple #[v, .agg #[.int .i64 120, .int .i64 1]]) ∧ New w w' := by
  have h1 := parse_any T q exC w h.m h.e h.n
  rw [ex_C] at h1
  exact h1.mono fun e w' ⟨v, he, ho, hn⟩ => ⟨v, he, hn⟩
end Go.Proofs.YtddojdgnakajmaaGreatDoor.txt

namespace Go.Proofs.YtddojdgnakajmaaGreatDoor.txt
open Go.RowKit Go.Proofs.YtddojdgnakajmaaGreatDoor.mem Go.Proofs.YtddojdgnakajmaaGreatDoor.kit Go.Proofs.YtddojdgnakajmaaGreatDoor.ins
set_option linter.unusedVariables false
set_option linter.unusedSimpArgs false

theorem two_cells {w : World} {b : Nat} {t : TypeId} {x y : Value} (h : Blk w b t #[x, y]) : w.cell? ⟨b, 0, none⟩ = some x ∧ w.cell? ⟨b, 1, none⟩ = some y := ⟨(h.cell 0).trans rfl, (h.cell 1).trans rfl⟩
theorem list_new {w w' : World} {g : Nat} (h : RI w (some ⟨g, 0, none⟩) exI) (hn : New w w') : RI w' (some ⟨g, 0, none⟩) exI := Reads.new h hn
theorem list_5 {w : World} {g : Nat} (h : RI w (some ⟨g, 0, none⟩) exI) : w.cell? ⟨g, 13, none⟩ = some (.int .i64 2) := by
  obtain ⟨ad, e, hb, hc⟩ := h.2 (by decide)
  injection e with e
  subst e
  have := hc 13 (.int .i64 2) rfl
  rw [Addr.add_lit] at this
  exact this
theorem list_cut {w : World} {g : Nat} (h : RI w (some ⟨g, 0, none⟩) exI) : RI w (some ⟨g, 8, none⟩) [⟨17, true, 2, 0, true, 2, -5, 0⟩] := by
  obtain ⟨ad, e, hb, hc⟩ := h.2 (by decide)
  injection e with e
  subst e
  refine ⟨rfl, fun _ => ⟨_, rfl, hb, fun j v hv => ?_⟩⟩
  rw [Addr.add_lit]
  have hj : j < 8 := by
    have := (List.getElem?_eq_some_iff.1 hv).1
    simpa [vi] using this
  have hv2 : (vi exI)[8 + j]? = some v := by
    rw [← hv]
    match j, hj with
    | 0, _ => rfl
    | 1, _ => rfl
    | 2, _ => rfl
    | 3, _ => rfl
    | 4, _ => rfl
    | 5, _ => rfl
    | 6, _ => rfl
    | 7, _ => rfl
  have := hc (8 + j) v hv2
  rw [Addr.add_lit, Nat.zero_add] at this
  exact this
theorem show_D (g c : Nat) (T : TypeId) (q : Addr) (w : World) (h : TW w T q) (hr : RI w (some ⟨g, 0, none⟩) exI) : Calls Tryz.prog 14 #[.slice (some ⟨g, 8, none⟩) 1 c] w fun e w' => e = .returned (.tuple #[.string ⟨#[106, 101, 113, 51, 50, 32, 114, 50, 44, 32, 45, 53, 44, 32, 43, 50, 10]⟩, .int .i64 0]) ∧ New w w' := by
  have h1 := show_any (some ⟨g, 8, none⟩) 1 c [⟨17, true, 2, 0, true, 2, -5, 0⟩] w rfl (by unfold maxLen; omega) (list_cut hr) h.n h.p
  rw [ex_D] at h1
  exact h1
theorem aw_cells {w1 w2 w3 : World} {g : Nat} {o2 o3 : Obj} (h1 : Blk (w1.alloc (.cells #[.int .i64 0, .int .i64 0] 26)) w1.heap.size 26 #[.int .i64 0, .int .i64 0])
    (h2 : Blk (w2.alloc o2) w2.heap.size 26 #[.int .i64 121, .int .i64 1]) (h3 : Blk (w3.alloc o3) w3.heap.size 26 #[.int .i64 120, .int .i64 1])
    (n2 : New (w1.alloc (.cells #[.int .i64 0, .int .i64 0] 26)) (w2.alloc o2)) (n3 : New (w2.alloc o2) (w3.alloc o3)) (hr : RI w1 (some ⟨g, 0, none⟩) exI) :
    ((w3.alloc o3).cell? ⟨w1.heap.size, 0, none⟩ = some (.int .i64 0) ∧ (w3.alloc o3).cell? ⟨w1.heap.size, 1, none⟩ = some (.int .i64 0)) ∧ ((w3.alloc o3).cell? ⟨w2.heap.size, 0, none⟩ = some (.int .i64 121) ∧ (w3.alloc o3).cell? ⟨w2.heap.size, 1, none⟩ = some (.int .i64 1)) ∧
      ((w3.alloc o3).cell? ⟨w3.heap.size, 0, none⟩ = some (.int .i64 120) ∧ (w3.alloc o3).cell? ⟨w3.heap.size, 1, none⟩ = some (.int .i64 1)) ∧ (w3.alloc o3).cell? ⟨g, 13, none⟩ = some (.int .i64 2) := by
  have h12 := h1.below n2 h1.lt
  exact ⟨two_cells (h12.below n3 h12.lt), two_cells (h2.below n3 h2.lt), two_cells h3, list_5 (list_new hr (New.then (new1 w1 _) (New.then n2 n3)))⟩

set_option maxRecDepth 100000 in
set_option maxHeartbeats 2000000 in
theorem awake_any (T : TypeId) (q : Addr) (w : World) (h : TW w T q) : Calls Tryz.prog 5 #[] w fun e w' => e = .returned (.bool true) ∧ New w w' := by
  have HW := Lib.hid h
  clear h
  have HA : Hid (∀ W, TW W T q → Calls Tryz.prog 6 #[.string ⟨#[109, 111, 118, 32, 114, 48, 44, 32, 49, 10, 106, 101, 113, 51, 50, 32, 114, 50, 44, 32, 45, 53, 44, 32, 101, 110, 100, 10, 108, 111, 97, 100, 50, 32, 114, 51, 44, 32, 91, 114, 49, 32, 43, 32, 49, 50, 93, 10, 112, 117, 116, 56, 32, 91, 114, 49, 48, 32, 45, 32, 56, 93, 44, 32, 114, 51, 10, 101, 110, 100, 58, 10, 101, 120, 105, 116]⟩] W fun e w' => ∃ g c, e = .returned (.tuple #[.slice (some ⟨g, 0, none⟩) 5 c, .agg #[.int .i64 0, .int .i64 0]]) ∧ 5 ≤ c ∧ c ≤ maxLen ∧ RI w' (some ⟨g, 0, none⟩) exI ∧ New W w') := Lib.hid (fun W h => parse_A T q W h)
  have HB : Hid (∀ W, TW W T q → Calls Tryz.prog 6 #[.string ⟨#[106, 117, 109, 112, 32, 104, 101, 114, 101]⟩] W fun e w' => ∃ v, e = .returned (.tuple #[v, .agg #[.int .i64 121, .int .i64 1]]) ∧ New W w') := Lib.hid (fun W h => parse_B T q W h)
  have HC : Hid (∀ W, TW W T q → Calls Tryz.prog 6 #[.string ⟨#[97, 100, 100, 32, 114, 49, 48, 44, 32, 49]⟩] W fun e w' => ∃ v, e = .returned (.tuple #[v, .agg #[.int .i64 120, .int .i64 1]]) ∧ New W w') := Lib.hid (fun W h => parse_C T q W h)
  go_enter Tryz.func5, Tryz.ntmps5
  go_wp2_with (first
    | (go_at_call 6; (with_reducible refine (HA.out _ HW.out).mono ?_); rintro e w1 ⟨g, c, rfl, hc1, hc2, hr, hn1⟩; have HR := Lib.hid hr; have HN1 := Lib.hid (New.then hn1 (new1 w1 (.cells #[.int .i64 0, .int .i64 0] 26))); have HF1 := Lib.hid (Blk.new w1 26 #[.int .i64 0, .int .i64 0]); clear hr hn1)
    | (go_at_call 6; (with_reducible refine (HB.out _ (HW.out.new HN1.out)).mono ?_); rintro e w2 ⟨vb, rfl, hn2⟩; have HN2 := Lib.hid (New.then hn2 (new1 w2 (.cells #[.int .i64 121, .int .i64 1] 26))); have HF2 := Lib.hid (Blk.new w2 26 #[.int .i64 121, .int .i64 1]); clear hn2)
    | (go_at_call 6; (with_reducible refine (HC.out _ (HW.out.new (New.then HN1.out HN2.out))).mono ?_); rintro e w3 ⟨vc, rfl, hn3⟩; have HN3 := Lib.hid (New.then hn3 (new1 w3 (.cells #[.int .i64 120, .int .i64 1] 26))); have HF3 := Lib.hid (Blk.new w3 26 #[.int .i64 120, .int .i64 1]); clear hn3; obtain ⟨⟨p0, p1⟩, ⟨q0, q1⟩, ⟨r0, r1⟩, l5⟩ := aw_cells HF1.out HF2.out HF3.out HN2.out HN3.out HR.out)
    | (go_at_call 14; (with_reducible refine (show_D g (c - 1) T q _ (HW.out.new (New.then HN1.out (New.then HN2.out HN3.out))) (list_new HR.out (New.then (new1 w1 _) (New.then HN2.out HN3.out)))).mono ?_); rintro e w4 ⟨rfl, hn4⟩; have HN4 := Lib.hid hn4; clear hn4))
  go_ret
  exact ⟨rfl, New.then HN1.out (New.then HN2.out (New.then HN3.out HN4.out))⟩
end Go.Proofs.YtddojdgnakajmaaGreatDoor.txt
