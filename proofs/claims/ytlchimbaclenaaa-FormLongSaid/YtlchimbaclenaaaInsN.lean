/-
  The kit's lent and kept lists of instructions.
-/
import Derived.Test.YtlchimbaclenaaaInsL
namespace Go.Proofs.Ytlchimbaclenaaa.ins
open Go.RowKit Go.Proofs.Ytlchimbaclenaaa.mem Go.Proofs.Ytlchimbaclenaaa.kit
set_option linter.unusedVariables false

abbrev zins : Value := .agg #[.int .u8 0, .bool false, .int .i64 0, .int .i64 0, .bool false, .int .i64 0, .int .i64 0, .int .i64 0]
theorem ins_info : (Try.prog.info? 34).map (fun i => (i.zero, i.size, i.bytes)) = some (some zins, 8, 56) := by kernel_rfl

def mkN (k i : Int) : Int := wrap64 (wrap64 (1000003 * wrap64 (k + 7)) + i)
def mkI (k i : Int) : In := ⟨0, false, 0, 0, false, mkN k i, 0, 0⟩
theorem mark_any (k i : Int) (w : World) : Calls Try.prog 27 #[.int .i64 k, .int .i64 i] w fun e w' => e = .returned (.int .i64 (mkN k i)) ∧ w = w' := by
  go_enter Try.func27, Try.ntmps27
  go_wp2
  go_ret
  exact ⟨rfl, rfl⟩
theorem markIns_any (k i : Int) (w : World) : Calls Try.prog 15 #[.int .i64 k, .int .i64 i] w fun e w' => e = .returned (.agg #[.int .u8 0, .bool false, .int .i64 0, .int .i64 0, .bool false, .int .i64 (mkN k i), .int .i64 0, .int .i64 0]) ∧ New w w' := by
  obtain ⟨z, hz⟩ : ∃ z, mkN k i = z := ⟨_, rfl⟩
  have H := Lib.hid hz
  rw [hz]
  clear hz
  go_enter Try.func15, Try.ntmps15
  go_wp2_with (go_at_call 27; refine (mark_any _ _ _).mono ?_; rintro e w1 ⟨rfl, rfl⟩; rw [H.out])
  refine bodyPost_ret (v := .agg #[.int .u8 0, .bool false, .int .i64 0, .int .i64 0, .bool false, .int .i64 z, .int .i64 0, .int .i64 0]) (by simp [results, Try.results15, go_sem]) rfl ⟨rfl, ?_⟩
  exact new1 w _

def marksI (k : Int) (n : Nat) : List In := (List.range n).map fun (i : Nat) => mkI k (i : Int)
theorem marksI_length (k : Int) (n : Nat) : (marksI k n).length = n := by simp [marksI]
theorem marksI_succ (k : Int) (n : Nat) : marksI k (n + 1) = marksI k n ++ [mkI k (n : Int)] := by simp [marksI, List.range_succ]
theorem marksI_get (k : Int) (n i : Nat) (h : i < (marksI k n).length) : (marksI k n)[i] = mkI k (i : Int) := by simp [marksI]

/-- A row whose room is used up is its block. -/
theorem own_full8 {w : World} {base e n g : Nat} {xs : List Value} (h : w.ownsRow base e 8 (.slice (some ⟨g, 0, none⟩) n n) n xs) : base ≤ g ∧ Blk w g e xs.toArray := by
  rcases h.2 with ⟨h', _⟩ | ⟨g', cap', cur, h', hb, hg, hnc, hcm, hcs, htake⟩
  · simp at h'
  · simp only [Value.slice.injEq, Option.some.injEq, Addr.mk.injEq, and_true, true_and] at h'
    obtain ⟨rfl, rfl⟩ := h'
    refine ⟨hb, ?_⟩
    have : cur.toList = xs := by rw [← htake, List.take_of_length_le (by simp [hcs])]
    rw [← this]
    exact hg

/-- One new instruction, as a row that may be read. -/
theorem reads_ins (w : World) (t : TypeId) (o : Int) (n : Bool) (d s : Int) (u : Bool) (f m z : Int) : Reads (w.alloc (.cells #[.int .u8 o, .bool n, .int .i64 d, .int .i64 s, .bool u, .int .i64 f, .int .i64 m, .int .i64 z] t)) (w.alloc (.cells #[.int .u8 o, .bool n, .int .i64 d, .int .i64 s, .bool u, .int .i64 f, .int .i64 m, .int .i64 z] t)).heap.size 8 (some ⟨w.heap.size, 0, none⟩) 1 (vi [⟨o, n, d, s, u, f, m, z⟩]) :=
  ⟨rfl, fun _ => ⟨_, rfl, by simp, fun j v hv => by
    rw [Addr.add_lit, Nat.zero_add, (Blk.new w t #[.int .u8 o, .bool n, .int .i64 d, .int .i64 s, .bool u, .int .i64 f, .int .i64 m, .int .i64 z]).cell j]
    rw [← hv]
    simp only [List.getElem?_toArray, vi]⟩⟩

theorem make_ins (n c : Nat) (hnc : n ≤ c) (hc : c ≤ 2199023255552) (W : World) :
    (Instr.makeSlice 22 (.int .i64 (n : Int)) (.int .i64 (c : Int))).run Try.prog W = .ok (.slice (some ⟨W.heap.size, 0, none⟩) n c) (W.alloc (.cells (zrow zins (c * 8)) 34)) := by
  obtain ⟨i0, hi, hz0, hz1, hz2⟩ := info_parts ins_info
  have hr := run_make (P := Try.prog) W 22 34 i0 _ Try.underlying22 hi hz0 .i64 .i64 n c (by omega) (by omega) (by rw [hz2]; omega) (by omega)
  simp only [Int.toNat_natCast, hz1] at hr
  exact hr

set_option maxRecDepth 100000 in
set_option maxHeartbeats 1000000 in
theorem lentIns_any (A : Option Addr) (n c : Nat) (l : List In) (w : World) (hl : n ≤ 1099511627776) (hn : n = l.length) (hA : RI w A l) :
    Calls Try.prog 8 #[.slice A n c] w fun e w' => (e = .returned (.slice (some ⟨w.heap.size, 0, none⟩) n (n + 12)) ∧ Blk w' w.heap.size 34 (vi (l ++ marksI 1 12)).toArray) ∧ New w w' := by
  obtain ⟨i0, hi, hz0, hz1, hz2⟩ := info_parts ins_info
  have hmk : ∀ W : World, (Instr.makeSlice 22 (.int .i64 0) (.int .i64 ((n : Int) + 12))).run Try.prog W = .ok (.slice (some ⟨W.heap.size, 0, none⟩) 0 (n + 12)) (W.alloc (.cells (zrow zins ((n + 12) * 8)) 34)) := fun W => make_ins 0 (n + 12) (by omega) (by omega) W
  have h0 := World.ownsRow_made (e := 34) (base := w.heap.size) (size := 8) w (zrow zins ((n + 12) * 8)) (n + 12) (Nat.le_refl _) (by unfold maxLen; omega) (by rw [zrow_size])
  have hb0 : New w (w.alloc (.cells (zrow zins ((n + 12) * 8)) 34)) := (new_refl w).alloc (Nat.le_refl _) _
  have hA' : Reads (w.alloc (.cells (zrow zins ((n + 12) * 8)) 34)) (w.alloc (.cells (zrow zins ((n + 12) * 8)) 34)).heap.size 8 A n (vi l) := by have h := Reads.new hA hb0; rw [← hn] at h; exact h
  have H0 := Lib.hid h0
  have HA := Lib.hid hA'
  have HN := Lib.hid hn
  clear h0 hA' hA hn
  go_enter Try.func8, Try.ntmps8
  go_wp2_with
    (at_builtin; refine wpList_append_fit _ rfl (.tmp 9) (.tmp 10) 22 rfl w.heap.size 34 i0 8 Try.underlying22 hi hz1 w.heap.size 0 (n + 12) [] rfl H0.out _ A n c (vi l) rfl HA.out (vi_one l) (by omega) (by omega) ?_; intro w1 hown1 hg1)
  have hb1 : New w w1 := hb0.grown hg1 hb0.size (fun k hk => by injection hk with hk; omega)
  rw [Nat.zero_add, List.nil_append] at hown1
  go_loopw [3, 4] (fun v i wr => ∃ k : Nat, k ≤ 12 ∧ i = .int .i64 k ∧ v = .slice (some ⟨w.heap.size, 0, none⟩) (n + k) (n + 12) ∧ wr.ownsRow w.heap.size 34 8 (.slice (some ⟨w.heap.size, 0, none⟩) (n + k) (n + 12)) (n + k) (vi (l ++ marksI 1 k)) ∧ New w wr) (fun _ i _ => 12 - (intOf i).toNat)
  case atStart => exact ⟨0, Nat.zero_le _, rfl, by simp, by simpa [marksI] using hown1, hb1⟩
  case round =>
    clear hmk H0 HA hown1 hg1 hb1 hb0
    obtain ⟨k, hk, rfl, rfl, ho, hnw⟩ := hrel
    have HO := Lib.hid ho
    have HNW := Lib.hid hnw
    clear ho hnw
    by_cases hlt : k < 12
    · go_wp2_with (first
        | (go_at_call 15; refine (markIns_any _ _ _).mono ?_; rintro e w2 ⟨rfl, hn2⟩)
        | (at_builtin; refine wpList_append_fit _ rfl (.tmp 16) (.tmp 19) 22 rfl w.heap.size 34 i0 8 Try.underlying22 hi hz1 w.heap.size (n + k) (n + 12) _ rfl ((own_new HO.out hn2).alloc _) _ _ 1 1 _ rfl (reads_ins w2 _ _ _ _ _ _ _ _ _) (by simp [vi, Value.oneCell']) (by omega) (by omega) ?_; intro w3 hown3 hg3))
      have hN2 := New.then HNW.out hn2
      have hb2 : New w w3 := (hN2.alloc hN2.size _).grown hg3 (by have := hN2.size; simp; omega) (fun k hk => by injection hk with hk; omega)
      have e2 : vi (l ++ marksI 1 k) ++ vi [⟨0, false, 0, 0, false, mkN 1 (k : Int), 0, 0⟩] = vi (l ++ marksI 1 (k + 1)) := by rw [marksI_succ, ← List.append_assoc, vi_append (l ++ marksI 1 k)]; rfl
      have hown4 : w3.ownsRow w.heap.size 34 8 (.slice (some ⟨w.heap.size, 0, none⟩) (n + k + 1) (n + 12)) (n + k + 1) (vi (l ++ marksI 1 (k + 1))) := by rw [← e2]; exact hown3
      clear hown3
      go_roundw
      case rel => exact ⟨k + 1, by omega, by go_num, by rw [Nat.add_assoc], hown4, hb2⟩
      case measure => simp [intOf]; omega
    · obtain rfl : k = 12 := by omega
      have hnw := HNW.out
      go_wp2
      go_ret
      exact ⟨⟨by simp, (own_full8 HO.out).2⟩, hnw⟩
end Go.Proofs.Ytlchimbaclenaaa.ins
