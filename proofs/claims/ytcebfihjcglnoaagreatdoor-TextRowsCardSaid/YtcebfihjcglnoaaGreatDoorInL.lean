/-
  Lists of instructions, and of numbers, in memory; same, of both.
-/
import Derived.Test.YtcebfihjcglnoaaGreatDoorInA
import Derived.Deep.RegionHeld3
namespace Go.Proofs.YtcebfihjcglnoaaGreatDoor.ins
open Go.RowKit Go.Proofs.YtcebfihjcglnoaaGreatDoor.mem Go.Proofs.YtcebfihjcglnoaaGreatDoor.kit
set_option linter.unusedVariables false

def vi : List In → List Value
  | [] => []
  | i :: l => .int .u8 i.op :: .bool i.nar :: .int .i64 i.dst :: .int .i64 i.src :: .bool i.use :: .int .i64 i.off :: .int .i64 i.imm :: .int .i64 i.siz :: vi l
theorem vi_length : ∀ (l : List In), (vi l).length = l.length * 8
  | [] => rfl
  | i :: l => by simp only [vi, List.length_cons, vi_length l]; omega
theorem vi_append : ∀ (a b : List In), vi (a ++ b) = vi a ++ vi b
  | [], b => rfl
  | i :: a, b => by simp only [List.cons_append, vi, vi_append a b]
theorem vi_one : ∀ (l : List In), ∀ u ∈ vi l, u.oneCell' = true
  | [], u, h => by simp [vi] at h
  | i :: l, u, h => by
    simp only [vi, List.mem_cons] at h
    rcases h with rfl | rfl | rfl | rfl | rfl | rfl | rfl | rfl | h
    all_goals first | rfl | exact vi_one l u h
/-- The eight cells of one of them. -/
theorem vi_at : ∀ (l : List In) (k : Nat) (h : k < l.length), (vi l)[k * 8]? = some (.int .u8 l[k].op) ∧ (vi l)[k * 8 + 1]? = some (.bool l[k].nar) ∧ (vi l)[k * 8 + 2]? = some (.int .i64 l[k].dst) ∧ (vi l)[k * 8 + 3]? = some (.int .i64 l[k].src) ∧
    (vi l)[k * 8 + 4]? = some (.bool l[k].use) ∧ (vi l)[k * 8 + 5]? = some (.int .i64 l[k].off) ∧ (vi l)[k * 8 + 6]? = some (.int .i64 l[k].imm) ∧ (vi l)[k * 8 + 7]? = some (.int .i64 l[k].siz)
  | [], k, h => by simp at h
  | i :: l, 0, h => ⟨rfl, rfl, rfl, rfl, rfl, rfl, rfl, rfl⟩
  | i :: l, k + 1, h => by
    have h' : k < l.length := by simpa using h
    have e : ∀ j, (vi (i :: l))[(k + 1) * 8 + j]? = (vi l)[k * 8 + j]? := fun j => by
      rw [show (k + 1) * 8 + j = (k * 8 + j) + 1 + 1 + 1 + 1 + 1 + 1 + 1 + 1 by omega]
      simp only [vi, List.getElem?_cons_succ]
    have e0 := e 0
    simp only [Nat.add_zero] at e0
    rw [e0, e, e, e, e, e, e, e]
    simpa using vi_at l k h'

/-- An instruction's eight cells in memory. -/
def At (w : World) (b k : Nat) (i : In) : Prop :=
  w.cell? ⟨b, k, none⟩ = some (.int .u8 i.op) ∧ w.cell? ⟨b, k + 1, none⟩ = some (.bool i.nar) ∧ w.cell? ⟨b, k + 2, none⟩ = some (.int .i64 i.dst) ∧ w.cell? ⟨b, k + 3, none⟩ = some (.int .i64 i.src) ∧ w.cell? ⟨b, k + 4, none⟩ = some (.bool i.use) ∧ w.cell? ⟨b, k + 5, none⟩ = some (.int .i64 i.off) ∧ w.cell? ⟨b, k + 6, none⟩ = some (.int .i64 i.imm) ∧ w.cell? ⟨b, k + 7, none⟩ = some (.int .i64 i.siz)
theorem At.new {w w' : World} {b k : Nat} {i : In} (h : At w b k i) (hb : b < w.heap.size) (hn : New w w') : At w' b k i := by
  obtain ⟨h0, h1, h2, h3, h4, h5, h6, h7⟩ := h
  have c : ∀ j, w'.cell? ⟨b, j, none⟩ = w.cell? ⟨b, j, none⟩ := fun j => hn.cell (p := ⟨b, j, none⟩) hb
  exact ⟨(c _).trans h0, (c _).trans h1, (c _).trans h2, (c _).trans h3, (c _).trans h4, (c _).trans h5, (c _).trans h6, (c _).trans h7⟩
theorem spot_of {w : World} {a : Addr} {v : Value} (h : w.cell? a = some v) : a.spot = none := by
  unfold World.cell? at h
  split at h
  · split at h
    · cases h
    · rename_i hs
      cases hsp : a.spot with
      | none => rfl
      | some p => rw [hsp] at hs; simp at hs
  · cases h

/-- Instructions that read as a list. -/
abbrev RI (w : World) (A : Option Addr) (l : List In) : Prop := Reads w w.heap.size 8 A l.length (vi l)
theorem RI.at_ {w : World} {A : Option Addr} {l : List In} (h : RI w A l) {k : Nat} (hk : k < l.length) : ∃ g o, A = some ⟨g, o, none⟩ ∧ g < w.heap.size ∧ At w g (o + k * 8) l[k] := by
  obtain ⟨ad, rfl, hb, hc⟩ := h.2 (by omega)
  obtain ⟨h0, h1, h2, h3, h4, h5, h6, h7⟩ := vi_at l k hk
  have c0 := hc _ _ h0
  have hs := spot_of (hc _ _ (vi_at l 0 (by omega)).1)
  rw [Nat.zero_mul] at hs
  obtain ⟨g, o, sp⟩ := ad
  have hsp : sp = none := by simpa [Addr.add] using hs
  subst hsp
  refine ⟨g, o, rfl, hb, ?_⟩
  have e : ∀ j, (Addr.mk g o none).add j = ⟨g, o + j, none⟩ := fun j => Addr.add_lit _ _ _
  have c1 := hc _ _ h1
  have c2 := hc _ _ h2
  have c3 := hc _ _ h3
  have c4 := hc _ _ h4
  have c5 := hc _ _ h5
  have c6 := hc _ _ h6
  have c7 := hc _ _ h7
  rw [e] at c0 c1 c2 c3 c4 c5 c6 c7
  exact ⟨c0, c1, c2, c3, c4, c5, c6, c7⟩

/-- Numbers as cells. -/
def vn (l : List Int) : List Value := l.map fun z => .int .i64 z
theorem vn_length (l : List Int) : (vn l).length = l.length := by simp [vn]
theorem vn_get (l : List Int) (k : Nat) (h : k < l.length) : (vn l)[k]? = some (.int .i64 l[k]) := by simp [vn, h]
theorem vn_append (a b : List Int) : vn (a ++ b) = vn a ++ vn b := by simp [vn]
theorem vn_one (l : List Int) : ∀ u ∈ vn l, u.oneCell' = true := by
  intro u hu
  simp only [vn, List.mem_map] at hu
  obtain ⟨b, _, rfl⟩ := hu
  rfl

theorem sameInts_any (A B : Option Addr) (c d : Nat) (l : List Int) (w : World) (hl : l.length ≤ 1099511627776) (hA : Reads w w.heap.size 1 A l.length (vn l)) (hB : Reads w w.heap.size 1 B l.length (vn l)) :
    Calls Tryz.prog 199 #[.slice A l.length c, .slice B l.length d] w fun e w' => e = .returned (.bool true) ∧ New w w' := by
  go_enter Tryz.func199, Tryz.ntmps199
  go_wp2
  go_loopw [5] (fun i wr => ∃ k : Nat, k ≤ l.length ∧ i = .int .i64 k ∧ New w wr) (fun i _ => l.length - (intOf i).toNat)
  case atStart => exact ⟨0, Nat.zero_le _, rfl, new_refl _⟩
  case round =>
    obtain ⟨k, hk, rfl, hn⟩ := hrel
    by_cases hlt : k < l.length
    · obtain ⟨a, u, rfl, ha, hx, hc⟩ := hA.at_ hlt
      obtain ⟨b, u', rfl, hb, hx', hc'⟩ := hB.at_ hlt
      have hu : u' = u := by rw [hx] at hx'; injection hx' with h; exact h.symm
      subst hu
      rw [vn_get l k hlt] at hx
      injection hx with hx
      subst hx
      have h1 := (hn.cell (p := a.add k) (by rw [block_of_add]; exact ha)).trans hc
      have h2 := (hn.cell (p := b.add k) (by rw [block_of_add]; exact hb)).trans hc'
      clear hx' hc hc'
      go_wp2
      go_quiet (fail)
      go_wp2
      go_roundw
      case rel => exact ⟨k + 1, by omega, by go_num, hn.drewN _⟩
      case measure => simp [intOf]; omega
    · go_wp2
      go_ret
      exact ⟨rfl, hn⟩

theorem eq_same (o : Int) (n : Bool) (d s : Int) (u : Bool) (f m z : Int) (w : World) :
    (Op.equalIn 10000 47 (.agg #[.int .u8 o, .bool n, .int .i64 d, .int .i64 s, .bool u, .int .i64 f, .int .i64 m, .int .i64 z]) (.agg #[.int .u8 o, .bool n, .int .i64 d, .int .i64 s, .bool u, .int .i64 f, .int .i64 m, .int .i64 z])).run Tryz.prog w = .ok true w := by
  rw [eq_ins]
  simp [sameB]

set_option maxRecDepth 100000 in
theorem sameIns_any (A B : Option Addr) (n c d : Nat) (l : List In) (w : World) (hn : n = l.length) (hl : n ≤ 1099511627776) (hA : RI w A l) (hB : RI w B l) :
    Calls Tryz.prog 22 #[.slice A n c, .slice B n d] w fun e w' => e = .returned (.bool true) ∧ New w w' := by
  have HN := Lib.hid hn
  have HA := Lib.hid hA
  have HB := Lib.hid hB
  clear hn hA hB
  go_enter Tryz.func22, Tryz.ntmps22
  go_wp2
  go_loopw [5] (fun i wr => ∃ k : Nat, k ≤ n ∧ i = .int .i64 k ∧ New w wr) (fun i _ => n - (intOf i).toNat)
  case atStart => exact ⟨0, Nat.zero_le _, rfl, new_refl _⟩
  case round =>
    obtain ⟨k, hk, rfl, hnw⟩ := hrel
    have HNW := Lib.hid hnw
    clear hnw
    by_cases hlt : k < n
    · have hlf : k < l.length := by have := HN.out; omega
      obtain ⟨g, o, rfl, hg, ha⟩ := HA.out.at_ hlf
      obtain ⟨g', o', rfl, hg', hb⟩ := HB.out.at_ hlf
      obtain ⟨x, hx⟩ : ∃ x, l[k] = x := ⟨_, rfl⟩
      rw [hx] at ha hb
      clear hx
      obtain ⟨ox, nx, dx, sx, ux, fx, mx, zx⟩ := x
      obtain ⟨a0, a1, a2, a3, a4, a5, a6, a7⟩ := ha.new hg HNW.out
      obtain ⟨b0, b1, b2, b3, b4, b5, b6, b7⟩ := hb.new hg' HNW.out
      have hq := eq_same ox nx dx sx ux fx mx zx
      clear ha hb hg hg'
      simp only at a0 a1 a2 a3 a4 a5 a6 a7 b0 b1 b2 b3 b4 b5 b6 b7
      go_wp2
      go_quiet (fail)
      go_wp2
      go_roundw
      case rel => exact ⟨k + 1, by omega, by go_num, HNW.out.drewN _⟩
      case measure => simp [intOf]; omega
    · obtain rfl : k = n := by omega
      have hnw := HNW.out
      go_wp2
      go_ret
      exact ⟨rfl, hnw⟩
end Go.Proofs.YtcebfihjcglnoaaGreatDoor.ins

namespace Go.Proofs.YtcebfihjcglnoaaGreatDoor.ins
open Go.RowKit Go.Proofs.YtcebfihjcglnoaaGreatDoor.mem Go.Proofs.YtcebfihjcglnoaaGreatDoor.kit
set_option linter.unusedVariables false

abbrev zins : Value := .agg #[.int .u8 0, .bool false, .int .i64 0, .int .i64 0, .bool false, .int .i64 0, .int .i64 0, .int .i64 0]
theorem ins_info : (Tryz.prog.info? 47).map (fun i => (i.zero, i.size, i.bytes)) = some (some zins, 8, 56) := by kernel_rfl

def mkN (k i : Int) : Int := wrap64 (wrap64 (1000003 * wrap64 (k + 7)) + i)
def mkI (k i : Int) : In := ⟨0, false, 0, 0, false, mkN k i, 0, 0⟩
theorem mark_any (k i : Int) (w : World) : Calls Tryz.prog 92 #[.int .i64 k, .int .i64 i] w fun e w' => e = .returned (.int .i64 (mkN k i)) ∧ w = w' := by
  go_enter Tryz.func92, Tryz.ntmps92
  go_wp2
  go_ret
  exact ⟨rfl, rfl⟩
theorem markIns_any (k i : Int) (w : World) : Calls Tryz.prog 31 #[.int .i64 k, .int .i64 i] w fun e w' => e = .returned (.agg #[.int .u8 0, .bool false, .int .i64 0, .int .i64 0, .bool false, .int .i64 (mkN k i), .int .i64 0, .int .i64 0]) ∧ New w w' := by
  obtain ⟨z, hz⟩ : ∃ z, mkN k i = z := ⟨_, rfl⟩
  have H := Lib.hid hz
  rw [hz]
  clear hz
  go_enter Tryz.func31, Tryz.ntmps31
  go_wp2_with (go_at_call 92; refine (mark_any _ _ _).mono ?_; rintro e w1 ⟨rfl, rfl⟩; rw [H.out])
  refine bodyPost_ret (v := .agg #[.int .u8 0, .bool false, .int .i64 0, .int .i64 0, .bool false, .int .i64 z, .int .i64 0, .int .i64 0]) (by simp [results, Tryz.results31, go_sem]) rfl ⟨rfl, ?_⟩
  exact new1 w _

def marksI (k : Int) (n : Nat) : List In := (List.range n).map fun (i : Nat) => mkI k (i : Int)
theorem marksI_length (k : Int) (n : Nat) : (marksI k n).length = n := by simp [marksI]
theorem marksI_succ (k : Int) (n : Nat) : marksI k (n + 1) = marksI k n ++ [mkI k (n : Int)] := by simp [marksI, List.range_succ]
theorem marksI_get (k : Int) (n i : Nat) (h : i < (marksI k n).length) : (marksI k n)[i] = mkI k (i : Int) := by simp [marksI]

/-- A row whose room is used up is its block. -/
theorem own_full8 {w : World} {base e n g : Nat} {xs : List Value} (h : w.ownsRow base e 8 (.slice (some ⟨g, 0, none⟩) n n) n xs) : base ≤ g ∧ Blk w g e xs.toArray := by
  rcases h.2 with ⟨h', _⟩ | ⟨g', cap', cur, h', hb, hg, hnc, hcm, hcs, htake⟩
  · simp at h'
  · simp only [Value.slice.injEq, Option.some.injEq, Addr.mk.injEq, and_true, true_and] at h'
    obtain ⟨rfl, rfl⟩ := h'
    refine ⟨hb, ?_⟩
    have : cur.toList = xs := by rw [← htake, List.take_of_length_le (by simp [hcs])]
    rw [← this]
    exact hg

/-- One new instruction, as a row that may be read. -/
theorem reads_ins (w : World) (t : TypeId) (o : Int) (n : Bool) (d s : Int) (u : Bool) (f m z : Int) : Reads (w.alloc (.cells #[.int .u8 o, .bool n, .int .i64 d, .int .i64 s, .bool u, .int .i64 f, .int .i64 m, .int .i64 z] t)) (w.alloc (.cells #[.int .u8 o, .bool n, .int .i64 d, .int .i64 s, .bool u, .int .i64 f, .int .i64 m, .int .i64 z] t)).heap.size 8 (some ⟨w.heap.size, 0, none⟩) 1 (vi [⟨o, n, d, s, u, f, m, z⟩]) :=
  ⟨rfl, fun _ => ⟨_, rfl, by simp, fun j v hv => by
    rw [Addr.add_lit, Nat.zero_add, (Blk.new w t #[.int .u8 o, .bool n, .int .i64 d, .int .i64 s, .bool u, .int .i64 f, .int .i64 m, .int .i64 z]).cell j]
    rw [← hv]
    simp only [List.getElem?_toArray, vi]⟩⟩

theorem make_ins (n c : Nat) (hnc : n ≤ c) (hc : c ≤ 2199023255552) (W : World) :
    (Instr.makeSlice 23 (.int .i64 (n : Int)) (.int .i64 (c : Int))).run Tryz.prog W = .ok (.slice (some ⟨W.heap.size, 0, none⟩) n c) (W.alloc (.cells (zrow zins (c * 8)) 47)) := by
  obtain ⟨i0, hi, hz0, hz1, hz2⟩ := info_parts ins_info
  have hr := run_make (P := Tryz.prog) W 23 47 i0 _ Tryz.underlying23 hi hz0 .i64 .i64 n c (by omega) (by omega) (by rw [hz2]; omega) (by omega)
  simp only [Int.toNat_natCast, hz1] at hr
  exact hr

set_option maxRecDepth 100000 in
set_option maxHeartbeats 1000000 in
theorem lentIns_any (A : Option Addr) (n c : Nat) (l : List In) (w : World) (hl : n ≤ 1099511627776) (hn : n = l.length) (hA : RI w A l) :
    Calls Tryz.prog 12 #[.slice A n c] w fun e w' => (e = .returned (.slice (some ⟨w.heap.size, 0, none⟩) n (n + 12)) ∧ Blk w' w.heap.size 47 (vi (l ++ marksI 1 12)).toArray) ∧ New w w' := by
  obtain ⟨i0, hi, hz0, hz1, hz2⟩ := info_parts ins_info
  have hmk : ∀ W : World, (Instr.makeSlice 23 (.int .i64 0) (.int .i64 ((n : Int) + 12))).run Tryz.prog W = .ok (.slice (some ⟨W.heap.size, 0, none⟩) 0 (n + 12)) (W.alloc (.cells (zrow zins ((n + 12) * 8)) 47)) := fun W => make_ins 0 (n + 12) (by omega) (by omega) W
  have h0 := World.ownsRow_made (e := 47) (base := w.heap.size) (size := 8) w (zrow zins ((n + 12) * 8)) (n + 12) (Nat.le_refl _) (by unfold maxLen; omega) (by rw [zrow_size])
  have hb0 : New w (w.alloc (.cells (zrow zins ((n + 12) * 8)) 47)) := (new_refl w).alloc (Nat.le_refl _) _
  have hA' : Reads (w.alloc (.cells (zrow zins ((n + 12) * 8)) 47)) (w.alloc (.cells (zrow zins ((n + 12) * 8)) 47)).heap.size 8 A n (vi l) := by have h := Reads.new hA hb0; rw [← hn] at h; exact h
  have H0 := Lib.hid h0
  have HA := Lib.hid hA'
  have HN := Lib.hid hn
  clear h0 hA' hA hn
  go_enter Tryz.func12, Tryz.ntmps12
  go_wp2_with
    (at_builtin; refine wpList_append_fit _ rfl (.tmp 9) (.tmp 10) 23 rfl w.heap.size 47 i0 8 Tryz.underlying23 hi hz1 w.heap.size 0 (n + 12) [] rfl H0.out _ A n c (vi l) rfl HA.out (vi_one l) (by omega) (by omega) ?_; intro w1 hown1 hg1)
  have hb1 : New w w1 := hb0.grown hg1 hb0.size (fun k hk => by injection hk with hk; omega)
  rw [Nat.zero_add, List.nil_append] at hown1
  go_loopw [3, 4] (fun v i wr => ∃ k : Nat, k ≤ 12 ∧ i = .int .i64 k ∧ v = .slice (some ⟨w.heap.size, 0, none⟩) (n + k) (n + 12) ∧ wr.ownsRow w.heap.size 47 8 (.slice (some ⟨w.heap.size, 0, none⟩) (n + k) (n + 12)) (n + k) (vi (l ++ marksI 1 k)) ∧ New w wr) (fun _ i _ => 12 - (intOf i).toNat)
  case atStart => exact ⟨0, Nat.zero_le _, rfl, by simp, by simpa [marksI] using hown1, hb1⟩
  case round =>
    clear hmk H0 HA hown1 hg1 hb1 hb0
    obtain ⟨k, hk, rfl, rfl, ho, hnw⟩ := hrel
    have HO := Lib.hid ho
    have HNW := Lib.hid hnw
    clear ho hnw
    by_cases hlt : k < 12
    · go_wp2_with (first
        | (go_at_call 31; refine (markIns_any _ _ _).mono ?_; rintro e w2 ⟨rfl, hn2⟩)
        | (at_builtin; refine wpList_append_fit _ rfl (.tmp 16) (.tmp 19) 23 rfl w.heap.size 47 i0 8 Tryz.underlying23 hi hz1 w.heap.size (n + k) (n + 12) _ rfl ((own_new HO.out hn2).alloc _) _ _ 1 1 _ rfl (reads_ins w2 _ _ _ _ _ _ _ _ _) (by simp [vi, Value.oneCell']) (by omega) (by omega) ?_; intro w3 hown3 hg3))
      have hN2 := New.then HNW.out hn2
      have hb2 : New w w3 := (hN2.alloc hN2.size _).grown hg3 (by have := hN2.size; simp; omega) (fun k hk => by injection hk with hk; omega)
      have e2 : vi (l ++ marksI 1 k) ++ vi [⟨0, false, 0, 0, false, mkN 1 (k : Int), 0, 0⟩] = vi (l ++ marksI 1 (k + 1)) := by rw [marksI_succ, ← List.append_assoc, vi_append (l ++ marksI 1 k)]; rfl
      have hown4 : w3.ownsRow w.heap.size 47 8 (.slice (some ⟨w.heap.size, 0, none⟩) (n + k + 1) (n + 12)) (n + k + 1) (vi (l ++ marksI 1 (k + 1))) := by rw [← e2]; exact hown3
      clear hown3
      go_roundw
      case rel => exact ⟨k + 1, by omega, by go_num, by rw [Nat.add_assoc], hown4, hb2⟩
      case measure => simp [intOf]; omega
    · obtain rfl : k = 12 := by omega
      have hnw := HNW.out
      go_wp2
      go_ret
      exact ⟨⟨by simp, (own_full8 HO.out).2⟩, hnw⟩
end Go.Proofs.YtcebfihjcglnoaaGreatDoor.ins

namespace Go.Proofs.YtcebfihjcglnoaaGreatDoor.ins
open Go.RowKit Go.Proofs.YtcebfihjcglnoaaGreatDoor.mem Go.Proofs.YtcebfihjcglnoaaGreatDoor.kit
set_option linter.unusedVariables false
set_option linter.unusedSimpArgs false

theorem blk_at {w : World} {g : Nat} {l : List In} (h : Blk w g 47 (vi l).toArray) {k : Nat} (hk : k < l.length) : At w g (k * 8) l[k] := by
  obtain ⟨h0, h1, h2, h3, h4, h5, h6, h7⟩ := vi_at l k hk
  have e : ∀ j, w.cell? ⟨g, j, none⟩ = (vi l)[j]? := fun j => by rw [h.cell j]; simp
  exact ⟨(e _).trans h0, (e _).trans h1, (e _).trans h2, (e _).trans h3, (e _).trans h4, (e _).trans h5, (e _).trans h6, (e _).trans h7⟩
theorem lent_at {w : World} {g : Nat} {l : List In} (h : Blk w g 47 (vi (l ++ marksI 1 12)).toArray) {k : Nat} (hk : k < l.length) : At w g (k * 8) l[k] := by
  have := blk_at h (k := k) (by simp; omega)
  rwa [List.getElem_append_left hk] at this
theorem lent_mark {w : World} {g : Nat} {l : List In} (h : Blk w g 47 (vi (l ++ marksI 1 12)).toArray) {k : Nat} (hk : l.length ≤ k) (h2 : k < l.length + 12) : At w g (k * 8) (mkI 1 ((k - l.length : Nat) : Int)) := by
  have := blk_at h (k := k) (by simp [marksI_length]; omega)
  rwa [List.getElem_append_right hk, marksI_get] at this
theorem lent_ri {w : World} {g : Nat} {l : List In} (h : Blk w g 47 (vi (l ++ marksI 1 12)).toArray) : RI w (some ⟨g, 0, none⟩) l :=
  ⟨by rw [vi_length], fun _ => ⟨_, rfl, h.lt, fun j u hu => by
    have hj : j < (vi l).length := (List.getElem?_eq_some_iff.1 hu).1
    rw [Addr.add_lit, Nat.zero_add, h.cell j, ← hu, vi_append]
    simp [List.getElem?_append_left hj]⟩⟩

set_option maxRecDepth 100000 in
set_option maxHeartbeats 4000000 in
theorem keptIns_any (g : Nat) (B : Option Addr) (n d : Nat) (l : List In) (w : World) (hl : n ≤ 1099511627776) (hn : n = l.length) (hg : Blk w g 47 (vi (l ++ marksI 1 12)).toArray) (hB : RI w B l) :
    Calls Tryz.prog 15 #[.slice (some ⟨g, 0, none⟩) n (n + 12), .slice B n d] w fun e w' => e = .returned (.bool true) ∧ New w w' := by
  have HNL := Lib.hid hn
  have HGB := Lib.hid hg
  have HB := Lib.hid hB
  clear hn hg hB
  go_enter Tryz.func15, Tryz.ntmps15
  go_wp2
  go_loopw [6] (fun i wr => ∃ k : Nat, k ≤ n + 12 ∧ i = .int .i64 k ∧ New w wr) (fun i _ => n + 12 - (intOf i).toNat)
  case atStart => exact ⟨0, Nat.zero_le _, rfl, new_refl _⟩
  case round =>
    obtain ⟨k, hk, rfl, hnw⟩ := hrel
    have HNW := Lib.hid hnw
    clear hnw
    by_cases hlt : k < n
    · have hlf : k < l.length := by have := HNL.out; omega
      have ha := lent_at (HGB.out.below HNW.out HGB.out.lt) hlf
      obtain ⟨g', o', rfl, hg', hb⟩ := HB.out.at_ hlf
      obtain ⟨x, hx⟩ : ∃ x, l[k] = x := ⟨_, rfl⟩
      rw [hx] at ha hb
      clear hx
      obtain ⟨ox, nx, dx, sx, ux, fx, mx, zx⟩ := x
      obtain ⟨a0, a1, a2, a3, a4, a5, a6, a7⟩ := ha
      obtain ⟨b0, b1, b2, b3, b4, b5, b6, b7⟩ := hb.new hg' HNW.out
      have hq := eq_same ox nx dx sx ux fx mx zx
      clear hb hg'
      simp only at a0 a1 a2 a3 a4 a5 a6 a7 b0 b1 b2 b3 b4 b5 b6 b7
      have hd : decide (k < n) = true := by simpa using hlt
      have hd2 : decide (n ≤ k) = false := by simpa using hlt
      go_wp2
      go_quiet (fail)
      go_wp2
      go_roundw
      case rel => exact ⟨k + 1, by omega, by go_num, HNW.out.drewN _⟩
      case measure => simp [intOf]; omega
    · by_cases hlt2 : k < n + 12
      · have ha := lent_mark (HGB.out.below HNW.out HGB.out.lt) (k := k) (by have := HNL.out; omega) (by have := HNL.out; omega)
        rw [← HNL.out] at ha
        have hs : ((k : Int) - (n : Int)) = ((k - n : Nat) : Int) := by omega
        have hs0 : IntKind.i64.wrap ((k : Int) - (n : Int)) = (k : Int) - (n : Int) := IntWalk.i64_in _ (by omega)
        rw [← hs] at ha
        clear hs
        have HK := Lib.hid ha
        have HG : Hid (g < wr.heap.size) := Lib.hid (by have := HGB.out.lt; have := HNW.out.size; omega)
        obtain ⟨a0, a1, a2, a3, a4, a5, a6, a7⟩ := ha
        simp only [mkI] at a0 a1 a2 a3 a4 a5 a6 a7
        have hq := eq_same 0 false 0 0 false (mkN 1 ((k : Int) - (n : Int))) 0 0
        have hd : decide (k < n) = false := by simpa using hlt
        have hd2 : decide (n ≤ k) = true := by simp; omega
        have hN0 : New wr wr.drew := Below.drew (new_refl wr)
        go_wp2
        refine wp_region_held_drew (S := fun w' => w'.cell? ⟨g, k * 8, none⟩ = some (.int .u8 0) ∧ w'.cell? ⟨g, k * 8 + 1, none⟩ = some (.bool false) ∧ w'.cell? ⟨g, k * 8 + 2, none⟩ = some (.int .i64 0) ∧ w'.cell? ⟨g, k * 8 + 3, none⟩ = some (.int .i64 0) ∧ w'.cell? ⟨g, k * 8 + 4, none⟩ = some (.bool false) ∧ w'.cell? ⟨g, k * 8 + 5, none⟩ = some (.int .i64 (mkN 1 ((k : Int) - (n : Int)))) ∧ w'.cell? ⟨g, k * 8 + 6, none⟩ = some (.int .i64 0) ∧ w'.cell? ⟨g, k * 8 + 7, none⟩ = some (.int .i64 0)) (by kernel_rfl) ?_ (fun hHeld => ?_)
        · exact ⟨a0, a1, a2, a3, a4, a5, a6, a7⟩
        refine wpAnyH_take (i := 0) (v := ?v0) rfl (by kernel_rfl) (by kernel_rfl) (by kernel_rfl) (fun _ _ _ h => h) (Or.inl ⟨by kernel_rfl, ?y0⟩) hHeld ?r0
        case y0 => (intro w hSw; (try dsimp only at hSw); go_simp; (try with_reducible rfl))
        (try simp only [Act.put, List.setIfInBounds_toArray, List.set_cons_zero, List.set_cons_succ])
        refine wpAnyH_take (i := 1) (v := ?v1) rfl (by kernel_rfl) (by kernel_rfl) (by kernel_rfl) (fun _ _ _ h => h) (Or.inl ⟨by kernel_rfl, ?y1⟩) hHeld ?r1
        case y1 => (intro w hSw; (try dsimp only at hSw); go_simp; (try with_reducible rfl))
        (try simp only [Act.put, List.setIfInBounds_toArray, List.set_cons_zero, List.set_cons_succ])
        refine wpAnyH_take (i := 2) (v := ?v2) rfl (by kernel_rfl) (by kernel_rfl) (by kernel_rfl) (fun _ _ _ h => h) (Or.inl ⟨by kernel_rfl, ?y2⟩) hHeld ?r2
        case y2 => (intro w hSw; (try dsimp only at hSw); go_simp; (try with_reducible rfl))
        (try simp only [Act.put, List.setIfInBounds_toArray, List.set_cons_zero, List.set_cons_succ])
        refine wpAnyH_take (i := 3) (v := ?v3) rfl (by kernel_rfl) (by kernel_rfl) (by kernel_rfl) (fun _ _ _ h => h) (Or.inl ⟨by kernel_rfl, ?y3⟩) hHeld ?r3
        case y3 => (intro w hSw; (try dsimp only at hSw); go_simp; (try with_reducible rfl))
        (try simp only [Act.put, List.setIfInBounds_toArray, List.set_cons_zero, List.set_cons_succ])
        refine wpAnyH_take (i := 4) (v := ?v4) rfl (by kernel_rfl) (by kernel_rfl) (by kernel_rfl) (fun _ _ _ h => h) (Or.inl ⟨by kernel_rfl, ?y4⟩) hHeld ?r4
        case y4 => (intro w hSw; (try dsimp only at hSw); go_simp; (try with_reducible rfl))
        (try simp only [Act.put, List.setIfInBounds_toArray, List.set_cons_zero, List.set_cons_succ])
        refine wpAnyH_take (i := 5) (v := undef) rfl (by kernel_rfl) (by kernel_rfl) (by kernel_rfl) (fun _ _ _ h => h) (Or.inr ⟨by kernel_rfl, rfl⟩) hHeld ?_
        (try simp only [Act.put, List.setIfInBounds_toArray, List.set_cons_zero, List.set_cons_succ])
        refine wpAnyH_take (i := 6) (v := undef) rfl (by kernel_rfl) (by kernel_rfl) (by kernel_rfl) (fun _ _ _ h => h) (Or.inr ⟨by kernel_rfl, rfl⟩) hHeld ?_
        (try simp only [Act.put, List.setIfInBounds_toArray, List.set_cons_zero, List.set_cons_succ])
        refine wpAnyH_take (i := 7) (v := undef) rfl (by kernel_rfl) (by kernel_rfl) (by kernel_rfl) (fun _ _ _ h => h) (Or.inr ⟨by kernel_rfl, rfl⟩) hHeld ?_
        (try simp only [Act.put, List.setIfInBounds_toArray, List.set_cons_zero, List.set_cons_succ])
        refine wpAnyH_take (i := 8) (v := undef) rfl (by kernel_rfl) (by kernel_rfl) (by kernel_rfl) (fun _ _ _ h => h) (Or.inr ⟨by kernel_rfl, rfl⟩) hHeld ?_
        (try simp only [Act.put, List.setIfInBounds_toArray, List.set_cons_zero, List.set_cons_succ])
        refine wpAnyH_take (i := 9) (v := undef) rfl (by kernel_rfl) (by kernel_rfl) (by kernel_rfl) (fun _ _ _ h => h) (Or.inr ⟨by kernel_rfl, rfl⟩) hHeld ?_
        (try simp only [Act.put, List.setIfInBounds_toArray, List.set_cons_zero, List.set_cons_succ])
        refine wpAnyH_take (i := 10) (v := undef) rfl (by kernel_rfl) (by kernel_rfl) (by kernel_rfl) (fun _ _ _ h => h) (Or.inr ⟨by kernel_rfl, rfl⟩) hHeld ?_
        (try simp only [Act.put, List.setIfInBounds_toArray, List.set_cons_zero, List.set_cons_succ])
        refine wpAnyH_take (i := 11) (v := undef) rfl (by kernel_rfl) (by kernel_rfl) (by kernel_rfl) (fun _ _ _ h => h) (Or.inr ⟨by kernel_rfl, rfl⟩) hHeld ?_
        (try simp only [Act.put, List.setIfInBounds_toArray, List.set_cons_zero, List.set_cons_succ])
        refine wpAnyH_take (i := 12) (v := undef) rfl (by kernel_rfl) (by kernel_rfl) (by kernel_rfl) (fun _ _ _ h => h) (Or.inr ⟨by kernel_rfl, rfl⟩) hHeld ?_
        (try simp only [Act.put, List.setIfInBounds_toArray, List.set_cons_zero, List.set_cons_succ])
        refine wpAnyH_take (i := 13) (v := undef) rfl (by kernel_rfl) (by kernel_rfl) (by kernel_rfl) (fun _ _ _ h => h) (Or.inr ⟨by kernel_rfl, rfl⟩) hHeld ?_
        (try simp only [Act.put, List.setIfInBounds_toArray, List.set_cons_zero, List.set_cons_succ])
        refine wpAnyH_take (i := 14) (v := undef) rfl (by kernel_rfl) (by kernel_rfl) (by kernel_rfl) (fun _ _ _ h => h) (Or.inr ⟨by kernel_rfl, rfl⟩) hHeld ?_
        (try simp only [Act.put, List.setIfInBounds_toArray, List.set_cons_zero, List.set_cons_succ])
        refine wpAnyH_take (i := 15) (v := ?v15) rfl (by kernel_rfl) (by kernel_rfl) (by kernel_rfl) (fun _ _ _ h => h) (Or.inl ⟨by kernel_rfl, ?y15⟩) hHeld ?r15
        case y15 => (intro w hSw; (try dsimp only at hSw); go_simp; (try with_reducible rfl))
        (try simp only [Act.put, List.setIfInBounds_toArray, List.set_cons_zero, List.set_cons_succ])
        refine wpAnyH_take (i := 16) (v := ?v16) rfl (by kernel_rfl) (by kernel_rfl) (by kernel_rfl) (fun _ _ _ h => h) (Or.inl ⟨by kernel_rfl, ?y16⟩) hHeld ?r16
        case y16 => (intro w hSw; (try dsimp only at hSw); go_simp; (try with_reducible rfl))
        (try simp only [Act.put, List.setIfInBounds_toArray, List.set_cons_zero, List.set_cons_succ])
        refine wpAnyH_take (i := 17) (v := ?v17) rfl (by kernel_rfl) (by kernel_rfl) (by kernel_rfl) (fun _ _ _ h => h) (Or.inl ⟨by kernel_rfl, ?y17⟩) hHeld ?r17
        case y17 => (intro w hSw; (try dsimp only at hSw); go_simp; (try with_reducible rfl))
        (try simp only [Act.put, List.setIfInBounds_toArray, List.set_cons_zero, List.set_cons_succ])
        refine wpAnyH_take (i := 18) (v := ?v18) rfl (by kernel_rfl) (by kernel_rfl) (by kernel_rfl) (fun _ _ _ h => h) (Or.inl ⟨by kernel_rfl, ?y18⟩) hHeld ?r18
        case y18 => (intro w hSw; (try dsimp only at hSw); go_simp; (try with_reducible rfl))
        (try simp only [Act.put, List.setIfInBounds_toArray, List.set_cons_zero, List.set_cons_succ])
        refine wpAnyH_take (i := 19) (v := ?v19) rfl (by kernel_rfl) (by kernel_rfl) (by kernel_rfl) (fun _ _ _ h => h) (Or.inl ⟨by kernel_rfl, ?y19⟩) hHeld ?r19
        case y19 => (intro w hSw; (try dsimp only at hSw); go_simp; (try with_reducible rfl))
        (try simp only [Act.put, List.setIfInBounds_toArray, List.set_cons_zero, List.set_cons_succ])
        refine wpAnyH_take (i := 20) (v := ?v20) rfl (by kernel_rfl) (by kernel_rfl) (by kernel_rfl) (fun _ _ _ h => h) (Or.inl ⟨by kernel_rfl, ?y20⟩) hHeld ?r20
        case y20 => (intro w hSw; (try dsimp only at hSw); go_simp; (try with_reducible rfl))
        (try simp only [Act.put, List.setIfInBounds_toArray, List.set_cons_zero, List.set_cons_succ])
        refine wpAnyH_take (i := 21) (v := ?v21) rfl (by kernel_rfl) (by kernel_rfl) (by kernel_rfl) (fun _ _ _ h => h) (Or.inl ⟨by kernel_rfl, ?y21⟩) hHeld ?r21
        case y21 => (intro w hSw; (try dsimp only at hSw); go_simp; (try with_reducible rfl))
        (try simp only [Act.put, List.setIfInBounds_toArray, List.set_cons_zero, List.set_cons_succ])
        refine wpAnyH_take (i := 22) (v := ?v22) rfl (by kernel_rfl) (by kernel_rfl) (by kernel_rfl) (fun _ _ _ h => h) (Or.inl ⟨by kernel_rfl, ?y22⟩) hHeld ?r22
        case y22 => (intro w hSw; (try dsimp only at hSw); go_simp; (try with_reducible rfl))
        (try simp only [Act.put, List.setIfInBounds_toArray, List.set_cons_zero, List.set_cons_succ])
        refine wpAnyH_take (i := 23) (v := ?v23) rfl (by kernel_rfl) (by kernel_rfl) (by kernel_rfl) (fun _ _ _ h => h) (Or.inl ⟨by kernel_rfl, ?y23⟩) hHeld ?r23
        case y23 => (intro w hSw; (try dsimp only at hSw); go_simp; (try with_reducible rfl))
        (try simp only [Act.put, List.setIfInBounds_toArray, List.set_cons_zero, List.set_cons_succ])
        refine wpAnyH_take (i := 24) (v := ?v24) rfl (by kernel_rfl) (by kernel_rfl) (by kernel_rfl) (fun _ _ _ h => h) (Or.inl ⟨by kernel_rfl, ?y24⟩) hHeld ?r24
        case y24 => (intro w hSw; (try dsimp only at hSw); go_simp; (try with_reducible rfl))
        (try simp only [Act.put, List.setIfInBounds_toArray, List.set_cons_zero, List.set_cons_succ])
        refine wpAnyH_take (i := 25) (v := ?v25) rfl (by kernel_rfl) (by kernel_rfl) (by kernel_rfl) (fun _ _ _ h => h) (Or.inl ⟨by kernel_rfl, ?y25⟩) hHeld ?r25
        case y25 => (intro w hSw; (try dsimp only at hSw); go_simp; (try with_reducible rfl))
        (try simp only [Act.put, List.setIfInBounds_toArray, List.set_cons_zero, List.set_cons_succ])
        refine wpAnyH_take (i := 26) (v := ?v26) rfl (by kernel_rfl) (by kernel_rfl) (by kernel_rfl) (fun _ _ _ h => h) (Or.inl ⟨by kernel_rfl, ?y26⟩) hHeld ?r26
        case y26 => (intro w hSw; (try dsimp only at hSw); go_simp; (try with_reducible rfl))
        (try simp only [Act.put, List.setIfInBounds_toArray, List.set_cons_zero, List.set_cons_succ])
        refine wpAnyH_take (i := 27) (v := ?v27) rfl (by kernel_rfl) (by kernel_rfl) (by kernel_rfl) (fun _ _ _ h => h) (Or.inl ⟨by kernel_rfl, ?y27⟩) hHeld ?r27
        case y27 => (intro w hSw; (try dsimp only at hSw); go_simp; (try with_reducible rfl))
        (try simp only [Act.put, List.setIfInBounds_toArray, List.set_cons_zero, List.set_cons_succ])
        refine wpAnyH_take (i := 28) (v := ?v28) rfl (by kernel_rfl) (by kernel_rfl) (by kernel_rfl) (fun _ _ _ h => h) (Or.inl ⟨by kernel_rfl, ?y28⟩) hHeld ?r28
        case y28 => (intro w hSw; (try dsimp only at hSw); go_simp; (try with_reducible rfl))
        (try simp only [Act.put, List.setIfInBounds_toArray, List.set_cons_zero, List.set_cons_succ])
        refine wpAnyH_take (i := 29) (v := ?v29) rfl (by kernel_rfl) (by kernel_rfl) (by kernel_rfl) (fun _ _ _ h => h) (Or.inl ⟨by kernel_rfl, ?y29⟩) hHeld ?r29
        case y29 => (intro w hSw; (try dsimp only at hSw); go_simp; (try with_reducible rfl))
        (try simp only [Act.put, List.setIfInBounds_toArray, List.set_cons_zero, List.set_cons_succ])
        refine wpAnyH_ready (rs := [30]) (by kernel_rfl) (by simp) ?_
        refine AllReadyH.cons rfl (fun K hK => ?_) AllReadyH.nil
        go_simp
        go_at_call 31
        (with_reducible refine (markIns_any _ _ _).mono ?_)
        rintro e w4 ⟨rfl, hn4⟩
        have hN4 := New.then hN0 hn4
        obtain ⟨s0, s1, s2, s3, s4, s5, s6, s7⟩ := HK.out.new HG.out hN4
        go_wp2_with fail
        refine hK.out _ _ ?_ (fun hHeld => ?_)
        · exact ⟨s0, s1, s2, s3, s4, s5, s6, s7⟩
        clear hK K
        (try simp only [Act.put, List.setIfInBounds_toArray, List.set_cons_zero, List.set_cons_succ])
        refine wpAnyH_take (i := 31) (v := ?v31) rfl (by kernel_rfl) (by kernel_rfl) (by kernel_rfl) (fun _ _ _ h => h) (Or.inl ⟨by kernel_rfl, ?y31⟩) hHeld ?r31
        case y31 => (intro w hSw; (try dsimp only at hSw); go_simp; (try with_reducible rfl))
        (try simp only [Act.put, List.setIfInBounds_toArray, List.set_cons_zero, List.set_cons_succ])
        refine wpAnyH_take (i := 32) (v := ?v32) rfl (by kernel_rfl) (by kernel_rfl) (by kernel_rfl) (fun _ _ _ h => h) (Or.inl ⟨by kernel_rfl, ?y32⟩) hHeld ?r32
        case y32 => (intro w hSw; (try dsimp only at hSw); go_simp; (try with_reducible rfl))
        (try simp only [Act.put, List.setIfInBounds_toArray, List.set_cons_zero, List.set_cons_succ])
        refine wpAnyH_take (i := 33) (v := ?v33) rfl (by kernel_rfl) (by kernel_rfl) (by kernel_rfl) (fun _ _ _ h => h) (Or.inl ⟨by kernel_rfl, ?y33⟩) hHeld ?r33
        case y33 => (intro w hSw; (try dsimp only at hSw); go_simp; (try with_reducible rfl))
        (try simp only [Act.put, List.setIfInBounds_toArray, List.set_cons_zero, List.set_cons_succ])
        refine wpAnyH_take (i := 34) (v := ?v34) rfl (by kernel_rfl) (by kernel_rfl) (by kernel_rfl) (fun _ _ _ h => h) (Or.inl ⟨by kernel_rfl, ?y34⟩) hHeld ?r34
        case y34 => (intro w hSw; (try dsimp only at hSw); go_simp; (try with_reducible rfl))
        (try simp only [Act.put, List.setIfInBounds_toArray, List.set_cons_zero, List.set_cons_succ])
        refine wpAnyH_done (by kernel_rfl) ?_ _
        go_wp2
        go_roundw
        case rel => exact ⟨k + 1, by omega, by go_num, New.then HNW.out hN4⟩
        case measure => simp [intOf]; omega
      · obtain rfl : k = n + 12 := by omega
        have hnw := HNW.out
        go_wp2
        go_ret
        exact ⟨rfl, hnw⟩
end Go.Proofs.YtcebfihjcglnoaaGreatDoor.ins
