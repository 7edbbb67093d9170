/-
  Lists of instructions, and of numbers, in memory; same, of both.
-/
import Derived.Test.YtddojdgnakajmaaGreatDoorInA
import Derived.Deep.RegionHeld3
namespace Go.Proofs.YtddojdgnakajmaaGreatDoor.ins
open Go.RowKit Go.Proofs.YtddojdgnakajmaaGreatDoor.mem Go.Proofs.YtddojdgnakajmaaGreatDoor.kit
set_option linter.unusedVariables false

def vi : List In → List Value
  | [] => []
  | i :: l => .int .u8 i.op :: .bool i.nar :: .int .i64 i.dst :: .int .i64 i.src :: .bool i.use :: .int .i64 i.off :: .int .i64 i.imm :: .int .i64 i.siz :: vi l
theorem vi_length : ∀ (l : List In), (vi l).length = l.length * 8
  | [] => rfl
  | i :: l => by simp only [vi, List.length_cons, vi_length l]; omega
theorem vi_append : ∀ (a b : List In), vi (a ++ b) = vi a ++ vi b
  | [], b => rfl
  | i :: a, b => by simp only [List.cons_append, vi, vi_append a b]
theorem vi_one : ∀ (l : List In), ∀ u ∈ vi l, u.oneCell' = true
  | [], u, h => by simp [vi] at h
  | i :: l, u, h => by
    simp only [vi, List.mem_cons] at h
    rcases h with rfl | rfl | rfl | rfl | rfl | rfl | rfl | rfl | h
    all_goals first | rfl | exact vi_one l u h
/-- The eight cells of one of them. -/
theorem vi_at : ∀ (l : List In) (k : Nat) (h : k < l.length), (vi l)[k * 8]? = some (.int .u8 l[k].op) ∧ (vi l)[k * 8 + 1]? = some (.bool l[k].nar) ∧ (vi l)[k * 8 + 2]? = some (.int .i64 l[k].dst) ∧ (vi l)[k * 8 + 3]? = some (.int .i64 l[k].src) ∧
    (vi l)[k * 8 + 4]? = some (.bool l[k].use) ∧ (vi l)[k * 8 + 5]? = some (.int .i64 l[k].off) ∧ (vi l)[k * 8 + 6]? = some (.int .i64 l[k].imm) ∧ (vi l)[k * 8 + 7]? = some (.int .i64 l[k].siz)
  | [], k, h => by simp at h
  | i :: l, 0, h => ⟨rfl, rfl, rfl, rfl, rfl, rfl, rfl, rfl⟩
  | i :: l, k + 1, h => by
    have h' : k < l.length := by simpa using h
    have e : ∀ j, (vi (i :: l))[(k + 1) * 8 + j]? = (vi l)[k * 8 + j]? := fun j => by
      rw [show (k + 1) * 8 + j = (k * 8 + j) + 1 + 1 + 1 + 1 + 1 + 1 + 1 + 1 by omega]
      simp only [vi, List.getElem?_cons_succ]
    have e0 := e 0
    simp only [Nat.add_zero] at e0
    rw [e0, e, e, e, e, e, e, e]
    simpa using vi_at l k h'

/-- An instruction's eight cells in memory. -/
def At (w : World) (b k : Nat) (i : In) : Prop :=
  w.cell? ⟨b, k, none⟩ = some (.int .u8 i.op) ∧ w.cell? ⟨b, k + 1, none⟩ = some (.bool i.nar) ∧ w.cell? ⟨b, k + 2, none⟩ = some (.int .i64 i.dst) ∧ w.cell? ⟨b, k + 3, none⟩ = some (.int .i64 i.src) ∧ w.cell? ⟨b, k + 4, none⟩ = some (.bool i.use) ∧ w.cell? ⟨b, k + 5, none⟩ = some (.int .i64 i.off) ∧ w.cell? ⟨b, k + 6, none⟩ = some (.int .i64 i.imm) ∧ w.cell? ⟨b, k + 7, none⟩ = some (.int .i64 i.siz)
theorem At.new {w w' : World} {b k : Nat} {i : In} (h : At w b k i) (hb : b < w.heap.size) (hn : New w w') : At w' b k i := by
  obtain ⟨h0, h1, h2, h3, h4, h5, h6, h7⟩ := h
  have c : ∀ j, w'.cell? ⟨b, j, none⟩ = w.cell? ⟨b, j, none⟩ := fun j => hn.cell (p := ⟨b, j, none⟩) hb
  exact ⟨(c _).trans h0, (c _).trans h1, (c _).trans h2, (c _).trans h3, (c _).trans h4, (c _).trans h5, (c _).trans h6, (c _).trans h7⟩
theorem spot_of {w : World} {a : Addr} {v : Value} (h : w.cell? a = some v) : a.spot = none := by
  unfold World.cell? at h
  split at h
  · split at h
    · cases h
    · rename_i hs
      cases hsp : a.spot with
      | none => rfl
      | some p => rw [hsp] at hs; simp at hs
  · cases h

/-- Instructions that read as a list. -/
abbrev RI (w : World) (A : Option Addr) (l : List In) : Prop := Reads w w.heap.size 8 A l.length (vi l)
theorem RI.at_ {w : World} {A : Option Addr} {l : List In} (h : RI w A l) {k : Nat} (hk : k < l.length) : ∃ g o, A = some ⟨g, o, none⟩ ∧ g < w.heap.size ∧ At w g (o + k * 8) l[k] := by
  obtain ⟨ad, rfl, hb, hc⟩ := h.2 (by omega)
  obtain ⟨h0, h1, h2, h3, h4, h5, h6, h7⟩ := vi_at l k hk
  have c0 := hc _ _ h0
  have hs := spot_of (hc _ _ (vi_at l 0 (by omega)).1)
  rw [Nat.zero_mul] at hs
  obtain ⟨g, o, sp⟩ := ad
  have hsp : sp = none := by simpa [Addr.add] using hs
  subst hsp
  refine ⟨g, o, rfl, hb, ?_⟩
  have e : ∀ j, (Addr.mk g o none).add j = ⟨g, o + j, none⟩ := fun j => Addr.add_lit _ _ _
  have c1 := hc _ _ h1
  have c2 := hc _ _ h2
  have c3 := hc _ _ h3
  have c4 := hc _ _ h4
  have c5 := hc _ _ h5
  have c6 := hc _ _ h6
  have c7 := hc _ _ h7
  rw [e] at c0 c1 c2 c3 c4 c5 c6 c7
  exact ⟨c0, c1, c2, c3, c4, c5, c6, c7⟩

/-- Numbers as cells. -/
def vn (l : List Int) : List Value := l.map fun z => .int .i64 z
theorem vn_length (l : List Int) : (vn l).length = l.length := by simp [vn]
theorem vn_get (l : List Int) (k : Nat) (h : k < l.length) : (vn l)[k]? = some (.int .i64 l[k]) := by simp [vn, h]
theorem vn_append (a b : List Int) : vn (a ++ b) = vn a ++ vn b := by simp [vn]
theorem vn_one (l : List Int) : ∀ u ∈ vn l, u.oneCell' = true := by
  intro u hu
  simp only [vn, List.mem_map] at hu
  obtain ⟨b, _, rfl⟩ := hu
  rfl

theorem sameInts_any (A B : Option Addr) (c d : Nat) (l : List Int) (w : World) (hl : l.length ≤ 1099511627776) (hA : Reads w w.heap.size 1 A l.length (vn l)) (hB : Reads w w.heap.size 1 B l.length (vn l)) :
    Calls Tryz.prog 183 #[.slice A l.length c, .slice B l.length d] w fun e w' => e = .returned (.bool true) ∧ New w w' := by
  go_enter Tryz.func183, Tryz.ntmps183
  go_wp2
  go_loopw [5] (fun i wr => ∃ k : Nat, k ≤ l.length ∧ i = .int .i64 k ∧ New w wr) (fun i _ => l.length - (intOf i).toNat)
  case atStart => exact ⟨0, Nat.zero_le _, rfl, new_refl _⟩
  case round =>
    obtain ⟨k, hk, rfl, hn⟩ := hrel
    by_cases hlt : k < l.length
    · obtain ⟨a, u, rfl, ha, hx, hc⟩ := hA.at_ hlt
      obtain ⟨b, u', rfl, hb, hx', hc'⟩ := hB.at_ hlt
      have hu : u' = u := by rw [hx] at hx'; injection hx' with h; exact h.symm
      subst hu
      rw [vn_get l k hlt] at hx
      injection hx with hx
      subst hx
      have h1 := (hn.cell (p := a.add k) (by rw [block_of_add]; exact ha)).trans hc
      have h2 := (hn.cell (p := b.add k) (by rw [block_of_add]; exact hb)).trans hc'
      clear hx' hc hc'
      go_wp2
      go_quiet (fail)
      go_wp2
      go_roundw
      case rel => exact ⟨k + 1, by omega, by go_num, hn.drewN _⟩
      case measure => simp [intOf]; omega
    · go_wp2
      go_ret
      exact ⟨rfl, hn⟩

theorem eq_same (o : Int) (n : Bool) (d s : Int) (u : Bool) (f m z : Int) (w : World) :
    (Op.equalIn 10000 41 (.agg #[.int .u8 o, .bool n, .int .i64 d, .int .i64 s, .bool u, .int .i64 f, .int .i64 m, .int .i64 z]) (.agg #[.int .u8 o, .bool n, .int .i64 d, .int .i64 s, .bool u, .int .i64 f, .int .i64 m, .int .i64 z])).run Tryz.prog w = .ok true w := by
  rw [eq_ins]
  simp [sameB]

set_option maxRecDepth 100000 in
theorem sameIns_any (A B : Option Addr) (n c d : Nat) (l : List In) (w : World) (hn : n = l.length) (hl : n ≤ 1099511627776) (hA : RI w A l) (hB : RI w B l) :
    Calls Tryz.prog 19 #[.slice A n c, .slice B n d] w fun e w' => e = .returned (.bool true) ∧ New w w' := by
  have HN := Lib.hid hn
  have HA := Lib.hid hA
  have HB := Lib.hid hB
  clear hn hA hB
  go_enter Tryz.func19, Tryz.ntmps19
  go_wp2
  go_loopw [5] (fun i wr => ∃ k : Nat, k ≤ n ∧ i = .int .i64 k ∧ New w wr) (fun i _ => n - (intOf i).toNat)
  case atStart => exact ⟨0, Nat.zero_le _, rfl, new_refl _⟩
  case round =>
    obtain ⟨k, hk, rfl, hnw⟩ := hrel
    have HNW := Lib.hid hnw
    clear hnw
    by_cases hlt : k < n
    · have hlf : k < l.length := by have := HN.out; omega
      obtain ⟨g, o, rfl, hg, ha⟩ := HA.out.at_ hlf
      obtain ⟨g', o', rfl, hg', hb⟩ := HB.out.at_ hlf
      obtain ⟨x, hx⟩ : ∃ x, l[k] = x := ⟨_, rfl⟩
      rw [hx] at ha hb
      clear hx
      obtain ⟨ox, nx, dx, sx, ux, fx, mx, zx⟩ := x
      obtain ⟨a0, a1, a2, a3, a4, a5, a6, a7⟩ := ha.new hg HNW.out
      obtain ⟨b0, b1, b2, b3, b4, b5, b6, b7⟩ := hb.new hg' HNW.out
      have hq := eq_same ox nx dx sx ux fx mx zx
      clear ha hb hg hg'
      simp only at a0 a1 a2 a3 a4 a5 a6 a7 b0 b1 b2 b3 b4 b5 b6 b7
      go_wp2
      go_quiet (fail)
      go_wp2
      go_roundw
      case rel => exact ⟨k + 1, by omega, by go_num, HNW.out.drewN _⟩
      case measure => simp [intOf]; omega
    · obtain rfl : k = n := by omega
      have hnw := HNW.out
      go_wp2
      go_ret
      exact ⟨rfl, hnw⟩
end Go.Proofs.YtddojdgnakajmaaGreatDoor.ins

namespace Go.Proofs.YtddojdgnakajmaaGreatDoor.ins
open Go.RowKit Go.Proofs.YtddojdgnakajmaaGreatDoor.mem Go.Proofs.YtddojdgnakajmaaGreatDoor.kit
set_option linter.unusedVariables false

abbrev zins : Value := .agg #[.int .u8 0, .bool false, .int .i64 0, .int .i64 0, .bool false, .int .i64 0, .int .i64 0, .int .i64 0]
theorem ins_info : (Tryz.prog.info? 41).map (fun i => (i.zero, i.size, i.bytes)) = some (some zins, 8, 56) := by kernel_rfl

def mkN (k i : Int) : Int := wrap64 (wrap64 (1000003 * wrap64 (k + 7)) + i)
def mkI (k i : Int) : In := ⟨0, false, 0, 0, false, mkN k i, 0, 0⟩
theorem mark_any (k i : Int) (w : World) : Calls Tryz.prog 122 #[.int .i64 k, .int .i64 i] w fun e w' => e = .returned (.int .i64 (mkN k i)) ∧ w = w' := by
  go_enter Tryz.func122, Tryz.ntmps122
  go_wp2
  go_ret
  exact ⟨rfl, rfl⟩
theorem markIns_any (k i : Int) (w : World) : Calls Tryz.prog 125 #[.int .i64 k, .int .i64 i] w fun e w' => e = .returned (.agg #[.int .u8 0, .bool false, .int .i64 0, .int .i64 0, .bool false, .int .i64 (mkN k i), .int .i64 0, .int .i64 0]) ∧ New w w' := by
  obtain ⟨z, hz⟩ : ∃ z, mkN k i = z := ⟨_, rfl⟩
  have H := Lib.hid hz
  rw [hz]
  clear hz
  go_enter Tryz.func125, Tryz.ntmps125
  go_wp2_with (go_at_call 122; refine (mark_any _ _ _).mono ?_; rintro e w1 ⟨rfl, rfl⟩; rw [H.out])
  refine bodyPost_ret (v := .agg #[.int .u8 0, .bool false, .int .i64 0, .int .i64 0, .bool false, .int .i64 z, .int .i64 0, .int .i64 0]) (by simp [results, Tryz.results125, go_sem]) rfl ⟨rfl, ?_⟩
  exact new1 w _

def marksI (k : Int) (n : Nat) : List In := (List.range n).map fun (i : Nat) => mkI k (i : Int)
theorem marksI_length (k : Int) (n : Nat) : (marksI k n).length = n := by simp [marksI]
theorem marksI_succ (k : Int) (n : Nat) : marksI k (n + 1) = marksI k n ++ [mkI k (n : Int)] := by simp [marksI, List.range_succ]
theorem marksI_get (k : Int) (n i : Nat) (h : i < (marksI k n).length) : (marksI k n)[i] = mkI k (i : Int) := by simp [marksI]

/-- A row whose room is used up is its block. -/
theorem own_full8 {w : World} {base e n g : Nat} {xs : List Value} (h : w.ownsRow base e 8 (.slice (some ⟨g, 0, none⟩) n n) n xs) : base ≤ g ∧ Blk w g e xs.toArray := by
  rcases h.2 with ⟨h', _⟩ | ⟨g', cap', cur, h', hb, hg, hnc, hcm, hcs, htake⟩
  · simp at h'
  · simp only [Value.slice.injEq, Option.some.injEq, Addr.mk.injEq, and_true, true_and] at h'
    obtain ⟨rfl, rfl⟩ := h'
    refine ⟨hb, ?_⟩
    have : cur.toList = xs := by rw [← htake, List.take_of_length_le (by simp [hcs])]
    rw [← this]
    exact hg

/-- One new instruction, as a row that may be read. -/
theorem reads_ins (w : World) (t : TypeId) (o : Int) (n : Bool) (d s : Int) (u : Bool) (f m z : Int) : Reads (w.alloc (.cells #[.int .u8 o, .bool n, .int .i64 d, .int .i64 s, .bool u, .int .i64 f, .int .i64 m, .int .i64 z] t)) (w.alloc (.cells #[.int .u8 o, .bool n, .int .i64 d, .int .i64 s, .bool u, .int .i64 f, .int .i64 m, .int .i64 z] t)).heap.size 8 (some ⟨w.heap.size, 0, none⟩) 1 (vi [⟨o, n, d, s, u, f, m, z⟩]) :=
  ⟨rfl, fun _ => ⟨_, rfl, by simp, fun j v hv => by
    rw [Addr.add_lit, Nat.zero_add, (Blk.new w t #[.int .u8 o, .bool n, .int .i64 d, .int .i64 s, .bool u, .int .i64 f, .int .i64 m, .int .i64 z]).cell j]
    rw [← hv]
    simp only [List.getElem?_toArray, vi]⟩⟩

theorem make_ins (n c : Nat) (hnc : n ≤ c) (hc : c ≤ 2199023255552) (W : World) :
    (Instr.makeSlice 23 (.int .i64 (n : Int)) (.int .i64 (c : Int))).run Tryz.prog W = .ok (.slice (some ⟨W.heap.size, 0, none⟩) n c) (W.alloc (.cells (zrow zins (c * 8)) 41)) := by
  obtain ⟨i0, hi, hz0, hz1, hz2⟩ := info_parts ins_info
  have hr := run_make (P := Tryz.prog) W 23 41 i0 _ Tryz.underlying23 hi hz0 .i64 .i64 n c (by omega) (by omega) (by rw [hz2]; omega) (by omega)
  simp only [Int.toNat_natCast, hz1] at hr
  exact hr

end Go.Proofs.YtddojdgnakajmaaGreatDoor.ins

namespace Go.Proofs.YtddojdgnakajmaaGreatDoor.ins
open Go.RowKit Go.Proofs.YtddojdgnakajmaaGreatDoor.mem Go.Proofs.YtddojdgnakajmaaGreatDoor.kit
set_option linter.unusedVariables false
set_option linter.unusedSimpArgs false

theorem blk_at {w : World} {g : Nat} {l : List In} (h : Blk w g 41 (vi l).toArray) {k : Nat} (hk : k < l.length) : At w g (k * 8) l[k] := by
  obtain ⟨h0, h1, h2, h3, h4, h5, h6, h7⟩ := vi_at l k hk
  have e : ∀ j, w.cell? ⟨g, j, none⟩ = (vi l)[j]? := fun j => by rw [h.cell j]; simp
  exact ⟨(e _).trans h0, (e _).trans h1, (e _).trans h2, (e _).trans h3, (e _).trans h4, (e _).trans h5, (e _).trans h6, (e _).trans h7⟩
theorem lent_at {w : World} {g : Nat} {l : List In} (h : Blk w g 41 (vi (l ++ marksI 1 12)).toArray) {k : Nat} (hk : k < l.length) : At w g (k * 8) l[k] := by
  have := blk_at h (k := k) (by simp; omega)
  rwa [List.getElem_append_left hk] at this
theorem lent_mark {w : World} {g : Nat} {l : List In} (h : Blk w g 41 (vi (l ++ marksI 1 12)).toArray) {k : Nat} (hk : l.length ≤ k) (h2 : k < l.length + 12) : At w g (k * 8) (mkI 1 ((k - l.length : Nat) : Int)) := by
  have := blk_at h (k := k) (by simp [marksI_length]; omega)
  rwa [List.getElem_append_right hk, marksI_get] at this
theorem lent_ri {w : World} {g : Nat} {l : List In} (h : Blk w g 41 (vi (l ++ marksI 1 12)).toArray) : RI w (some ⟨g, 0, none⟩) l :=
  ⟨by rw [vi_length], fun _ => ⟨_, rfl, h.lt, fun j u hu => by
    have hj : j < (vi l).length := (List.getElem?_eq_some_iff.1 hu).1
    rw [Addr.add_lit, Nat.zero_add, h.cell j, ← hu, vi_append]
    simp [List.getElem?_append_left hj]⟩⟩

end Go.Proofs.YtddojdgnakajmaaGreatDoor.ins
