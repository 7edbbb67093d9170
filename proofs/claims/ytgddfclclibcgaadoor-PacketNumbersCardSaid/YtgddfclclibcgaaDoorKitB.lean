/-
  Contracts of the kit's functions on lists of bytes: marks, lent lists, kept lists, lists that are written over.
-/
import Derived.Test.YtgddfclclibcgaaDoorKitA
namespace Go.Proofs.YtgddfclclibcgaaDoor.kit
open Go.RowKit Go.Proofs.YtgddfclclibcgaaDoor.mem
set_option linter.unusedVariables false

def mkB (k i : Int) : UInt8 := UInt8.ofNat (IntKind.u64.wrap (IntKind.u64.wrap (wrap64 (wrap64 (1000003 * wrap64 (k + 7)) + i)) * 11400714819323198485) / 72057594037927936 % 256).toNat
theorem mkB_eq (k i : Int) : IntKind.u64.wrap (IntKind.u64.wrap (wrap64 (wrap64 (1000003 * wrap64 (k + 7)) + i)) * 11400714819323198485) / 72057594037927936 % 256 = ((mkB k i).toNat : Int) := by
  unfold mkB
  generalize IntKind.u64.wrap (IntKind.u64.wrap (wrap64 (wrap64 (1000003 * wrap64 (k + 7)) + i)) * 11400714819323198485) / 72057594037927936 = x
  rw [UInt8.toNat_ofNat']
  omega
theorem ret_int {k : IntKind} {a b : Int} (h : a = b) : Ending.returned (.int k a) = .returned (.int k b) := by rw [h]

theorem markByte_any (k i : Int) (w : World) : Calls Tryd.prog 17 #[.int .i64 k, .int .i64 i] w fun e w' => e = .returned (.int .u8 ((mkB k i).toNat : Int)) ∧ w = w' := by
  have H := Lib.hid (mkB_eq k i)
  go_enter Tryd.func17, Tryd.ntmps17
  go_wp2
  go_ret
  exact ⟨ret_int H.out, rfl⟩

def marks (k : Int) (n : Nat) : List UInt8 := (List.range n).map fun (i : Nat) => mkB k (i : Int)
theorem marks_length (k : Int) (n : Nat) : (marks k n).length = n := by simp [marks]
theorem marks_succ (k : Int) (n : Nat) : marks k (n + 1) = marks k n ++ [mkB k (n : Int)] := by simp [marks, List.range_succ]
theorem marks_get (k : Int) (n i : Nat) (h : i < (marks k n).length) : (marks k n)[i] = mkB k (i : Int) := by simp [marks]

/-- A list that was handed in: in a block of its own, with twelve marks behind its end. -/
def Lent (w : World) (base : Nat) (v : Value) (l : List UInt8) : Prop :=
  ∃ g, v = .slice (some ⟨g, 0, none⟩) l.length (l.length + 12) ∧ base ≤ g ∧ Blk w g 5 (vb (l ++ marks 1 12)).toArray

theorem byte_info : (Tryd.prog.info? 5).map (fun i => (i.zero, i.size, i.bytes)) = some (some (.int .u8 0), 1, 1) := by kernel_rfl

section
variable {P : Program} (w : World)
theorem run_append_fit (base : Nat) (t ty e : TypeId) (i : TypeInfo) (size : Nat) (ht : P.underlying t = some (.slice e)) (hi : P.info? e = some i) (hsize : i.size = size)
    (g n cap : Nat) (xs : List Value) (hown : w.ownsRow base e size (.slice (some ⟨g, 0, none⟩) n cap) n xs)
    (B : Nat) (A : Option Addr) (m c : Nat) (news : List Value) (hr : Reads w B size A m news) (h1 : ∀ u ∈ news, u.oneCell' = true) (hroom : n + m ≤ cap) (hs0 : 0 < size) :
    ∃ w', (Builtin.append_ #[t, t] ty #[.slice (some ⟨g, 0, none⟩) n cap, .slice A m c]).run P w = .ok (.slice (some ⟨g, 0, none⟩) (n + m) cap) w' ∧
      w'.ownsRow base e size (.slice (some ⟨g, 0, none⟩) (n + m) cap) (n + m) (xs ++ news) ∧ w.grownBy w' (some g) := by
  rcases A with _ | ad
  · have hm : m = 0 := by
      rcases Nat.eq_zero_or_pos m with h0 | h0
      · exact h0
      · obtain ⟨ad, h, _⟩ := hr.2 h0
        cases h
    subst hm
    have hn : news = [] := List.eq_nil_of_length_eq_zero (by simpa using hr.1)
    subst hn
    exact ⟨w, run_append_of_nil w base t ty e i size ht hi _ n xs hown c, by simpa using hown, World.grownBy.refl w _⟩
  · have hcells : ∀ j u, news[j]? = some u → w.cell? (ad.add j) = some u := by
      intro j u hu
      rcases Nat.eq_zero_or_pos m with h0 | h0
      · subst h0
        have hn : news = [] := List.eq_nil_of_length_eq_zero (by simpa using hr.1)
        subst hn
        simp at hu
      · obtain ⟨ad', h, _, hc⟩ := hr.2 h0
        injection h with h
        subst h
        exact hc j u hu
    exact run_append_fits w base t ty e i size ht hi hsize g n cap xs hown ad m c news hr.1 hcells h1 hroom

theorem wpList_append_fit {ops : Array Oper} {rest : List Oper} {o : Oper} {a : Act} {Q : Exit → Act → World → Prop} (hgd : o.guard = none) (s x : Operand) (t : TypeId)
    (ho : o.op = .call { callee := .builtin .append, args := #[s, x], argTypes := #[t, t] })
    (base : Nat) (e : TypeId) (i : TypeInfo) (size : Nat) (ht : P.underlying t = some (.slice e)) (hi : P.info? e = some i) (hsize : i.size = size)
    (g n cap : Nat) (xs : List Value) (hs : a.eval s = .slice (some ⟨g, 0, none⟩) n cap) (hown : w.ownsRow base e size (.slice (some ⟨g, 0, none⟩) n cap) n xs)
    (B : Nat) (A : Option Addr) (m c : Nat) (news : List Value) (hx : a.eval x = .slice A m c) (hr : Reads w B size A m news) (h1 : ∀ u ∈ news, u.oneCell' = true) (hroom : n + m ≤ cap) (hs0 : 0 < size)
    (h : ∀ w', w'.ownsRow base e size (.slice (some ⟨g, 0, none⟩) (n + m) cap) (n + m) (xs ++ news) → w.grownBy w' (some g) → wpList P ops Q rest (a.put o.dst (.slice (some ⟨g, 0, none⟩) (n + m) cap)) w') : wpList P ops Q (o :: rest) a w := by
  refine wpList_plain hgd fun _ hK => ?_
  obtain ⟨w', hrun, h2, h3⟩ := run_append_fit (P := P) w base t o.type e i size ht hi hsize g n cap xs hown B A m c news hr h1 hroom hs0
  unfold Oper.wp execOp
  simp only [ho, resolve, invoke, builtin, Sem.run_bind, Sem.run_pure, Result.andThen_ok, List.map_toArray, List.map_cons, List.map_nil, hs, hx, hrun]
  exact hK _ _ (h w' h2 h3)
end

/-- A row whose room is used up is its block. -/
theorem own_full {w : World} {base e n g : Nat} {xs : List Value} (h : w.ownsRow base e 1 (.slice (some ⟨g, 0, none⟩) n n) n xs) : base ≤ g ∧ Blk w g e xs.toArray := by
  rcases h.2 with ⟨h', _⟩ | ⟨g', cap', cur, h', hb, hg, hnc, hcm, hcs, htake⟩
  · simp at h'
  · simp only [Value.slice.injEq, Option.some.injEq, Addr.mk.injEq, and_true, true_and] at h'
    obtain ⟨rfl, rfl⟩ := h'
    refine ⟨hb, ?_⟩
    have : cur.toList = xs := by rw [← htake, List.take_of_length_le (by simp [hcs])]
    rw [← this]
    exact hg

/-- One new cell, as a row that may be read. -/
theorem reads_new (w : World) (t : TypeId) (u : Value) : Reads (w.alloc (.cells #[u] t)) (w.alloc (.cells #[u] t)).heap.size 1 (some ⟨w.heap.size, 0, none⟩) 1 [u] :=
  ⟨rfl, fun _ => ⟨_, rfl, by simp, fun j v hv => by
    rcases j with _ | j
    · simp at hv
      subst hv
      simp [Addr.add, go_sem]
    · simp at hv⟩⟩

/-- A new row of zeros, under a name. -/
def zrow (z : Value) (n : Nat) : Array Value := madeCells z.cells n
theorem zrow_size (z : Value) (n : Nat) : (zrow z n).size = n := by simp [zrow, madeCells]

theorem make_bytes (n c : Nat) (hnc : n ≤ c) (hc : c ≤ 140737488355328) (W : World) :
    (Instr.makeSlice 22 (.int .i64 (n : Int)) (.int .i64 (c : Int))).run Tryd.prog W = .ok (.slice (some ⟨W.heap.size, 0, none⟩) n c) (W.alloc (.cells (zrow (.int .u8 0) c) 5)) := by
  obtain ⟨i0, hi, hz0, hz1, hz2⟩ := info_parts byte_info
  have hr := run_make (P := Tryd.prog) W 22 5 i0 _ Tryd.underlying22 hi hz0 .i64 .i64 n c (by omega) (by omega) (by rw [hz2]; omega) (by omega)
  simp only [Int.toNat_natCast, hz1, Nat.mul_one] at hr
  exact hr

set_option maxRecDepth 100000 in
theorem lent_any (A : Option Addr) (c : Nat) (l : List UInt8) (w : World) (hl : l.length ≤ 1099511627776) (hA : Reads w w.heap.size 1 A l.length (vb l)) :
    Calls Tryd.prog 8 #[.slice A l.length c] w fun e w' => (e = .returned (.slice (some ⟨w.heap.size, 0, none⟩) l.length (l.length + 12)) ∧ Blk w' w.heap.size 5 (vb (l ++ marks 1 12)).toArray) ∧ New w w' := by
  obtain ⟨i0, hi, hz0, hz1, hz2⟩ := info_parts byte_info
  have hmk : ∀ W : World, (Instr.makeSlice 22 (.int .i64 0) (.int .i64 ((l.length : Int) + 12))).run Tryd.prog W = .ok (.slice (some ⟨W.heap.size, 0, none⟩) 0 (l.length + 12)) (W.alloc (.cells (zrow (.int .u8 0) (l.length + 12)) 5)) := fun W => make_bytes 0 (l.length + 12) (by omega) (by omega) W
  have h0 := World.ownsRow_made (e := 5) (base := w.heap.size) (size := 1) w (zrow (.int .u8 0) (l.length + 12)) (l.length + 12) (Nat.le_refl _) (by unfold maxLen; omega) (by rw [zrow_size, Nat.mul_one])
  have hA' := hA.new ((new_refl w).alloc (Nat.le_refl _) (.cells (zrow (.int .u8 0) (l.length + 12)) 5))
  have hb0 : New w (w.alloc (.cells (zrow (.int .u8 0) (l.length + 12)) 5)) := (new_refl w).alloc (Nat.le_refl _) _
  have H0 := Lib.hid h0
  have HA := Lib.hid hA'
  clear h0 hA' hA
  go_enter Tryd.func8, Tryd.ntmps8
  go_wp2_with
    (at_builtin; refine wpList_append_fit _ rfl (.tmp 9) (.tmp 10) 22 rfl w.heap.size 5 i0 1 Tryd.underlying22 hi hz1 w.heap.size 0 (l.length + 12) [] rfl H0.out _ A l.length c (vb l) rfl HA.out (vb_one l) (by omega) (by omega) ?_; intro w1 hown1 hg1)
  have hb1 : New w w1 := hb0.grown hg1 hb0.size (fun k hk => by injection hk with hk; omega)
  rw [Nat.zero_add, List.nil_append] at hown1
  go_loopw [3, 4] (fun v i wr => ∃ k : Nat, k ≤ 12 ∧ i = .int .i64 k ∧ v = .slice (some ⟨w.heap.size, 0, none⟩) (l.length + k) (l.length + 12) ∧ wr.ownsRow w.heap.size 5 1 (.slice (some ⟨w.heap.size, 0, none⟩) (l.length + k) (l.length + 12)) (l.length + k) (vb (l ++ marks 1 k)) ∧ New w wr) (fun _ i _ => 12 - (intOf i).toNat)
  case atStart => exact ⟨0, Nat.zero_le _, rfl, by simp, by simpa [marks] using hown1, hb1⟩
  case round =>
    clear hmk H0 HA hown1 hg1 hb1 hb0
    obtain ⟨k, hk, rfl, rfl, ho, hn⟩ := hrel
    have HO := Lib.hid ho
    clear ho
    by_cases hlt : k < 12
    · go_wp2_with (first
        | (go_at_call 17; refine (markByte_any _ _ _).mono ?_; rintro e w2 ⟨rfl, rfl⟩)
        | (at_builtin; refine wpList_append_fit _ rfl (.tmp 16) (.tmp 19) 22 rfl w.heap.size 5 i0 1 Tryd.underlying22 hi hz1 w.heap.size (l.length + k) (l.length + 12) _ rfl (HO.out.alloc _) _ _ 1 1 _ rfl (reads_new _ _ _) (by simp [Value.oneCell']) (by omega) (by omega) ?_; intro w2 hown2 hg2))
      have hb2 : New w w2 := (hn.alloc hn.size _).grown hg2 (by have := hn.size; simp; omega) (fun k hk => by injection hk with hk; omega)
      have e2 : vb (l ++ marks 1 k) ++ [Value.int .u8 ((mkB 1 (k : Int)).toNat : Int)] = vb (l ++ marks 1 (k + 1)) := by rw [marks_succ, ← List.append_assoc, vb_append (l ++ marks 1 k)]; rfl
      rw [e2] at hown2
      go_roundw
      case rel => exact ⟨k + 1, by omega, by go_num, by rw [Nat.add_assoc], hown2, hb2⟩
      case measure => simp [intOf]; omega
    · obtain rfl : k = 12 := by omega
      go_wp2
      go_ret
      exact ⟨⟨by simp, (own_full HO.out).2⟩, hn⟩

end Go.Proofs.YtgddfclclibcgaaDoor.kit
