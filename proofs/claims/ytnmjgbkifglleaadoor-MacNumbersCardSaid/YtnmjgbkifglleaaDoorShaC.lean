/-
  Contracts: what a state becomes by one block's words.
-/
import Derived.Test.YtnmjgbkifglleaaDoorShaB
import Derived.ChangeKeysEq
namespace Go.Proofs.YtnmjgbkifglleaaDoor.sha
open Go.RowKit Go.Proofs.YtnmjgbkifglleaaDoor.mem
set_option linter.unusedVariables false

def c8 (t : St) : Array Value := #[.int .u32 (t.a : Int), .int .u32 (t.b : Int), .int .u32 (t.c : Int), .int .u32 (t.d : Int), .int .u32 (t.e : Int), .int .u32 (t.f : Int), .int .u32 (t.g : Int), .int .u32 (t.h : Int)]
def c64 (ws : List Nat) : Array Value := (ws.map fun (x : Nat) => Value.int .u32 (x : Int)).toArray
theorem and_of (a b : Nat) (x y : Int) (ha : x = (a : Int)) (hb : y = (b : Int)) (h1 : a < 4294967296) (h2 : b < 4294967296) : bits BinOp.and IntKind.u32 x y = ((a &&& b : Nat) : Int) := by
  rw [ha, hb, u32_and_nat _ _ h1 h2]
theorem and_lt {a b : Nat} (h1 : a < 4294967296) : a &&& b < 4294967296 := Nat.lt_of_le_of_lt Nat.and_le_left h1
theorem ch_lt (e f g : Nat) (he : e < 4294967296) (hf : f < 4294967296) (hg : g < 4294967296) : ch e f g < 4294967296 := xor_lt (and_lt he) (and_lt (xor_lt (by decide) he))
theorem ch_val (e f g : Nat) (he : e < 4294967296) (hf : f < 4294967296) (hg : g < 4294967296) : bits BinOp.xor IntKind.u32 (bits BinOp.and IntKind.u32 (e : Int) (f : Int)) (bits BinOp.and IntKind.u32 (bits BinOp.xor IntKind.u32 IntKind.u32.max (e : Int)) (g : Int)) = ((ch e f g : Nat) : Int) :=
  xor_of _ _ _ _ (and_of _ _ _ _ rfl rfl he hf) (and_of _ _ _ _ (xor_of 4294967295 e _ _ rfl rfl (by decide) he) rfl (xor_lt (by decide) he) hg) (and_lt he) (and_lt (xor_lt (by decide) he))
theorem maj_lt (a b c : Nat) (ha : a < 4294967296) (hb : b < 4294967296) (hc : c < 4294967296) : maj a b c < 4294967296 := xor_lt (xor_lt (and_lt ha) (and_lt ha)) (and_lt hb)
theorem maj_val (a b c : Nat) (ha : a < 4294967296) (hb : b < 4294967296) (hc : c < 4294967296) : bits BinOp.xor IntKind.u32 (bits BinOp.xor IntKind.u32 (bits BinOp.and IntKind.u32 (a : Int) (b : Int)) (bits BinOp.and IntKind.u32 (a : Int) (c : Int))) (bits BinOp.and IntKind.u32 (b : Int) (c : Int)) = ((maj a b c : Nat) : Int) :=
  xor_of _ _ _ _ (xor_of _ _ _ _ (and_of _ _ _ _ rfl rfl ha hb) (and_of _ _ _ _ rfl rfl ha hc) (and_lt ha) (and_lt ha)) (and_of _ _ _ _ rfl rfl hb hc) (xor_lt (and_lt ha) (and_lt ha)) (and_lt hb)
theorem bg0_lt (x : Nat) (h : x < 4294967296) : bg0 x < 4294967296 := xor_lt (xor_lt (rotr_lt _ _ h) (rotr_lt _ _ h)) (rotr_lt _ _ h)
theorem bg1_lt (x : Nat) (h : x < 4294967296) : bg1 x < 4294967296 := xor_lt (xor_lt (rotr_lt _ _ h) (rotr_lt _ _ h)) (rotr_lt _ _ h)
theorem bg0_val (x : Nat) (h : x < 4294967296) : bits BinOp.xor IntKind.u32 (bits BinOp.xor IntKind.u32 (rotr x 2 : Nat) (rotr x 13 : Nat)) (rotr x 22 : Nat) = ((bg0 x : Nat) : Int) :=
  xor_of _ _ _ _ (xor_of _ _ _ _ rfl rfl (rotr_lt _ _ h) (rotr_lt _ _ h)) rfl (xor_lt (rotr_lt _ _ h) (rotr_lt _ _ h)) (rotr_lt _ _ h)
theorem bg1_val (x : Nat) (h : x < 4294967296) : bits BinOp.xor IntKind.u32 (bits BinOp.xor IntKind.u32 (rotr x 6 : Nat) (rotr x 11 : Nat)) (rotr x 25 : Nat) = ((bg1 x : Nat) : Int) :=
  xor_of _ _ _ _ (xor_of _ _ _ _ rfl rfl (rotr_lt _ _ h) (rotr_lt _ _ h)) rfl (xor_lt (rotr_lt _ _ h) (rotr_lt _ _ h)) (rotr_lt _ _ h)
theorem cells32 : (Tryd.prog.info? 36).map (·.size) = some 1 := by kernel_rfl
theorem plain32 : Tryd.prog.plainKey 36 = true := by kernel_rfl
theorem index_run {T : TypeId} {n : Nat} (hu : Tryd.prog.underlying T = some (.array n 36)) (VS : Array Value) (k : Nat) (v : Value) (hk : k < n) (hv : VS[k]? = some v) (W : World) : (Instr.index T (.agg VS) (.int .i64 (k : Int))).run Tryd.prog W = .ok v W := by
  have h1 : (0 : Int) ≤ (k : Int) ∧ (k : Int) < (n : Int) := by omega
  cases hq : Tryd.prog.info? 36 with
  | none => have := cells32; rw [hq] at this; cases this
  | some i =>
    have hs : i.size = 1 := by have := cells32; rw [hq] at this; simpa using this
    have hz : (sizeOf 36).run Tryd.prog W = .ok 1 W := by simp [sizeOf, typeInfo, hq, hs]
    have hp := run_part_plain (P := Tryd.prog) plain32 hv (w := W)
    unfold Instr.index
    simp only [Sem.run_bind, asIntOf, Sem.run_pure, Result.andThen_ok, run_underlying hu, if_pos h1, hz, Int.toNat_natCast, Nat.mul_one, hp]
/-- What the package's constants hold. -/
def KAt (w : World) : Prop := ∀ (i : Nat) (h : i < consts.length), w.cell? ⟨1, i, none⟩ = some (.int .u32 (consts[i] : Int))
theorem KAt.lt {w : World} (h : KAt w) : 1 < w.heap.size := by
  have := h 0 (by decide)
  exact block_lt_of_cell this
theorem KAt.new {w w' : World} (h : KAt w) (hn : New w w') : KAt w' := fun i hi => (hn.cell (p := ⟨1, i, none⟩) h.lt).trans (h i hi)

/-- mixed while it goes on. -/
structure MS (w : World) (s : St) (t : St) (wr : World) : Prop where
  new : New w wr
  st : Blk wr w.heap.size 37 (c8 s)
  res : ∃ cs, Blk wr (w.heap.size + 1 + 1) 37 cs ∧ cs.size = 8
  now : Blk wr (w.heap.size + 1 + 1 + 1) 37 (c8 t)

abbrev w4 (w : World) (s : St) (VS z z' : Array Value) : World := (((w.alloc (.cells (c8 s) 37)).alloc (.cells VS 79)).alloc (.cells z 37)).alloc (.cells z' 37)
theorem w4_0 (w : World) (s : St) (VS z : Array Value) : Blk (((w.alloc (.cells (c8 s) 37)).alloc (.cells VS 79)).alloc (.cells z 37)) w.heap.size 37 (c8 s) := ((Blk.new w _ _).alloc _).alloc _
theorem w4_3 (w : World) (s : St) (VS z z' : Array Value) : Blk (w4 w s VS z z') (w.heap.size + 3) 37 z' := by
  have h := Blk.new (((w.alloc (.cells (c8 s) 37)).alloc (.cells VS 79)).alloc (.cells z 37)) 37 z'
  simpa using h
theorem w4_1 (w : World) (s : St) (VS z z' : Array Value) : Blk (w4 w s VS z z') (w.heap.size + 1) 79 VS := by
  have h := Blk.new (w.alloc (.cells (c8 s) 37)) 79 VS
  have h2 : Blk ((w.alloc (.cells (c8 s) 37)).alloc (.cells VS 79)) (w.heap.size + 1) 79 VS := by simpa using h
  exact (h2.alloc _).alloc _
theorem w4_2 (w : World) (s : St) (VS z z' : Array Value) : Blk (w4 w s VS z z') (w.heap.size + 2) 37 z := by
  have h := Blk.new ((w.alloc (.cells (c8 s) 37)).alloc (.cells VS 79)) 37 z
  have h2 : Blk (((w.alloc (.cells (c8 s) 37)).alloc (.cells VS 79)).alloc (.cells z 37)) (w.heap.size + 2) 37 z := by simpa using h
  exact h2.alloc _
theorem _root_.Go.Proofs.YtnmjgbkifglleaaDoor.mem.Blk.rowFar {w : World} {g h : Nat} {t : TypeId} {cs : Array Value} (hb : Blk w g t cs) (hne : g ≠ h) (ds : Array Value) : Blk (w.setRow h ds) g t cs := (setRow_other w h g ds hne).trans hb
theorem _root_.Go.Proofs.YtnmjgbkifglleaaDoor.mem.Blk.row {w : World} {g : Nat} {t : TypeId} {cs : Array Value} (hb : Blk w g t cs) (ds : Array Value) : Blk (w.setRow g ds) g t ds := setRow_heap _ _ _ _ _ _ hb
theorem MS.start (w : World) (s : St) (VS z z' : Array Value) (hz : z.size = 8) : MS w s s ((w4 w s VS z z').setRow (w.heap.size + 1 + 1 + 1) (c8 s)) := by
  refine ⟨?_, (((w4_0 w s VS z).alloc _).rowFar (by omega) _), ⟨z, (w4_2 w s VS z z').rowFar (by omega) _, hz⟩, (w4_3 w s VS z z').row _⟩
  exact below_setRow (((((new_refl w).alloc (Nat.le_refl _) _).alloc (by simp) _).alloc (by simp; omega) _).alloc (by simp; omega) _) (by omega) _
theorem one8 (s : St) : (c8 s).all (·.oneCell') = true := by simp [c8, Value.oneCell']

theorem copied {w wr : World} {a b c d e f g z : Nat} (h : Blk wr (w.heap.size + 1 + 1 + 1) 37 (c8 ⟨a, b, c, d, e, f, g, z⟩)) (X : Array Value) (hX : X = #[.int .u32 (a : Int), .int .u32 (a : Int), .int .u32 (b : Int), .int .u32 (c : Int), .int .u32 (d : Int), .int .u32 (e : Int), .int .u32 (f : Int), .int .u32 (g : Int)]) (ty : TypeId) :
    (Builtin.copy_ #[104, 104] ty #[.slice (some ⟨w.heap.size + 1 + 1 + 1, 1, none⟩) 7 7, .slice (some ⟨w.heap.size + 1 + 1 + 1, 0, none⟩) 7 8]).run Tryd.prog wr.drew.drew.drew.drew = .ok (goInt 7) (wr.drew.drew.drew.drew.setRow (w.heap.size + 1 + 1 + 1) X) := by
  have hr := run_copy_row (P := Tryd.prog) wr.drew.drew.drew.drew 104 104 ty 36 (w.heap.size + 1 + 1 + 1) 1 7 7 ⟨w.heap.size + 1 + 1 + 1, 0, none⟩ 7 8 _ _ [.int .u32 (a : Int), .int .u32 (b : Int), .int .u32 (c : Int), .int .u32 (d : Int), .int .u32 (e : Int), .int .u32 (f : Int), .int .u32 (g : Int)] Tryd.underlying104 cells32 h rfl
    (fun j v hv => by
      rw [Addr.add_lit, Nat.zero_add]
      refine (Blk.cell (w := wr.drew.drew.drew.drew) h j).trans ?_
      rw [← hv]
      match j, hv with
      | 0, _ => rfl
      | 1, _ => rfl
      | 2, _ => rfl
      | 3, _ => rfl
      | 4, _ => rfl
      | 5, _ => rfl
      | 6, _ => rfl
      | j + 7, hv => simp at hv)
    (by simp [c8]) (by simp [Value.oneCell'])
  rw [hX]
  exact hr
theorem MS.next {w wr : World} {s st : St} (h : MS w s st wr) (X : Array Value) (u v : Value) (t' : St) (hX : (X.setIfInBounds 4 u).setIfInBounds 0 v = c8 t') :
    MS w s t' (((wr.drew.drew.drew.drew.setRow (w.heap.size + 1 + 1 + 1) X).setCell ⟨w.heap.size + 1 + 1 + 1, 4, none⟩ u).setCell ⟨w.heap.size + 1 + 1 + 1, 0, none⟩ v) := by
  obtain ⟨h1, h2, ⟨cs, h3, hz⟩, h4⟩ := h
  have k2 : Blk wr.drew.drew.drew.drew w.heap.size 37 (c8 s) := h2
  have k3 : Blk wr.drew.drew.drew.drew (w.heap.size + 1 + 1) 37 cs := h3
  have k4 : Blk wr.drew.drew.drew.drew (w.heap.size + 1 + 1 + 1) 37 (c8 st) := h4
  refine ⟨((below_setRow (Below.drew (Below.drew (Below.drew (Below.drew h1)))) (by omega) X).setCell (by show _ ≤ w.heap.size + 1 + 1 + 1; omega) _).setCell (by show _ ≤ w.heap.size + 1 + 1 + 1; omega) _, ((k2.rowFar (by omega) _).far (by show _ ≠ w.heap.size + 1 + 1 + 1; omega) _).far (by show _ ≠ w.heap.size + 1 + 1 + 1; omega) _, ⟨cs, ((k3.rowFar (by omega) _).far (by show _ ≠ w.heap.size + 1 + 1 + 1; omega) _).far (by show _ ≠ w.heap.size + 1 + 1 + 1; omega) _, hz⟩, ?_⟩
  rw [← hX]
  exact ((k4.row X).set_ 4 u).set_ 0 v

theorem c8_at (s : St) (k : Nat) (h : k < s.list.length) : (c8 s)[k]? = some (.int .u32 (s.list[k] : Int)) := by
  match k, h with
  | 0, _ => rfl
  | 1, _ => rfl
  | 2, _ => rfl
  | 3, _ => rfl
  | 4, _ => rfl
  | 5, _ => rfl
  | 6, _ => rfl
  | 7, _ => rfl
  | k + 8, h => exact absurd h (by simp [St.list])
theorem plus_at (s t : St) (k : Nat) (h : k < (s.plus t).list.length) (h1 : k < s.list.length) (h2 : k < t.list.length) : (s.plus t).list[k] = lo (s.list[k] + t.list[k]) := by
  match k, h with
  | 0, _ => rfl
  | 1, _ => rfl
  | 2, _ => rfl
  | 3, _ => rfl
  | 4, _ => rfl
  | 5, _ => rfl
  | 6, _ => rfl
  | 7, _ => rfl
  | k + 8, h => exact absurd h (by simp [St.list])
/-- The sum of two states, the first k words of it. -/
structure PS (w : World) (s t : St) (k : Nat) (wr : World) : Prop where
  new : New w wr
  res : ∃ cs, Blk wr (w.heap.size + 1 + 1) 37 cs ∧ cs.size = 8
  row : ∃ cs, Blk wr w.heap.size 37 cs ∧ cs.size = 8 ∧ (∀ i (h1 : i < s.list.length) (h2 : i < t.list.length), i < k → cs[i]? = some (.int .u32 (lo (s.list[i] + t.list[i]) : Nat))) ∧ ∀ i (h1 : i < s.list.length), k ≤ i → cs[i]? = some (.int .u32 (s.list[i] : Int))
theorem PS.start {w wr : World} {s t0 : St} (t : St) (h : MS w s t0 wr) : PS w s t 0 wr := ⟨h.new, h.res, c8 s, h.st, rfl, fun i h1 h2 h3 => absurd h3 (by omega), fun i h1 _ => c8_at s i h1⟩
theorem PS.here {w wr : World} {s t : St} {k : Nat} (h : PS w s t k wr) (hk : k < s.list.length) : wr.cell? ⟨w.heap.size, k, none⟩ = some (.int .u32 (s.list[k] : Int)) := by
  obtain ⟨cs, hb, -, -, hc⟩ := h.row
  exact (hb.cell k).trans (hc k hk (Nat.le_refl _))
theorem PS.frozen {w wr : World} {s t : St} {k : Nat} (h : PS w s t k wr) (i : Nat) : wr.frozen? ⟨w.heap.size, i, none⟩ = false := by
  obtain ⟨cs, hb, -, -, hc⟩ := h.row
  exact hb.frozen i
theorem PS.set {w wr : World} {s t : St} {k : Nat} (h : PS w s t k wr) (hs : k < s.list.length) (ht : k < t.list.length) : PS w s t (k + 1) (wr.setCell ⟨w.heap.size, k, none⟩ (.int .u32 (lo (s.list[k] + t.list[k]) : Nat))) := by
  obtain ⟨h1, ⟨rs, r1, r2⟩, cs, hb, hz, hc, hd⟩ := h
  have hk8 : k < 8 := hs
  refine ⟨h1.setCell (Nat.le_refl _) _, ⟨rs, r1.far (by show w.heap.size + 1 + 1 ≠ w.heap.size; omega) _, r2⟩, _, hb.set_ _ _, by simpa using hz, fun i i1 i2 i3 => ?_, fun i i1 i2 => ?_⟩
  · by_cases e : i = k
    · subst e
      rw [Array.getElem?_setIfInBounds_self_of_lt (by omega)]
    · rw [Array.getElem?_setIfInBounds_ne (by omega)]
      exact hc i i1 i2 (by omega)
  · rw [Array.getElem?_setIfInBounds_ne (by omega)]
    exact hd i i1 (by omega)
theorem PS.done {w wr : World} {s t : St} (h : PS w s t 8 wr) : New w wr ∧ Blk wr w.heap.size 37 (c8 (s.plus t)) ∧ ∃ cs, Blk wr (w.heap.size + 1 + 1) 37 cs ∧ cs.size = 8 := by
  obtain ⟨h1, h2, cs, hb, hz, hc, -⟩ := h
  refine ⟨h1, ?_, h2⟩
  have e : cs = c8 (s.plus t) := by
    refine Array.ext (by rw [hz]; rfl) fun i i1 i2 => ?_
    have i3 : i < 8 := by omega
    have h4 := hc i i3 i3 i3
    rw [Array.getElem?_eq_getElem i1] at h4
    have h5 := c8_at (s.plus t) i i3
    rw [Array.getElem?_eq_getElem i2, plus_at s t i i3 i3 i3] at h5
    exact (Option.some.inj h4).trans (Option.some.inj h5).symm
  rw [← e]
  exact hb

set_option maxRecDepth 100000 in
set_option maxHeartbeats 8000000 in
theorem mixed_any (s : St) (ws : List Nat) (w : World) (hs : s.Ok) (hl : ws.length = 64) (hw : ∀ x ∈ ws, x < 4294967296) (hK : KAt w) :
    Calls Tryd.prog 37 #[.agg (c8 s), .agg (c64 ws)] w fun e w' => e = .returned (.agg (c8 (s.plus (steps s (consts.zip ws))))) ∧ New w w' := by
  have HK := Lib.hid hK
  have HL := Lib.hid hl
  have HWL := Lib.hid hw
  have HS := Lib.hid hs
  obtain ⟨VS, hVS⟩ : ∃ VS, c64 ws = VS := ⟨_, rfl⟩
  have hvs : VS.size = 64 := by rw [← hVS]; simp [c64, hl]
  rw [hVS]
  have HVS := Lib.hid hVS
  have HEI : Hid ((Tryd.prog.info? 79).map (·.size) = some VS.size) := Lib.hid (by rw [hvs]; exact info64)
  have HVZ := Lib.hid hvs
  clear hK hl hw hs hVS hvs
  go_enter Tryd.func37, Tryd.ntmps37
  go_wp2_with (first
    | (refine wpList_load_row rfl 37 _ rfl w.heap.size rfl 37 (c8 s) (0, 0) _ (w4_0 w s VS _) Tryd.underlying37 rfl info8 ?_)
    | (refine wpList_store_row rfl 37 _ _ rfl (w.heap.size + 1 + 1 + 1) (c8 s) rfl rfl 37 _ (w4_3 w s VS _ _) info8 (Eq.trans (b := 8) rfl rfl) (one8 s) ?_)
    | (refine wpList_load_row rfl 79 _ rfl (w.heap.size + 1) rfl 79 VS (0, 0) _ ((w4_1 w s VS _ _).rowFar (by omega) _) Tryd.underlying79 rfl HEI.out ?_))
  go_loopw [6, 7, 8, 9, 10, 11, 12, 13, 14, 15, 16, 17, 22] (fun _ _ _ _ _ _ _ _ _ _ _ _ i wr => ∃ k : Nat, k ≤ 64 ∧ i = .int .i64 k ∧ MS w s (steps s ((consts.zip ws).take k)) wr) (fun _ _ _ _ _ _ _ _ _ _ _ _ i _ => 64 - (intOf i).toNat)
  case atStart => exact ⟨0, Nat.zero_le _, rfl, MS.start w s VS _ _ rfl⟩
  case round =>
    obtain ⟨k, hk, rfl, hms⟩ := hrel
    have HM := Lib.hid hms
    clear hms
    by_cases hlt : k < 64
    · have hk64 : (k : Int) < 64 := by omega
      have hx : k < ws.length := by rw [HL.out]; exact hlt
      have hkc : k < consts.length := hlt
      have hv : VS[k]? = some (.int .u32 (ws[k] : Int)) := by rw [← HVS.out]; simp [c64, hx]
      have hcK := (HM.out.new.cell (p := ⟨1, k, none⟩) HK.out.lt).trans (HK.out k hkc)
      have hxl := HWL.out _ (List.getElem_mem hx)
      have htk : (consts.zip ws).take (k + 1) = (consts.zip ws).take k ++ [(consts[k], ws[k])] := by
        rw [← List.take_append_getElem (show k < (consts.zip ws).length by rw [List.length_zip, HL.out]; exact hlt)]
        simp
      have HTK : Hid (steps s ((consts.zip ws).take (k + 1)) = step (steps s ((consts.zip ws).take k)) consts[k] ws[k]) := Lib.hid (by rw [htk, steps_append]; rfl)
      have hok := steps_ok ((consts.zip ws).take k) s HS.out
      have hnow := HM.out.now
      obtain ⟨st, hst⟩ : ∃ st, steps s ((consts.zip ws).take k) = st := ⟨_, rfl⟩
      rw [hst] at hok hnow HTK
      obtain ⟨a, b, c, d, e, f, g, z⟩ := st
      obtain ⟨la, lb, lc, ld, le, lf, lg, lh⟩ := hok
      simp only at la lb lc ld le lf lg lh
      have HNOW := Lib.hid hnow
      have hfz : ∀ i, wr.frozen? ⟨w.heap.size + 1 + 1 + 1, i, none⟩ = false := fun i => hnow.frozen i
      have q0 : wr.cell? ⟨w.heap.size + 1 + 1 + 1, 0, none⟩ = some (.int .u32 (a : Int)) := (hnow.cell 0).trans rfl
      have q1 : wr.cell? ⟨w.heap.size + 1 + 1 + 1, 1, none⟩ = some (.int .u32 (b : Int)) := (hnow.cell 1).trans rfl
      have q2 : wr.cell? ⟨w.heap.size + 1 + 1 + 1, 2, none⟩ = some (.int .u32 (c : Int)) := (hnow.cell 2).trans rfl
      have q3 : wr.cell? ⟨w.heap.size + 1 + 1 + 1, 3, none⟩ = some (.int .u32 (d : Int)) := (hnow.cell 3).trans rfl
      have q4 : wr.cell? ⟨w.heap.size + 1 + 1 + 1, 4, none⟩ = some (.int .u32 (e : Int)) := (hnow.cell 4).trans rfl
      have q5 : wr.cell? ⟨w.heap.size + 1 + 1 + 1, 5, none⟩ = some (.int .u32 (f : Int)) := (hnow.cell 5).trans rfl
      have q6 : wr.cell? ⟨w.heap.size + 1 + 1 + 1, 6, none⟩ = some (.int .u32 (g : Int)) := (hnow.cell 6).trans rfl
      have q7 : wr.cell? ⟨w.heap.size + 1 + 1 + 1, 7, none⟩ = some (.int .u32 (z : Int)) := (hnow.cell 7).trans rfl
      have hidx := index_run Tryd.underlying79 VS k _ hlt hv
      generalize consts[k] = kk at *
      generalize ws[k] = x at *
      have hch := ch_val e f g le lf lg
      have lch := ch_lt e f g le lf lg
      have hmaj := maj_val a b c la lb lc
      have lmaj := maj_lt a b c la lb lc
      have hb1 := bg1_val e le
      have hb0 := bg0_val a la
      have lb1 := bg1_lt e le
      have lb0 := bg0_lt a la
      have HT6 := Lib.hid (turned_6 e le wr.drew.drew.drew)
      have HT11 := Lib.hid (turned_11 e le wr.drew.drew.drew)
      have HT25 := Lib.hid (turned_25 e le wr.drew.drew.drew)
      have HT2 := Lib.hid (turned_2 a la)
      have HT13 := Lib.hid (turned_13 a la)
      have HT22 := Lib.hid (turned_22 a la)
      have HSTEP : Hid (step ⟨a, b, c, d, e, f, g, z⟩ kk x = ⟨lo (lo (z + bg1 e + ch e f g + kk + x) + lo (bg0 a + maj a b c)), a, b, c, lo (d + lo (z + bg1 e + ch e f g + kk + x)), e, f, g⟩) := Lib.hid rfl
      generalize ch e f g = CH at *
      generalize maj a b c = MJ at *
      generalize bg1 e = B1 at *
      generalize bg0 a = B0 at *
      have hone : IntKind.u32.wrap (IntKind.u32.wrap (IntKind.u32.wrap (IntKind.u32.wrap ((z : Int) + (B1 : Int)) + (CH : Int)) + (kk : Int)) + (x : Int)) = ((lo (z + B1 + CH + kk + x) : Nat) : Int) := by
        unfold lo
        simp only [IntKind.wrap_u32]
        omega
      have htwo : ((B0 : Int) + (MJ : Int)) % 4294967296 = ((lo (B0 + MJ) : Nat) : Int) := by
        unfold lo
        omega
      have lone := lo_lt (z + B1 + CH + kk + x)
      have ltwo := lo_lt (B0 + MJ)
      generalize lo (z + B1 + CH + kk + x) = ONE at *
      generalize lo (B0 + MJ) = TWO at *
      generalize rotr e 6 = r6 at *
      generalize rotr e 11 = r11 at *
      generalize rotr e 25 = r25 at *
      generalize rotr a 2 = r2 at *
      generalize rotr a 13 = r13 at *
      generalize rotr a 22 = r22 at *
      clear hst htk hnow hkc
      obtain ⟨X, hX⟩ : ∃ X : Array Value, #[.int .u32 (a : Int), .int .u32 (a : Int), .int .u32 (b : Int), .int .u32 (c : Int), .int .u32 (d : Int), .int .u32 (e : Int), .int .u32 (f : Int), .int .u32 (g : Int)] = X := ⟨_, rfl⟩
      have hcp := copied HNOW.out X hX.symm
      have hbx : Blk (wr.drew.drew.drew.drew.setRow (w.heap.size + 1 + 1 + 1) X) (w.heap.size + 1 + 1 + 1) 37 X := Blk.row (cs := c8 ⟨a, b, c, d, e, f, g, z⟩) (w := wr.drew.drew.drew.drew) HNOW.out X
      have x4 : (wr.drew.drew.drew.drew.setRow (w.heap.size + 1 + 1 + 1) X).cell? ⟨w.heap.size + 1 + 1 + 1, 4, none⟩ = some (.int .u32 (d : Int)) := (hbx.cell 4).trans (by rw [← hX]; rfl)
      have x0 : (wr.drew.drew.drew.drew.setRow (w.heap.size + 1 + 1 + 1) X).cell? ⟨w.heap.size + 1 + 1 + 1, 0, none⟩ = some (.int .u32 (a : Int)) := (hbx.cell 0).trans (by rw [← hX]; rfl)
      have xf : ∀ i, (wr.drew.drew.drew.drew.setRow (w.heap.size + 1 + 1 + 1) X).frozen? ⟨w.heap.size + 1 + 1 + 1, i, none⟩ = false := fun i => hbx.frozen i
      have HX := Lib.hid hX
      clear hX hbx
      go_wp2
      go_region_held3 (fun w' => w'.cell? ⟨w.heap.size + 1 + 1 + 1, 0, none⟩ = some (.int .u32 (a : Int)) ∧ w'.cell? ⟨w.heap.size + 1 + 1 + 1, 1, none⟩ = some (.int .u32 (b : Int)) ∧ w'.cell? ⟨w.heap.size + 1 + 1 + 1, 2, none⟩ = some (.int .u32 (c : Int)))
        (go_keep)
        (fail)
      go_wp2_with fail
      go_region_held3 (fun w' => w'.cell? ⟨w.heap.size + 1 + 1 + 1, 4, none⟩ = some (.int .u32 (e : Int)) ∧ w'.cell? ⟨w.heap.size + 1 + 1 + 1, 5, none⟩ = some (.int .u32 (f : Int)) ∧ w'.cell? ⟨w.heap.size + 1 + 1 + 1, 6, none⟩ = some (.int .u32 (g : Int)))
        (go_keep)
        (fail)
      go_wp2_with fail
      go_region_held3 (fun w' => w'.cell? ⟨w.heap.size + 1 + 1 + 1, 7, none⟩ = some (.int .u32 (z : Int)) ∧ w'.cell? ⟨1, k, none⟩ = some (.int .u32 (kk : Int)))
        (go_keep)
        (first
          | (go_at_call 65; (with_reducible refine HT6.out.mono ?_); rintro e w1 ⟨rfl, rfl⟩)
          | (go_at_call 65; (with_reducible refine HT11.out.mono ?_); rintro e w1 ⟨rfl, rfl⟩)
          | (go_at_call 65; (with_reducible refine HT25.out.mono ?_); rintro e w1 ⟨rfl, rfl⟩))
      go_wp2_with (first
        | (go_at_call 65; (with_reducible refine (HT2.out _).mono ?_); rintro e w1 ⟨rfl, rfl⟩)
        | (go_at_call 65; (with_reducible refine (HT13.out _).mono ?_); rintro e w1 ⟨rfl, rfl⟩)
        | (go_at_call 65; (with_reducible refine (HT22.out _).mono ?_); rintro e w1 ⟨rfl, rfl⟩))
      go_region_held3 (fun _ => True)
        (trivial)
        (fail)
      go_wp2_with fail
      go_roundw
      case rel =>
        have e1 : ((d : Int) + (ONE : Int)) % 4294967296 = ((lo (d + ONE) : Nat) : Int) := by
          unfold lo
          omega
        have e2 : ((ONE : Int) + (TWO : Int)) % 4294967296 = ((lo (ONE + TWO) : Nat) : Int) := by
          unfold lo
          omega
        refine ⟨k + 1, by omega, by go_num, ?_⟩
        rw [HTK.out, HSTEP.out, e1, e2]
        exact HM.out.next _ _ _ _ (by rw [← HX.out]; rfl)
      case measure => simp [intOf]; omega
    · obtain rfl : k = 64 := by omega
      have hms := HM.out
      rw [List.take_of_length_le (by rw [List.length_zip, HL.out]; exact Nat.le_refl _)] at hms
      obtain ⟨tt, htt⟩ : ∃ tt, steps s (consts.zip ws) = tt := ⟨_, rfl⟩
      rw [htt] at hms
      have HTT := Lib.hid htt
      have HNOW := Lib.hid hms.now
      have HPS := Lib.hid (PS.start tt hms)
      clear hms htt HM
      go_wp2_with (first
        | (refine wpList_load_row rfl 37 _ rfl (w.heap.size + 1 + 1 + 1) rfl 37 (c8 tt) (0, 0) _ HNOW.out Tryd.underlying37 rfl info8 ?_))
      go_loopw [18, 19, 100] (fun _ _ i wr => ∃ k : Nat, k ≤ 8 ∧ i = .int .i64 k ∧ PS w s tt k wr) (fun _ _ i _ => 8 - (intOf i).toNat)
      case atStart => exact ⟨0, Nat.zero_le _, rfl, HPS.out⟩
      case round =>
        clear HPS HNOW
        obtain ⟨k, hk, rfl, hps⟩ := hrel
        have HP := Lib.hid hps
        clear hps
        by_cases hlt2 : k < 8
        · have hk8 : (k : Int) < 8 := by omega
          have hsl : k < s.list.length := hlt2
          have htl : k < tt.list.length := hlt2
          have hidx := index_run Tryd.underlying37 (c8 tt) k _ hlt2 (c8_at tt k htl)
          have q := HP.out.here hsl
          have qf := HP.out.frozen k
          have HE : Hid (lo (s.list[k] + tt.list[k]) = lo (s.list[k] + tt.list[k])) := Lib.hid rfl
          have HST := Lib.hid (HP.out.set hsl htl)
          generalize s.list[k] = u at *
          generalize tt.list[k] = v at *
          go_wp2
          go_roundw
          case rel =>
            have e1 : ((u : Int) + (v : Int)) % 4294967296 = ((lo (u + v) : Nat) : Int) := by
              unfold lo
              omega
            refine ⟨k + 1, by omega, by go_num, ?_⟩
            rw [e1]
            exact HST.out
          case measure => simp [intOf]; omega
        · obtain rfl : k = 8 := by omega
          obtain ⟨h1, h2, cs, h3, hz⟩ := HP.out.done
          have H2 := Lib.hid h2
          have H3 := Lib.hid h3
          have HZ : Hid (cs.size = (c8 (s.plus tt)).size) := Lib.hid hz
          have HN := Lib.hid h1
          clear h1 h2 h3 hz HP
          go_wp2_with (first
            | (refine wpList_load_row rfl 37 _ rfl w.heap.size rfl 37 (c8 (s.plus tt)) (0, 0) _ H2.out Tryd.underlying37 rfl info8 ?_)
            | (refine wpList_store_row rfl 37 _ _ rfl (w.heap.size + 1 + 1) (c8 (s.plus tt)) rfl rfl 37 _ H3.out info8 HZ.out (one8 _) ?_))
          refine bodyPost_ret (results_cell_row rfl _ _ (w.heap.size + 1 + 1) 37 _ (0, 0) _ rfl (setRow_heap _ _ _ _ _ _ H3.out) Tryd.underlying37 rfl info8) rfl ?_
          rw [HTT.out]
          exact ⟨rfl, below_setRow HN.out (by omega) _⟩
end Go.Proofs.YtnmjgbkifglleaaDoor.sha
