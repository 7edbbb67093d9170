/-
  Contracts: the words that a block makes.
-/
import Derived.Test.YtnmjgbkifglleaaDoorShaA
import Derived.Deep.RegionHeld3
import Derived.Deep.MidRow
import Derived.Laws.CopyOwn
namespace Go.Proofs.YtnmjgbkifglleaaDoor.sha
open Go.RowKit Go.Proofs.YtnmjgbkifglleaaDoor.mem
set_option linter.unusedVariables false

theorem or4 (x0 x1 x2 x3 : Nat) (t0 : x0 < 256) (t1 : x1 < 256) (t2 : x2 < 256) (t3 : x3 < 256) :
    bits BinOp.or IntKind.u32 (bits BinOp.or IntKind.u32 (bits BinOp.or IntKind.u32 ((x0 : Int) * 16777216) ((x1 : Int) * 65536)) ((x2 : Int) * 256)) (x3 : Int) = (((x0 * 16777216 + x1 * 65536) + (x2 * 256 + x3) : Nat) : Int) := by
  have e0 : (x0 : Int) * 16777216 = ((x0 * 16777216 : Nat) : Int) := by omega
  have e1 : (x1 : Int) * 65536 = ((x1 * 65536 : Nat) : Int) := by omega
  have e2 : (x2 : Int) * 256 = ((x2 * 256 : Nat) : Int) := by omega
  have h1 : x0 * 16777216 ||| x1 * 65536 = x0 * 16777216 + x1 * 65536 := by
    have := Nat.two_pow_add_eq_or_of_lt (i := 24) (b := x1 * 65536) (by omega) x0
    rw [show 2 ^ 24 * x0 = x0 * 16777216 by omega] at this
    exact this.symm
  have h2 : (x0 * 16777216 + x1 * 65536) ||| x2 * 256 = x0 * 16777216 + x1 * 65536 + x2 * 256 := by
    have := Nat.two_pow_add_eq_or_of_lt (i := 16) (b := x2 * 256) (by omega) (x0 * 256 + x1)
    rw [show 2 ^ 16 * (x0 * 256 + x1) = x0 * 16777216 + x1 * 65536 by omega] at this
    exact this.symm
  have h3 : (x0 * 16777216 + x1 * 65536 + x2 * 256) ||| x3 = x0 * 16777216 + x1 * 65536 + x2 * 256 + x3 := by
    have := Nat.two_pow_add_eq_or_of_lt (i := 8) (b := x3) (by omega) (x0 * 65536 + x1 * 256 + x2)
    rw [show 2 ^ 8 * (x0 * 65536 + x1 * 256 + x2) = x0 * 16777216 + x1 * 65536 + x2 * 256 by omega] at this
    exact this.symm
  rw [e0, e1, e2, u32_or_nat _ _ (by omega) (by omega), h1, u32_or_nat _ _ (by omega) (by omega), h2, u32_or_nat _ _ (by omega) (by omega), h3, Nat.add_assoc (x0 * 16777216 + x1 * 65536)]

/-- wordsOf while it goes on: the result's block, and the words' own. -/
structure WS (w : World) (ws : List Nat) (wr : World) : Prop where
  new : New w wr
  res : ∃ cs, Blk wr w.heap.size 79 cs ∧ cs.size = 64
  row : ∃ cs, Blk wr (w.heap.size + 1) 79 cs ∧ cs.size = 64 ∧ ∀ i (h : i < ws.length), cs[i]? = some (.int .u32 (ws[i] : Int))
theorem WS.start (w : World) (a b : Array Value) (ha : a.size = 64) (hb : b.size = 64) : WS w [] ((w.alloc (.cells a 79)).alloc (.cells b 79)) := by
  refine ⟨((new_refl w).alloc (Nat.le_refl _) _).alloc (by simp) _, ⟨a, (Blk.new w _ a).alloc _, ha⟩, ⟨b, ?_, hb, fun i h => absurd h (by simp)⟩⟩
  have h := Blk.new (w.alloc (.cells a 79)) 79 b
  simpa using h
theorem WS.at_ {w wr : World} {ws : List Nat} (h : WS w ws wr) {i : Nat} (hi : i < ws.length) : wr.cell? ⟨w.heap.size + 1, i, none⟩ = some (.int .u32 (ws[i] : Int)) := by
  obtain ⟨cs, hb, -, hc⟩ := h.row
  exact (hb.cell i).trans (hc i hi)
theorem WS.there {w wr : World} {ws : List Nat} (h : WS w ws wr) {i : Nat} (hi : i < 64) : ∃ v, wr.cell? ⟨w.heap.size + 1, i, none⟩ = some v := by
  obtain ⟨cs, hb, hs, -⟩ := h.row
  exact ⟨_, (hb.cell i).trans (Array.getElem?_eq_getElem (by omega))⟩
theorem WS.frozen {w wr : World} {ws : List Nat} (h : WS w ws wr) (i : Nat) : wr.frozen? ⟨w.heap.size + 1, i, none⟩ = false := by
  obtain ⟨cs, hb, -, -⟩ := h.row
  exact hb.frozen i
theorem WS.set {w wr : World} {ws : List Nat} (h : WS w ws wr) (n : Nat) (hn : n = ws.length) (hi : n < 64) (v : Nat) : WS w (ws ++ [v]) (wr.setCell ⟨w.heap.size + 1, n, none⟩ (.int .u32 (v : Int))) := by
  obtain ⟨h1, ⟨rs, r1, r2⟩, cs, hb, hs, hc⟩ := h
  subst hn
  refine ⟨h1.setCell (by simp) _, ⟨rs, r1.far (by simp) _, r2⟩, _, hb.set_ _ _, by simpa using hs, fun i hi' => ?_⟩
  by_cases e : i < ws.length
  · rw [List.getElem_append_left e, Array.getElem?_setIfInBounds_ne (by omega)]
    exact hc i e
  · have : i = ws.length := by simp at hi'; omega
    subst this
    rw [Array.getElem?_setIfInBounds_self_of_lt (by omega)]
    simp
theorem WS.drew {w wr : World} {ws : List Nat} (h : WS w ws wr) : WS w ws wr.drew := ⟨Below.drew h.new, h.res, h.row⟩
theorem xor_of (a b : Nat) (x y : Int) (ha : x = (a : Int)) (hb : y = (b : Int)) (h1 : a < 4294967296) (h2 : b < 4294967296) : bits BinOp.xor IntKind.u32 x y = ((a ^^^ b : Nat) : Int) := by
  rw [ha, hb, u32_xor_nat _ _ h1 h2]
theorem xor_lt {a b : Nat} (h1 : a < 4294967296) (h2 : b < 4294967296) : a ^^^ b < 4294967296 := Nat.xor_lt_two_pow (n := 32) h1 h2
theorem sg0_lt (x : Nat) (h : x < 4294967296) : sg0 x < 4294967296 := xor_lt (xor_lt (rotr_lt _ _ h) (rotr_lt _ _ h)) (by omega)
theorem sg1_lt (x : Nat) (h : x < 4294967296) : sg1 x < 4294967296 := xor_lt (xor_lt (rotr_lt _ _ h) (rotr_lt _ _ h)) (by omega)
theorem sg0_val (x : Nat) (h : x < 4294967296) : bits BinOp.xor IntKind.u32 (bits BinOp.xor IntKind.u32 (rotr x 7 : Nat) (rotr x 18 : Nat)) ((x : Int) / 8) = ((sg0 x : Nat) : Int) :=
  xor_of _ _ _ _ (xor_of _ _ _ _ rfl rfl (rotr_lt _ _ h) (rotr_lt _ _ h)) (by omega) (xor_lt (rotr_lt _ _ h) (rotr_lt _ _ h)) (by omega)
theorem sg1_val (x : Nat) (h : x < 4294967296) : bits BinOp.xor IntKind.u32 (bits BinOp.xor IntKind.u32 (rotr x 17 : Nat) (rotr x 19 : Nat)) ((x : Int) / 1024) = ((sg1 x : Nat) : Int) :=
  xor_of _ _ _ _ (xor_of _ _ _ _ rfl rfl (rotr_lt _ _ h) (rotr_lt _ _ h)) (by omega) (xor_lt (rotr_lt _ _ h) (rotr_lt _ _ h)) (by omega)
theorem next_at (ws : List Nat) (t : Nat) (ht : 16 ≤ t) (hl : ws.length = t) : next ws t = lo (ws[t - 16]'(by omega) + sg0 (ws[t - 15]'(by omega)) + ws[t - 7]'(by omega) + sg1 (ws[t - 2]'(by omega))) := by
  unfold next
  simp only [List.getD_eq_getElem?_getD, List.getElem?_eq_getElem (show t - 16 < ws.length by omega), List.getElem?_eq_getElem (show t - 15 < ws.length by omega), List.getElem?_eq_getElem (show t - 7 < ws.length by omega), List.getElem?_eq_getElem (show t - 2 < ws.length by omega), Option.getD_some]
theorem first_take (l : List UInt8) (k : Nat) (h : k < 16) : (first l).take (k + 1) = (first l).take k ++ [word l k] := by
  have hk : k < (first l).length := by rw [first_length]; exact h
  rw [← List.take_append_getElem hk]
  congr 1
  simp [first]
theorem word_at (l : List UInt8) (k : Nat) (h : 4 * k + 3 < l.length) : word l k = ((l[4 * k].toNat * 16777216 + l[4 * k + 1].toNat * 65536) + (l[4 * k + 2].toNat * 256 + l[4 * k + 3].toNat)) := by
  unfold word
  simp only [List.getD_eq_getElem?_getD, List.getElem?_eq_getElem h, List.getElem?_eq_getElem (show 4 * k < l.length by omega), List.getElem?_eq_getElem (show 4 * k + 1 < l.length by omega), List.getElem?_eq_getElem (show 4 * k + 2 < l.length by omega), Option.getD_some]

theorem keep4 {W : World} {g r o k : Nat} {u a b c d : Value} (hne : g ≠ r) (h0 : W.cell? ⟨g, o, none⟩ = some a) (h1 : W.cell? ⟨g, o + 1, none⟩ = some b) (h2 : W.cell? ⟨g, o + 2, none⟩ = some c) (h3 : W.cell? ⟨g, o + 3, none⟩ = some d) (h4 : (W.cell? ⟨r, k, none⟩).isSome = true) (h5 : W.frozen? ⟨r, k, none⟩ = false) :
    (W.setCell ⟨r, k, none⟩ u).cell? ⟨g, o, none⟩ = some a ∧ (W.setCell ⟨r, k, none⟩ u).cell? ⟨g, o + 1, none⟩ = some b ∧ (W.setCell ⟨r, k, none⟩ u).cell? ⟨g, o + 2, none⟩ = some c ∧ (W.setCell ⟨r, k, none⟩ u).cell? ⟨g, o + 3, none⟩ = some d ∧ ((W.setCell ⟨r, k, none⟩ u).cell? ⟨r, k, none⟩).isSome = true ∧ (W.setCell ⟨r, k, none⟩ u).frozen? ⟨r, k, none⟩ = false := by
  have e : ∀ i, (W.setCell ⟨r, k, none⟩ u).cell? ⟨g, i, none⟩ = W.cell? ⟨g, i, none⟩ := fun i => World.cell?_setCell_other W _ _ u (fun e => hne (by simpa using (congrArg Addr.block e).symm))
  refine ⟨(e _).trans h0, (e _).trans h1, (e _).trans h2, (e _).trans h3, ?_, ?_⟩
  · rw [World.cell?_setCell_same' _ _ _ h4]; rfl
  · rw [← h5]; exact World.frozen?_setCell _ _ _ _

theorem keepT {W : World} {r i j k : Nat} {u a b : Value} (hi : i ≠ k) (hj : j ≠ k) (h0 : W.cell? ⟨r, i, none⟩ = some a) (h1 : W.cell? ⟨r, j, none⟩ = some b) (h4 : (W.cell? ⟨r, k, none⟩).isSome = true) (h5 : W.frozen? ⟨r, k, none⟩ = false) :
    (W.setCell ⟨r, k, none⟩ u).cell? ⟨r, i, none⟩ = some a ∧ (W.setCell ⟨r, k, none⟩ u).cell? ⟨r, j, none⟩ = some b ∧ ((W.setCell ⟨r, k, none⟩ u).cell? ⟨r, k, none⟩).isSome = true ∧ (W.setCell ⟨r, k, none⟩ u).frozen? ⟨r, k, none⟩ = false := by
  have e : ∀ i, i ≠ k → (W.setCell ⟨r, k, none⟩ u).cell? ⟨r, i, none⟩ = W.cell? ⟨r, i, none⟩ := fun i hi => World.cell?_setCell_other W _ _ u (fun e => hi (by simpa using (congrArg Addr.off e).symm))
  refine ⟨(e _ hi).trans h0, (e _ hj).trans h1, ?_, ?_⟩
  · rw [World.cell?_setCell_same' _ _ _ h4]; rfl
  · rw [← h5]; exact World.frozen?_setCell _ _ _ _

theorem info64 : (Tryd.prog.info? 79).map (·.size) = some 64 := by kernel_rfl
theorem info8 : (Tryd.prog.info? 37).map (·.size) = some 8 := by kernel_rfl

set_option maxRecDepth 100000 in
set_option maxHeartbeats 4000000 in
theorem words_any (gb ob c : Nat) (l : List UInt8) (w : World) (hl : l.length = 64) (hc : 64 ≤ c ∧ c ≤ maxLen) (hgb : gb < w.heap.size) (hA : ∀ i (h : i < l.length), w.cell? ⟨gb, ob + i, none⟩ = some (.int .u8 (l[i].toNat : Int))) :
    Calls Tryd.prog 38 #[.slice (some ⟨gb, ob, none⟩) 64 c] w fun e w' => e = .returned (.agg ((words l).map fun (x : Nat) => Value.int .u32 (x : Int)).toArray) ∧ New w w' := by
  have HA := Lib.hid hA
  have HL := Lib.hid hl
  obtain ⟨VS, hVS⟩ : ∃ VS, ((words l).map fun (x : Nat) => Value.int .u32 (x : Int)).toArray = VS := ⟨_, rfl⟩
  rw [hVS]
  have HVS := Lib.hid hVS
  clear hVS
  have hc1 := hc.1
  have hcm : (c : Int) ≤ 9223372036854775807 := by have := hc.2; unfold maxLen at this; omega
  clear hA hl hc
  go_enter Tryd.func38, Tryd.ntmps38
  go_wp2
  go_loopw [4, 5, 11] (fun _ _ i wr => ∃ k : Nat, k ≤ 16 ∧ i = .int .i64 k ∧ WS w ((first l).take k) wr) (fun _ _ i _ => 16 - (intOf i).toNat)
  case atStart => exact ⟨0, Nat.zero_le _, rfl, WS.start w _ _ rfl rfl⟩
  case round =>
    obtain ⟨k, hk, rfl, hws⟩ := hrel
    have HW := Lib.hid hws
    clear hws
    by_cases hlt : k < 16
    · have hlt' : (k : Int) < 16 := by omega
      have h3 : 4 * k + 3 < l.length := by rw [HL.out]; omega
      have hget : ∀ i (h : i < l.length), wr.cell? ⟨gb, ob + i, none⟩ = some (.int .u8 (l[i].toNat : Int)) := fun i h => (HW.out.new.cell (p := ⟨gb, ob + i, none⟩) hgb).trans (HA.out i h)
      have q0 := hget (4 * k) (by omega)
      have q1 := hget (4 * k + 1) (by omega)
      have q2 := hget (4 * k + 2) (by omega)
      have q3 := hget (4 * k + 3) (by omega)
      rw [← Nat.add_assoc] at q1 q2 q3
      have HV := Lib.hid (word_at l k h3)
      generalize l[4 * k] = b0 at *
      generalize l[4 * k + 1] = b1 at *
      generalize l[4 * k + 2] = b2 at *
      generalize l[4 * k + 3] = b3 at *
      obtain ⟨v0, hv0⟩ := HW.out.there (i := k) (by omega)
      have hfz := HW.out.frozen k
      have hck : 4 * (k : Int) + 4 ≤ (c : Int) := by omega
      clear hget
      have h44 : 4 * k + 4 - 4 * k = 4 := by omega
      have hk64 : (k : Int) < 64 := by omega
      have hv1 : (wr.cell? ⟨w.heap.size + 1, k, none⟩).isSome = true := by rw [hv0]; rfl
      have hne : gb ≠ w.heap.size + 1 := by omega
      have t0 := b0.toNat_lt
      have t1 := b1.toNat_lt
      have t2 := b2.toNat_lt
      have t3 := b3.toNat_lt
      go_wp2
      go_region_held3 (fun w' => w'.cell? ⟨gb, ob + 4 * k, none⟩ = some (.int .u8 (b0.toNat : Int)) ∧ w'.cell? ⟨gb, ob + 4 * k + 1, none⟩ = some (.int .u8 (b1.toNat : Int)) ∧ w'.cell? ⟨gb, ob + 4 * k + 2, none⟩ = some (.int .u8 (b2.toNat : Int)) ∧ w'.cell? ⟨gb, ob + 4 * k + 3, none⟩ = some (.int .u8 (b3.toNat : Int)) ∧ (w'.cell? ⟨w.heap.size + 1, k, none⟩).isSome = true ∧ w'.frozen? ⟨w.heap.size + 1, k, none⟩ = false)
        (first | exact keep4 hne (by assumption) (by assumption) (by assumption) (by assumption) (by assumption) (by assumption) | go_keep)
        (fail)
      go_wp2_with fail
      go_roundw
      case rel =>
        refine ⟨k + 1, by omega, by go_num, ?_⟩
        rw [or4 _ _ _ _ t0 t1 t2 t3, ← HV.out, first_take l k hlt]
        exact (HW.out.set k (by rw [List.length_take, first_length]; omega) (by omega) _).drew
      case measure => simp [intOf]; omega
    · obtain rfl : k = 16 := by omega
      have hw0 := HW.out
      rw [List.take_of_length_le (by rw [first_length]; omega)] at hw0
      have HW0 := Lib.hid hw0
      clear hw0 HW
      go_wp2
      go_loopw [6, 7, 8, 9, 10] (fun i _ _ _ _ wr => ∃ t : Nat, 16 ≤ t ∧ t ≤ 64 ∧ i = .int .i64 t ∧ WS w (more (first l) (t - 16)) wr) (fun i _ _ _ _ _ => 64 - (intOf i).toNat)
      case atStart => exact ⟨16, Nat.le_refl _, by omega, rfl, HW0.out⟩
      case round =>
        clear HW0
        obtain ⟨t, ht0, ht, rfl, hws⟩ := hrel
        have HW := Lib.hid hws
        clear hws
        have hml : (more (first l) (t - 16)).length = t := by rw [more_length, first_length]; omega
        have HML := Lib.hid hml
        by_cases hlt2 : t < 64
        · have hmx := more_lt _ (first_lt l) (t - 16)
          have HN := Lib.hid (next_at (more (first l) (t - 16)) t ht0 hml)
          have q15 := HW.out.at_ (i := t - 15) (by omega)
          have q2 := HW.out.at_ (i := t - 2) (by omega)
          have q16 := HW.out.at_ (i := t - 16) (by omega)
          have q7 := HW.out.at_ (i := t - 7) (by omega)
          have l15 := hmx _ (List.getElem_mem (show t - 15 < (more (first l) (t - 16)).length by omega))
          have l2 := hmx _ (List.getElem_mem (show t - 2 < (more (first l) (t - 16)).length by omega))
          have l16 := hmx _ (List.getElem_mem (show t - 16 < (more (first l) (t - 16)).length by omega))
          have l7 := hmx _ (List.getElem_mem (show t - 7 < (more (first l) (t - 16)).length by omega))
          obtain ⟨v0, hv0⟩ := HW.out.there (i := t) hlt2
          have hfz := HW.out.frozen t
          generalize (more (first l) (t - 16))[t - 15]'(by omega) = x at *
          generalize (more (first l) (t - 16))[t - 2]'(by omega) = y at *
          generalize (more (first l) (t - 16))[t - 16]'(by omega) = a at *
          generalize (more (first l) (t - 16))[t - 7]'(by omega) = b at *
          have hs0 := sg0_val x l15
          have hs1 := sg1_val y l2
          have HT7 := Lib.hid (turned_7 x l15)
          have HT18 := Lib.hid (turned_18 x l15)
          have HT17 := Lib.hid (turned_17 y l2)
          have HT19 := Lib.hid (turned_19 y l2)
          have b0 := sg0_lt x l15
          have b1 := sg1_lt y l2
          generalize sg0 x = z0 at *
          generalize sg1 y = z1 at *
          generalize rotr x 7 = r7 at *
          generalize rotr x 18 = r18 at *
          generalize rotr y 17 = r17 at *
          generalize rotr y 19 = r19 at *
          have i15 : ((t - 15 : Nat) : Int) < 64 := by omega
          have j15 : IntKind.i64.wrap ((t : Int) - 15) = ((t - 15 : Nat) : Int) := by rw [IntWalk.i64_in _ ⟨by omega, by omega⟩]; omega
          have i2 : ((t - 2 : Nat) : Int) < 64 := by omega
          have j2 : IntKind.i64.wrap ((t : Int) - 2) = ((t - 2 : Nat) : Int) := by rw [IntWalk.i64_in _ ⟨by omega, by omega⟩]; omega
          have i16 : ((t - 16 : Nat) : Int) < 64 := by omega
          have j16 : IntKind.i64.wrap ((t : Int) - 16) = ((t - 16 : Nat) : Int) := by rw [IntWalk.i64_in _ ⟨by omega, by omega⟩]; omega
          have i7 : ((t - 7 : Nat) : Int) < 64 := by omega
          have j7 : IntKind.i64.wrap ((t : Int) - 7) = ((t - 7 : Nat) : Int) := by rw [IntWalk.i64_in _ ⟨by omega, by omega⟩]; omega
          have hv1 : (wr.cell? ⟨w.heap.size + 1, t, none⟩).isSome = true := by rw [hv0]; rfl
          clear hmx hml
          go_wp2
          go_region_held3 (fun w' => w'.cell? ⟨w.heap.size + 1, t - 15, none⟩ = some (.int .u32 (x : Int)) ∧ w'.cell? ⟨w.heap.size + 1, t - 2, none⟩ = some (.int .u32 (y : Int)))
            (go_keep)
            (fail)
          go_wp2_with (first
            | (go_at_call 65; (with_reducible refine (HT7.out _).mono ?_); rintro e w1 ⟨rfl, rfl⟩)
            | (go_at_call 65; (with_reducible refine (HT18.out _).mono ?_); rintro e w1 ⟨rfl, rfl⟩)
            | (go_at_call 65; (with_reducible refine (HT17.out _).mono ?_); rintro e w1 ⟨rfl, rfl⟩)
            | (go_at_call 65; (with_reducible refine (HT19.out _).mono ?_); rintro e w1 ⟨rfl, rfl⟩))
          have hne16 : t - 16 ≠ t := by omega
          have it64 : (t : Int) < 64 := by omega
          have hne7 : t - 7 ≠ t := by omega
          go_region_held3 (fun w' => w'.cell? ⟨w.heap.size + 1, t - 16, none⟩ = some (.int .u32 (a : Int)) ∧ w'.cell? ⟨w.heap.size + 1, t - 7, none⟩ = some (.int .u32 (b : Int)) ∧ (w'.cell? ⟨w.heap.size + 1, t, none⟩).isSome = true ∧ w'.frozen? ⟨w.heap.size + 1, t, none⟩ = false)
            (first | exact keepT hne16 hne7 (by assumption) (by assumption) (by assumption) (by assumption) | go_keep)
            (fail)
          go_wp2_with fail
          go_roundw
          case rel =>
            (repeat apply Exists.intro)
            refine ⟨?_, rfl⟩
            refine ⟨t + 1, by omega, by omega, by go_num, ?_⟩
            have hN := HW.out.set t HML.out.symm hlt2 (next (more (first l) (t - 16)) t)
            rw [HN.out] at hN
            rw [show t + 1 - 16 = t - 16 + 1 by omega, more, show 16 + (t - 16) = t by omega, HN.out]
            have e : (((((a : Int) + (z0 : Int)) % 4294967296 + (b : Int)) % 4294967296 + (z1 : Int)) % 4294967296) = ((lo (a + z0 + b + z1) : Nat) : Int) := by
              unfold lo
              omega
            rw [e]
            exact hN.drew.drew
          case measure => simp [intOf]; omega
        · obtain rfl : t = 64 := by omega
          obtain ⟨hn, ⟨old, ho, hos⟩, cs, hcs, hs, hv⟩ := HW.out
          have hVS := HVS.out
          obtain rfl : cs = VS := by
            rw [← hVS]
            refine Array.ext (by simp [hs, words_length]) fun i h1 h2 => ?_
            have h3 : i < (words l).length := by rw [words_length]; omega
            have h4 := hv i h3
            rw [Array.getElem?_eq_getElem h1] at h4
            simp only [List.getElem_toArray, List.getElem_map]
            exact Option.some.inj h4
          have ei : (Tryd.prog.info? 79).map (·.size) = some cs.size := by rw [hs]; exact info64
          have h1 : cs.all (·.oneCell') = true := by rw [← hVS]; simp [Value.oneCell']
          have HO := Lib.hid ho
          have HOS : Hid (old.size = cs.size) := Lib.hid (by rw [hos, hs])
          have HCS := Lib.hid hcs
          have HEI := Lib.hid ei
          have H1 := Lib.hid h1
          have HN := Lib.hid hn
          clear hn ho hos hcs hs hv hVS ei h1 HW HA HL HML HVS
          go_wp2_with (first
            | (refine wpList_load_row rfl 79 _ rfl (w.heap.size + 1) rfl 79 cs (0, 0) _ HCS.out Tryd.underlying79 rfl HEI.out ?_)
            | (refine wpList_store_row rfl 79 _ _ rfl w.heap.size cs rfl rfl 79 _ HO.out HEI.out HOS.out H1.out ?_))
          refine bodyPost_ret (results_cell_row rfl _ _ w.heap.size 79 _ (0, 0) _ rfl (setRow_heap _ _ _ _ _ _ HO.out) Tryd.underlying79 rfl HEI.out) rfl ?_
          exact ⟨rfl, below_setRow HN.out (Nat.le_refl _) _⟩
end Go.Proofs.YtnmjgbkifglleaaDoor.sha
