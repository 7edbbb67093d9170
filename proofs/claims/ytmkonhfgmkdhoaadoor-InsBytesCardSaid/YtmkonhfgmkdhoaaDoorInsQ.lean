/-
  slices.Chunk over bytes: its iterator, walked; eight bytes' pieces.
-/
import Derived.Test.YtmkonhfgmkdhoaaDoorRangeS
import Derived.Test.YtmkonhfgmkdhoaaDoorInsH
import Derived.Test.YtmkonhfgmkdhoaaDoorInsN
import Derived.Deep.RegionHeld3
namespace Go.Proofs.YtmkonhfgmkdhoaaDoor.ins
open Go.RowKit Go.Shelf Go.Proofs.YtmkonhfgmkdhoaaDoor.mem Go.Proofs.YtmkonhfgmkdhoaaDoor.kit Go.Proofs.YtmkonhfgmkdhoaaDoor.rng
set_option linter.unusedVariables false
attribute [local go_sem] Oper.semAt_some

theorem cells_ne {W : World} {b : Nat} {t : TypeId} {cs : Array Value} (h : Blk W b t cs) {l : Nat} {o : Obj} (hl : W.heap[l]? = some o) (ho : o.isCells = false) : b ≠ l := by
  rintro rfl
  unfold Blk at h
  rw [h] at hl
  injection hl with hl
  subst hl
  cases ho
theorem own_ne {W : World} {base n size : Nat} {e : TypeId} {v : Value} {xs : List Value} (h : W.ownsRow base e size v n xs) {l : Nat} {o : Obj} (hl : W.heap[l]? = some o) (ho : o.isCells = false) : ∀ j, v.ownBlock = some j → ¬ j = l := by
  rintro j hj rfl
  rcases h.2 with ⟨rfl, _⟩ | ⟨g, cap, cur, rfl, _, hg, _⟩
  · simp [Value.ownBlock] at hj
  · have : g = j := by simpa [Value.ownBlock] using hj
    subst this
    rw [hg] at hl
    injection hl with hl
    subst hl
    cases ho
theorem ch_put {W : World} {l : Nat} (o' : Obj) : Ch (fun j => j = l) W (W.putObj l o') :=
  ⟨rfl, rfl, rfl, by simp, fun k _ hn => World.putObj_heap_other hn⟩
theorem blk_put {W : World} {b : Nat} {t : TypeId} {cs : Array Value} (h : Blk W b t cs) {l : Nat} {o : Obj} (o' : Obj) (hl : W.heap[l]? = some o) (ho : o.isCells = false) : Blk (W.putObj l o') b t cs :=
  h.ch (ch_put o') (cells_ne h hl ho)
theorem new_put {w0 W : World} {l : Nat} (o' : Obj) (h : New w0 W) (hl : w0.heap.size ≤ l) : New w0 (W.putObj l o') :=
  ((Ch.of_new (S := fun j => j = l) h).then (ch_put o') (fun i hi e => e)).below (Nat.le_refl _) (fun k hk e => by have e' : k = l := e; omega)

/-- Eight bytes' pieces. -/
def pc (l : List UInt8) (k : Nat) : List UInt8 := (l.drop (8 * k)).take 8
def pcs (l : List UInt8) : List (List UInt8) := (List.range (l.length / 8)).map (pc l)
theorem pcs_length (l : List UInt8) : (pcs l).length = l.length / 8 := by simp [pcs]
theorem pcs_get (l : List UInt8) (k : Nat) (h : k < (pcs l).length) : (pcs l)[k] = pc l k := by simp [pcs]
theorem pc_length (l : List UInt8) (k : Nat) (h : 8 * k + 8 ≤ l.length) : (pc l k).length = 8 := by simp [pc]; omega
def getE (l : List UInt8) : Int := if 32768 < l.length then 3 else if l.length % 8 ≠ 0 then 4 else if (pcs l).all one then 0 else 4
def getL (l : List UInt8) : List In := if getE l = 0 then (pcs l).map inOf else []

/-- The iterator's caller, while it goes on: its variables, and the iterator's. -/
structure GS (w : World) (l : List UInt8) (v5 : Value) (k : Nat) (W : World) : Prop where
  new : New w W
  b2 : Blk W w.heap.size 22 #[.slice none 0 0]
  b3 : Blk W (w.heap.size + 1) 27 #[.int .i64 0]
  b4 : ∃ v, Blk W (w.heap.size + 2) 22 #[v] ∧ W.ownsRow w.heap.size 37 8 v k (vi (((pcs l).take k).map inOf))
  b5 : Blk W (w.heap.size + 3) 23 #[v5]
  b6 : Blk W (w.heap.size + 4) 3 #[.int .i64 8]
  ones : ((pcs l).take k).all one = true
  le : k ≤ (pcs l).length
theorem GS.keep {w W W' : World} {l : List UInt8} {v5 : Value} {k : Nat} (h : GS w l v5 k W) (hn : New W W') : GS w l v5 k W' := by
  obtain ⟨v, h4, h4'⟩ := h.b4
  exact ⟨New.then h.new hn, h.b2.below hn h.b2.lt, h.b3.below hn h.b3.lt, ⟨v, h4.below hn h4.lt, own_new h4' hn⟩, h.b5.below hn h.b5.lt, h.b6.below hn h.b6.lt, h.ones, h.le⟩
theorem GS.put {w W : World} {l : List UInt8} {v5 : Value} {k : Nat} (h : GS w l v5 k W) {j : Nat} {o : Obj} (o' : Obj) (hj : w.heap.size ≤ j) (hl : W.heap[j]? = some o) (ho : o.isCells = false) : GS w l v5 k (W.putObj j o') := by
  obtain ⟨v, h4, h4'⟩ := h.b4
  exact ⟨new_put o' h.new hj, blk_put h.b2 o' hl ho, blk_put h.b3 o' hl ho, ⟨v, blk_put h4 o' hl ho, own_ch h4' (ch_put o') (own_ne h4' hl ho)⟩, blk_put h.b5 o' hl ho, blk_put h.b6 o' hl ho, h.ones, h.le⟩
/-- It was left by a return. -/
structure GX (w : World) (l : List UInt8) (W : World) : Prop where
  new : New w W
  b2 : Blk W w.heap.size 22 #[.slice none 0 0]
  b3 : Blk W (w.heap.size + 1) 27 #[.int .i64 4]
  bad : (pcs l).all one = false
theorem GX.put {w W : World} {l : List UInt8} (h : GX w l W) {j : Nat} {o : Obj} (o' : Obj) (hj : w.heap.size ≤ j) (hl : W.heap[j]? = some o) (ho : o.isCells = false) : GX w l (W.putObj j o') :=
  ⟨new_put o' h.new hj, blk_put h.b2 o' hl ho, blk_put h.b3 o' hl ho, h.bad⟩

theorem bk_new {l D : Nat} {R : Loop} {W W' : World} (h : Bk l D R W) (hn : New W W') : Bk l D R W' :=
  ⟨(hn.block l (Array.getElem?_eq_some_iff.1 h.1).1).trans h.1, (hn.block D (Array.getElem?_eq_some_iff.1 h.2).1).trans h.2⟩

set_option maxRecDepth 100000 in
set_option maxHeartbeats 4000000 in
theorem chunk_in (w : World) (l : List UInt8) (A : Option Addr) (n c g o : Nat) (hn : n = l.length) (hl : n ≤ 32768) (h8 : n % 8 = 0) (hA : 0 < n → A = some ⟨g, o, none⟩) (hc : n ≤ c ∧ c ≤ maxLen) (lp D : Nat) (R R' : Loop) (W : World)
    (hY : ∀ (pre : List Nat) (x : Nat) (W1 : World), (GS w l (.slice A n c) pre.length W1 ∧ x = pre.length ∧ pre.length < (pcs l).length) → Bk lp D R W1 → YieldAt Fence.wide (3 - 1 - 1) Tryd.prog lp #[.slice (some ⟨g, o + 8 * x, none⟩) 8 8] W1 fun e W' => ∃ b : Bool, e = .returned (.bool b) ∧ (b = true → GS w l (.slice A n c) (pre ++ [x]).length W' ∧ Bk lp D R W') ∧ (b = false → GX w l W' ∧ Bk lp D R' W'))
    (h0 : GS w l (.slice A n c) 0 W) (hb : Bk lp D R W) :
    CallsIn Fence.wide (3 - 1) Tryd.prog 40 (#[] ++ #[.func (.yield lp) #[] #[]] ++ #[.pointer (some ⟨w.heap.size + 3, 0, none⟩), .pointer (some ⟨w.heap.size + 4, 0, none⟩)]) W fun e W' => (∃ v, e = .returned v) ∧ ((∃ xs : List Nat, xs.length = (pcs l).length ∧ GS w l (.slice A n c) xs.length W' ∧ Bk lp D R W') ∨ (∃ xs : List Nat, GX w l W' ∧ Bk lp D R' W')) := by
  refine callsIn_wide.2 ?_
  have HY := Lib.hid hY
  have H0 := Lib.hid h0
  have HB := Lib.hid hb
  have HN := Lib.hid hn
  have HA := Lib.hid hA
  have HL : Hid ((pcs l).length * 8 = n) := Lib.hid (by rw [pcs_length, ← hn]; omega)
  obtain ⟨hc1, hc2⟩ := hc
  unfold maxLen at hc2
  clear hY h0 hb hn hA h8
  show Calls Tryd.prog 40 #[.func (.yield lp) #[] #[], .pointer (some ⟨w.heap.size + 3, 0, none⟩), .pointer (some ⟨w.heap.size + 4, 0, none⟩)] W _
  go_enter Tryd.func40, Tryd.ntmps40
  go_wp2
  go_loopw [4] (fun i wr => ∃ k : Nat, i = .int .i64 ((8 * k : Nat) : Int) ∧ GS w l (.slice A n c) k wr ∧ Bk lp D R wr) (fun i _ => n - (intOf i).toNat)
  case atStart => exact ⟨0, rfl, H0.out, HB.out⟩
  case round =>
    clear H0 HB
    obtain ⟨k, rfl, hgs, hbk⟩ := hrel
    have c5 := hgs.b5.cell 0
    have c6 := hgs.b6.cell 0
    simp only [List.getElem?_toArray, List.getElem?_cons_zero] at c5 c6
    have hkl : 8 * k ≤ n := by have := hgs.le; have := HL.out; omega
    have HGS := Lib.hid hgs
    have HBK := Lib.hid hbk
    clear hgs hbk
    by_cases hlt : 8 * k < n
    · have hk2 : 8 * k + 8 ≤ n := by have := HL.out; have := HGS.out.le; omega
      obtain rfl := HA.out (by omega)
      obtain ⟨i, hi⟩ : ∃ i, 8 * k = i := ⟨_, rfl⟩
      rw [hi] at hlt hk2 hkl ⊢
      have HI := Lib.hid hi
      clear hi
      have e1 : IntKind.i64.wrap ((i : Int) + 8) = (i : Int) + 8 := IntWalk.i64_in _ (by omega)
      have hci : ¬ c = i := by omega
      have n0 : i ≤ n := by omega
      have n1 : (i : Int) ≤ (n : Int) := by omega
      have hmin : min (8 : Int) ((n : Int) - (i : Int)) = 8 := by omega
      have hsz : n - i = (n - i : Nat) := rfl
      go_wp2
      go_region
      have hgs1 := HGS.out.keep (Below.drew (new_refl wr))
      have hbk1 := bk_new HBK.out (Below.drew (new_refl wr))
      have hkp : k < (pcs l).length := by have := HL.out; have := HI.out; omega
      have d5 := hgs1.b5.cell 0
      simp only [List.getElem?_toArray, List.getElem?_cons_zero] at d5
      obtain ⟨fn, tmps, assign, body, hy, hYR⟩ := HY.out (List.replicate k 0) k wr.drew ⟨by rw [List.length_replicate]; exact hgs1, by rw [List.length_replicate], by rw [List.length_replicate]; exact hkp⟩ hbk1
      rw [HI.out] at hy
      rw [List.length_append, List.length_replicate] at hYR
      clear hgs1 hbk1 c5 c6
      generalize wr.drew = w4 at *
      refine (‹∀ (a : Act) (w : World), Code.wp _ _ _ a w → _› : _) _ _ ?_
      refine (wpIn_wide (n := 3 - 1)).1 ?_
      gi_wp2
      refine hYR.mono ?_
      rintro e W5 ⟨b, rfl, hbt, hbf⟩
      cases b
      · obtain ⟨hx, hb5⟩ := hbf rfl
        clear hbt hbf
        gi_wp2
        refine bodyPost_ret (results_none rfl _ _ _) rfl ?_
        exact ⟨⟨_, rfl⟩, .inr ⟨[], hx, hb5⟩⟩
      · obtain ⟨hg5, hb5⟩ := hbt rfl
        clear hbt hbf
        have f6 := hg5.b6.cell 0
        simp only [List.getElem?_toArray, List.getElem?_cons_zero] at f6
        gi_wp2
        have hi8 := HI.out
        go_wp2
        go_roundw
        case rel => exact ⟨k + 1, by rw [show 8 * (k + 1) = i + 8 by omega]; go_num, hg5, hb5⟩
        case measure => simp [intOf]; omega
    · have hkn : 8 * k = n := by omega
      obtain ⟨i, hi⟩ : ∃ i, 8 * k = i := ⟨_, rfl⟩
      rw [hi] at hlt hkn ⊢
      have HI := Lib.hid hi
      clear hi
      subst hkn
      go_wp2
      go_end0
      refine ⟨⟨_, rfl⟩, .inl ⟨List.replicate k 0, ?_, by rw [List.length_replicate]; exact HGS.out, HBK.out⟩⟩
      rw [List.length_replicate]
      have := HL.out
      have := HI.out
      omega
end Go.Proofs.YtmkonhfgmkdhoaaDoor.ins
