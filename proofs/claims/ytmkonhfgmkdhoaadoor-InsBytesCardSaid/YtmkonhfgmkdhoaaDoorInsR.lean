/-
  Contracts of ins: Get.
-/
import Derived.Test.YtmkonhfgmkdhoaaDoorInsQ
import Derived.Test.YtmkonhfgmkdhoaaDoorInsP
import Derived.Stop.BytesEq
namespace Go.Proofs.YtmkonhfgmkdhoaaDoor.ins
open Go.RowKit Go.Shelf Go.Proofs.YtmkonhfgmkdhoaaDoor.mem Go.Proofs.YtmkonhfgmkdhoaaDoor.kit Go.Proofs.YtmkonhfgmkdhoaaDoor.rng
set_option linter.unusedVariables false
attribute [local go_sem] Oper.semAt_some

def GetD (w : World) (l : List UInt8) (e : Ending) (w' : World) : Prop :=
  ∃ A c, e = .returned (.tuple #[.slice A (getL l).length c, .int .i64 (getE l)]) ∧ w'.ownsRow w.heap.size 37 8 (.slice A (getL l).length c) (getL l).length (vi (getL l)) ∧ New w w'
theorem getD_no {w w' : World} {l : List UInt8} {x : Int} (hE : getE l = x) (hx : x ≠ 0) (hn : New w w') : GetD w l (.returned (.tuple #[.slice none 0 0, .int .i64 x])) w' := by
  have hL : getL l = [] := by simp only [getL]; rw [if_neg (by rw [hE]; exact hx)]
  refine ⟨none, 0, ?_, ?_, hn⟩
  · rw [hL, hE]; rfl
  · rw [hL]; exact World.ownsRow_nil _ _ _ _

theorem chunk_any (A : Option Addr) (n c : Nat) (w : World) : Calls Tryd.prog 23 #[.slice A n c, .int .i64 8] w fun e w' =>
    e = .returned (.func (.func 40) #[] #[.pointer (some ⟨w.heap.size, 0, none⟩), .pointer (some ⟨w.heap.size + 1, 0, none⟩)]) ∧ w' = (w.alloc (.cells #[.slice A n c] 23)).alloc (.cells #[.int .i64 8] 3) := by
  go_enter Tryd.func23, Tryd.ntmps23
  go_wp2
  go_ret
  exact ⟨rfl, rfl⟩

theorem keeps_new {W W' : World} (h : New W W') : KeepsOthers W W' := ⟨h.size, fun k o hk _ => (h.block k (Array.getElem?_eq_some_iff.1 hk).1).trans hk⟩

theorem len8 : ∀ (l : List UInt8), l.length = 8 → ∃ z0 z1 z2 z3 z4 z5 z6 z7, l = [z0, z1, z2, z3, z4, z5, z6, z7]
  | [z0, z1, z2, z3, z4, z5, z6, z7], _ => ⟨z0, z1, z2, z3, z4, z5, z6, z7, rfl⟩

/-- A piece's eight cells. -/
theorem piece_at {w : World} {l : List UInt8} {n g o x : Nat} (h : Reads w w.heap.size 1 (some ⟨g, o, none⟩) n (vb l)) (hn : n = l.length) (hx : 8 * x + 8 ≤ n) : g < w.heap.size ∧ ∃ z0 z1 z2 z3 z4 z5 z6 z7, pc l x = [z0, z1, z2, z3, z4, z5, z6, z7] ∧
    w.cell? ⟨g, o + 8 * x, none⟩ = some (yc z0) ∧ w.cell? ⟨g, o + 8 * x + 1, none⟩ = some (yc z1) ∧ w.cell? ⟨g, o + 8 * x + 2, none⟩ = some (yc z2) ∧ w.cell? ⟨g, o + 8 * x + 3, none⟩ = some (yc z3) ∧ w.cell? ⟨g, o + 8 * x + 4, none⟩ = some (yc z4) ∧ w.cell? ⟨g, o + 8 * x + 5, none⟩ = some (yc z5) ∧ w.cell? ⟨g, o + 8 * x + 6, none⟩ = some (yc z6) ∧ w.cell? ⟨g, o + 8 * x + 7, none⟩ = some (yc z7) := by
  obtain ⟨ad, e, hb, hc⟩ := h.2 (by omega)
  injection e with e
  subst e
  refine ⟨hb, ?_⟩
  obtain ⟨z0, z1, z2, z3, z4, z5, z6, z7, hz⟩ := len8 (pc l x) (pc_length l x (by omega))
  have hj : ∀ j, j < 8 → w.cell? ⟨g, o + 8 * x + j, none⟩ = (vb (pc l x))[j]? := fun j hj => by
    have hlt : 8 * x + j < l.length := by omega
    have h1 := hc (8 * x + j) (yc l[8 * x + j]) (by rw [vb_get l _ hlt])
    rw [Addr.add_lit, ← Nat.add_assoc] at h1
    rw [h1, vb_get (pc l x) j (by rw [pc_length l x (by omega)]; exact hj)]
    simp [pc]
  refine ⟨z0, z1, z2, z3, z4, z5, z6, z7, hz, ?_, ?_, ?_, ?_, ?_, ?_, ?_, ?_⟩
  · have := hj 0 (by omega); rw [hz] at this; exact this
  · have := hj 1 (by omega); rw [hz] at this; exact this
  · have := hj 2 (by omega); rw [hz] at this; exact this
  · have := hj 3 (by omega); rw [hz] at this; exact this
  · have := hj 4 (by omega); rw [hz] at this; exact this
  · have := hj 5 (by omega); rw [hz] at this; exact this
  · have := hj 6 (by omega); rw [hz] at this; exact this
  · have := hj 7 (by omega); rw [hz] at this; exact this

theorem yc_le (y : UInt8) : 0 ≤ (y.toNat : Int) ∧ (y.toNat : Int) ≤ 255 := by have := y.toNat_lt; omega
theorem insOf_x (z0 z1 z2 z3 z4 z5 z6 z7 : UInt8) (o : Int) (n : Bool) (d s : Int) (u : Bool) (f m z : Int) (h : inOf [z0, z1, z2, z3, z4, z5, z6, z7] = ⟨o, n, d, s, u, f, m, z⟩) (w : World) :
    Calls Tryd.prog 24 #[.agg #[yc z0, yc z1, yc z2, yc z3, yc z4, yc z5, yc z6, yc z7]] w fun e w' => e = .returned (.agg #[.int .u8 o, .bool n, .int .i64 d, .int .i64 s, .bool u, .int .i64 f, .int .i64 m, .int .i64 z]) ∧ New w w' := by
  have H := insOf_any _ _ _ _ _ _ _ _ w (yc_le z0).1 (yc_le z0).2 (yc_le z1).1 (yc_le z1).2 (yc_le z2).1 (yc_le z2).2 (yc_le z3).1 (yc_le z3).2 (yc_le z4).1 (yc_le z4).2 (yc_le z5).1 (yc_le z5).2 (yc_le z6).1 (yc_le z6).2 (yc_le z7).1 (yc_le z7).2
  have e : inN (z0.toNat : Int) (z1.toNat : Int) (z2.toNat : Int) (z3.toNat : Int) (z4.toNat : Int) (z5.toNat : Int) (z6.toNat : Int) (z7.toNat : Int) = ⟨o, n, d, s, u, f, m, z⟩ := h
  rw [e] at H
  exact H
theorem eq_arr (y0 y1 y2 y3 y4 y5 y6 y7 z0 z1 z2 z3 z4 z5 z6 z7 : UInt8) (E : Bool) (hE : ([y0, y1, y2, y3, y4, y5, y6, y7] == [z0, z1, z2, z3, z4, z5, z6, z7]) = E) (w : World) :
    (Op.equalIn 10000 43 (.agg #[yc y0, yc y1, yc y2, yc y3, yc y4, yc y5, yc y6, yc y7]) (.agg #[yc z0, yc z1, yc z2, yc z3, yc z4, yc z5, yc z6, yc z7])).run Tryd.prog w = .ok E w := by
  rw [← hE]
  exact run_equalIn_bytes w 9998 43 5 8 Tryd.underlying43 Tryd.underlying5 (fun w => by kernel_rfl) [y0, y1, y2, y3, y4, y5, y6, y7] [z0, z1, z2, z3, z4, z5, z6, z7] rfl rfl

theorem bad_at {l : List UInt8} {x : Nat} (hx : x < (pcs l).length) (h : one (pc l x) = false) : (pcs l).all one = false := by
  rw [Bool.eq_false_iff]
  intro ha
  rw [List.all_eq_true] at ha
  have := ha _ (List.getElem_mem hx)
  rw [pcs_get, h] at this
  cases this
theorem ones_snoc {l : List UInt8} {x : Nat} (hx : x < (pcs l).length) (h : one (pc l x) = true) (ha : ((pcs l).take x).all one = true) : ((pcs l).take (x + 1)).all one = true := by
  rw [← List.take_append_getElem hx, List.all_append, ha, pcs_get]
  simp [h]
theorem vis_snoc {l : List UInt8} {x : Nat} (hx : x < (pcs l).length) : vi (((pcs l).take (x + 1)).map inOf) = vi (((pcs l).take x).map inOf) ++ vi [inOf (pc l x)] := by
  rw [← List.take_append_getElem hx, List.map_append, vi_append, pcs_get]
  rfl
theorem blk_ogrown {w w' : World} {g : Nat} {t e : TypeId} {cs : Array Value} {base size k : Nat} {v : Value} {xs : List Value} (h : Blk w g t cs) (ho : w.ownsRow base e size v k xs) (hne : e ≠ t) (hg : w.grownBy w' v.ownBlock) : Blk w' g t cs :=
  Blk.grown h hg (fun e' => own_blk_ne ho h hne e'.symm)

theorem gx_make {w W : World} {l : List UInt8} {v5 : Value} {k : Nat} (h : GS w l v5 k W) (hb : (pcs l).all one = false) :
    GX w l ((W.setCell ⟨w.heap.size, 0, none⟩ (.slice none 0 0)).setCell ⟨w.heap.size + 1, 0, none⟩ (.int .i64 4)) :=
  ⟨Below.setCell (Below.setCell h.new (p := ⟨w.heap.size, 0, none⟩) (Nat.le_refl _) _) (p := ⟨w.heap.size + 1, 0, none⟩) (Nat.le_succ _) _,
   (h.b2.set_ 0 (.slice none 0 0)).far (p := ⟨w.heap.size + 1, 0, none⟩) (by simp) _,
   (h.b3.far (p := ⟨w.heap.size, 0, none⟩) (by simp) _).set_ 0 (.int .i64 4), hb⟩
theorem kx_make {W w4 : World} (hn : New W w4) (a b : Addr) (u v : Value) : KeepsOthers W ((w4.setCell a u).setCell b v) :=
  ((keeps_new hn).trans (KeepsOthers.setCell _ _ _)).trans (KeepsOthers.setCell _ _ _)
theorem one_eq {l : List UInt8} {k : Nat} {x : In} {B E : Bool} {p q : List UInt8} (hX : inOf (pc l k) = x) (hB : ok x = B) (hY : bs x = q) (hZ : pc l k = p) (hE : (q == p) = E) : one (pc l k) = (B && E) := by
  unfold one
  rw [hX, hB, hY, hZ, ← hE]
  congr 1
  rw [Bool.eq_iff_iff]
  simp
theorem new_ins (w : World) (t : TypeId) (o : Int) (n : Bool) (d s : Int) (u : Bool) (f m z : Int) : ∀ (j : Nat) (v : Value), (vi [⟨o, n, d, s, u, f, m, z⟩])[j]? = some v → (w.alloc (.cells #[.int .u8 o, .bool n, .int .i64 d, .int .i64 s, .bool u, .int .i64 f, .int .i64 m, .int .i64 z] t)).cell? ((⟨w.heap.size, 0, none⟩ : Addr).add j) = some v := by
  obtain ⟨ad, e, _, hc⟩ := (reads_ins w t o n d s u f m z).2 (by omega)
  injection e with e
  subst e
  exact hc
theorem own_isCells {W : World} {base n size : Nat} {e : TypeId} {v : Value} {xs : List Value} (h : W.ownsRow base e size v n xs) (j : Nat) (o : Obj) (hj : v.ownBlock = some j) (ho : W.heap[j]? = some o) : o.isCells = true := by
  cases hc : o.isCells with
  | true => rfl
  | false => exact absurd rfl (own_ne h ho hc j hj)
theorem GS.push {w W W5 w6 : World} {l : List UInt8} {v5 v4 v' : Value} {k : Nat} (h : GS w l v5 k W5) (hn : New W W5) (hb4 : Blk W5 (w.heap.size + 2) 22 #[v4]) (hrow : W5.ownsRow w.heap.size 37 8 v4 k (vi (((pcs l).take k).map inOf))) (ob : Obj)
    (hown : w6.ownsRow w.heap.size 37 8 v' (k + 1) (vi (((pcs l).take k).map inOf) ++ vi [inOf (pc l k)])) (hg : (W5.alloc ob).grownBy w6 v4.ownBlock) (h3 : k < (pcs l).length) (h1 : one (pc l k) = true) :
    KeepsOthers W (w6.setCell ⟨w.heap.size + 2, 0, none⟩ v') ∧ GS w l v5 (k + 1) (w6.setCell ⟨w.heap.size + 2, 0, none⟩ v') := by
  have hra := hrow.alloc ob
  have c2 := blk_ogrown (h.b2.alloc ob) hra (by decide) hg
  have c3 := blk_ogrown (h.b3.alloc ob) hra (by decide) hg
  have c4 := blk_ogrown (hb4.alloc ob) hra (by decide) hg
  have c5 := blk_ogrown (h.b5.alloc ob) hra (by decide) hg
  have c6 := blk_ogrown (h.b6.alloc ob) hra (by decide) hg
  have hN6 : New w w6 := (h.new.alloc h.new.size ob).grown hg (h.new.alloc h.new.size ob).size (fun j hj => (hra.lt j hj).1)
  refine ⟨(((keeps_new hn).trans (KeepsOthers.alloc W5 ob)).trans (KeepsOthers.of_grownBy hg (fun j o hj ho => own_isCells hra j o hj ho))).trans (KeepsOthers.setCell _ _ _), ?_⟩
  refine ⟨Below.setCell hN6 (p := ⟨w.heap.size + 2, 0, none⟩) (by show w.heap.size ≤ w.heap.size + 2; omega) _, c2.far (p := ⟨w.heap.size + 2, 0, none⟩) (by simp) _, c3.far (p := ⟨w.heap.size + 2, 0, none⟩) (by simp) _, ⟨v', c4.set_ 0 v', ?_⟩, c5.far (p := ⟨w.heap.size + 2, 0, none⟩) (by simp) _, c6.far (p := ⟨w.heap.size + 2, 0, none⟩) (by simp) _, ones_snoc h3 h1 h.ones, h3⟩
  rw [vis_snoc h3]
  exact own_ch hown ((Ch.refl (fun j => j = w.heap.size + 2) w6).setCell (p := ⟨w.heap.size + 2, 0, none⟩) (fun _ => rfl) v') (fun j hj e => own_blk_ne hown c4 (by decide) (hj.trans (congrArg some e)))
end Go.Proofs.YtmkonhfgmkdhoaaDoor.ins
