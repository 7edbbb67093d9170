/-
  Contracts: what a state becomes by whole blocks.
-/
import Derived.Test.YtnmjgbkifglleaaDoorShaC
namespace Go.Proofs.YtnmjgbkifglleaaDoor.sha
open Go.RowKit Go.Proofs.YtnmjgbkifglleaaDoor.mem
set_option linter.unusedVariables false

section
variable {P : Program} {w : World}
theorem step_load_row {ops : Array Oper} {o : Oper} {a : Act} {K : Act → World → Prop} {Q : Exit → Act → World → Prop} {E : Prop} (hgd : o.guard = none) (ty : TypeId) (x : Operand) (ho : o.op = .load ty x)
    (g : Nat) (hx : a.eval x = .pointer (some ⟨g, 0, none⟩)) (t : TypeId) (cs : Array Value) (fr : Nat × Nat) (d : TypeDesc) (hg : w.heap[g]? = some (.cells cs t fr))
    (hu : P.underlying ty = some d) (hd : (match d with | .struct _ | .array _ _ => true | _ => false) = true) (hi : (P.info? ty).map (·.size) = some cs.size)
    (h : K (a.put o.dst (.agg cs)) w) : if Region.wanted o (yielded ops a.tmps) = true then Oper.wp P o a w K Q else E := by
  have hw : Region.wanted o (yielded ops a.tmps) = true := by simp [Region.wanted, hgd]
  rw [if_pos hw]
  exact wp_load_row ty x ho g hx t cs fr d hg hu hd hi h
theorem step_store_row {ops : Array Oper} {o : Oper} {a : Act} {K : Act → World → Prop} {Q : Exit → Act → World → Prop} {E : Prop} (hgd : o.guard = none) (ty : TypeId) (x y : Operand) (ho : o.op = .store ty x y)
    (g : Nat) (cells : Array Value) (hx : a.eval x = .pointer (some ⟨g, 0, none⟩)) (hy : a.eval y = .agg cells)
    (t : TypeId) (old : Array Value) (hg : w.heap[g]? = some (.cells old t (0, 0))) (hi : (P.info? ty).map (·.size) = some cells.size)
    (hold : old.size = cells.size) (h1 : cells.all (·.oneCell') = true)
    (h : K (a.put o.dst undef) (w.setRow g cells)) : if Region.wanted o (yielded ops a.tmps) = true then Oper.wp P o a w K Q else E := by
  have hw : Region.wanted o (yielded ops a.tmps) = true := by simp [Region.wanted, hgd]
  rw [if_pos hw]
  exact wp_store_row ty x y ho g cells hx hy t old hg hi hold h1 h
end

/-- behind while it goes on. -/
structure BH (w : World) (s : St) (l : List UInt8) (k : Nat) (v : Value) (wr : World) : Prop where
  new : New w wr
  st : Blk wr w.heap.size 37 (c8 (blocks s l k))
  res : ∃ cs, Blk wr (w.heap.size + 1) 37 cs ∧ cs.size = 8
  le : 64 * k ≤ l.length
  row : ∃ A c, v = .slice A (l.length - 64 * k) c ∧ (l.length - 64 * k ≤ c ∧ c ≤ maxLen) ∧ Reads wr w.heap.size 1 A (l.length - 64 * k) (vb (l.drop (64 * k)))
theorem BH.start (w : World) (s : St) (l : List UInt8) (A : Option Addr) (n c : Nat) (z : Array Value) (hn : n = l.length) (hz : z.size = 8) (hc : n ≤ c ∧ c ≤ maxLen) (hA : Reads w w.heap.size 1 A n (vb l)) : BH w s l 0 (.slice A n c) ((w.alloc (.cells (c8 s) 37)).alloc (.cells z 37)) := by
  subst hn
  refine ⟨((new_refl w).alloc (Nat.le_refl _) _).alloc (by simp) _, (Blk.new w _ _).alloc _, ⟨z, ?_, hz⟩, Nat.zero_le _, A, c, rfl, by simpa using hc, ?_⟩
  · have h := Blk.new (w.alloc (.cells (c8 s) 37)) 37 z
    simpa using h
  · exact (hA.alloc (Nat.le_refl _) _).alloc (by simp) _
theorem spot_of_cell {w : World} {a : Addr} {v : Value} (h : w.cell? a = some v) : a.spot = none := by
  unfold World.cell? at h
  split at h
  · split at h
    · cases h
    · rename_i hs
      cases hsp : a.spot with
      | none => rfl
      | some x => simp [hsp] at hs
  · cases h

abbrev set8 (w : World) (g : Nat) (u : St) : World := (((((((w.setCell ⟨g, 0, none⟩ (.int .u32 (u.a : Int))).setCell ⟨g, 1, none⟩ (.int .u32 (u.b : Int))).setCell ⟨g, 2, none⟩ (.int .u32 (u.c : Int))).setCell ⟨g, 3, none⟩ (.int .u32 (u.d : Int))).setCell ⟨g, 4, none⟩ (.int .u32 (u.e : Int))).setCell ⟨g, 5, none⟩ (.int .u32 (u.f : Int))).setCell ⟨g, 6, none⟩ (.int .u32 (u.g : Int))).setCell ⟨g, 7, none⟩ (.int .u32 (u.h : Int))
theorem set8_blk {w : World} {g : Nat} {t : St} (h : Blk w g 37 (c8 t)) (u : St) : Blk (set8 w g u) g 37 (c8 u) := by
  have h8 := (((((((h.set_ 0 (.int .u32 (u.a : Int))).set_ 1 (.int .u32 (u.b : Int))).set_ 2 (.int .u32 (u.c : Int))).set_ 3 (.int .u32 (u.d : Int))).set_ 4 (.int .u32 (u.e : Int))).set_ 5 (.int .u32 (u.f : Int))).set_ 6 (.int .u32 (u.g : Int))).set_ 7 (.int .u32 (u.h : Int))
  have e : ((((((((c8 t).setIfInBounds 0 (.int .u32 (u.a : Int))).setIfInBounds 1 (.int .u32 (u.b : Int))).setIfInBounds 2 (.int .u32 (u.c : Int))).setIfInBounds 3 (.int .u32 (u.d : Int))).setIfInBounds 4 (.int .u32 (u.e : Int))).setIfInBounds 5 (.int .u32 (u.f : Int))).setIfInBounds 6 (.int .u32 (u.g : Int))).setIfInBounds 7 (.int .u32 (u.h : Int)) = c8 u := by simp [c8]
  rw [e] at h8
  exact h8
theorem set8_below {a w : World} {B g : Nat} (h : Below B a w) (hg : B ≤ g) (u : St) : Below B a (set8 w g u) := (((((((h.setCell hg _).setCell hg _).setCell hg _).setCell hg _).setCell hg _).setCell hg _).setCell hg _).setCell hg _
theorem set8_far {w : World} {g k : Nat} {t : TypeId} {cs : Array Value} (h : Blk w k t cs) (hk : k ≠ g) (u : St) : Blk (set8 w g u) k t cs := (((((((h.far hk _).far hk _).far hk _).far hk _).far hk _).far hk _).far hk _).far hk _
theorem reads_empty (w : World) (B : Nat) (A : Option Addr) (xs : List Value) {n : Nat} (hn : n = 0) (hx : xs = []) : Reads w B 1 A n xs := by
  subst hn
  subst hx
  exact ⟨by simp, fun h => absurd h (by omega)⟩
theorem BH.next {w wr w6 : World} {s : St} {l : List UInt8} {k : Nat} {v : Value} (h : BH w s l k v wr) (hn : New wr.drew w6) (t u : St) (hu : blocks s l (k + 1) = u) (hb : Blk w6 w.heap.size 37 (c8 t)) (h64 : 64 * (k + 1) ≤ l.length) (v' : Value)
    (hrow : ∃ A c, v' = .slice A (l.length - 64 * (k + 1)) c ∧ (l.length - 64 * (k + 1) ≤ c ∧ c ≤ maxLen) ∧ Reads wr w.heap.size 1 A (l.length - 64 * (k + 1)) (vb (l.drop (64 * (k + 1))))) : BH w s l (k + 1) v' (set8 w6 w.heap.size u) := by
  obtain ⟨h1, -, ⟨cs, h3, h3z⟩, -, -⟩ := h
  obtain ⟨A, c, e, hc, hr⟩ := hrow
  have hlt : w.heap.size + 1 < wr.drew.heap.size := h3.lt
  have hb1 : Below w.heap.size wr.drew w6 := hn.mono (by omega)
  refine ⟨set8_below (New.then (Below.drew h1) hn) (Nat.le_refl _) u, ?_, ⟨cs, set8_far (Blk.below (w := wr.drew) h3 hn hlt) (by omega) u, h3z⟩, h64, A, c, e, hc, ?_⟩
  · rw [hu]
    exact set8_blk hb u
  · exact Reads.below (w := wr.drew) hr (set8_below hb1 (Nat.le_refl _) u)

set_option maxRecDepth 100000 in
set_option maxHeartbeats 4000000 in
theorem behind_any (A : Option Addr) (n c : Nat) (s : St) (l : List UInt8) (w : World) (hn : n = l.length) (hl : n ≤ 1099511627776) (hc : n ≤ c ∧ c ≤ maxLen) (hs : s.Ok) (hK : KAt w) (hA : Reads w w.heap.size 1 A n (vb l)) :
    Calls Tryd.prog 23 #[.agg (c8 s), .slice A n c] w fun e w' => e = .returned (.agg (c8 (blocks s l (n / 64)))) ∧ New w w' := by
  have HB0 := Lib.hid (fun z hz => BH.start w s l A n c z hn hz hc hA)
  have HK := Lib.hid hK
  have HS := Lib.hid hs
  subst hn
  clear hA hK hc hs
  go_enter Tryd.func23, Tryd.ntmps23
  go_wp2
  go_loopw [1] (fun v wr => ∃ k : Nat, BH w s l k v wr) (fun v _ => match v with | .slice _ n _ => n | _ => 0)
  case atStart => exact ⟨0, HB0.out _ rfl⟩
  case round =>
    obtain ⟨k, hbh⟩ := hrel
    obtain ⟨A, c, rfl, hc, hr⟩ := hbh.row
    have HB := Lib.hid hbh
    obtain ⟨m, hm⟩ : ∃ m, l.length - 64 * k = m := ⟨_, rfl⟩
    rw [hm] at hc hr ⊢
    have HM := Lib.hid hm
    clear hm hbh
    have hmb : m ≤ 1099511627776 := by have := HM.out; omega
    by_cases hlt : 64 ≤ m
    · obtain ⟨ad, rfl, hgb, hcl⟩ := hr.2 (by omega)
      have hsp := spot_of_cell (hcl 0 _ (vb_get _ 0 (by rw [List.length_drop, HM.out]; omega)))
      obtain ⟨gb, ob, sp⟩ := ad
      have hsp' : sp = none := by
        have : (Addr.add ⟨gb, ob, sp⟩ 0).spot = sp := by unfold Addr.add; split <;> simp_all
        rw [← this]; exact hsp
      subst hsp'
      have hcl2 : ∀ i (h : i < (l.drop (64 * k)).length), wr.cell? ⟨gb, ob + i, none⟩ = some (.int .u8 ((l.drop (64 * k))[i].toNat : Int)) := fun i h => by
        have := hcl i _ (vb_get _ i h)
        rwa [Addr.add_mid] at this
      have hdl : (l.drop (64 * k)).length = m := by rw [List.length_drop, HM.out]
      have hl64 : ((l.drop (64 * k)).take 64).length = 64 := by rw [List.length_take, hdl]; omega
      have HWD := Lib.hid (words_any gb ob c ((l.drop (64 * k)).take 64) wr.drew hl64 ⟨by omega, hc.2⟩ (Nat.lt_of_lt_of_le hgb HB.out.new.size) (fun i h => by rw [List.getElem_take]; exact hcl2 i (by rw [hl64] at h; omega)))
      have HMX : Hid (∀ W, New w W → Calls Tryd.prog 37 #[.agg (c8 (blocks s l k)), .agg (c64 (words ((l.drop (64 * k)).take 64)))] W fun e w' => e = .returned (.agg (c8 (blocks s l (k + 1)))) ∧ New W w') := Lib.hid (fun W hW => mixed_any _ _ W (blocks_ok s l HS.out k) (words_length _) (words_lt _) (HK.out.new hW))
      have hm1 : (64 : Int) ≤ (m : Int) := by omega
      have hm2 : (64 : Int) ≤ (c : Int) := by omega
      have hmc : 64 ≤ c := by omega
      have HST := Lib.hid HB.out.st
      have HN := Lib.hid HB.out.new
      obtain ⟨B8, hB8⟩ : ∃ x, blocks s l k = x := ⟨_, rfl⟩
      obtain ⟨C8, hC8⟩ : ∃ x, blocks s l (k + 1) = x := ⟨_, rfl⟩
      obtain ⟨WW, hWW⟩ : ∃ x, c64 (words ((l.drop (64 * k)).take 64)) = x := ⟨_, rfl⟩
      rw [hB8] at HST
      rw [hB8, hC8, hWW] at HMX
      have hWW' : ((words ((l.drop (64 * k)).take 64)).map fun (x : Nat) => Value.int .u32 (x : Int)).toArray = WW := hWW
      rw [hWW'] at HWD
      have HC8 := Lib.hid hC8
      have HR := Lib.hid hr
      have hcm : m ≤ c ∧ c ≤ maxLen := hc
      clear hB8 hC8 hWW hWW' hl64 hdl hcl2 hr hcl hsp
      obtain ⟨a, b, c1, d, e, f, g, h⟩ := B8
      obtain ⟨a2, b2, c2, d2, e2, f2, g2, h2⟩ := C8
      simp only [c8] at HST HMX
      have f0ST : wr.cell? ⟨w.heap.size, 0, none⟩ = some (.int .u32 (a : Int)) := (HST.out.cell 0).trans rfl
      have f1ST : wr.cell? ⟨w.heap.size, 1, none⟩ = some (.int .u32 (b : Int)) := (HST.out.cell 1).trans rfl
      have f2ST : wr.cell? ⟨w.heap.size, 2, none⟩ = some (.int .u32 (c1 : Int)) := (HST.out.cell 2).trans rfl
      have f3ST : wr.cell? ⟨w.heap.size, 3, none⟩ = some (.int .u32 (d : Int)) := (HST.out.cell 3).trans rfl
      have f4ST : wr.cell? ⟨w.heap.size, 4, none⟩ = some (.int .u32 (e : Int)) := (HST.out.cell 4).trans rfl
      have f5ST : wr.cell? ⟨w.heap.size, 5, none⟩ = some (.int .u32 (f : Int)) := (HST.out.cell 5).trans rfl
      have f6ST : wr.cell? ⟨w.heap.size, 6, none⟩ = some (.int .u32 (g : Int)) := (HST.out.cell 6).trans rfl
      have f7ST : wr.cell? ⟨w.heap.size, 7, none⟩ = some (.int .u32 (h : Int)) := (HST.out.cell 7).trans rfl
      by_cases hc64 : c = 64
      · subst hc64
        go_wp2
        go_region_with (first
          | (go_at_call 38; (with_reducible refine HWD.out.mono ?_); rintro en w5 ⟨rfl, hn5⟩; have HN5 := Lib.hid (New.then (Below.drew HN.out) hn5); have HS5 := Lib.hid (Blk.below (Blk.drew HST.out) hn5 (Blk.drew HST.out).lt); have f0S5 : w5.cell? ⟨w.heap.size, 0, none⟩ = some (.int .u32 (a : Int)) := (HS5.out.cell 0).trans rfl; have f1S5 : w5.cell? ⟨w.heap.size, 1, none⟩ = some (.int .u32 (b : Int)) := (HS5.out.cell 1).trans rfl; have f2S5 : w5.cell? ⟨w.heap.size, 2, none⟩ = some (.int .u32 (c1 : Int)) := (HS5.out.cell 2).trans rfl; have f3S5 : w5.cell? ⟨w.heap.size, 3, none⟩ = some (.int .u32 (d : Int)) := (HS5.out.cell 3).trans rfl; have f4S5 : w5.cell? ⟨w.heap.size, 4, none⟩ = some (.int .u32 (e : Int)) := (HS5.out.cell 4).trans rfl; have f5S5 : w5.cell? ⟨w.heap.size, 5, none⟩ = some (.int .u32 (f : Int)) := (HS5.out.cell 5).trans rfl; have f6S5 : w5.cell? ⟨w.heap.size, 6, none⟩ = some (.int .u32 (g : Int)) := (HS5.out.cell 6).trans rfl; have f7S5 : w5.cell? ⟨w.heap.size, 7, none⟩ = some (.int .u32 (h : Int)) := (HS5.out.cell 7).trans rfl)
          | (go_at_call 37; (with_reducible refine (HMX.out w5 HN5.out).mono ?_); rintro en w6 ⟨rfl, hn6⟩; have HW6 := Lib.hid (New.then hn5 hn6); have HS6 := Lib.hid (Blk.below HS5.out hn6 HS5.out.lt); have f0S6 : w6.cell? ⟨w.heap.size, 0, none⟩ = some (.int .u32 (a : Int)) := (HS6.out.cell 0).trans rfl; have f1S6 : w6.cell? ⟨w.heap.size, 1, none⟩ = some (.int .u32 (b : Int)) := (HS6.out.cell 1).trans rfl; have f2S6 : w6.cell? ⟨w.heap.size, 2, none⟩ = some (.int .u32 (c1 : Int)) := (HS6.out.cell 2).trans rfl; have f3S6 : w6.cell? ⟨w.heap.size, 3, none⟩ = some (.int .u32 (d : Int)) := (HS6.out.cell 3).trans rfl; have f4S6 : w6.cell? ⟨w.heap.size, 4, none⟩ = some (.int .u32 (e : Int)) := (HS6.out.cell 4).trans rfl; have f5S6 : w6.cell? ⟨w.heap.size, 5, none⟩ = some (.int .u32 (f : Int)) := (HS6.out.cell 5).trans rfl; have f6S6 : w6.cell? ⟨w.heap.size, 6, none⟩ = some (.int .u32 (g : Int)) := (HS6.out.cell 6).trans rfl; have f7S6 : w6.cell? ⟨w.heap.size, 7, none⟩ = some (.int .u32 (h : Int)) := (HS6.out.cell 7).trans rfl; have hfz := HS6.out.frozen))
        all_goals
          go_wp2_with fail
          go_roundw
          case rel =>
            refine ⟨k + 1, ?_⟩
            refine HB.out.next HW6.out ⟨a, b, c1, d, e, f, g, h⟩ ⟨a2, b2, c2, d2, e2, f2, g2, h2⟩ HC8.out HS6.out (by have := HM.out; omega) _ ?_
            have e1 := HM.out
            have e2 : l.length - 64 * (k + 1) = m - 64 := by omega
            rw [e2]
            refine ⟨some ⟨gb, ob, none⟩, 0, by rw [show m - 64 = 0 by omega], ?_, ?_⟩
            · simp [maxLen]; omega
            · exact reads_empty _ _ _ _ (by omega) (by rw [List.drop_eq_nil_of_le (by omega)]; rfl)
          case measure => simp; omega
      · have hci : ¬ (c : Int) = 64 := by omega
        go_wp2
        go_region_with (first
          | (go_at_call 38; (with_reducible refine HWD.out.mono ?_); rintro en w5 ⟨rfl, hn5⟩; have HN5 := Lib.hid (New.then (Below.drew HN.out) hn5); have HS5 := Lib.hid (Blk.below (Blk.drew HST.out) hn5 (Blk.drew HST.out).lt); have f0S5 : w5.cell? ⟨w.heap.size, 0, none⟩ = some (.int .u32 (a : Int)) := (HS5.out.cell 0).trans rfl; have f1S5 : w5.cell? ⟨w.heap.size, 1, none⟩ = some (.int .u32 (b : Int)) := (HS5.out.cell 1).trans rfl; have f2S5 : w5.cell? ⟨w.heap.size, 2, none⟩ = some (.int .u32 (c1 : Int)) := (HS5.out.cell 2).trans rfl; have f3S5 : w5.cell? ⟨w.heap.size, 3, none⟩ = some (.int .u32 (d : Int)) := (HS5.out.cell 3).trans rfl; have f4S5 : w5.cell? ⟨w.heap.size, 4, none⟩ = some (.int .u32 (e : Int)) := (HS5.out.cell 4).trans rfl; have f5S5 : w5.cell? ⟨w.heap.size, 5, none⟩ = some (.int .u32 (f : Int)) := (HS5.out.cell 5).trans rfl; have f6S5 : w5.cell? ⟨w.heap.size, 6, none⟩ = some (.int .u32 (g : Int)) := (HS5.out.cell 6).trans rfl; have f7S5 : w5.cell? ⟨w.heap.size, 7, none⟩ = some (.int .u32 (h : Int)) := (HS5.out.cell 7).trans rfl)
          | (go_at_call 37; (with_reducible refine (HMX.out w5 HN5.out).mono ?_); rintro en w6 ⟨rfl, hn6⟩; have HW6 := Lib.hid (New.then hn5 hn6); have HS6 := Lib.hid (Blk.below HS5.out hn6 HS5.out.lt); have f0S6 : w6.cell? ⟨w.heap.size, 0, none⟩ = some (.int .u32 (a : Int)) := (HS6.out.cell 0).trans rfl; have f1S6 : w6.cell? ⟨w.heap.size, 1, none⟩ = some (.int .u32 (b : Int)) := (HS6.out.cell 1).trans rfl; have f2S6 : w6.cell? ⟨w.heap.size, 2, none⟩ = some (.int .u32 (c1 : Int)) := (HS6.out.cell 2).trans rfl; have f3S6 : w6.cell? ⟨w.heap.size, 3, none⟩ = some (.int .u32 (d : Int)) := (HS6.out.cell 3).trans rfl; have f4S6 : w6.cell? ⟨w.heap.size, 4, none⟩ = some (.int .u32 (e : Int)) := (HS6.out.cell 4).trans rfl; have f5S6 : w6.cell? ⟨w.heap.size, 5, none⟩ = some (.int .u32 (f : Int)) := (HS6.out.cell 5).trans rfl; have f6S6 : w6.cell? ⟨w.heap.size, 6, none⟩ = some (.int .u32 (g : Int)) := (HS6.out.cell 6).trans rfl; have f7S6 : w6.cell? ⟨w.heap.size, 7, none⟩ = some (.int .u32 (h : Int)) := (HS6.out.cell 7).trans rfl; have hfz := HS6.out.frozen))
        all_goals
          go_wp2_with fail
          go_roundw
          case rel =>
            refine ⟨k + 1, ?_⟩
            refine HB.out.next HW6.out ⟨a, b, c1, d, e, f, g, h⟩ ⟨a2, b2, c2, d2, e2, f2, g2, h2⟩ HC8.out HS6.out (by have := HM.out; omega) _ ?_
            have e1 := HM.out
            have e2 : l.length - 64 * (k + 1) = m - 64 := by omega
            rw [e2]
            have h1 := HR.out.cut (k := 64) (cap := c) hlt hcm.1
            rw [if_neg hc64] at h1
            exact ⟨_, _, rfl, ⟨by omega, by have := hcm.2; omega⟩, by simpa [Addr.add_lit, List.drop_drop, vb, ← List.map_drop, Nat.mul_add] using h1⟩
          case measure => simp; omega
    · have hlt' : ¬ (64 : Int) ≤ (m : Int) := by omega
      have e1 : l.length / 64 = k := by have := HM.out; have := HB.out.le; omega
      have HE := Lib.hid e1
      obtain ⟨h1, h2, ⟨cs, h3, h3z⟩, -, -⟩ := HB.out
      have H2 := Lib.hid h2
      have H3 := Lib.hid h3
      have HZ : Hid (cs.size = (c8 (blocks s l k)).size) := Lib.hid h3z
      have HN := Lib.hid h1
      clear h1 h2 h3 h3z HB hr e1
      go_wp2_with (first
        | (refine wpList_load_row rfl 37 _ rfl w.heap.size rfl 37 (c8 (blocks s l k)) (0, 0) _ H2.out Tryd.underlying37 rfl info8 ?_)
        | (refine wpList_store_row rfl 37 _ _ rfl (w.heap.size + 1) (c8 (blocks s l k)) rfl rfl 37 _ H3.out info8 HZ.out (one8 _) ?_))
      refine bodyPost_ret (results_cell_row rfl _ _ (w.heap.size + 1) 37 _ (0, 0) _ rfl (setRow_heap _ _ _ _ _ _ H3.out) Tryd.underlying37 rfl info8) rfl ?_
      rw [HE.out]
      exact ⟨rfl, below_setRow HN.out (by omega) _⟩
end Go.Proofs.YtnmjgbkifglleaaDoor.sha
