/-
  The document's Sum: words, what a round leaves.
-/
import Derived.Test.YtnmjgbkifglleaaDoorShaX
namespace Go.Proofs.YtnmjgbkifglleaaDoor.sha
open Go.RowKit Go.Proofs.YtnmjgbkifglleaaDoor.mem
set_option linter.unusedVariables false
/-- Words in a block of the call's own, which may be turned. -/
def Bq (W : World) (g : Nat) (l : List Nat) : Prop := ∃ cs : Array Value, Blk W g 40 cs ∧ ∀ (i : Nat) (h : i < l.length), cs[i]? = some (.int .u64 (l[i] : Int))
theorem Bq.at_ {W : World} {g i : Nat} {l : List Nat} {b : Nat} (h : Bq W g l) (hi : l[i]? = some b) : W.cell? ⟨g, i, none⟩ = some (.int .u64 (b : Int)) := by
  obtain ⟨cs, hb, hc⟩ := h
  obtain ⟨hlt, rfl⟩ := List.getElem?_eq_some_iff.1 hi
  exact (hb.cell i).trans (hc i hlt)
theorem Bq.set {W : World} {g i : Nat} {l : List Nat} (h : Bq W g l) (b : Nat) : Bq (W.setCell ⟨g, i, none⟩ (.int .u64 (b : Int))) g (l.set i b) := by
  obtain ⟨cs, hb, hc⟩ := h
  refine ⟨_, hb.set_ i _, fun k hk => ?_⟩
  have hk' : k < l.length := by simpa using hk
  have hck := hc k hk'
  have hlt := (Array.getElem?_eq_some_iff.1 hck).1
  rw [List.getElem_set]
  by_cases e : i = k
  · subst e
    rw [if_pos rfl, Array.getElem?_setIfInBounds_self_of_lt hlt]
  · rw [if_neg e, Array.getElem?_setIfInBounds_ne e]
    exact hck
theorem Bq.frozen {W : World} {g : Nat} {l : List Nat} (h : Bq W g l) (i : Nat) : W.frozen? ⟨g, i, none⟩ = false := by
  obtain ⟨cs, hb, hc⟩ := h
  exact hb.frozen i
theorem Bq.lt {W : World} {g : Nat} {l : List Nat} (h : Bq W g l) : g < W.heap.size := by
  obtain ⟨cs, hb, hc⟩ := h
  exact hb.lt
theorem Bq.new {W W' : World} {g : Nat} {l : List Nat} (h : Bq W g l) (hn : New W W') : Bq W' g l := by
  obtain ⟨cs, hb, hc⟩ := h
  exact ⟨cs, hb.below hn hb.lt, hc⟩
theorem Bq.drew {W : World} {g : Nat} {l : List Nat} (h : Bq W g l) : Bq W.drew g l := h
theorem Bq.far {W : World} {g : Nat} {l : List Nat} (h : Bq W g l) {p : Addr} (hp : g ≠ p.block) (u : Value) : Bq (W.setCell p u) g l := by
  obtain ⟨cs, hb, hc⟩ := h
  exact ⟨cs, hb.far hp u, hc⟩
theorem Bq.reads {W : World} {g : Nat} {l : List Nat} (h : Bq W g l) (k : Nat) (hk : k ≤ l.length) : Reads W W.heap.size 1 (some ⟨g, 0, none⟩) k (vq (l.take k)) := by
  refine ⟨by rw [vq_length, List.length_take, Nat.mul_one]; omega, fun _ => ⟨_, rfl, h.lt, fun j u hu => ?_⟩⟩
  have hj : j < (l.take k).length := by
    have := (List.getElem?_eq_some_iff.1 hu).1
    rwa [vq_length] at this
  rw [vq_get _ j hj] at hu
  injection hu with hu
  subst hu
  rw [Addr.add_lit, Nat.zero_add]
  rw [List.getElem_take]
  exact h.at_ (List.getElem?_eq_getElem _)
theorem Aq.bq {w0 W : World} {v : Value} {z : List Nat} (h : Aq w0 v z W) (m : Nat) (hm : z.length = m) (h0 : 0 < m) : ∃ g c, v = .slice (some ⟨g, 0, none⟩) m c ∧ m ≤ c ∧ w0.heap.size ≤ g ∧ Bq W g z := by
  subst hm
  obtain ⟨g, c, hv, hmc, hB, hlt, hcell⟩ := h.at_ z.length rfl h0
  rcases h.own.2 with ⟨e, e0⟩ | ⟨g', cap, cur, e, _, hb, _⟩
  · omega
  · rw [hv] at e
    simp only [Value.slice.injEq, Option.some.injEq, Addr.mk.injEq, and_true, true_and] at e
    obtain ⟨rfl, -⟩ := e
    exact ⟨g, c, hv, hmc, hB, cur, hb, fun i hi => (Blk.cell (t := 40) hb i).symm.trans (hcell i hi)⟩
theorem Ab.at_ {w0 W : World} {v : Value} {z : List UInt8} (h : Ab w0 v z W) (m : Nat) (hm : z.length = m) (h0 : 0 < m) : ∃ g c, v = .slice (some ⟨g, 0, none⟩) m c ∧ m ≤ c ∧ c ≤ maxLen ∧ w0.heap.size ≤ g ∧ g < W.heap.size ∧ ∀ i (hi : i < z.length), W.cell? ⟨g, i, none⟩ = some (.int .u8 (z[i].toNat : Int)) := by
  subst hm
  obtain ⟨A, c, rfl, h1, h2, hr⟩ := own_len h.own
  obtain ⟨g, cap, hv, hB, hlt⟩ := h.own.form h0
  have hA : A = some ⟨g, 0, none⟩ := by injection hv
  subst hA
  obtain ⟨ad, ea, -, hc⟩ := hr.2 h0
  simp only [Option.some.injEq] at ea
  subst ea
  refine ⟨g, c, rfl, h1, h2, hB, hlt, fun i hi => ?_⟩
  have := hc i _ (vb_get z i hi)
  rwa [Addr.add_lit, Nat.zero_add] at this
theorem Aq.made0 (W : World) : Aq W (.slice (some ⟨W.heap.size, 0, none⟩) 0 0) [] (W.alloc (.cells #[] 40)) :=
  ⟨alloc_new W _, World.ownsRow_made (e := 40) (base := W.heap.size) (size := 1) W #[] 0 (Nat.le_refl _) (by unfold maxLen; omega) (by simp)⟩
theorem Aq.made1 (w0 W : World) (hn : New w0 W) (p : Nat) (x : Int) (hx : x = (p : Int)) : Aq w0 (.slice (some ⟨W.heap.size, 0, none⟩) 1 1) [p] (W.alloc (.cells #[.int .u64 x] 40)) := by
  subst hx
  refine ⟨hn.alloc hn.size _, ?_⟩
  have h := World.ownsRow_lit (e := 40) (base := w0.heap.size) (size := 1) W (vq [p]).toArray 1 hn.size (by unfold maxLen; omega) (by simp [vq])
  simpa [vq] using h

/-- The document's state: its words, its constants, the message. -/
structure OS (w : World) (l : List UInt8) (gh gk gm : Nat) (hs : List Nat) (wr : World) : Prop where
  new : New w wr
  h : Bq wr gh hs
  k : Bq wr gk consts
  m : ∀ i (hi : i < l.length), wr.cell? ⟨gm, i, none⟩ = some (.int .u8 (l[i].toNat : Int))
  lt : gm < wr.heap.size
theorem OS.then_ {w wr w' : World} {l : List UInt8} {gh gk gm : Nat} {hs : List Nat} (h : OS w l gh gk gm hs wr) (hn : New wr w') : OS w l gh gk gm hs w' :=
  ⟨New.then h.new hn, h.h.new hn, h.k.new hn, fun i hi => (hn.cell (p := ⟨gm, i, none⟩) h.lt).trans (h.m i hi), Nat.lt_of_lt_of_le h.lt hn.size⟩
theorem OS.drew {w wr : World} {l : List UInt8} {gh gk gm : Nat} {hs : List Nat} (h : OS w l gh gk gm hs wr) : OS w l gh gk gm hs wr.drew := ⟨Below.drew h.new, h.h, h.k, h.m, h.lt⟩
theorem OS.set {w wr : World} {l : List UInt8} {gh gk gm : Nat} {hs : List Nat} (h : OS w l gh gk gm hs wr) (h0 : w.heap.size ≤ gh) (h1 : gh < gk) (h2 : gh < gm) (i b : Nat) : OS w l gh gk gm (hs.set i b) (wr.setCell ⟨gh, i, none⟩ (.int .u64 (b : Int))) :=
  ⟨h.new.setCell h0 _, h.h.set b, h.k.far (by simp; omega) _, fun j hj => (World.cell?_setCell_other wr _ _ _ (by intro e; injection e with e1; omega)).trans (h.m j hj), by simpa [World.setCell] using h.lt⟩

/-- The words while the round's are added. -/
def upd (s t : St) (i : Nat) : List Nat := (s.plus t).list.take i ++ s.list.drop i
theorem upd_zero (s t : St) : upd s t 0 = s.list := by simp [upd]
theorem upd_all (s t : St) : upd s t 8 = (s.plus t).list := rfl
theorem upd_at (s t : St) (i : Nat) (h : i < 8) : ∃ x y : Nat, (upd s t i)[i]? = some x ∧ t.list[i]? = some y ∧ s.list[i]? = some x ∧ (upd s t i).set i (lo (x + y)) = upd s t (i + 1) := by
  match i, h with
  | 0, _ => exact ⟨_, _, rfl, rfl, rfl, rfl⟩
  | 1, _ => exact ⟨_, _, rfl, rfl, rfl, rfl⟩
  | 2, _ => exact ⟨_, _, rfl, rfl, rfl, rfl⟩
  | 3, _ => exact ⟨_, _, rfl, rfl, rfl, rfl⟩
  | 4, _ => exact ⟨_, _, rfl, rfl, rfl, rfl⟩
  | 5, _ => exact ⟨_, _, rfl, rfl, rfl, rfl⟩
  | 6, _ => exact ⟨_, _, rfl, rfl, rfl, rfl⟩
  | 7, _ => exact ⟨_, _, rfl, rfl, rfl, rfl⟩
theorem list_ok {s : St} (hs : s.Ok) {i x : Nat} (h : s.list[i]? = some x) : x < 4294967296 := by
  obtain ⟨hl, rfl⟩ := List.getElem?_eq_some_iff.1 h
  exact list_lt s hs i hl
theorem add_q (x y : Nat) (hx : x < 4294967296) (hy : y < 4294967296) : bits BinOp.and IntKind.u64 (IntKind.u64.wrap ((x : Int) + (y : Int))) 4294967295 = ((lo (x + y) : Nat) : Int) := by
  rw [IntWalk.u64_in ((x : Int) + (y : Int)) ⟨by omega, by omega⟩, ← and_q (x + y) (by omega)]
  simp
theorem ch_q (e f g : Nat) (he : e < 4294967296) (hf : f < 4294967296) (hg : g < 4294967296) : bits BinOp.or IntKind.u64 (bits BinOp.and IntKind.u64 (e : Int) (f : Int)) (bits BinOp.and IntKind.u64 (bits BinOp.xor IntKind.u64 4294967295 (e : Int)) (g : Int)) = ((ch e f g : Nat) : Int) := by
  have hx : 4294967295 ^^^ e < 4294967296 := xor_lt (by decide) he
  rw [show (4294967295 : Int) = ((4294967295 : Nat) : Int) from rfl, xor_q _ _ (by decide) he, u64_and_nat _ _ (by omega) (by omega), u64_and_nat _ _ (by omega) (by omega), u64_or_nat _ _ (Nat.lt_trans (and_lt he) (by decide)) (Nat.lt_trans (and_lt hx) (by decide)), ch_or e f g he]
theorem maj_q (a b c : Nat) (ha : a < 4294967296) (hb : b < 4294967296) (hc : c < 4294967296) : bits BinOp.or IntKind.u64 (bits BinOp.or IntKind.u64 (bits BinOp.and IntKind.u64 (a : Int) (b : Int)) (bits BinOp.and IntKind.u64 (a : Int) (c : Int))) (bits BinOp.and IntKind.u64 (b : Int) (c : Int)) = ((maj a b c : Nat) : Int) := by
  have h1 : a &&& b < 4294967296 := and_lt ha
  have h2 : a &&& c < 4294967296 := and_lt ha
  have h3 : b &&& c < 4294967296 := and_lt hb
  have h4 : (a &&& b) ||| (a &&& c) < 4294967296 := Nat.or_lt_two_pow (n := 32) h1 h2
  rw [u64_and_nat _ _ (by omega) (by omega), u64_and_nat _ _ (by omega) (by omega), u64_and_nat _ _ (by omega) (by omega), u64_or_nat _ _ (by omega) (by omega), u64_or_nat _ _ (by omega) (by omega), maj_or]
theorem bg0_q (x : Nat) (h : x < 4294967296) : bits BinOp.xor IntKind.u64 (bits BinOp.xor IntKind.u64 (rotr x 2 : Nat) (rotr x 13 : Nat)) (rotr x 22 : Nat) = ((bg0 x : Nat) : Int) := by
  rw [xor_q _ _ (rotr_lt _ _ h) (rotr_lt _ _ h), xor_q _ _ (xor_lt (rotr_lt _ _ h) (rotr_lt _ _ h)) (rotr_lt _ _ h)]
  rfl
theorem bg1_q (x : Nat) (h : x < 4294967296) : bits BinOp.xor IntKind.u64 (bits BinOp.xor IntKind.u64 (rotr x 6 : Nat) (rotr x 11 : Nat)) (rotr x 25 : Nat) = ((bg1 x : Nat) : Int) := by
  rw [xor_q _ _ (rotr_lt _ _ h) (rotr_lt _ _ h), xor_q _ _ (xor_lt (rotr_lt _ _ h) (rotr_lt _ _ h)) (rotr_lt _ _ h)]
  rfl
theorem be4_q (n : Nat) (hn : n < 4294967296) : [Value.int .u8 (IntKind.u8.wrap ((n : Int) / 16777216)), .int .u8 (IntKind.u8.wrap ((n : Int) / 65536)), .int .u8 (IntKind.u8.wrap ((n : Int) / 256)), .int .u8 (IntKind.u8.wrap (n : Int))] = vb (be4 n) := by
  rw [← be4_cells n hn]
  have h : ∀ x : Int, 0 ≤ x → IntKind.u8.wrap x = x % 256 := fun x _ => by simp [IntKind.wrap, IntKind.bits, IntKind.signed]
  rw [h _ (by omega), h _ (by omega), h _ (by omega), h _ (by omega)]
  congr 2
  omega
theorem reads_fourb (W : World) (a b c d : Value) (l : List UInt8) (h : [a, b, c, d] = vb l) (hl : l.length = 4) : Reads (W.alloc (.cells #[a, b, c, d] 5)) (W.alloc (.cells #[a, b, c, d] 5)).heap.size 1 (some ⟨W.heap.size, 0, none⟩) l.length (vb l) := by
  rw [hl, ← h]
  exact reads_four W _ a b c d
end Go.Proofs.YtnmjgbkifglleaaDoor.sha
