/-
  Contracts of shape: the places that are come to; the four questions made.
-/
import Derived.Test.YtlchimbaclenaaaShA
import Derived.Test.YtlchimbaclenaaaInsN
namespace Go.Proofs.Ytlchimbaclenaaa.sh
open Go.RowKit Go.Proofs.Ytlchimbaclenaaa.mem Go.Proofs.Ytlchimbaclenaaa.kit Go.Proofs.Ytlchimbaclenaaa.ins
set_option linter.unusedVariables false

/-- A row of truths, a block of its own. -/
def Bo (w : World) (g n : Nat) (f : Nat → Bool) : Prop := ∃ cs : Array Value, Blk w g 4 cs ∧ cs.size = n ∧ ∀ j, j < n → cs[j]? = some (.bool (f j))
section
variable {w w' : World} {g n : Nat} {f : Nat → Bool}
theorem Bo.cell (h : Bo w g n f) {j : Nat} (hj : j < n) : w.cell? ⟨g, j, none⟩ = some (.bool (f j)) := by
  obtain ⟨cs, hb, hs, hc⟩ := h
  exact (hb.cell j).trans (hc j hj)
theorem Bo.frozen (h : Bo w g n f) (j : Nat) : w.frozen? ⟨g, j, none⟩ = false := by
  obtain ⟨cs, hb, hs, hc⟩ := h
  exact hb.frozen j
theorem Bo.lt (h : Bo w g n f) : g < w.heap.size := by
  obtain ⟨cs, hb, hs, hc⟩ := h
  exact hb.lt
theorem Bo.set (h : Bo w g n f) (q : Nat) (b : Bool) : Bo (w.setCell ⟨g, q, none⟩ (.bool b)) g n (fun j => if j = q then b else f j) := by
  obtain ⟨cs, hb, hs, hc⟩ := h
  refine ⟨_, hb.set_ q _, by simp [hs], fun j hj => ?_⟩
  have hcj := hc j hj
  have hlt := (Array.getElem?_eq_some_iff.1 hcj).1
  by_cases e : j = q
  · subst e
    simp only [if_true]
    rw [Array.getElem?_setIfInBounds_self_of_lt hlt]
  · simp only [if_neg e]
    rw [Array.getElem?_setIfInBounds_ne (fun h => e h.symm)]
    exact hcj
theorem Bo.alike {f' : Nat → Bool} (h : Bo w g n f) (e : ∀ j, j < n → f j = f' j) : Bo w g n f' := by
  obtain ⟨cs, hb, hs, hc⟩ := h
  exact ⟨cs, hb, hs, fun j hj => by rw [← e j hj]; exact hc j hj⟩
theorem Bo.new (h : Bo w g n f) (hn : New w w') : Bo w' g n f := by
  obtain ⟨cs, hb, hs, hc⟩ := h
  exact ⟨cs, hb.below hn hb.lt, hs, hc⟩
theorem Bo.drew (h : Bo w g n f) : Bo w.drew g n f := h
theorem Bo.drewN (h : Bo w g n f) (k : Nat) : Bo (w.drewN k) g n f := h
theorem Bo.alloc (h : Bo w g n f) (o : Obj) : Bo (w.alloc o) g n f := by
  obtain ⟨cs, hb, hs, hc⟩ := h
  exact ⟨cs, hb.alloc o, hs, hc⟩
theorem Bo.far (h : Bo w g n f) {p : Addr} (hp : p.block ≠ g) (u : Value) : Bo (w.setCell p u) g n f := by
  obtain ⟨cs, hb, hs, hc⟩ := h
  exact ⟨cs, hb.far (fun e => hp e.symm) u, hs, hc⟩
/-- No number lies in it. -/
theorem Bo.ne_int (h : Bo w g n f) {p : Addr} {k : IntKind} {z : Int} (hc : w.cell? p = some (.int k z)) : p.block ≠ g := by
  obtain ⟨cs, hb, hs, hcs⟩ := h
  have hsp := spot_of hc
  obtain ⟨b, o, sp⟩ := p
  simp only at hsp
  subst hsp
  intro e
  have e' : b = g := e
  subst e'
  rw [hb.cell o] at hc
  have ho := (Array.getElem?_eq_some_iff.1 hc).1
  rw [hcs o (by omega)] at hc
  simp at hc
end

theorem nx_len (l : List In) (k : Int) : (nx l k).length ≤ 2 := by
  unfold nx
  split
  · split
    · simp
    · split
      · split
        · simp
        · split
          · simp
          · split
            · simp
            · split <;> simp
      · simp
  · simp

/-- The block g alone, and what is new, has changed. -/
abbrev Chg (g : Nat) (w w' : World) : Prop := Ch (fun x => x = g) w w'

/-- What the question needs: the filter below B, its cell, the row's cell and the row. -/
structure CT (w : World) (B b b3 g : Nat) (A : Option Addr) (n c : Nat) (l : List In) (f : Nat → Bool) : Prop where
  hA : Reads w B 8 A n (vi l)
  hB : B ≤ g
  hb : w.cell? ⟨b, 0, none⟩ = some (.slice A n c)
  hg : w.cell? ⟨b3, 0, none⟩ = some (.slice (some ⟨g, 0, none⟩) n n)
  nb : b ≠ g
  n3 : b3 ≠ g
  row : Bo w g n f
theorem CT.chg {w w' : World} {B b b3 g : Nat} {A : Option Addr} {n c : Nat} {l : List In} {f f' : Nat → Bool} (h : CT w B b b3 g A n c l f) (hc : Chg g w w') (hr : Bo w' g n f') : CT w' B b b3 g A n c l f' :=
  ⟨⟨h.hA.1, fun hn => by
    obtain ⟨ad, e, hl, hcell⟩ := h.hA.2 hn
    exact ⟨ad, e, hl, fun j u hu => hc.cellOf (hcell j u hu) (by rw [block_of_add]; have := h.hB; omega)⟩⟩, h.hB, hc.cellOf h.hb h.nb, hc.cellOf h.hg h.n3, h.nb, h.n3, hr⟩

set_option maxRecDepth 100000 in
set_option maxHeartbeats 1000000 in
theorem comeTo1_any (B b b3 g : Nat) (A : Option Addr) (n c k : Nat) (l : List In) (f : Nat → Bool) (w : World) (hn : n = l.length) (hl : n ≤ 1099511627776) (hk : k < n) (hBw : B ≤ w.heap.size) (h : CT w B b b3 g A n c l f) (hin : ∀ j ∈ nx l (k : Int), (k : Int) < j ∧ j < (n : Int)) :
    Calls Try.prog 32 #[.int .i64 (k : Int), .pointer (some ⟨b3, 0, none⟩), .pointer (some ⟨b, 0, none⟩)] w fun e w' => e = .returned (.int .i64 (if f k then 0 else 103)) ∧ Bo w' g n (fun j => if f k then f j || decide ((j : Int) ∈ nx l (k : Int)) else f j) ∧ Chg g w w' := by
  have HT := Lib.hid h
  obtain ⟨hA, hB, hb, hg, nb, n3, row⟩ := h
  have hRI : RI w A l := by have := hA.here hBw; rw [hn] at this; exact this
  have HRI := Lib.hid hRI
  have HN := Lib.hid hn
  have HIN := Lib.hid hin
  have cg := row.cell hk
  have t1 : (k : Int) < (n : Int) := by omega
  clear hA row hRI hn hin
  rcases hfk : f k with _ | _
  · rw [hfk] at cg
    go_enter Try.func32, Try.ntmps32
    go_wp2
    go_ret
    exact ⟨rfl, HT.out.row.alike (fun j hj => by simp), Ch.refl _ _⟩
  · rw [hfk] at cg
    obtain ⟨r, hr⟩ : ∃ r, nx l (k : Int) = r := ⟨_, rfl⟩
    have HNX : Hid (∀ W, RI W A l → Calls Try.prog 14 #[.slice A n c, .int .i64 (k : Int)] W (NextD W r)) := Lib.hid (fun W hW => hr ▸ next_any A n c l k W HN.out hl hW)
    have HR := Lib.hid hr
    clear hfk
    go_enter Try.func32, Try.ntmps32
    go_wp2_with (go_at_call 14; refine (HNX.out _ HRI.out).mono ?_; rintro e w2 ⟨A2, c2, rfl, hr2, hn2⟩)
    have HR2 := Lib.hid hr2
    have HN2 := Lib.hid hn2
    have hrl : r.length ≤ 2 := by rw [← HR.out]; exact nx_len l k
    clear hr2 hn2
    go_loopw [16] (fun i wr => ∃ q : Nat, q ≤ r.length ∧ i = .int .i64 q ∧ Bo wr g n (fun j => f j || decide ((j : Int) ∈ r.take q)) ∧ Chg g w2 wr) (fun i _ => r.length - (intOf i).toNat)
    case atStart => exact ⟨0, Nat.zero_le _, rfl, (HT.out.row.new HN2.out).alike (fun j hj => by simp), Ch.refl _ _⟩
    case round =>
      obtain ⟨q, hq, rfl, hbo, hch⟩ := hrel
      have HBO := Lib.hid hbo
      have HCH := Lib.hid hch
      clear hbo hch
      by_cases hlt : q < r.length
      · have hmem : r[q] ∈ nx l (k : Int) := by rw [HR.out]; exact List.getElem_mem hlt
        obtain ⟨v, hv⟩ : ∃ v : Nat, r[q] = (v : Int) := ⟨r[q].toNat, by have := HIN.out _ hmem; omega⟩
        have hvn : v < n := by have := HIN.out _ hmem; omega
        obtain ⟨ad, u, rfl, ha, hx, hc⟩ := HR2.out.at_ hlt
        rw [vn_get r q hlt, hv] at hx
        injection hx with hx
        subst hx
        have hne := (HT.out.row.new HN2.out).ne_int hc
        have h1 := HCH.out.cellOf hc hne
        have h2 := HCH.out.cellOf ((HN2.out.cell (p := ⟨b3, 0, none⟩) (block_lt_of_cell hg)).trans hg) n3
        have h3 := HBO.out.cell hvn
        have h4 := HBO.out.frozen v
        have tq : (q : Int) < (r.length : Int) := by omega
        have tv : (v : Int) < (n : Int) := by omega
        have HV := Lib.hid hv
        clear hne hc ha hmem hv
        go_wp2
        go_roundw
        case rel =>
          refine ⟨q + 1, by omega, by go_num, (HBO.out.set v true).alike (fun j hj => ?_), HCH.out.setCell (fun _ => rfl) _⟩
          have hmj : ((j : Int) ∈ r.take (q + 1)) ↔ ((j : Int) ∈ r.take q ∨ j = v) := by
            rw [List.take_succ_eq_append_getElem hlt, HV.out, List.mem_append, List.mem_singleton, Int.natCast_inj]
          by_cases e : j = v
          · have hm := hmj.2 (.inr e)
            rw [if_pos e, decide_eq_true hm, Bool.or_true]
          · rw [if_neg e]
            have hm : ((j : Int) ∈ r.take (q + 1)) ↔ ((j : Int) ∈ r.take q) := hmj.trans ⟨fun h => h.resolve_right e, .inl⟩
            rw [decide_eq_decide.2 hm]
        case measure => simp [intOf]; omega
      · obtain rfl : q = r.length := by omega
        go_wp2
        go_ret
        refine ⟨rfl, HBO.out.alike (fun j hj => by rw [List.take_length, ← HR.out]), ?_⟩
        exact (Ch.of_new HN2.out).trans HCH.out
end Go.Proofs.Ytlchimbaclenaaa.sh
