/-
  Lists of instructions, and of numbers, in memory; same, of both.
-/
import Derived.Test.YtlchimbaclenaaaInsC
namespace Go.Proofs.Ytlchimbaclenaaa.ins
open Go.RowKit Go.Proofs.Ytlchimbaclenaaa.mem Go.Proofs.Ytlchimbaclenaaa.kit
set_option linter.unusedVariables false

def vi : List In → List Value
  | [] => []
  | i :: l => .int .u8 i.op :: .bool i.nar :: .int .i64 i.dst :: .int .i64 i.src :: .bool i.use :: .int .i64 i.off :: .int .i64 i.imm :: .int .i64 i.siz :: vi l
theorem vi_length : ∀ (l : List In), (vi l).length = l.length * 8
  | [] => rfl
  | i :: l => by simp only [vi, List.length_cons, vi_length l]; omega
theorem vi_append : ∀ (a b : List In), vi (a ++ b) = vi a ++ vi b
  | [], b => rfl
  | i :: a, b => by simp only [List.cons_append, vi, vi_append a b]
theorem vi_one : ∀ (l : List In), ∀ u ∈ vi l, u.oneCell' = true
  | [], u, h => by simp [vi] at h
  | i :: l, u, h => by
    simp only [vi, List.mem_cons] at h
    rcases h with rfl | rfl | rfl | rfl | rfl | rfl | rfl | rfl | h
    all_goals first | rfl | exact vi_one l u h
/-- The eight cells of one of them. -/
theorem vi_at : ∀ (l : List In) (k : Nat) (h : k < l.length), (vi l)[k * 8]? = some (.int .u8 l[k].op) ∧ (vi l)[k * 8 + 1]? = some (.bool l[k].nar) ∧ (vi l)[k * 8 + 2]? = some (.int .i64 l[k].dst) ∧ (vi l)[k * 8 + 3]? = some (.int .i64 l[k].src) ∧
    (vi l)[k * 8 + 4]? = some (.bool l[k].use) ∧ (vi l)[k * 8 + 5]? = some (.int .i64 l[k].off) ∧ (vi l)[k * 8 + 6]? = some (.int .i64 l[k].imm) ∧ (vi l)[k * 8 + 7]? = some (.int .i64 l[k].siz)
  | [], k, h => by simp at h
  | i :: l, 0, h => ⟨rfl, rfl, rfl, rfl, rfl, rfl, rfl, rfl⟩
  | i :: l, k + 1, h => by
    have h' : k < l.length := by simpa using h
    have e : ∀ j, (vi (i :: l))[(k + 1) * 8 + j]? = (vi l)[k * 8 + j]? := fun j => by
      rw [show (k + 1) * 8 + j = (k * 8 + j) + 1 + 1 + 1 + 1 + 1 + 1 + 1 + 1 by omega]
      simp only [vi, List.getElem?_cons_succ]
    have e0 := e 0
    simp only [Nat.add_zero] at e0
    rw [e0, e, e, e, e, e, e, e]
    simpa using vi_at l k h'

/-- An instruction's eight cells in memory. -/
def At (w : World) (b k : Nat) (i : In) : Prop :=
  w.cell? ⟨b, k, none⟩ = some (.int .u8 i.op) ∧ w.cell? ⟨b, k + 1, none⟩ = some (.bool i.nar) ∧ w.cell? ⟨b, k + 2, none⟩ = some (.int .i64 i.dst) ∧ w.cell? ⟨b, k + 3, none⟩ = some (.int .i64 i.src) ∧ w.cell? ⟨b, k + 4, none⟩ = some (.bool i.use) ∧ w.cell? ⟨b, k + 5, none⟩ = some (.int .i64 i.off) ∧ w.cell? ⟨b, k + 6, none⟩ = some (.int .i64 i.imm) ∧ w.cell? ⟨b, k + 7, none⟩ = some (.int .i64 i.siz)
theorem At.new {w w' : World} {b k : Nat} {i : In} (h : At w b k i) (hb : b < w.heap.size) (hn : New w w') : At w' b k i := by
  obtain ⟨h0, h1, h2, h3, h4, h5, h6, h7⟩ := h
  have c : ∀ j, w'.cell? ⟨b, j, none⟩ = w.cell? ⟨b, j, none⟩ := fun j => hn.cell (p := ⟨b, j, none⟩) hb
  exact ⟨(c _).trans h0, (c _).trans h1, (c _).trans h2, (c _).trans h3, (c _).trans h4, (c _).trans h5, (c _).trans h6, (c _).trans h7⟩
theorem spot_of {w : World} {a : Addr} {v : Value} (h : w.cell? a = some v) : a.spot = none := by
  unfold World.cell? at h
  split at h
  · split at h
    · cases h
    · rename_i hs
      cases hsp : a.spot with
      | none => rfl
      | some p => rw [hsp] at hs; simp at hs
  · cases h

/-- Instructions that read as a list. -/
abbrev RI (w : World) (A : Option Addr) (l : List In) : Prop := Reads w w.heap.size 8 A l.length (vi l)
theorem RI.at_ {w : World} {A : Option Addr} {l : List In} (h : RI w A l) {k : Nat} (hk : k < l.length) : ∃ g o, A = some ⟨g, o, none⟩ ∧ g < w.heap.size ∧ At w g (o + k * 8) l[k] := by
  obtain ⟨ad, rfl, hb, hc⟩ := h.2 (by omega)
  obtain ⟨h0, h1, h2, h3, h4, h5, h6, h7⟩ := vi_at l k hk
  have c0 := hc _ _ h0
  have hs := spot_of (hc _ _ (vi_at l 0 (by omega)).1)
  rw [Nat.zero_mul] at hs
  obtain ⟨g, o, sp⟩ := ad
  have hsp : sp = none := by simpa [Addr.add] using hs
  subst hsp
  refine ⟨g, o, rfl, hb, ?_⟩
  have e : ∀ j, (Addr.mk g o none).add j = ⟨g, o + j, none⟩ := fun j => Addr.add_lit _ _ _
  have c1 := hc _ _ h1
  have c2 := hc _ _ h2
  have c3 := hc _ _ h3
  have c4 := hc _ _ h4
  have c5 := hc _ _ h5
  have c6 := hc _ _ h6
  have c7 := hc _ _ h7
  rw [e] at c0 c1 c2 c3 c4 c5 c6 c7
  exact ⟨c0, c1, c2, c3, c4, c5, c6, c7⟩

/-- Numbers as cells. -/
def vn (l : List Int) : List Value := l.map fun z => .int .i64 z
theorem vn_length (l : List Int) : (vn l).length = l.length := by simp [vn]
theorem vn_get (l : List Int) (k : Nat) (h : k < l.length) : (vn l)[k]? = some (.int .i64 l[k]) := by simp [vn, h]
theorem vn_append (a b : List Int) : vn (a ++ b) = vn a ++ vn b := by simp [vn]
theorem vn_one (l : List Int) : ∀ u ∈ vn l, u.oneCell' = true := by
  intro u hu
  simp only [vn, List.mem_map] at hu
  obtain ⟨b, _, rfl⟩ := hu
  rfl

theorem eq_same (o : Int) (n : Bool) (d s : Int) (u : Bool) (f m z : Int) (w : World) :
    (Op.equalIn 10000 34 (.agg #[.int .u8 o, .bool n, .int .i64 d, .int .i64 s, .bool u, .int .i64 f, .int .i64 m, .int .i64 z]) (.agg #[.int .u8 o, .bool n, .int .i64 d, .int .i64 s, .bool u, .int .i64 f, .int .i64 m, .int .i64 z])).run Try.prog w = .ok true w := by
  rw [eq_ins]
  simp [sameB]

end Go.Proofs.Ytlchimbaclenaaa.ins
