/-
  Lists of entries that came in; two readers side by side.
-/
import Derived.Test.YtpkiopijfhkagaaGreatDoorMath
import Derived.Test.YtpkiopijfhkagaaGreatDoorRefW
import Derived.Deep.MidRow
namespace Go.Proofs.YtpkiopijfhkagaaGreatDoor.rd
open Go.RowKit Go.Proofs.YtpkiopijfhkagaaGreatDoor.mem Go.Proofs.YtpkiopijfhkagaaGreatDoor.kit Go.Proofs.YtpkiopijfhkagaaGreatDoor.wire
set_option linter.unusedVariables false

/-- An entry that came in. -/
structure En where
  term : Int
  kind : Int
  version : Int
  server : Int
  good : Bool
  A : Option Addr
  c : Nat
  data : List UInt8
def En.cells (e : En) : List Value := [.int .i64 e.term, .int .u8 e.kind, .int .i64 e.version, .int .i64 e.server, .bool e.good, .slice e.A e.data.length e.c]
def En.bytes (e : En) : List UInt8 := entB e.term e.kind e.version e.server e.good e.data
structure En.Ok (e : En) : Prop where
  t : -9223372036854775808 ≤ e.term ∧ e.term ≤ 9223372036854775807
  k : 0 ≤ e.kind ∧ e.kind ≤ 255
  v : -9223372036854775808 ≤ e.version ∧ e.version ≤ 9223372036854775807
  s : -9223372036854775808 ≤ e.server ∧ e.server ≤ 9223372036854775807
  l : e.data.length ≤ maxLen

/-- They stand in a row below block B. -/
def Ents (w : World) (B : Nat) (A : Option Addr) (es : List En) : Prop :=
  ∀ (i : Nat) (h : i < es.length), es[i].Ok ∧ Reads w B 1 es[i].A es[i].data.length (vb es[i].data) ∧
    ∃ b o, A = some ⟨b, o, none⟩ ∧ b < B ∧ w.rangeAt b (o + i * 6) es[i].cells

/-- An entry's six cells, as a walk asks for them. -/
def SixAt (w : World) (b o : Nat) (e : En) : Prop :=
  w.cell? ⟨b, o, none⟩ = some (.int .i64 e.term) ∧ w.cell? ⟨b, o + 1, none⟩ = some (.int .u8 e.kind) ∧ w.cell? ⟨b, o + 2, none⟩ = some (.int .i64 e.version) ∧ w.cell? ⟨b, o + 3, none⟩ = some (.int .i64 e.server) ∧ w.cell? ⟨b, o + 4, none⟩ = some (.bool e.good) ∧ w.cell? ⟨b, o + 5, none⟩ = some (.slice e.A e.data.length e.c)
theorem sixAt_of {w : World} {b o : Nat} {e : En} (h : w.rangeAt b o e.cells) : SixAt w b o e :=
  ⟨h 0 _ rfl, h 1 _ rfl, h 2 _ rfl, h 3 _ rfl, h 4 _ rfl, h 5 _ rfl⟩
theorem SixAt.keep {w w' : World} {b o : Nat} {e : En} (h : SixAt w b o e) (hk : ∀ i, w'.cell? ⟨b, i, none⟩ = w.cell? ⟨b, i, none⟩) : SixAt w' b o e := by
  obtain ⟨h0, h1, h2, h3, h4, h5⟩ := h
  exact ⟨(hk _).trans h0, (hk _).trans h1, (hk _).trans h2, (hk _).trans h3, (hk _).trans h4, (hk _).trans h5⟩
theorem SixAt.below {w w' : World} {B b o : Nat} {e : En} (h : SixAt w b o e) (hb : Below B w w') (hlt : b < B) : SixAt w' b o e := h.keep fun i => hb.cell (p := ⟨b, i, none⟩) hlt
theorem Ents.below {w w' : World} {B : Nat} {A : Option Addr} {es : List En} (h : Ents w B A es) (hb : Below B w w') : Ents w' B A es := fun i hi => by
  obtain ⟨ho, hr, b, o, e, hlt, hc⟩ := h i hi
  exact ⟨ho, hr.below hb, b, o, e, hlt, fun j v hv => (hb.cell (p := ⟨b, _, none⟩) hlt).trans (hc j v hv)⟩

/-- How many eighths there are. -/
def tot (es : List En) (k : Nat) : Nat := es.length + ((es.take k).map fun e => e.data.length / 8).sum
theorem tot_succ (es : List En) (k : Nat) (h : k < es.length) : tot es (k + 1) = tot es k + es[k].data.length / 8 := by
  unfold tot
  rw [← List.take_append_getElem h]
  simp only [List.map_append, List.sum_append, List.map_cons, List.map_nil, List.sum_cons, List.sum_nil]
  omega
def entsB (es : List En) : List UInt8 := (es.map En.bytes).flatten
theorem bytes_len (e : En) : e.bytes.length = 48 + e.data.length := by simp [En.bytes, entB, lenB, numB_length]; omega
theorem entsB_cons (e : En) (es : List En) : entsB (e :: es) = e.bytes ++ entsB es := by simp [entsB]
theorem entsB_snoc (e : En) (es : List En) : entsB (es ++ [e]) = entsB es ++ e.bytes := by simp [entsB]
theorem entsB_len : ∀ (es : List En), (entsB es).length ≤ 55 * es.length + 8 * (es.map fun e => e.data.length / 8).sum
  | [] => by simp [entsB]
  | e :: es => by
    have := entsB_len es
    rw [entsB_cons, List.length_append, bytes_len]
    simp only [List.length_cons, List.map_cons, List.sum_cons]
    omega

theorem reads_take {w : World} {B n k : Nat} {A : Option Addr} {l : List UInt8} (h : Reads w B 1 A n (vb l)) (hk : k ≤ n) : Reads w B 1 A k (vb (l.take k)) := by
  have hn : l.length = n := by have := h.1; simpa [vb] using this
  refine ⟨by simp [vb]; omega, fun h0 => ?_⟩
  obtain ⟨ad, e, hb, hc⟩ := h.2 (by omega)
  refine ⟨ad, e, hb, fun j u hu => hc j u ?_⟩
  have hlt : j < k := by
    have := (List.getElem?_eq_some_iff.1 hu).1
    simp [vb] at this
    omega
  rw [show vb (l.take k) = (vb l).take k by simp [vb], List.getElem?_take, if_pos hlt] at hu
  exact hu

/-! ### two readers side by side -/
theorem Good.blk {w : World} {g : Nat} {l : List UInt8} (h : Good w g l) : ∃ cs, Blk w g 77 cs := by obtain ⟨_, _, hb, _⟩ := h; exact ⟨_, hb⟩
theorem Good.other {w w' : World} {g b : Nat} {l : List UInt8} (h : Good w g l) (hb : ∃ cs, Blk w b 77 cs) (hch : Ch (fun j => j = b) w w') (hne : b ≠ g) : Good w' g l := by
  obtain ⟨cs, hb⟩ := hb
  exact h.past hb hch (by decide) hne

/-- A reader of bytes that were cut: bad, or it has less left than the other one, R. -/
def Cut (w : World) (g : Nat) (R : List UInt8) : Prop := Zero w g ∨ ∃ k, k < R.length ∧ Good w g (R.take k)
theorem Cut.blk {w : World} {g : Nat} {R : List UInt8} (h : Cut w g R) : ∃ cs, Blk w g 77 cs := by
  rcases h with h | ⟨k, _, h⟩
  · exact ⟨_, h⟩
  · exact h.blk
theorem Cut.other {w w' : World} {g b : Nat} {R : List UInt8} (h : Cut w g R) (hb : ∃ cs, Blk w b 77 cs) (hch : Ch (fun j => j = b) w w') (hne : b ≠ g) : Cut w' g R := by
  rcases h with h | ⟨k, hk, h⟩
  · exact Or.inl (Blk.ch h hch (fun e => hne e.symm))
  · exact Or.inr ⟨k, hk, h.other hb hch hne⟩
theorem Cut.new {w w' : World} {g : Nat} {R : List UInt8} (h : Cut w g R) (hn : New w w') : Cut w' g R := by
  rcases h with h | ⟨k, hk, h⟩
  · exact Or.inl (Blk.below h hn h.lt)
  · exact Or.inr ⟨k, hk, h.new hn⟩

def CutDone (w : World) (g : Nat) (R : List UInt8) (e : Ending) (w' : World) : Prop := ∃ v, e = .returned v ∧ Cut w' g R ∧ Ch (fun j => j = g) w w'
def CutNum (w : World) (g : Nat) (R : List UInt8) (e : Ending) (w' : World) : Prop := ∃ v : Int, e = .returned (.int .i64 v) ∧ Cut w' g R ∧ Ch (fun j => j = g) w w'

theorem cut_number (T : TypeId) (q : Addr) (g : Nat) (R : List UInt8) (w : World) (hR : R.length ≤ 1099511627776) (h : Cut w g R) (hE : ErrAt w T q) :
    Calls Tryz.prog 24 #[.pointer (some ⟨g, 0, none⟩)] w (CutDone w g (R.drop 8)) := by
  rcases h with h | ⟨k, hk, h⟩
  · exact (Number_zero g w h).mono fun e w' ⟨he, hn⟩ => ⟨_, he, Or.inl (Blk.below h hn h.lt), Ch.of_new hn⟩
  · by_cases h8 : 8 ≤ (R.take k).length
    · refine (Number_ok g _ w h8 (by simp; omega) h).mono fun e w' ⟨he, hG, hch⟩ => ?_
      obtain ⟨k', hk1, hk2⟩ := cutN R k hk h8
      rw [hk1] at hG
      exact ⟨_, he, Or.inr ⟨k', hk2, hG⟩, hch⟩
    · exact (Number_no T q g _ w (by omega) h hE).mono fun e w' ⟨he, hZ, hch⟩ => ⟨_, he, Or.inl hZ, hch⟩
theorem cut_bytes (T : TypeId) (q : Addr) (g : Nat) (R : List UInt8) (w : World) (hR : R.length ≤ 1099511627776) (h : Cut w g R) (hE : ErrAt w T q) :
    Calls Tryz.prog 26 #[.pointer (some ⟨g, 0, none⟩)] w (CutDone w g (restB R)) := by
  rcases h with h | ⟨k, hk, h⟩
  · exact (Bytes_zero g w h).mono fun e w' ⟨he, hn⟩ => ⟨_, he, Or.inl (Blk.below h hn h.lt), Ch.of_new hn⟩
  · by_cases h8 : canB (R.take k)
    · refine (Bytes_ok g _ w h8 (by simp; omega) h).mono fun e w' ⟨A, c, he, ho, hG, hch⟩ => ?_
      obtain ⟨k', hk1, hk2⟩ := cutB R k hk h8
      rw [hk1] at hG
      exact ⟨_, he, Or.inr ⟨k', hk2, hG⟩, hch⟩
    · exact (Bytes_no T q g _ w h8 (by simp; omega) h hE).mono fun e w' ⟨he, hZ, hch⟩ => ⟨_, he, Or.inl hZ, hch⟩
theorem cut_entry (T : TypeId) (q : Addr) (g : Nat) (R : List UInt8) (w : World) (hR : R.length ≤ 1099511627776) (h : Cut w g R) (hE : ErrAt w T q) :
    Calls Tryz.prog 28 #[.pointer (some ⟨g, 0, none⟩)] w (CutDone w g (restE R)) := by
  rcases h with h | ⟨k, hk, h⟩
  · exact (Entry_zero g w h).mono fun e w' ⟨he, hn⟩ => ⟨_, he, Or.inl (Blk.below h hn h.lt), Ch.of_new hn⟩
  · by_cases h8 : canE (R.take k)
    · refine (Entry_ok g _ w h8 (by simp; omega) h).mono fun e w' ⟨A, c, v, he, hv, ho, hG, hch⟩ => ?_
      obtain ⟨k', hk1, hk2⟩ := cutE R k hk h8
      rw [hk1] at hG
      exact ⟨_, he, Or.inr ⟨k', hk2, hG⟩, hch⟩
    · exact (Entry_no T q g _ w h8 (by simp; omega) h hE).mono fun e w' ⟨he, hZ, hch⟩ => ⟨_, he, Or.inl hZ, hch⟩

/-! ### the whole one -/
theorem whole_number (n : Int) (R : List UInt8) (g : Nat) (w : World) (n0 : -9223372036854775808 ≤ n) (n1 : n ≤ 9223372036854775807) (hl : (numB n ++ R).length ≤ 1099511627776) (h : Good w g (numB n ++ R)) :
    Calls Tryz.prog 24 #[.pointer (some ⟨g, 0, none⟩)] w (fun e w' => e = .returned (.int .i64 n) ∧ Good w' g R ∧ Ch (fun j => j = g) w w') :=
  (Number_ok g _ w (by rw [List.length_append, numB_length]; omega) hl h).mono fun e w' ⟨he, hG, hch⟩ => by
    rw [numV_numB n R n0 n1] at he
    rw [drop_numB] at hG
    exact ⟨he, hG, hch⟩
def WholeB (w : World) (g : Nat) (l R : List UInt8) (e : Ending) (w' : World) : Prop :=
  ∃ A c, e = .returned (.slice A l.length c) ∧ w'.ownsRow w.heap.size 5 1 (.slice A l.length c) l.length (vb l) ∧ Good w' g R ∧ Ch (fun j => j = g) w w'
theorem whole_bytes (l R : List UInt8) (g : Nat) (w : World) (hl : (lenB l ++ R).length ≤ 1099511627776) (h : Good w g (lenB l ++ R)) :
    Calls Tryz.prog 26 #[.pointer (some ⟨g, 0, none⟩)] w (WholeB w g l R) := by
  have hll : l.length ≤ 1099511627776 := by rw [List.length_append] at hl; simp only [lenB, List.length_append, numB_length] at hl; omega
  obtain ⟨h1, h2, h3⟩ := lenB_canB l R hll
  refine (Bytes_ok g _ w h1 hl h).mono fun e w' ⟨A, c, he, ho, hG, hch⟩ => ?_
  rw [h2] at he ho
  rw [h3] at hG
  exact ⟨A, c, he, ho, hG, hch⟩
def WholeE (w : World) (g : Nat) (x : En) (R : List UInt8) (e : Ending) (w' : World) : Prop :=
  ∃ A c, e = .returned (ent x.term x.kind x.version x.server x.good (.slice A x.data.length c)) ∧ w'.ownsRow w.heap.size 5 1 (.slice A x.data.length c) x.data.length (vb x.data) ∧ Good w' g R ∧ Ch (fun j => j = g) w w'
theorem whole_entry (x : En) (R : List UInt8) (g : Nat) (w : World) (hx : x.Ok) (hl : (x.bytes ++ R).length ≤ 1099511627776) (h : Good w g (x.bytes ++ R)) :
    Calls Tryz.prog 28 #[.pointer (some ⟨g, 0, none⟩)] w (WholeE w g x R) := by
  have hll : x.data.length ≤ 1099511627776 := by rw [List.length_append, bytes_len] at hl; omega
  obtain ⟨h1, h2, h3, h4⟩ := entB_canE x.term x.kind x.version x.server x.good x.data R hx.t.1 hx.t.2 hx.k.1 hx.k.2 hx.v.1 hx.v.2 hx.s.1 hx.s.2 hll
  refine (Entry_ok g _ w h1 hl h).mono fun e w' ⟨A, c, v, he, hv, ho, hG, hch⟩ => ?_
  rw [h3] at hv ho
  rw [h4] at hG
  have hv' : v = ent x.term x.kind x.version x.server x.good (.slice A x.data.length c) := hv.trans (h2 _)
  exact ⟨A, c, by rw [he, hv'], ho, hG, hch⟩

end Go.Proofs.YtpkiopijfhkagaaGreatDoor.rd
