/-
  Contracts of wire's reader: bytes that are counted, entries.
-/
import Derived.Test.YtpkiopijfhkagaaGreatDoorRead
namespace Go.Proofs.YtpkiopijfhkagaaGreatDoor.rd
open Go.RowKit Go.Proofs.YtpkiopijfhkagaaGreatDoor.mem Go.Proofs.YtpkiopijfhkagaaGreatDoor.kit Go.Proofs.YtpkiopijfhkagaaGreatDoor.wire
set_option linter.unusedVariables false

set_option maxRecDepth 100000 in
theorem clone_any (A : Option Addr) (c : Nat) (l : List UInt8) (w : World) (hl : l.length ≤ 1099511627776) (hA : Reads w w.heap.size 1 A l.length (vb l)) :
    Calls Tryz.prog 40 #[.slice A l.length c] w (Got w l) := by
  obtain ⟨i0, hi, hz0, hz1, hz2⟩ := info_parts byte_info
  have qT : ∀ (w : World) (a : Option Addr) (n c n' c' : Nat), (binOp .eql 23 (.slice a n c) (.slice none n' c')).run Tryz.prog w = .ok (.bool a.isNone) w := fun w a n c n' c' => Lib.run_eql_slice_nil w _ _ a n c n' c' Tryz.underlying23
  rcases A with _ | ad
  · have h0 : l = [] := by
      rcases Nat.eq_zero_or_pos l.length with h | h
      · exact List.eq_nil_of_length_eq_zero h
      · obtain ⟨ad, e, _⟩ := hA.2 h
        cases e
    subst h0
    clear hA
    go_enter Tryz.func40, Tryz.ntmps40
    go_wp2
    go_ret
    exact Got.mk (World.ownsRow_nil _ _ _ _) (new_refl _)
  · have hlit := World.ownsRow_lit (e := 5) (base := w.heap.size) (size := 1) w #[] 0 (Nat.le_refl _) (by simp [maxLen]) rfl
    have hb0 : New w (w.alloc (.cells #[] 5)) := (new_refl w).alloc (Nat.le_refl _) _
    have HA := Lib.hid (hA.new hb0)
    have HL := Lib.hid hlit
    clear hA hlit
    go_enter Tryz.func40, Tryz.ntmps40
    go_wp2_with
      (at_builtin; refine wpList_append_any _ rfl (.tmp 5) (.tmp 6) 23 rfl w.heap.size 5 i0 _ 1 1 Tryz.underlying23 hi hz0 hz1 hz2 rfl (by omega) _ _ _ rfl HL.out _ _ _ _ _ rfl HA.out (vb_one _) (by unfold maxLen; omega) (by omega) hb0.size ?_; intro v2 w2 hown2 hg2 _)
    have hb2 : New w w2 := hb0.grown hg2 hb0.size (fun j hj => (HL.out.lt j hj).1)
    go_ret
    refine Got.mk ?_ hb2
    simpa using hown2

/-- What may be read counted: a length, and as many bytes. -/
def canB (l : List UInt8) : Prop := 8 ≤ l.length ∧ 0 ≤ numV l ∧ numV l ≤ (l.length : Int) - 8
def valB (l : List UInt8) : List UInt8 := (l.drop 8).take (numV l).toNat
def restB (l : List UInt8) : List UInt8 := (l.drop 8).drop (numV l).toNat

def CountOk (w : World) (g : Nat) (l : List UInt8) (e : Ending) (w' : World) : Prop :=
  ∃ A c, e = .returned (.slice A (valB l).length c) ∧ w'.ownsRow w.heap.size 5 1 (.slice A (valB l).length c) (valB l).length (vb (valB l)) ∧ Good w' g (restB l) ∧ Ch (fun j => j = g) w w'

theorem Good.new {w w' : World} {g : Nat} {l : List UInt8} (h : Good w g l) (hn : New w w') : Good w' g l := by
  obtain ⟨A, c, hb, h1, h2, hr, h3⟩ := h
  exact ⟨A, c, hb.below hn hb.lt, h1, h2, hr.new hn, fun ad e => by obtain ⟨cs, hcs⟩ := h3 ad e; exact ⟨cs, hcs.below hn hcs.lt⟩⟩

set_option maxRecDepth 100000 in
theorem counted_ok (g : Nat) (l : List UInt8) (w : World) (hv : canB l) (hl : l.length ≤ 1099511627776) (h : Good w g l) :
    Calls Tryz.prog 46 #[.pointer (some ⟨g, 0, none⟩)] w (CountOk w g l) := by
  obtain ⟨h8, v0, v1⟩ := hv
  obtain ⟨n, hn⟩ : ∃ n : Nat, numV l = (n : Int) := ⟨(numV l).toNat, by omega⟩
  have hnt : (numV l).toNat = n := by omega
  have hkl : n ≤ (l.drop 8).length := by rw [List.length_drop]; omega
  have ht : Calls Tryz.prog 43 #[.pointer (some ⟨g, 0, none⟩)] w (fun e w' => e = .returned (.int .i64 (n : Int)) ∧ Good w' g (l.drop 8) ∧ Ch (fun j => j = g) w w') :=
    (left_number_ok g l w h8 hl h).mono fun e w' hh => ⟨by rw [hh.1, hn], hh.2⟩
  have HT := Lib.hid ht
  have hval : valB l = (l.drop 8).take n := by unfold valB; rw [hnt]
  have hrest : restB l = (l.drop 8).drop n := by unfold restB; rw [hnt]
  have hlen : n = (valB l).length := by rw [hval, List.length_take]; omega
  have hvl : (valB l).length ≤ 1099511627776 := by rw [← hlen]; rw [List.length_drop] at hkl; omega
  have hdl : (l.drop 8).length ≤ 1099511627776 := by rw [List.length_drop]; omega
  have HLEN := Lib.hid hlen
  have HVAL := Lib.hid hval
  have HREST := Lib.hid hrest
  clear h hn hlen ht hval hrest hnt v0 v1
  generalize l.drop 8 = l8 at *
  have n63 : (n : Int) ≤ 9223372036854775807 := by omega
  go_enter Tryz.func46, Tryz.ntmps46
  go_wp2_with (first
    | (go_at_call 43; refine HT.out.mono ?_; rintro e w1 ⟨rfl, hG, hch⟩)
    | (go_at_call 75; refine (take_ok g n l8 _ hkl hdl hG).mono ?_; rintro e w2 ⟨A, c, rfl, hr, hG2, hch2⟩; rw [← HVAL.out] at hr; rw [← HREST.out] at hG2; have hr2 : Reads w2 w2.heap.size 1 A (valB l).length (vb (valB l)) := (by rw [← HLEN.out]; exact hr); rw [HLEN.out])
    | (go_at_call 40; refine (clone_any A c (valB l) _ hvl hr2).mono ?_; rintro e w3 ⟨A3, c3, rfl, ho, hn⟩))
  go_ret
  have hc2 : Ch (fun j => j = g) w w2 := hch.then hch2 (fun i _ h => h)
  exact ⟨A3, c3, rfl, own_base ho hc2.size, hG2.new hn, hc2.then (Ch.of_new (S := fun j => j = g) hn) (fun i _ h => h)⟩

set_option maxRecDepth 100000 in
theorem counted_no (T : TypeId) (q : Addr) (g : Nat) (l : List UInt8) (w : World) (hv : ¬ canB l) (hl : l.length ≤ 1099511627776) (h : Good w g l) (hE : ErrAt w T q) :
    Calls Tryz.prog 46 #[.pointer (some ⟨g, 0, none⟩)] w (Fell w T q g) := by
  by_cases h8 : 8 ≤ l.length
  · have hne := h.ne hE
    have HT := Lib.hid (left_number_ok g l w h8 hl h)
    obtain ⟨n0, n1⟩ := numV_bd l
    have hbad : numV l < 0 ∨ ((l.drop 8).length : Int) < numV l := by
      rw [List.length_drop]
      rcases Int.lt_or_le (numV l) 0 with hh | hh
      · exact Or.inl hh
      · exact Or.inr (by have : ¬ numV l ≤ (l.length : Int) - 8 := fun hx => hv ⟨h8, hh, hx⟩; omega)
    have hdl : (l.drop 8).length ≤ 1099511627776 := by rw [List.length_drop]; omega
    clear h hv
    have HB := Lib.hid hbad
    clear hbad
    go_enter Tryz.func46, Tryz.ntmps46
    go_wp2_with (first
      | (go_at_call 43; refine HT.out.mono ?_; rintro e w1 ⟨rfl, hG, hch⟩)
      | (go_at_call 75; refine (take_no T q g _ (l.drop 8) _ n0 n1 HB.out hdl hG (hE.ch hch hne)).mono ?_; rintro e w2 ⟨rfl, hb, hch2⟩))
    exact ⟨rfl, rfl, hb, hch.then hch2 (fun i _ h => h)⟩
  · have HT := Lib.hid (left_number_no T q g l w (by omega) h hE)
    clear h hv
    go_enter Tryz.func46, Tryz.ntmps46
    go_wp2_with (go_at_call 43; refine HT.out.mono ?_; rintro e w1 ⟨rfl, hb, hch⟩)
    exact ⟨rfl, rfl, hb, hch⟩


/-- A store elsewhere, into a block that is no list of bytes. -/
theorem Good.far {w : World} {g : Nat} {l : List UInt8} {p : Addr} {t : TypeId} {cs : Array Value} (h : Good w g l) (hb : Blk w p.block t cs) (ht : t ≠ 5) (hg : p.block ≠ g) (u : Value) : Good (w.setCell p u) g l := by
  obtain ⟨A, c, h0, h1, h2, hr, h3⟩ := h
  have hch : Ch (fun j => j = p.block) w (w.setCell p u) := (Ch.refl (fun j => j = p.block) w).setCell (p := p) (fun _ => rfl) u
  have hne : ∀ ad, A = some ad → ad.block ≠ p.block := fun ad e => by
    obtain ⟨cs', hcs⟩ := h3 ad e
    exact hcs.ne_ hb (fun e => ht e.symm)
  exact ⟨A, c, h0.ch hch (fun e => hg e.symm), h1, h2, hr.ch hch (fun ad e => hne ad e), fun ad e => by
    obtain ⟨cs', hcs⟩ := h3 ad e
    exact ⟨cs', hcs.ch hch (hne ad e)⟩⟩

/-- The same, whatever was done to that block. -/
theorem Good.past {w w' : World} {g b : Nat} {l : List UInt8} {t : TypeId} {cs : Array Value} (h : Good w g l) (hb : Blk w b t cs) (hch : Ch (fun j => j = b) w w') (ht : t ≠ 5) (hg : b ≠ g) : Good w' g l := by
  obtain ⟨A, c, h0, h1, h2, hr, h3⟩ := h
  have hne : ∀ ad, A = some ad → ad.block ≠ b := fun ad e => by
    obtain ⟨cs', hcs⟩ := h3 ad e
    exact hcs.ne_ hb (fun e => ht e.symm)
  exact ⟨A, c, h0.ch hch (fun e => hg e.symm), h1, h2, hr.ch hch (fun ad e => hne ad e), fun ad e => by
    obtain ⟨cs', hcs⟩ := h3 ad e
    exact ⟨cs', hcs.ch hch (hne ad e)⟩⟩
theorem ch_setRow (w : World) (b : Nat) (cs : Array Value) : Ch (fun j => j = b) w (w.setRow b cs) := ⟨rfl, rfl, rfl, by simp, fun k _ hk => setRow_other w b k cs hk⟩

/-- What may be read as an entry. -/
def canE (l : List UInt8) : Prop :=
  40 ≤ l.length ∧ (0 ≤ numV (l.drop 8) ∧ numV (l.drop 8) ≤ 255) ∧ (0 ≤ numV (l.drop 32) ∧ numV (l.drop 32) ≤ 1) ∧ canB (l.drop 40)
/-- The entry, its data as the slice v. -/
def entV (l : List UInt8) (v : Value) : Value :=
  .agg #[.int .i64 (numV l), .int .u8 (numV (l.drop 8)), .int .i64 (numV (l.drop 16)), .int .i64 (numV (l.drop 24)), .bool (numV (l.drop 32) == 1), v]
def dataE (l : List UInt8) : List UInt8 := valB (l.drop 40)
def restE (l : List UInt8) : List UInt8 := restB (l.drop 40)

def EntOk (w : World) (g : Nat) (l : List UInt8) (e : Ending) (w' : World) : Prop :=
  ∃ A c v, e = .returned v ∧ v = entV l (.slice A (dataE l).length c) ∧ w'.ownsRow w.heap.size 5 1 (.slice A (dataE l).length c) (dataE l).length (vb (dataE l)) ∧ Good w' g (restE l) ∧ Ch (fun j => j = g) w w'

/-- An entry on its way: the reader, the variable that is filled, the result's variable. -/
structure St (w0 : World) (g rb eb : Nat) (l : List UInt8) (c0 c1 c2 c3 c4 c5 : Value) (w : World) : Prop where
  good : Good w g l
  blk : Blk w eb 28 #[c0, c1, c2, c3, c4, c5]
  res : ∃ a b c d e f, Blk w rb 28 #[a, b, c, d, e, f]
  ne : eb ≠ g ∧ rb ≠ g ∧ rb ≠ eb
  new : w0.heap.size ≤ eb ∧ w0.heap.size ≤ rb
  ch : Ch (fun j => j = g) w0 w

theorem St.set_ {w0 w : World} {g rb eb i : Nat} {l : List UInt8} {c0 c1 c2 c3 c4 c5 d0 d1 d2 d3 d4 d5 : Value} (h : St w0 g rb eb l c0 c1 c2 c3 c4 c5 w) {u : Value} {cs : Array Value} (hb : Blk (w.setCell ⟨eb, i, none⟩ u) eb 28 cs) (hc : cs = #[d0, d1, d2, d3, d4, d5]) (_u : Value) : St w0 g rb eb l d0 d1 d2 d3 d4 d5 (w.setCell ⟨eb, i, none⟩ u) := by
  subst hc
  obtain ⟨a, b, c, d, e, f, hr⟩ := h.res
  exact ⟨h.good.far (p := ⟨eb, i, none⟩) h.blk (by decide) h.ne.1 u, hb, ⟨a, b, c, d, e, f, hr.far (p := ⟨eb, i, none⟩) h.ne.2.2 u⟩, h.ne, h.new, h.ch.setCell (p := ⟨eb, i, none⟩) (fun hlt => absurd hlt (by have := h.new.1; simp; omega)) u⟩
theorem St.set0 {w0 w : World} {g rb eb : Nat} {l : List UInt8} {c0 c1 c2 c3 c4 c5 : Value} (h : St w0 g rb eb l c0 c1 c2 c3 c4 c5 w) (u : Value) : St w0 g rb eb l u c1 c2 c3 c4 c5 (w.setCell ⟨eb, 0, none⟩ u) :=
  h.set_ (h.blk.set_ 0 u) (by simp) u
theorem St.set1 {w0 w : World} {g rb eb : Nat} {l : List UInt8} {c0 c1 c2 c3 c4 c5 : Value} (h : St w0 g rb eb l c0 c1 c2 c3 c4 c5 w) (u : Value) : St w0 g rb eb l c0 u c2 c3 c4 c5 (w.setCell ⟨eb, 1, none⟩ u) :=
  h.set_ (h.blk.set_ 1 u) (by simp) u
theorem St.set2 {w0 w : World} {g rb eb : Nat} {l : List UInt8} {c0 c1 c2 c3 c4 c5 : Value} (h : St w0 g rb eb l c0 c1 c2 c3 c4 c5 w) (u : Value) : St w0 g rb eb l c0 c1 u c3 c4 c5 (w.setCell ⟨eb, 2, none⟩ u) :=
  h.set_ (h.blk.set_ 2 u) (by simp) u
theorem St.set3 {w0 w : World} {g rb eb : Nat} {l : List UInt8} {c0 c1 c2 c3 c4 c5 : Value} (h : St w0 g rb eb l c0 c1 c2 c3 c4 c5 w) (u : Value) : St w0 g rb eb l c0 c1 c2 u c4 c5 (w.setCell ⟨eb, 3, none⟩ u) :=
  h.set_ (h.blk.set_ 3 u) (by simp) u
theorem St.set4 {w0 w : World} {g rb eb : Nat} {l : List UInt8} {c0 c1 c2 c3 c4 c5 : Value} (h : St w0 g rb eb l c0 c1 c2 c3 c4 c5 w) (u : Value) : St w0 g rb eb l c0 c1 c2 c3 u c5 (w.setCell ⟨eb, 4, none⟩ u) :=
  h.set_ (h.blk.set_ 4 u) (by simp) u
theorem St.set5 {w0 w : World} {g rb eb : Nat} {l : List UInt8} {c0 c1 c2 c3 c4 c5 : Value} (h : St w0 g rb eb l c0 c1 c2 c3 c4 c5 w) (u : Value) : St w0 g rb eb l c0 c1 c2 c3 c4 u (w.setCell ⟨eb, 5, none⟩ u) :=
  h.set_ (h.blk.set_ 5 u) (by simp) u

/-- What the walk wants to know of the filled variable. -/
def Cells6 (w : World) (eb : Nat) (c0 c1 c2 c3 c4 c5 : Value) : Prop := Six w eb c0 c1 c2 c3 c4 c5
theorem St.six {w0 w : World} {g rb eb : Nat} {l : List UInt8} {c0 c1 c2 c3 c4 c5 : Value} (h : St w0 g rb eb l c0 c1 c2 c3 c4 c5 w) : Six w eb c0 c1 c2 c3 c4 c5 :=
  ⟨h.blk.cell 0, h.blk.cell 1, h.blk.cell 2, h.blk.cell 3, h.blk.cell 4, h.blk.cell 5⟩
theorem St.keep {w0 w w' : World} {g rb eb : Nat} {l l' : List UInt8} {c0 c1 c2 c3 c4 c5 : Value} (h : St w0 g rb eb l c0 c1 c2 c3 c4 c5 w) (hg : Good w' g l') (hc : Ch (fun j => j = g) w w') : St w0 g rb eb l' c0 c1 c2 c3 c4 c5 w' := by
  obtain ⟨a, b, c, d, e, f, hr⟩ := h.res
  exact ⟨hg, h.blk.ch hc h.ne.1, ⟨a, b, c, d, e, f, hr.ch hc h.ne.2.1⟩, h.ne, h.new, h.ch.then hc (fun i _ hh => hh)⟩

/-- What a step of an entry leaves. -/
def Stepped (w0 : World) (g rb eb : Nat) (l' : List UInt8) (c0 c1 c2 c3 c4 c5 : Value) (w' : World) : Prop :=
  St w0 g rb eb l' c0 c1 c2 c3 c4 c5 w' ∧ Six w' eb c0 c1 c2 c3 c4 c5 ∧ (∀ i, w'.frozen? ⟨eb, i, none⟩ = false)
theorem St.stepped {w0 w : World} {g rb eb : Nat} {l : List UInt8} {c0 c1 c2 c3 c4 c5 : Value} (h : St w0 g rb eb l c0 c1 c2 c3 c4 c5 w) : Stepped w0 g rb eb l c0 c1 c2 c3 c4 c5 w := ⟨h, h.six, h.blk.frozen⟩

theorem number_st {w0 : World} {g rb eb : Nat} {l : List UInt8} {c0 c1 c2 c3 c4 c5 : Value} (w : World) (h : St w0 g rb eb l c0 c1 c2 c3 c4 c5 w) (h8 : 8 ≤ l.length) (hl : l.length ≤ 1099511627776) :
    Calls Tryz.prog 43 #[.pointer (some ⟨g, 0, none⟩)] w (fun e w' => e = .returned (.int .i64 (numV l)) ∧ Stepped w0 g rb eb (l.drop 8) c0 c1 c2 c3 c4 c5 w') :=
  (left_number_ok g l w h8 hl h.good).mono fun e w' ⟨he, hg, hc⟩ => ⟨he, (h.keep hg hc).stepped⟩
theorem within_st {w0 : World} {g rb eb : Nat} {l : List UInt8} {c0 c1 c2 c3 c4 c5 : Value} (m : Int) (w : World) (h : St w0 g rb eb l c0 c1 c2 c3 c4 c5 w) (h8 : 8 ≤ l.length) (hl : l.length ≤ 1099511627776) (hv : 0 ≤ numV l ∧ numV l ≤ m) :
    Calls Tryz.prog 78 #[.pointer (some ⟨g, 0, none⟩), .int .i64 m] w (fun e w' => e = .returned (.int .i64 (numV l)) ∧ Stepped w0 g rb eb (l.drop 8) c0 c1 c2 c3 c4 c5 w') :=
  (within_ok g m l w h8 hl hv h.good).mono fun e w' ⟨he, hg, hc⟩ => ⟨he, (h.keep hg hc).stepped⟩
theorem counted_st {w0 : World} {g rb eb : Nat} {l : List UInt8} {c0 c1 c2 c3 c4 c5 : Value} (w : World) (h : St w0 g rb eb l c0 c1 c2 c3 c4 c5 w) (hv : canB l) (hl : l.length ≤ 1099511627776) :
    Calls Tryz.prog 46 #[.pointer (some ⟨g, 0, none⟩)] w (fun e w' => ∃ A c, e = .returned (.slice A (valB l).length c) ∧ w'.ownsRow w0.heap.size 5 1 (.slice A (valB l).length c) (valB l).length (vb (valB l)) ∧ Stepped w0 g rb eb (restB l) c0 c1 c2 c3 c4 c5 w') :=
  (counted_ok g l w hv hl h.good).mono fun e w' ⟨A, c, he, ho, hg, hc⟩ => ⟨A, c, he, own_base ho h.ch.size, (h.keep hg hc).stepped⟩

theorem st_init (g : Nat) (l : List UInt8) (w : World) (hlt : g < w.heap.size) (h : Good w g l) : St w g w.heap.size (w.heap.size + 1) l (.int .i64 0) (.int .u8 0) (.int .i64 0) (.int .i64 0) (.bool false) (.slice none 0 0) ((w.alloc (.cells #[.int .i64 0, .int .u8 0, .int .i64 0, .int .i64 0, .bool false, .slice none 0 0] 28)).alloc (.cells #[.int .i64 0, .int .u8 0, .int .i64 0, .int .i64 0, .bool false, .slice none 0 0] 28)) := by
    refine ⟨(h.new ((new_refl w).alloc (Nat.le_refl _) _)).new ((new_refl _).alloc (Nat.le_refl _) _), ?_, ⟨_, _, _, _, _, _, (Blk.new w _ _).alloc _⟩, ⟨by omega, by omega, by omega⟩, ⟨by omega, by omega⟩, ((Ch.refl _ w).alloc _).alloc _⟩
    have := Blk.new (w.alloc (.cells #[.int .i64 0, .int .u8 0, .int .i64 0, .int .i64 0, .bool false, .slice none 0 0] 28)) 28 #[.int .i64 0, .int .u8 0, .int .i64 0, .int .i64 0, .bool false, .slice none 0 0]
    simpa using this

theorem fell_st {w0 w : World} {T : TypeId} {q : Addr} {g rb eb : Nat} {l : List UInt8} {c0 c1 c2 c3 c4 c5 : Value} {e : Ending} {w' : World} (h : St w0 g rb eb l c0 c1 c2 c3 c4 c5 w) (hf : Fell w T q g e w') : Fell w0 T q g e w' :=
  ⟨hf.1, hf.2.1, h.ch.then hf.2.2 (fun i _ hh => hh)⟩
theorem err_st {w0 w : World} {T : TypeId} {q : Addr} {g rb eb : Nat} {l : List UInt8} {c0 c1 c2 c3 c4 c5 : Value} (h : St w0 g rb eb l c0 c1 c2 c3 c4 c5 w) (hE : ErrAt w0 T q) (hne : ¬ (0 = g)) : ErrAt w T q := hE.ch h.ch hne

set_option maxRecDepth 100000 in
set_option maxHeartbeats 1000000 in
theorem left_entry_ok (g : Nat) (l : List UInt8) (w : World) (hv : canE l) (hl : l.length ≤ 1099511627776) (h : Good w g l) :
    Calls Tryz.prog 49 #[.pointer (some ⟨g, 0, none⟩)] w (EntOk w g l) := by
  obtain ⟨h40, ⟨k0, k1⟩, ⟨g0, g1⟩, hd⟩ := hv
  have hlt : g < w.heap.size := by obtain ⟨_, _, hb, _⟩ := h; exact hb.lt
  have hS := st_init g l w hlt h
  clear h
  have e8 : (l.drop 8).length = l.length - 8 := by simp
  have e16 : (l.drop 8).drop 8 = l.drop 16 := by simp
  have e24 : (l.drop 16).drop 8 = l.drop 24 := by simp
  have e32 : (l.drop 24).drop 8 = l.drop 32 := by simp
  have e40 : (l.drop 32).drop 8 = l.drop 40 := by simp
  have l1 : 8 ≤ (l.drop 8).length ∧ (l.drop 8).length ≤ 1099511627776 := by rw [List.length_drop]; omega
  have l2 : 8 ≤ (l.drop 16).length ∧ (l.drop 16).length ≤ 1099511627776 := by rw [List.length_drop]; omega
  have l3 : 8 ≤ (l.drop 24).length ∧ (l.drop 24).length ≤ 1099511627776 := by rw [List.length_drop]; omega
  have l4 : 8 ≤ (l.drop 32).length ∧ (l.drop 32).length ≤ 1099511627776 := by rw [List.length_drop]; omega
  have l5 : (l.drop 40).length ≤ 1099511627776 := by rw [List.length_drop]; omega
  have HD := Lib.hid hd
  have H := Lib.hid (And.intro e16 (And.intro e24 (And.intro e32 e40)))
  clear e8 e16 e24 e32 e40 hd
  have ku : IntKind.u8.wrap (numV (l.drop 8)) = numV (l.drop 8) := IntWalk.u8_in _ (by omega)
  go_enter Tryz.func49, Tryz.ntmps49
  go_wp2_with (go_at_call 43; refine (number_st _ hS (by omega) hl).mono ?_; rintro e w1 ⟨rfl, h1, ⟨s0, s1, s2, s3, s4, s5⟩, z⟩)
  go_wp2_with (go_at_call 78; refine (within_st 255 _ (h1.set0 _) l1.1 l1.2 ⟨k0, k1⟩).mono ?_; rintro e w2 ⟨rfl, h2, ⟨s0, s1, s2, s3, s4, s5⟩, z⟩; rw [H.out.1] at h2)
  go_wp2_with (go_at_call 43; refine (number_st _ (h2.set1 _) l2.1 l2.2).mono ?_; rintro e w3 ⟨rfl, h3, ⟨s0, s1, s2, s3, s4, s5⟩, z⟩; rw [H.out.2.1] at h3)
  go_wp2_with (go_at_call 43; refine (number_st _ (h3.set2 _) l3.1 l3.2).mono ?_; rintro e w4 ⟨rfl, h4, ⟨s0, s1, s2, s3, s4, s5⟩, z⟩; rw [H.out.2.2.1] at h4)
  go_wp2_with (go_at_call 78; refine (within_st 1 _ (h4.set3 _) l4.1 l4.2 ⟨g0, g1⟩).mono ?_; rintro e w5 ⟨rfl, h5, ⟨s0, s1, s2, s3, s4, s5⟩, z⟩; rw [H.out.2.2.2] at h5)
  have ei : (Tryz.prog.info? 28).map (·.size) = some 6 := by kernel_rfl
  clear h1 h2 h3 h4 hS
  go_wp2_with (first
    | (go_at_call 46; refine (counted_st _ (h5.set4 _) HD.out l5).mono ?_; rintro e w6 ⟨A, c, rfl, ho, h6, ⟨s0, s1, s2, s3, s4, s5⟩, z⟩; have HKK := Lib.hid (h6.set5 (.slice A (valB (l.drop 40)).length c)); obtain ⟨ra, rb, rc, rd, re, rf, hres⟩ := HKK.out.res; have HR := Lib.hid hres; clear hres)
    | (refine wpList_store_row rfl 28 _ _ rfl w.heap.size #[.int .i64 (numV l), .int .u8 (numV (l.drop 8)), .int .i64 (numV (l.drop 16)), .int .i64 (numV (l.drop 24)), .bool (numV (l.drop 32) == 1), .slice A (valB (l.drop 40)).length c] rfl rfl 28 _ HR.out ei rfl (by simp [Value.oneCell']) ?_))
  refine bodyPost_ret (results_cell_row rfl _ _ w.heap.size 28 _ (0, 0) _ rfl (setRow_heap _ _ _ _ _ _ HR.out) Tryz.underlying28 rfl ei) rfl ?_
  have hst := HKK.out
  have c1 : Ch (fun j => j = w.heap.size + 1) w6 (w6.setCell ⟨w.heap.size + 1, 5, none⟩ (.slice A (valB (l.drop 40)).length c)) := (Ch.refl (fun j => j = w.heap.size + 1) w6).setCell (p := ⟨w.heap.size + 1, 5, none⟩) (fun _ => rfl) _
  have ho1 := own_ch ho c1 (fun j hj e => own_blk_ne ho h6.blk (by decide) (hj.trans (congrArg some e)))
  have c2 := ch_setRow (w6.setCell ⟨w.heap.size + 1, 5, none⟩ (.slice A (valB (l.drop 40)).length c)) w.heap.size #[.int .i64 (numV l), .int .u8 (numV (l.drop 8)), .int .i64 (numV (l.drop 16)), .int .i64 (numV (l.drop 24)), .bool (numV (l.drop 32) == 1), .slice A (valB (l.drop 40)).length c]
  exact ⟨A, c, _, rfl, rfl, own_ch ho1 c2 (fun j hj e => own_blk_ne ho1 HR.out (by decide) (hj.trans (congrArg some e))), hst.good.past HR.out c2 (by decide) hst.ne.2.1, hst.ch.then c2 (fun i hi e => absurd e (by omega))⟩


set_option maxRecDepth 100000 in
set_option maxHeartbeats 2000000 in
theorem left_entry_no (T : TypeId) (q : Addr) (g : Nat) (l : List UInt8) (w : World) (hv : ¬ canE l) (hl : l.length ≤ 1099511627776) (h : Good w g l) (hE : ErrAt w T q) :
    Calls Tryz.prog 49 #[.pointer (some ⟨g, 0, none⟩)] w (Fell w T q g) := by
  have hlt : g < w.heap.size := by obtain ⟨_, _, hb, _⟩ := h; exact hb.lt
  have hne := h.ne hE
  have hS := st_init g l w hlt h
  clear h
  have e16 : (l.drop 8).drop 8 = l.drop 16 := by simp
  have e24 : (l.drop 16).drop 8 = l.drop 24 := by simp
  have e32 : (l.drop 24).drop 8 = l.drop 32 := by simp
  have e40 : (l.drop 32).drop 8 = l.drop 40 := by simp
  have d8 : (l.drop 8).length = l.length - 8 := by simp
  have d16 : (l.drop 16).length = l.length - 16 := by simp
  have d24 : (l.drop 24).length = l.length - 24 := by simp
  have d32 : (l.drop 32).length = l.length - 32 := by simp
  have d40 : (l.drop 40).length = l.length - 40 := by simp
  have D := Lib.hid (And.intro d8 (And.intro d16 (And.intro d24 (And.intro d32 d40))))
  have H := Lib.hid (And.intro e16 (And.intro e24 (And.intro e32 e40)))
  have HV := Lib.hid hv
  clear e16 e24 e32 e40 d8 d16 d24 d32 d40 hv
  go_enter Tryz.func49, Tryz.ntmps49
  by_cases p0 : 8 ≤ l.length
  · go_wp2_with (go_at_call 43; refine (number_st _ hS p0 hl).mono ?_; rintro e w1 ⟨rfl, h1, ⟨s0, s1, s2, s3, s4, s5⟩, z⟩)
    by_cases p1 : 8 ≤ (l.drop 8).length ∧ 0 ≤ numV (l.drop 8) ∧ numV (l.drop 8) ≤ 255
    · have ku : IntKind.u8.wrap (numV (l.drop 8)) = numV (l.drop 8) := IntWalk.u8_in _ (by omega)
      go_wp2_with (go_at_call 78; refine (within_st 255 _ (h1.set0 _) p1.1 (by have := D.out; omega) p1.2).mono ?_; rintro e w2 ⟨rfl, h2, ⟨s0, s1, s2, s3, s4, s5⟩, z⟩; rw [H.out.1] at h2)
      by_cases p2 : 8 ≤ (l.drop 16).length
      · go_wp2_with (go_at_call 43; refine (number_st _ (h2.set1 _) p2 (by have := D.out; omega)).mono ?_; rintro e w3 ⟨rfl, h3, ⟨s0, s1, s2, s3, s4, s5⟩, z⟩; rw [H.out.2.1] at h3)
        by_cases p3 : 8 ≤ (l.drop 24).length
        · go_wp2_with (go_at_call 43; refine (number_st _ (h3.set2 _) p3 (by have := D.out; omega)).mono ?_; rintro e w4 ⟨rfl, h4, ⟨s0, s1, s2, s3, s4, s5⟩, z⟩; rw [H.out.2.2.1] at h4)
          by_cases p4 : 8 ≤ (l.drop 32).length ∧ 0 ≤ numV (l.drop 32) ∧ numV (l.drop 32) ≤ 1
          · go_wp2_with (go_at_call 78; refine (within_st 1 _ (h4.set3 _) p4.1 (by have := D.out; omega) p4.2).mono ?_; rintro e w5 ⟨rfl, h5, ⟨s0, s1, s2, s3, s4, s5⟩, z⟩; rw [H.out.2.2.2] at h5)
            have p5 : ¬ canB (l.drop 40) := fun hc => HV.out ⟨by have := D.out; omega, p1.2, p4.2, hc⟩
            go_wp2_with (go_at_call 46; refine (counted_no T q g _ _ p5 (by have := D.out; omega) (h5.set4 _).good (err_st (h5.set4 _) hE hne)).mono ?_; rintro e w6 hf; have hF := fell_st (h5.set4 _) hf; obtain ⟨rfl, hf1⟩ := hf)
            exact ⟨rfl, hF⟩
          · go_wp2_with (go_at_call 78; refine (within_no T q g _ _ _ (by have := D.out; omega) p4 (h4.set3 _).good (err_st (h4.set3 _) hE hne)).mono ?_; rintro e w6 hf; have hF := fell_st (h4.set3 _) hf; obtain ⟨rfl, hf1⟩ := hf)
            exact ⟨rfl, hF⟩
        · go_wp2_with (go_at_call 43; refine (left_number_no T q g _ _ (by omega) (h3.set2 _).good (err_st (h3.set2 _) hE hne)).mono ?_; rintro e w6 hf; have hF := fell_st (h3.set2 _) hf; obtain ⟨rfl, hf1⟩ := hf)
          exact ⟨rfl, hF⟩
      · go_wp2_with (go_at_call 43; refine (left_number_no T q g _ _ (by omega) (h2.set1 _).good (err_st (h2.set1 _) hE hne)).mono ?_; rintro e w6 hf; have hF := fell_st (h2.set1 _) hf; obtain ⟨rfl, hf1⟩ := hf)
        exact ⟨rfl, hF⟩
    · go_wp2_with (go_at_call 78; refine (within_no T q g _ _ _ (by have := D.out; omega) p1 (h1.set0 _).good (err_st (h1.set0 _) hE hne)).mono ?_; rintro e w6 hf; have hF := fell_st (h1.set0 _) hf; obtain ⟨rfl, hf1⟩ := hf)
      exact ⟨rfl, hF⟩
  · go_wp2_with (go_at_call 43; refine (left_number_no T q g _ _ (by omega) hS.good (err_st hS hE hne)).mono ?_; rintro e w6 hf; have hF := fell_st hS hf; obtain ⟨rfl, hf1⟩ := hf)
    exact ⟨rfl, hF⟩

end Go.Proofs.YtpkiopijfhkagaaGreatDoor.rd
