/-
  Contracts of text: a line's tokens.
-/
import Derived.Test.YtddojdgnakajmaaGreatDoorTA
import Derived.Test.YtddojdgnakajmaaGreatDoorInD
import Derived.Great.Walk
namespace Go.Proofs.YtddojdgnakajmaaGreatDoor.txt
open Go.RowKit Go.Proofs.YtddojdgnakajmaaGreatDoor.mem Go.Proofs.YtddojdgnakajmaaGreatDoor.kit
set_option linter.unusedVariables false
set_option linter.unusedSimpArgs false

def vs (L : List Bs) : List Value := L.map sv
theorem vs_length (L : List Bs) : (vs L).length = L.length := by simp [vs]
theorem vs_get (L : List Bs) (k : Nat) (h : k < L.length) : (vs L)[k]? = some (sv L[k]) := by simp [vs, h]
theorem vs_one (L : List Bs) : ∀ u ∈ vs L, u.oneCell' = true := by
  intro u hu
  simp only [vs, List.mem_map] at hu
  obtain ⟨b, _, rfl⟩ := hu
  rfl
/-- Tokens as they may be. -/
def TokL (L : List Bs) : Prop := ∀ t ∈ L, 0 < t.length ∧ t.length ≤ 1099511627776
/-- A reader in block g with these tokens left. -/
structure Tk (w : World) (g : Nat) (L : List Bs) (M : Value) (lb : Bs) (A : Option Addr) (n c : Nat) : Prop where
  blk : Blk w g 176 #[.slice A n c, M, .string ⟨lb.toArray⟩]
  len : n = L.length
  cap : n ≤ c ∧ c ≤ maxLen
  rd : Reads w w.heap.size 1 A n (vs L)
  ty : ∀ ad, A = some ad → ∃ cs, Blk w ad.block 9 cs
  tok : TokL L
def TkX (w : World) (g : Nat) (L : List Bs) (M : Value) (lb : Bs) : Prop := ∃ A n c, Tk w g L M lb A n c
theorem Tk.new {w w' : World} {g : Nat} {L : List Bs} {M : Value} {lb : Bs} {A : Option Addr} {n c : Nat} (h : Tk w g L M lb A n c) (hn : New w w') : Tk w' g L M lb A n c :=
  ⟨h.blk.below hn h.blk.lt, h.len, h.cap, h.rd.new hn, fun ad e => by obtain ⟨cs, hcs⟩ := h.ty ad e; exact ⟨cs, hcs.below hn hcs.lt⟩, h.tok⟩
theorem TkX.new {w w' : World} {g : Nat} {L : List Bs} {M : Value} {lb : Bs} (h : TkX w g L M lb) (hn : New w w') : TkX w' g L M lb := by
  obtain ⟨A, n, c, h⟩ := h
  exact ⟨A, n, c, h.new hn⟩
theorem TkX.ch {w w' : World} {g : Nat} {L : List Bs} {M : Value} {lb : Bs} {S : Nat → Prop} (h : TkX w g L M lb) (hc : Ch S w w') (hg : ¬ S g) (hs : ∀ b cs, Blk w b 9 cs → ¬ S b) : TkX w' g L M lb := by
  obtain ⟨A, n, c, h⟩ := h
  refine ⟨A, n, c, h.blk.ch hc hg, h.len, h.cap, h.rd.ch hc (fun ad e => ?_), fun ad e => ?_, h.tok⟩
  · obtain ⟨cs, hcs⟩ := h.ty ad e
    exact hs _ cs hcs
  · obtain ⟨cs, hcs⟩ := h.ty ad e
    exact ⟨cs, hcs.ch hc (hs _ cs hcs)⟩

theorem none_any (g : Nat) (L : List Bs) (M : Value) (lb : Bs) (w : World) (h : TkX w g L M lb) : Calls Tryz.prog 104 #[.pointer (some ⟨g, 0, none⟩)] w fun e w' => e = .returned (.bool (decide (L = []))) ∧ w = w' := by
  obtain ⟨A, n, c, h⟩ := h
  have c0 := h.blk.cell 0
  simp only [List.getElem?_toArray, List.getElem?_cons_zero] at c0
  have e : ((n : Int) == 0) = decide (L = []) := by rw [h.len]; cases L <;> simp; omega
  have E := Lib.hid e
  clear e h
  go_enter Tryz.func104, Tryz.ntmps104
  go_wp2
  go_ret
  exact ⟨by rw [← E.out]; simp, rfl⟩

theorem next_any (g : Nat) (L : List Bs) (M : Value) (lb : Bs) (w : World) (h : TkX w g L M lb) : Calls Tryz.prog 166 #[.pointer (some ⟨g, 0, none⟩)] w fun e w' => e = .returned (.string ⟨(hd L).toArray⟩) ∧ w = w' := by
  have HX := Lib.hid h
  obtain ⟨A, n, c, h⟩ := h
  have c0 := h.blk.cell 0
  simp only [List.getElem?_toArray, List.getElem?_cons_zero] at c0
  cases L with
  | nil =>
    have H := Lib.hid (show decide (([] : List Bs) = []) = true from rfl)
    clear h
    go_enter Tryz.func166, Tryz.ntmps166
    go_wp2_with (go_at_call 104; refine (none_any g [] M lb _ HX.out).mono ?_; rintro e w1 ⟨rfl, rfl⟩; rw [H.out])
    go_ret
    exact ⟨rfl, rfl⟩
  | cons t r =>
    have H := Lib.hid (show decide ((t :: r : List Bs) = []) = false from by simp)
    obtain ⟨ad, u, rfl, hb, hx, hc⟩ := h.rd.at_ (k := 0) (by rw [h.len]; simp)
    rw [vs_get (t :: r) 0 (by simp)] at hx
    injection hx with hx
    subst hx
    simp only [List.getElem_cons_zero] at hc
    have hn : 0 < n := by rw [h.len]; simp
    have hc' : w.cell? ad = some (sv t) := by rw [← hc]; unfold Addr.add; rw [if_pos rfl]
    clear h hc
    go_enter Tryz.func166, Tryz.ntmps166
    go_wp2_with (go_at_call 104; refine (none_any g (t :: r) M lb _ HX.out).mono ?_; rintro e w1 ⟨rfl, rfl⟩; rw [H.out])
    go_ret
    exact ⟨rfl, rfl⟩

def bas (zs : List Bs) : List ByteArray := zs.map fun l => ⟨l.toArray⟩
theorem bas_in (zs : List Bs) (t : Bs) : ((⟨t.toArray⟩ : ByteArray) ∈ bas zs) ↔ t ∈ zs := by
  unfold bas
  rw [List.mem_map]
  constructor
  · rintro ⟨a, ha, h⟩
    injection h with h
    have : a = t := by simpa using h
    exact this ▸ ha
  · intro h
    exact ⟨t, h, rfl⟩
/-- The tokens that are asked for, in a block. -/
def Zs (w : World) (b : Nat) (zs : List Bs) : Prop := b < w.heap.size ∧ ∀ j (h : j < zs.length), w.cell? ⟨b, j, none⟩ = some (sv zs[j])
theorem Zs.new {w w' : World} {b : Nat} {zs : List Bs} (h : Zs w b zs) (hn : New w w') : Zs w' b zs := ⟨Nat.lt_of_lt_of_le h.1 hn.size, fun j hj => (hn.cell (p := ⟨b, j, none⟩) h.1).trans (h.2 j hj)⟩
theorem Zs.one (w : World) (t : TypeId) (x : Bs) : Zs (w.alloc (.cells #[.string ⟨x.toArray⟩] t)) w.heap.size [x] :=
  ⟨by simp, fun j hj => by
    have : j = 0 := by simp at hj; omega
    subst this
    exact (Blk.new w t #[.string ⟨x.toArray⟩]).cell 0⟩
theorem Zs.two (w : World) (t : TypeId) (x y : Bs) : Zs (w.alloc (.cells #[.string ⟨x.toArray⟩, .string ⟨y.toArray⟩] t)) w.heap.size [x, y] :=
  ⟨by simp, fun j hj => by
    have : j = 0 ∨ j = 1 := by simp at hj; omega
    rcases this with rfl | rfl
    · exact (Blk.new w t #[.string ⟨x.toArray⟩, .string ⟨y.toArray⟩]).cell 0
    · exact (Blk.new w t #[.string ⟨x.toArray⟩, .string ⟨y.toArray⟩]).cell 1⟩

theorem cont_any (b n c : Nat) (zs : List Bs) (t : Bs) (B : Bool) (w : World) (hn : n = zs.length) (hb : n ≤ 1000) (hB : decide (t ∈ zs) = B) (h : Zs w b zs) :
    Calls Tryz.prog 168 #[.slice (some ⟨b, 0, none⟩) n c, .string ⟨t.toArray⟩] w fun e w' => e = .returned (.bool B) ∧ w = w' := by
  refine (Tryz.slices_Contains_string b 0 n c (bas zs) ⟨t.toArray⟩ w (by simp [bas, hn]) (by omega) (fun j hj => ?_)).mono ?_
  · have hj' : j < zs.length := by simpa [bas] using hj
    rw [Nat.zero_add, h.2 j hj']
    simp [bas, hj', List.getD]
  · rintro e w' ⟨rfl, rfl⟩
    refine ⟨?_, rfl⟩
    have e1 : (bas zs).take n = bas zs := List.take_of_length_le (by simp [bas, hn])
    rw [e1, ← hB]
    congr 2
    rw [Bool.eq_iff_iff, Lib.containsS_iff, bas_in, decide_eq_true_eq]

theorem comes_any (g b n c : Nat) (L zs : List Bs) (M : Value) (lb : Bs) (B : Bool) (w : World) (hn : n = zs.length) (hn2 : n ≤ 1000) (h : TkX w g L M lb) (hz : Zs w b zs) (hB : decide (hd L ∈ zs) = B) :
    Calls Tryz.prog 98 #[.pointer (some ⟨g, 0, none⟩), .slice (some ⟨b, 0, none⟩) n c] w fun e w' => e = .returned (.bool B) ∧ w = w' := by
  have HZ := Lib.hid hz
  have H := Lib.hid h
  have HB := Lib.hid hB
  have HN := Lib.hid hn
  clear hz h hB hn
  go_enter Tryz.func98, Tryz.ntmps98
  go_wp2_with (first
    | (go_at_call 166; refine (next_any g L M lb _ H.out).mono ?_; rintro e w1 ⟨rfl, rfl⟩)
    | (go_at_call 168; refine (cont_any b n c zs (hd L) B _ HN.out hn2 HB.out HZ.out).mono ?_; rintro e w1 ⟨rfl, rfl⟩))
  go_ret
  exact ⟨rfl, rfl⟩

/-- What a take leaves. -/
def TookT (w : World) (g : Nat) (t : Bs) (L : List Bs) (M : Value) (lb : Bs) (e : Ending) (w' : World) : Prop :=
  e = .returned (.string ⟨t.toArray⟩) ∧ TkX w' g L M lb ∧ Ch (fun j => j = g) w w'
/-- What one that can't leaves. -/
def FellT (w : World) (T : TypeId) (q : Addr) (g : Nat) (e : Ending) (w' : World) : Prop := e = thrown T q ∧ Ch (fun j => j = g) w w'

theorem tk_next {w : World} {g : Nat} {t : Bs} {L : List Bs} {M : Value} {lb : Bs} {A : Option Addr} {n c : Nat} (h : Tk w g (t :: L) M lb A n c) :
    TookT w g t L M lb (.returned (.string ⟨t.toArray⟩)) (w.setCell ⟨g, 0, none⟩ (.slice (if c = 1 then A else A.map (·.add 1)) (n - 1) (c - 1))) := by
  have hch : Ch (fun j => j = g) w (w.setCell ⟨g, 0, none⟩ (.slice (if c = 1 then A else A.map (·.add 1)) (n - 1) (c - 1))) := (Ch.refl (fun j => j = g) w).setCell (p := ⟨g, 0, none⟩) (fun _ => rfl) _
  have hne : ∀ ad, A = some ad → ad.block ≠ g := fun ad e => by
    obtain ⟨cs, hcs⟩ := h.ty ad e
    exact hcs.ne_ h.blk (by decide)
  have hr' := h.rd.ch hch (fun ad e => hne ad e)
  have hn1 : 1 ≤ n := by rw [h.len]; simp
  have hcut := hr'.cut hn1 h.cap.1
  rw [Nat.mul_one] at hcut
  refine ⟨rfl, ⟨_, _, _, h.blk.set_ 0 _, ?_, ⟨by have := h.cap; omega, by have := h.cap; omega⟩, ?_, fun ad e => ?_, fun x hx => h.tok x (List.mem_cons_of_mem _ hx)⟩, hch⟩
  · rw [h.len]; simp
  · have e1 : (vs (t :: L)).drop 1 = vs L := rfl
    rw [e1] at hcut
    exact hcut
  · by_cases hck : c = 1
    · rw [if_pos hck] at e
      obtain ⟨cs, hcs⟩ := h.ty ad e
      exact ⟨cs, hcs.ch hch (hne ad e)⟩
    · rw [if_neg hck] at e
      cases A with
      | none => cases e
      | some a =>
        simp at e
        subst e
        rw [block_of_add]
        obtain ⟨cs, hcs⟩ := h.ty a rfl
        exact ⟨cs, hcs.ch hch (hne a rfl)⟩

set_option maxRecDepth 100000 in
theorem take_ok (g : Nat) (t : Bs) (L : List Bs) (M : Value) (lb : Bs) (w : World) (h : TkX w g (t :: L) M lb) :
    Calls Tryz.prog 101 #[.pointer (some ⟨g, 0, none⟩)] w (TookT w g t L M lb) := by
  have HX := Lib.hid h
  obtain ⟨A, n, c, h⟩ := h
  have c0 := h.blk.cell 0
  have z0 := h.blk.frozen 0
  simp only [List.getElem?_toArray, List.getElem?_cons_zero] at c0
  have H := Lib.hid (show decide ((t :: L : List Bs) = []) = false from by simp)
  obtain ⟨ad, u, rfl, hb, hx, hc⟩ := h.rd.at_ (k := 0) (by rw [h.len]; simp)
  rw [vs_get (t :: L) 0 (by simp)] at hx
  injection hx with hx
  subst hx
  simp only [List.getElem_cons_zero] at hc
  have hn : 0 < n := by rw [h.len]; simp
  have hn1 : 1 ≤ n := hn
  have hnc : n ≤ c := h.cap.1
  have hc' : w.cell? ad = some (sv t) := by rw [← hc]; unfold Addr.add; rw [if_pos rfl]
  have HT := Lib.hid (tk_next h)
  clear h hc
  have hd : decide (1 ≤ n) = true := by simpa using hn1
  go_enter Tryz.func101, Tryz.ntmps101
  go_wp2_with (first
    | (go_at_call 104; refine (none_any g (t :: L) M lb _ HX.out).mono ?_; rintro e w1 ⟨rfl, rfl⟩; rw [H.out])
    | (go_at_call 164; refine (must_yes _).mono ?_; rintro e w1 ⟨rfl, rfl⟩))
  · have H := HT.out
    subst h
    rw [if_pos rfl] at H
    go_ret
    exact H
  · have H := HT.out
    rw [if_neg h] at H
    go_ret
    exact H

set_option maxRecDepth 100000 in
theorem take_no (T : TypeId) (q : Addr) (g : Nat) (M : Value) (lb : Bs) (w : World) (h : TkX w g [] M lb) (hE : ErrT w T q) :
    Calls Tryz.prog 101 #[.pointer (some ⟨g, 0, none⟩)] w (FellT w T q g) := by
  have HX := Lib.hid h
  have HE := Lib.hid hE
  have H := Lib.hid (show decide (([] : List Bs) = []) = true from rfl)
  clear h hE
  go_enter Tryz.func101, Tryz.ntmps101
  go_wp2_with (first
    | (go_at_call 104; refine (none_any g [] M lb _ HX.out).mono ?_; rintro e w1 ⟨rfl, rfl⟩; rw [H.out])
    | (go_at_call 164; refine (must_no T q _ HE.out).mono ?_; rintro e w1 ⟨rfl, rfl⟩))
  exact ⟨rfl, rfl, Ch.refl _ _⟩

/-- One of those that may come is taken. -/
theorem one_ok (g b n c : Nat) (t : Bs) (L zs : List Bs) (M : Value) (lb : Bs) (w : World) (hn : n = zs.length) (hn2 : n ≤ 1000) (h : TkX w g (t :: L) M lb) (hz : Zs w b zs) (hB : t ∈ zs) :
    Calls Tryz.prog 95 #[.pointer (some ⟨g, 0, none⟩), .slice (some ⟨b, 0, none⟩) n c] w (TookT w g t L M lb) := by
  have HZ := Lib.hid hz
  have H := Lib.hid h
  have HB : Hid (decide (hd (t :: L) ∈ zs) = true) := Lib.hid (by show decide (t ∈ zs) = true; simpa using hB)
  have HN := Lib.hid hn
  clear hz h hB hn
  go_enter Tryz.func95, Tryz.ntmps95
  go_wp2_with (first
    | (go_at_call 98; refine (comes_any g b n c (t :: L) zs M lb true _ HN.out hn2 H.out HZ.out HB.out).mono ?_; rintro e w1 ⟨rfl, rfl⟩)
    | (go_at_call 164; refine (must_yes _).mono ?_; rintro e w1 ⟨rfl, rfl⟩)
    | (go_at_call 101; refine (take_ok g t L M lb _ H.out).mono ?_; rintro e w2 ⟨rfl, hx, hch⟩; have HXX := Lib.hid hx; clear hx))
  go_ret
  exact ⟨rfl, HXX.out, hch⟩
theorem one_no (T : TypeId) (q : Addr) (g b n c : Nat) (L zs : List Bs) (M : Value) (lb : Bs) (w : World) (hn : n = zs.length) (hn2 : n ≤ 1000) (h : TkX w g L M lb) (hz : Zs w b zs) (hB : hd L ∉ zs) (hE : ErrT w T q) :
    Calls Tryz.prog 95 #[.pointer (some ⟨g, 0, none⟩), .slice (some ⟨b, 0, none⟩) n c] w (FellT w T q g) := by
  have HZ := Lib.hid hz
  have H := Lib.hid h
  have HE := Lib.hid hE
  have HB : Hid (decide (hd L ∈ zs) = false) := Lib.hid (by simpa using hB)
  have HN := Lib.hid hn
  clear hz h hB hn hE
  go_enter Tryz.func95, Tryz.ntmps95
  go_wp2_with (first
    | (go_at_call 98; refine (comes_any g b n c L zs M lb false _ HN.out hn2 H.out HZ.out HB.out).mono ?_; rintro e w1 ⟨rfl, rfl⟩)
    | (go_at_call 164; refine (must_no T q _ HE.out).mono ?_; rintro e w1 ⟨rfl, rfl⟩))
  exact ⟨rfl, rfl, Ch.refl _ _⟩
end Go.Proofs.YtddojdgnakajmaaGreatDoor.txt

namespace Go.Proofs.YtddojdgnakajmaaGreatDoor.txt
open Go.RowKit Go.Proofs.YtddojdgnakajmaaGreatDoor.mem Go.Proofs.YtddojdgnakajmaaGreatDoor.kit Go.Proofs.YtddojdgnakajmaaGreatDoor.ins
set_option linter.unusedVariables false
set_option linter.unusedSimpArgs false

/-- What stays while an instruction is read: where it began, the error, the reader's block, the instruction's, the words. -/
structure Cx where
  w0 : World
  T : TypeId
  q : Addr
  g : Nat
  gi : Nat
  M : Value
def Cx.S (C : Cx) : Nat → Prop := fun j => j = C.g ∨ j = C.gi
abbrev icell (i : In) : Array Value := #[.int .u8 i.op, .bool i.nar, .int .i64 i.dst, .int .i64 i.src, .bool i.use, .int .i64 i.off, .int .i64 i.imm, .int .i64 i.siz]
structure St (C : Cx) (L : List Bs) (lb : Bs) (i : In) (w : World) : Prop where
  tk : TkX w C.g L C.M lb
  i : Blk w C.gi 41 (icell i)
  ch : Ch C.S C.w0 w
  err : ErrT w C.T C.q
theorem tk_err {w : World} {g : Nat} {L : List Bs} {M : Value} {lb : Bs} {T : TypeId} {q : Addr} (h : TkX w g L M lb) (hE : ErrT w T q) : 5 ≠ g := by
  obtain ⟨A, n, c, h⟩ := h
  rintro e
  have h0 := h.blk.cell 0
  unfold ErrT at hE
  rw [e, h0] at hE
  simp at hE
theorem ins_err {w : World} {gi : Nat} {i : In} {T : TypeId} {q : Addr} (h : Blk w gi 41 (icell i)) (hE : ErrT w T q) : 5 ≠ gi := by
  rintro e
  have h0 := h.cell 0
  unfold ErrT at hE
  rw [e, h0] at hE
  simp at hE
theorem tk_ins {w : World} {g gi : Nat} {L : List Bs} {M : Value} {lb : Bs} {i : In} (h : TkX w g L M lb) (hi : Blk w gi 41 (icell i)) : g ≠ gi := by
  obtain ⟨A, n, c, h⟩ := h
  exact h.blk.ne_ hi (by decide)
theorem St.ne {C : Cx} {L : List Bs} {lb : Bs} {i : In} {w : World} (h : St C L lb i w) : C.g ≠ C.gi := tk_ins h.tk h.i
theorem St.new {C : Cx} {L : List Bs} {lb : Bs} {i : In} {w w' : World} (h : St C L lb i w) (hn : New w w') : St C L lb i w' :=
  ⟨h.tk.new hn, h.i.below hn h.i.lt, h.ch.then (Ch.of_new (S := fun _ => False) hn) (fun _ _ hf => hf.elim), h.err.new hn⟩
/-- Behind what changes the reader's block alone. -/
theorem St.tok {C : Cx} {L L' : List Bs} {lb lb' : Bs} {i : In} {w w' : World} (h : St C L lb i w) (ht : TkX w' C.g L' C.M lb') (hc : Ch (fun j => j = C.g) w w') : St C L' lb' i w' :=
  ⟨ht, h.i.ch hc (fun e => h.ne e.symm), h.ch.then hc (fun _ _ e => Or.inl e), h.err.ch hc (tk_err h.tk h.err)⟩
def Sok (C : Cx) (v : Value) (L : List Bs) (lb : Bs) (i : In) (e : Ending) (w' : World) : Prop := e = .returned v ∧ St C L lb i w'
def Sno (C : Cx) (e : Ending) (w' : World) : Prop := e = thrown C.T C.q ∧ Ch C.S C.w0 w'
theorem St.fell {C : Cx} {L : List Bs} {lb : Bs} {i : In} {w w' : World} (h : St C L lb i w) (hc : Ch (fun j => j = C.g) w w') : Ch C.S C.w0 w' := h.ch.then hc (fun _ _ e => Or.inl e)
theorem St.felln {C : Cx} {L : List Bs} {lb : Bs} {i : In} {w w' : World} (h : St C L lb i w) (hn : New w w') : Ch C.S C.w0 w' := (h.new hn).ch

theorem pre_r (t : Bs) : Lib.hasPrefix t [114] = hasR t := by
  cases t with
  | nil => rfl
  | cons c r => simp [Lib.hasPrefix, hasR, List.isPrefixOf, Bool.beq_eq_decide_eq, eq_comm]
theorem cut_r (t n : Bs) (B : Bool) (w : World) (hB : hasR t = B) (hn : B = true → t.tail = n) (hn2 : B = false → t = n) : Calls Tryz.prog 163 #[.string ⟨t.toArray⟩, .string ⟨#[114]⟩] w fun e w' => e = .returned (.tuple #[.string ⟨n.toArray⟩, .bool B]) ∧ w = w' := by
  refine (Tryz.strings_CutPrefix ⟨t.toArray⟩ ⟨#[114]⟩ w).mono ?_
  rintro e w' ⟨rfl, rfl⟩
  refine ⟨?_, rfl⟩
  show Ending.returned (.tuple #[.string ⟨(Lib.trimPrefix t [114]).toArray⟩, .bool (Lib.hasPrefix t [114])]) = _
  unfold Lib.trimPrefix
  rw [pre_r, hB]
  cases B with
  | false => rw [if_neg (by decide), hn2 rfl]
  | true =>
    have e1 : t.drop 1 = n := by rw [← hn rfl, List.drop_one]
    rw [if_pos rfl]
    show Ending.returned (.tuple #[.string ⟨(t.drop 1).toArray⟩, .bool true]) = _
    rw [e1]

theorem reg_yes {t : Bs} {n : Int} (h : regOf t = some n) : hasR t = true ∧ numOf t.tail = some n ∧ n < 11 := by
  unfold regOf at h
  split at h
  · rename_i hr
    cases hq : numOf t.tail with
    | none => rw [hq] at h; cases h
    | some m =>
      rw [hq] at h
      simp only [Option.bind_some] at h
      split at h
      · rename_i hm
        injection h with h
        subst h
        exact ⟨hr, rfl, hm⟩
      · cases h
  · cases h
theorem num_pos {t : Bs} {n : Int} (h : numOf t = some n) : 0 ≤ n ∧ n ≤ 9999999999 := by
  obtain ⟨h1, h10, -, ha, rfl⟩ := num_yes h
  have := val_small (k := t.length) (Nat.le_refl _) h10 (by rw [List.take_length]; exact ha)
  rw [List.take_length] at this
  omega

theorem register_ok (C : Cx) (t : Bs) (L : List Bs) (lb : Bs) (i : In) (n : Int) (w : World) (h : St C (t :: L) lb i w) (hr : regOf t = some n) :
    Calls Tryz.prog 94 #[.pointer (some ⟨C.g, 0, none⟩)] w (Sok C (.int .i64 n) L lb i) := by
  obtain ⟨h1, h2, h3⟩ := reg_yes hr
  obtain ⟨m, hm⟩ : ∃ m, t.tail = m := ⟨_, rfl⟩
  rw [hm] at h2
  have HM := Lib.hid hm
  have H := Lib.hid h
  have HR := Lib.hid h1
  have HN := Lib.hid h2
  obtain ⟨n0, n1⟩ := num_pos h2
  have hd : decide (n < 11) = true := by simpa using h3
  clear hr h1 h2 hm h
  go_enter Tryz.func94, Tryz.ntmps94
  go_wp2_with (first
    | (go_at_call 101; refine (take_ok C.g t L C.M lb _ H.out.tk).mono ?_; rintro e w1 ⟨rfl, hx, hch⟩; have H1 := Lib.hid (H.out.tok hx hch); clear hx hch)
    | (go_at_call 163; refine (cut_r t m true _ HR.out (fun _ => HM.out) (fun e => by cases e)).mono ?_; rintro e w2 ⟨rfl, rfl⟩)
    | (go_at_call 164; refine (must_yes _).mono ?_; rintro e w2 ⟨rfl, rfl⟩)
    | (go_at_call 165; refine (numberOf_ok m n _ HN.out).mono ?_; rintro e w2 ⟨rfl, hn2⟩; have H2 := Lib.hid (H1.out.new hn2); clear hn2))
  go_ret
  exact ⟨rfl, H2.out⟩

theorem register_no (C : Cx) (L : List Bs) (lb : Bs) (i : In) (w : World) (h : St C L lb i w) (hr : pReg L = none) :
    Calls Tryz.prog 94 #[.pointer (some ⟨C.g, 0, none⟩)] w (Sno C) := by
  have H := Lib.hid h
  cases L with
  | nil =>
    clear h hr
    go_enter Tryz.func94, Tryz.ntmps94
    go_wp2_with (go_at_call 101; refine (take_no C.T C.q C.g C.M lb _ H.out.tk H.out.err).mono ?_; rintro e w1 ⟨rfl, hch⟩)
    exact ⟨rfl, rfl, H.out.fell hch⟩
  | cons t L =>
    have hq : regOf t = none := by
      have e : pReg (t :: L) = (regOf t).map (·, L) := rfl
      rw [e] at hr
      cases hx : regOf t with
      | none => rfl
      | some x => rw [hx] at hr; cases hr
    have htl : t.length ≤ 1099511627776 := by
      obtain ⟨A, n, c, hk⟩ := h.tk
      exact (hk.tok t (List.mem_cons_self ..)).2
    obtain ⟨B, hB⟩ : ∃ B, hasR t = B := ⟨_, rfl⟩
    have HR := Lib.hid hB
    cases B with
    | false =>
      clear h hr hq hB
      go_enter Tryz.func94, Tryz.ntmps94
      go_wp2_with (first
        | (go_at_call 101; refine (take_ok C.g t L C.M lb _ H.out.tk).mono ?_; rintro e w1 ⟨rfl, hx, hch⟩; have H1 := Lib.hid (H.out.tok hx hch); clear hx hch)
        | (go_at_call 163; refine (cut_r t t false _ HR.out (fun e => by cases e) (fun _ => rfl)).mono ?_; rintro e w2 ⟨rfl, rfl⟩)
        | (go_at_call 164; refine (must_no C.T C.q _ H1.out.err).mono ?_; rintro e w2 ⟨rfl, rfl⟩))
      exact ⟨rfl, rfl, H1.out.ch⟩
    | true =>
      unfold regOf at hq
      rw [if_pos hB] at hq
      obtain ⟨m, hm⟩ : ∃ m, t.tail = m := ⟨_, rfl⟩
      rw [hm] at hq
      have hml : m.length ≤ 1099511627776 := by rw [← hm, List.length_tail]; omega
      have HM := Lib.hid hm
      cases hx : numOf m with
      | none =>
        have HN := Lib.hid hx
        clear h hr hq hB hx hm
        go_enter Tryz.func94, Tryz.ntmps94
        go_wp2_with (first
          | (go_at_call 101; refine (take_ok C.g t L C.M lb _ H.out.tk).mono ?_; rintro e w1 ⟨rfl, hx, hch⟩; have H1 := Lib.hid (H.out.tok hx hch); clear hx hch)
          | (go_at_call 163; refine (cut_r t m true _ HR.out (fun _ => HM.out) (fun e => by cases e)).mono ?_; rintro e w2 ⟨rfl, rfl⟩)
          | (go_at_call 164; refine (must_yes _).mono ?_; rintro e w2 ⟨rfl, rfl⟩)
          | (go_at_call 165; refine (numberOf_no C.T C.q m _ HN.out hml H1.out.err).mono ?_; rintro e w2 ⟨rfl, hn2⟩))
        exact ⟨rfl, rfl, H1.out.felln hn2⟩
      | some n =>
        rw [hx] at hq
        simp only [Option.bind_some] at hq
        have hn11 : ¬ n < 11 := fun hlt => by rw [if_pos hlt] at hq; cases hq
        have HN := Lib.hid hx
        obtain ⟨n0, n1⟩ := num_pos hx
        have hd : decide (n < 11) = false := by simpa using hn11
        clear h hr hq hB hx hm
        go_enter Tryz.func94, Tryz.ntmps94
        go_wp2_with (first
          | (go_at_call 101; refine (take_ok C.g t L C.M lb _ H.out.tk).mono ?_; rintro e w1 ⟨rfl, hx, hch⟩; have H1 := Lib.hid (H.out.tok hx hch); clear hx hch)
          | (go_at_call 163; refine (cut_r t m true _ HR.out (fun _ => HM.out) (fun e => by cases e)).mono ?_; rintro e w2 ⟨rfl, rfl⟩)
          | (go_at_call 164; (with_reducible refine (must_yes _).mono ?_); rintro e w2 ⟨rfl, rfl⟩)
          | (go_at_call 165; refine (numberOf_ok m n _ HN.out).mono ?_; rintro e w2 ⟨rfl, hn2⟩; have H2 := Lib.hid (H1.out.new hn2); clear hn2)
          | (go_at_call 164; (with_reducible refine (must_no C.T C.q _ H2.out.err).mono ?_); rintro e w3 ⟨rfl, rfl⟩))
        exact ⟨rfl, rfl, H2.out.ch⟩

theorem num_none {t : Bs} {L : List Bs} (h : pNum (t :: L) = none) : numOf t = none := by
  have e : pNum (t :: L) = (numOf t).map (·, L) := rfl
  rw [e] at h
  cases hx : numOf t with
  | none => rfl
  | some x => rw [hx] at h; cases h
theorem St.len {C : Cx} {t : Bs} {L : List Bs} {lb : Bs} {i : In} {w : World} (h : St C (t :: L) lb i w) : 0 < t.length ∧ t.length ≤ 1099511627776 := by
  obtain ⟨A, n, c, hk⟩ := h.tk
  exact hk.tok t (List.mem_cons_self ..)

theorem number_ok (C : Cx) (t : Bs) (L : List Bs) (lb : Bs) (i : In) (n : Int) (w : World) (h : St C (t :: L) lb i w) (hr : numOf t = some n) :
    Calls Tryz.prog 167 #[.pointer (some ⟨C.g, 0, none⟩)] w (Sok C (.int .i64 n) L lb i) := by
  have H := Lib.hid h
  have HN := Lib.hid hr
  clear hr h
  go_enter Tryz.func167, Tryz.ntmps167
  go_wp2_with (first
    | (go_at_call 101; refine (take_ok C.g t L C.M lb _ H.out.tk).mono ?_; rintro e w1 ⟨rfl, hx, hch⟩; have H1 := Lib.hid (H.out.tok hx hch); clear hx hch)
    | (go_at_call 165; refine (numberOf_ok t n _ HN.out).mono ?_; rintro e w2 ⟨rfl, hn2⟩; have H2 := Lib.hid (H1.out.new hn2); clear hn2))
  go_ret
  exact ⟨rfl, H2.out⟩
theorem number_no (C : Cx) (L : List Bs) (lb : Bs) (i : In) (w : World) (h : St C L lb i w) (hr : pNum L = none) :
    Calls Tryz.prog 167 #[.pointer (some ⟨C.g, 0, none⟩)] w (Sno C) := by
  have H := Lib.hid h
  cases L with
  | nil =>
    clear h hr
    go_enter Tryz.func167, Tryz.ntmps167
    go_wp2_with (go_at_call 101; refine (take_no C.T C.q C.g C.M lb _ H.out.tk H.out.err).mono ?_; rintro e w1 ⟨rfl, hch⟩)
    exact ⟨rfl, rfl, H.out.fell hch⟩
  | cons t L =>
    have HN := Lib.hid (num_none hr)
    have hl := h.len.2
    clear h hr
    go_enter Tryz.func167, Tryz.ntmps167
    go_wp2_with (first
      | (go_at_call 101; refine (take_ok C.g t L C.M lb _ H.out.tk).mono ?_; rintro e w1 ⟨rfl, hx, hch⟩; have H1 := Lib.hid (H.out.tok hx hch); clear hx hch)
      | (go_at_call 165; refine (numberOf_no C.T C.q t _ HN.out hl H1.out.err).mono ?_; rintro e w2 ⟨rfl, hn2⟩))
    exact ⟨rfl, rfl, H1.out.felln hn2⟩

/-- The two signs. -/
theorem signed_ok (C : Cx) (t u : Bs) (L : List Bs) (lb : Bs) (i : In) (n : Int) (B : Bool) (w : World) (h : St C (t :: u :: L) lb i w) (hb : t = if B then [45] else [43]) (hr : numOf u = some n) :
    Calls Tryz.prog 99 #[.pointer (some ⟨C.g, 0, none⟩)] w (Sok C (.int .i64 (if B then -n else n)) L lb i) := by
  obtain ⟨n0, n1⟩ := num_pos hr
  have H := Lib.hid h
  have HN := Lib.hid hr
  have HZ := Lib.hid (Zs.two w 9 [43] [45])
  have HW := Lib.hid (new1 w (.cells #[.string ⟨#[43]⟩, .string ⟨#[45]⟩] 9))
  cases B with
  | true =>
    subst hb
    clear h hr
    go_enter Tryz.func99, Tryz.ntmps99
    go_wp2_with (first
      | (go_at_call 95; refine (one_ok C.g w.heap.size 2 2 [45] (u :: L) [[43], [45]] C.M lb _ rfl (by omega) (H.out.tk.new HW.out) HZ.out (by simp)).mono ?_; rintro e w1 ⟨rfl, hx, hch⟩; have H1 := Lib.hid ((H.out.new HW.out).tok hx hch); clear hx hch)
      | (go_at_call 167; refine (number_ok C u L lb i n _ H1.out HN.out).mono ?_; rintro e w2 ⟨rfl, h2⟩; have H2 := Lib.hid h2; clear h2))
    go_ret
    exact ⟨rfl, H2.out⟩
  | false =>
    subst hb
    clear h hr
    go_enter Tryz.func99, Tryz.ntmps99
    go_wp2_with (first
      | (go_at_call 95; refine (one_ok C.g w.heap.size 2 2 [43] (u :: L) [[43], [45]] C.M lb _ rfl (by omega) (H.out.tk.new HW.out) HZ.out (by simp)).mono ?_; rintro e w1 ⟨rfl, hx, hch⟩; have H1 := Lib.hid ((H.out.new HW.out).tok hx hch); clear hx hch)
      | (go_at_call 167; refine (number_ok C u L lb i n _ H1.out HN.out).mono ?_; rintro e w2 ⟨rfl, h2⟩; have H2 := Lib.hid h2; clear h2))
    go_ret
    exact ⟨rfl, H2.out⟩

theorem sgn_none {L : List Bs} (h : pSgn L = none) : hd L ∉ [[43], [45]] ∨ ∃ t r, L = t :: r ∧ t ∈ ([[43], [45]] : List Bs) ∧ pNum r = none := by
  cases L with
  | nil => left; simp [hd]
  | cons t r =>
    have e : pSgn (t :: r) = (if t = [43] then pNum r else if t = [45] then (pNum r).map fun p => (-p.1, p.2) else none) := rfl
    rw [e] at h
    by_cases h1 : t = [43]
    · rw [if_pos h1] at h
      exact Or.inr ⟨t, r, rfl, by simp [h1], h⟩
    · rw [if_neg h1] at h
      by_cases h2 : t = [45]
      · rw [if_pos h2] at h
        refine Or.inr ⟨t, r, rfl, by simp [h2], ?_⟩
        cases hq : pNum r with
        | none => rfl
        | some x => rw [hq] at h; cases h
      · left
        simp [hd, h1, h2]
theorem sgn_some {L r : List Bs} {n : Int} (h : pSgn L = some (n, r)) : ∃ (B : Bool) (u : Bs) (m : Int), L = (if B then [45] else [43]) :: u :: r ∧ numOf u = some m ∧ n = if B then -m else m := by
  cases L with
  | nil => cases h
  | cons t L =>
    have e : pSgn (t :: L) = (if t = [43] then pNum L else if t = [45] then (pNum L).map fun p => (-p.1, p.2) else none) := rfl
    rw [e] at h
    by_cases h1 : t = [43]
    · rw [if_pos h1] at h
      cases L with
      | nil => cases h
      | cons u L =>
        have e2 : pNum (u :: L) = (numOf u).map (·, L) := rfl
        rw [e2] at h
        cases hq : numOf u with
        | none => rw [hq] at h; cases h
        | some m =>
          rw [hq] at h
          simp only [Option.map_some, Option.some.injEq, Prod.mk.injEq] at h
          exact ⟨false, u, m, by simp [h1, h.2], hq, by simp [h.1]⟩
    · rw [if_neg h1] at h
      by_cases h2 : t = [45]
      · rw [if_pos h2] at h
        cases L with
        | nil => cases h
        | cons u L =>
          have e2 : pNum (u :: L) = (numOf u).map (·, L) := rfl
          rw [e2] at h
          cases hq : numOf u with
          | none => rw [hq] at h; cases h
          | some m =>
            rw [hq] at h
            simp only [Option.map_some, Option.some.injEq, Prod.mk.injEq] at h
            exact ⟨true, u, m, by simp [h2, h.2], hq, by simp [h.1]⟩
      · rw [if_neg h2] at h
        cases h
/-- Of any tokens with a sign and a number ahead. -/
theorem signed_any (C : Cx) (L r : List Bs) (lb : Bs) (i : In) (n : Int) (w : World) (h : St C L lb i w) (hr : pSgn L = some (n, r)) :
    Calls Tryz.prog 99 #[.pointer (some ⟨C.g, 0, none⟩)] w (Sok C (.int .i64 n) r lb i) := by
  obtain ⟨B, u, m, rfl, hm, rfl⟩ := sgn_some hr
  exact signed_ok C _ u r lb i m B w h rfl hm

theorem signed_no (C : Cx) (L : List Bs) (lb : Bs) (i : In) (w : World) (h : St C L lb i w) (hr : pSgn L = none) :
    Calls Tryz.prog 99 #[.pointer (some ⟨C.g, 0, none⟩)] w (Sno C) := by
  have H := Lib.hid h
  have HZ := Lib.hid (Zs.two w 9 [43] [45])
  have HW := Lib.hid (new1 w (.cells #[.string ⟨#[43]⟩, .string ⟨#[45]⟩] 9))
  rcases sgn_none hr with h1 | ⟨t, r, rfl, h1, h2⟩
  · have H1 := Lib.hid h1
    clear h hr h1
    go_enter Tryz.func99, Tryz.ntmps99
    go_wp2_with (go_at_call 95; refine (one_no C.T C.q C.g w.heap.size 2 2 L [[43], [45]] C.M lb _ rfl (by omega) (H.out.tk.new HW.out) HZ.out H1.out (H.out.err.new HW.out)).mono ?_; rintro e w1 ⟨rfl, hch⟩)
    exact ⟨rfl, rfl, (H.out.new HW.out).fell hch⟩
  · have HT := Lib.hid h1
    have HP := Lib.hid h2
    clear h hr h1 h2
    go_enter Tryz.func99, Tryz.ntmps99
    go_wp2_with (first
      | (go_at_call 95; refine (one_ok C.g w.heap.size 2 2 t r [[43], [45]] C.M lb _ rfl (by omega) (H.out.tk.new HW.out) HZ.out HT.out).mono ?_; rintro e w1 ⟨rfl, hx, hch⟩; have H1 := Lib.hid ((H.out.new HW.out).tok hx hch); clear hx hch)
      | (go_at_call 167; refine (number_no C r lb i _ H1.out HP.out).mono ?_; rintro e w2 ⟨rfl, h2⟩))
    exact ⟨rfl, rfl, h2⟩
end Go.Proofs.YtddojdgnakajmaaGreatDoor.txt

namespace Go.Proofs.YtddojdgnakajmaaGreatDoor.txt
open Go.RowKit Go.Proofs.YtddojdgnakajmaaGreatDoor.mem Go.Proofs.YtddojdgnakajmaaGreatDoor.kit Go.Proofs.YtddojdgnakajmaaGreatDoor.ins
set_option linter.unusedVariables false
set_option linter.unusedSimpArgs false

section
variable {C : Cx} {L : List Bs} {lb : Bs} {i : In} {w : World}
theorem St.set (h : St C L lb i w) (k : Nat) (v : Value) (j : In) (hj : (icell i).setIfInBounds k v = icell j) : St C L lb j (w.setCell ⟨C.gi, k, none⟩ v) := by
  have hc : Ch (fun b => b = C.gi) w (w.setCell ⟨C.gi, k, none⟩ v) := (Ch.refl (fun b => b = C.gi) w).setCell (p := ⟨C.gi, k, none⟩) (fun _ => rfl) v
  refine ⟨h.tk.ch hc h.ne (fun b cs hb e => ?_), ?_, h.ch.then hc (fun _ _ e => Or.inr e), h.err.ch hc (ins_err h.i h.err)⟩
  · exact (hb.ne_ h.i (by decide)) e
  · have := h.i.set_ k v
    rw [hj] at this
    exact this
theorem St.dst (h : St C L lb i w) (n : Int) : St C L lb { i with dst := n } (w.setCell ⟨C.gi, 2, none⟩ (.int .i64 n)) := h.set 2 _ _ rfl
theorem St.src (h : St C L lb i w) (n : Int) : St C L lb { i with src := n } (w.setCell ⟨C.gi, 3, none⟩ (.int .i64 n)) := h.set 3 _ _ rfl
theorem St.use (h : St C L lb i w) (b : Bool) : St C L lb { i with use := b } (w.setCell ⟨C.gi, 4, none⟩ (.bool b)) := h.set 4 _ _ rfl
theorem St.off (h : St C L lb i w) (n : Int) : St C L lb { i with off := n } (w.setCell ⟨C.gi, 5, none⟩ (.int .i64 n)) := h.set 5 _ _ rfl
theorem St.imm (h : St C L lb i w) (n : Int) : St C L lb { i with imm := n } (w.setCell ⟨C.gi, 6, none⟩ (.int .i64 n)) := h.set 6 _ _ rfl
theorem St.at2 (h : St C L lb i w) : w.cell? ⟨C.gi, 2, none⟩ = some (.int .i64 i.dst) ∧ w.frozen? ⟨C.gi, 2, none⟩ = false := ⟨(h.i.cell 2).trans rfl, h.i.frozen 2⟩
theorem St.at3 (h : St C L lb i w) : w.cell? ⟨C.gi, 3, none⟩ = some (.int .i64 i.src) ∧ w.frozen? ⟨C.gi, 3, none⟩ = false := ⟨(h.i.cell 3).trans rfl, h.i.frozen 3⟩
theorem St.at4 (h : St C L lb i w) : w.cell? ⟨C.gi, 4, none⟩ = some (.bool i.use) ∧ w.frozen? ⟨C.gi, 4, none⟩ = false := ⟨(h.i.cell 4).trans rfl, h.i.frozen 4⟩
theorem St.at5 (h : St C L lb i w) : w.cell? ⟨C.gi, 5, none⟩ = some (.int .i64 i.off) ∧ w.frozen? ⟨C.gi, 5, none⟩ = false := ⟨(h.i.cell 5).trans rfl, h.i.frozen 5⟩
theorem St.at6 (h : St C L lb i w) : w.cell? ⟨C.gi, 6, none⟩ = some (.int .i64 i.imm) ∧ w.frozen? ⟨C.gi, 6, none⟩ = false := ⟨(h.i.cell 6).trans rfl, h.i.frozen 6⟩
end

theorem reg_some {L r : List Bs} {n : Int} (h : pReg L = some (n, r)) : ∃ t, L = t :: r ∧ regOf t = some n := by
  cases L with
  | nil => cases h
  | cons t L =>
    have e : pReg (t :: L) = (regOf t).map (·, L) := rfl
    rw [e] at h
    obtain ⟨x, hx, he⟩ := Option.map_eq_some_iff.1 h
    simp only [Prod.mk.injEq] at he
    exact ⟨t, by rw [he.2], by rw [hx, he.1]⟩
theorem num_some {L r : List Bs} {n : Int} (h : pNum L = some (n, r)) : ∃ t, L = t :: r ∧ numOf t = some n := by
  cases L with
  | nil => cases h
  | cons t L =>
    have e : pNum (t :: L) = (numOf t).map (·, L) := rfl
    rw [e] at h
    obtain ⟨x, hx, he⟩ := Option.map_eq_some_iff.1 h
    simp only [Prod.mk.injEq] at he
    exact ⟨t, by rw [he.2], by rw [hx, he.1]⟩
theorem register_any (C : Cx) (L r : List Bs) (lb : Bs) (i : In) (n : Int) (w : World) (h : St C L lb i w) (hr : pReg L = some (n, r)) :
    Calls Tryz.prog 94 #[.pointer (some ⟨C.g, 0, none⟩)] w (Sok C (.int .i64 n) r lb i) := by
  obtain ⟨t, rfl, ht⟩ := reg_some hr
  exact register_ok C t r lb i n w h ht
theorem number_any (C : Cx) (L r : List Bs) (lb : Bs) (i : In) (n : Int) (w : World) (h : St C L lb i w) (hr : pNum L = some (n, r)) :
    Calls Tryz.prog 167 #[.pointer (some ⟨C.g, 0, none⟩)] w (Sok C (.int .i64 n) r lb i) := by
  obtain ⟨t, rfl, ht⟩ := num_some hr
  exact number_ok C t r lb i n w h ht
theorem hasr_any (t : Bs) (B : Bool) (w : World) (hB : hasR t = B) : Calls Tryz.prog 31 #[.string ⟨t.toArray⟩, .string ⟨#[114]⟩] w fun e w' => e = .returned (.bool B) ∧ w = w' := by
  refine (Tryz.strings_HasPrefix ⟨t.toArray⟩ ⟨#[114]⟩ w).mono ?_
  rintro e w' ⟨rfl, rfl⟩
  exact ⟨by rw [← hB, ← pre_r], rfl⟩
theorem comes1 (C : Cx) (L : List Bs) (lb : Bs) (i : In) (x : UInt8) (B : Bool) (w W : World) (h : St C L lb i W) (hz : Zs W w.heap.size [[x]]) (hB : decide (hd L = [x]) = B) :
    Calls Tryz.prog 98 #[.pointer (some ⟨C.g, 0, none⟩), .slice (some ⟨w.heap.size, 0, none⟩) 1 1] W fun e w' => e = .returned (.bool B) ∧ W = w' :=
  comes_any C.g w.heap.size 1 1 L [[x]] C.M lb B W rfl (by omega) h.tk hz (by rw [← hB]; simp)

set_option maxRecDepth 100000 in
theorem second_ok (C : Cx) (L r : List Bs) (lb : Bs) (i j : In) (w : World) (h : St C L lb i w) (hs : pSec i L = some (j, r)) :
    Calls Tryz.prog 96 #[.pointer (some ⟨C.g, 0, none⟩), .pointer (some ⟨C.gi, 0, none⟩)] w (Sok C (.tuple #[]) r lb j) := by
  have H := Lib.hid h
  unfold pSec at hs
  obtain ⟨B, hB⟩ : ∃ B, hasR (hd L) = B := ⟨_, rfl⟩
  rw [hB] at hs
  have HR := Lib.hid hB
  cases B with
  | true =>
    rw [if_pos rfl] at hs
    obtain ⟨⟨n, r'⟩, hp, he⟩ := Option.map_eq_some_iff.1 hs
    simp only [Prod.mk.injEq] at he
    obtain ⟨rfl, rfl⟩ := he
    have HP := Lib.hid hp
    clear h hs hB hp
    go_enter Tryz.func96, Tryz.ntmps96
    go_wp2_with (first
      | (go_at_call 166; refine (next_any C.g L C.M lb _ H.out.tk).mono ?_; rintro e w1 ⟨rfl, rfl⟩)
      | (go_at_call 31; refine (hasr_any (hd L) true _ HR.out).mono ?_; rintro e w1 ⟨rfl, rfl⟩)
      | (go_at_call 94; refine (register_any C L r' lb i n _ H.out HP.out).mono ?_; rintro e w1 ⟨rfl, h1⟩; obtain ⟨x3, z3⟩ := h1.at3; have H1 := Lib.hid h1; clear h1))
    refine Great.bodyPost_end0 rfl rfl ?_
    exact ⟨rfl, H1.out.src n⟩
  | false =>
    rw [if_neg (by decide)] at hs
    obtain ⟨x4, z4⟩ := h.at4
    have HU := Lib.hid (h.use true)
    have hsz : (w.setCell ⟨C.gi, 4, none⟩ (.bool true)).heap.size = w.heap.size := by simp [World.setCell]
    have HZ : Hid (Zs ((w.setCell ⟨C.gi, 4, none⟩ (.bool true)).alloc (.cells #[.string ⟨#[45]⟩] 9)) w.heap.size [[45]]) := Lib.hid (by have h := Zs.one (w.setCell ⟨C.gi, 4, none⟩ (.bool true)) 9 [45]; rw [hsz] at h; exact h)
    have HV := Lib.hid (HU.out.new (new1 (w.setCell ⟨C.gi, 4, none⟩ (.bool true)) (.cells #[.string ⟨#[45]⟩] 9)))
    by_cases hm : hd L = [45]
    · rw [if_pos hm] at hs
      obtain ⟨⟨n, r'⟩, hp, he⟩ := Option.map_eq_some_iff.1 hs
      simp only [Prod.mk.injEq] at he
      obtain ⟨rfl, rfl⟩ := he
      have HP := Lib.hid hp
      have HM : Hid (decide (hd L = [45]) = true) := Lib.hid (by simp [hm])
      clear h hs hB hp hm hsz
      go_enter Tryz.func96, Tryz.ntmps96
      go_wp2_with (first
        | (go_at_call 166; refine (next_any C.g L C.M lb _ H.out.tk).mono ?_; rintro e w1 ⟨rfl, rfl⟩)
        | (go_at_call 31; refine (hasr_any (hd L) false _ HR.out).mono ?_; rintro e w1 ⟨rfl, rfl⟩)
        | (go_at_call 98; refine (comes1 C L lb _ 45 true w _ HV.out HZ.out HM.out).mono ?_; rintro e w1 ⟨rfl, rfl⟩)
        | (go_at_call 99; refine (signed_any C L r' lb _ n _ HV.out HP.out).mono ?_; rintro e w1 ⟨rfl, h1⟩; obtain ⟨x6, z6⟩ := h1.at6; have H1 := Lib.hid h1; clear h1))
      refine Great.bodyPost_end0 rfl rfl ?_
      exact ⟨rfl, H1.out.imm n⟩
    · rw [if_neg hm] at hs
      obtain ⟨⟨n, r'⟩, hp, he⟩ := Option.map_eq_some_iff.1 hs
      simp only [Prod.mk.injEq] at he
      obtain ⟨rfl, rfl⟩ := he
      have HP := Lib.hid hp
      have HM : Hid (decide (hd L = [45]) = false) := Lib.hid (by simp [hm])
      clear h hs hB hp hm hsz
      go_enter Tryz.func96, Tryz.ntmps96
      go_wp2_with (first
        | (go_at_call 166; refine (next_any C.g L C.M lb _ H.out.tk).mono ?_; rintro e w1 ⟨rfl, rfl⟩)
        | (go_at_call 31; refine (hasr_any (hd L) false _ HR.out).mono ?_; rintro e w1 ⟨rfl, rfl⟩)
        | (go_at_call 98; refine (comes1 C L lb _ 45 false w _ HV.out HZ.out HM.out).mono ?_; rintro e w1 ⟨rfl, rfl⟩)
        | (go_at_call 167; refine (number_any C L r' lb _ n _ HV.out HP.out).mono ?_; rintro e w1 ⟨rfl, h1⟩; obtain ⟨x6, z6⟩ := h1.at6; have H1 := Lib.hid h1; clear h1))
      refine Great.bodyPost_end0 rfl rfl ?_
      exact ⟨rfl, H1.out.imm n⟩

set_option maxRecDepth 100000 in
theorem second_no (C : Cx) (L : List Bs) (lb : Bs) (i : In) (w : World) (h : St C L lb i w) (hs : pSec i L = none) :
    Calls Tryz.prog 96 #[.pointer (some ⟨C.g, 0, none⟩), .pointer (some ⟨C.gi, 0, none⟩)] w (Sno C) := by
  have H := Lib.hid h
  unfold pSec at hs
  obtain ⟨B, hB⟩ : ∃ B, hasR (hd L) = B := ⟨_, rfl⟩
  rw [hB] at hs
  have HR := Lib.hid hB
  cases B with
  | true =>
    rw [if_pos rfl, Option.map_eq_none_iff] at hs
    have HP := Lib.hid hs
    clear h hs hB
    go_enter Tryz.func96, Tryz.ntmps96
    go_wp2_with (first
      | (go_at_call 166; refine (next_any C.g L C.M lb _ H.out.tk).mono ?_; rintro e w1 ⟨rfl, rfl⟩)
      | (go_at_call 31; refine (hasr_any (hd L) true _ HR.out).mono ?_; rintro e w1 ⟨rfl, rfl⟩)
      | (go_at_call 94; refine (register_no C L lb i _ H.out HP.out).mono ?_; rintro e w1 ⟨rfl, h1⟩))
    exact ⟨rfl, rfl, h1⟩
  | false =>
    rw [if_neg (by decide)] at hs
    obtain ⟨x4, z4⟩ := h.at4
    have HU := Lib.hid (h.use true)
    have hsz : (w.setCell ⟨C.gi, 4, none⟩ (.bool true)).heap.size = w.heap.size := by simp [World.setCell]
    have HZ : Hid (Zs ((w.setCell ⟨C.gi, 4, none⟩ (.bool true)).alloc (.cells #[.string ⟨#[45]⟩] 9)) w.heap.size [[45]]) := Lib.hid (by have h := Zs.one (w.setCell ⟨C.gi, 4, none⟩ (.bool true)) 9 [45]; rw [hsz] at h; exact h)
    have HV := Lib.hid (HU.out.new (new1 (w.setCell ⟨C.gi, 4, none⟩ (.bool true)) (.cells #[.string ⟨#[45]⟩] 9)))
    by_cases hm : hd L = [45]
    · rw [if_pos hm, Option.map_eq_none_iff] at hs
      have HP := Lib.hid hs
      have HM : Hid (decide (hd L = [45]) = true) := Lib.hid (by simp [hm])
      clear h hs hB hm hsz
      go_enter Tryz.func96, Tryz.ntmps96
      go_wp2_with (first
        | (go_at_call 166; refine (next_any C.g L C.M lb _ H.out.tk).mono ?_; rintro e w1 ⟨rfl, rfl⟩)
        | (go_at_call 31; refine (hasr_any (hd L) false _ HR.out).mono ?_; rintro e w1 ⟨rfl, rfl⟩)
        | (go_at_call 98; refine (comes1 C L lb _ 45 true w _ HV.out HZ.out HM.out).mono ?_; rintro e w1 ⟨rfl, rfl⟩)
        | (go_at_call 99; refine (signed_no C L lb _ _ HV.out HP.out).mono ?_; rintro e w1 ⟨rfl, h1⟩))
      exact ⟨rfl, rfl, h1⟩
    · rw [if_neg hm, Option.map_eq_none_iff] at hs
      have HP := Lib.hid hs
      have HM : Hid (decide (hd L = [45]) = false) := Lib.hid (by simp [hm])
      clear h hs hB hm hsz
      go_enter Tryz.func96, Tryz.ntmps96
      go_wp2_with (first
        | (go_at_call 166; refine (next_any C.g L C.M lb _ H.out.tk).mono ?_; rintro e w1 ⟨rfl, rfl⟩)
        | (go_at_call 31; refine (hasr_any (hd L) false _ HR.out).mono ?_; rintro e w1 ⟨rfl, rfl⟩)
        | (go_at_call 98; refine (comes1 C L lb _ 45 false w _ HV.out HZ.out HM.out).mono ?_; rintro e w1 ⟨rfl, rfl⟩)
        | (go_at_call 167; refine (number_no C L lb _ _ HV.out HP.out).mono ?_; rintro e w1 ⟨rfl, h1⟩))
      exact ⟨rfl, rfl, h1⟩

/-! ### a sign that must come -/
theorem one_some {x : UInt8} {L r : List Bs} (h : pOne x L = some r) : L = [x] :: r := by
  cases L with
  | nil => cases h
  | cons t L =>
    have e : pOne x (t :: L) = if t = [x] then some L else none := rfl
    rw [e] at h
    split at h
    · rename_i ht
      injection h with h
      rw [ht, h]
    · cases h
theorem one_none {x : UInt8} {L : List Bs} (h : pOne x L = none) : hd L ∉ [[x]] := by
  cases L with
  | nil => simp [hd]
  | cons t L =>
    have e : pOne x (t :: L) = if t = [x] then some L else none := rfl
    rw [e] at h
    split at h
    · cases h
    · rename_i ht
      simpa [hd] using ht
/-- Behind the sign's own block. -/
theorem one1_ok (C : Cx) (x : UInt8) (L r : List Bs) (lb : Bs) (i : In) (w : World) (h : St C L lb i w) (hr : pOne x L = some r) :
    Calls Tryz.prog 95 #[.pointer (some ⟨C.g, 0, none⟩), .slice (some ⟨w.heap.size, 0, none⟩) 1 1] (w.alloc (.cells #[.string ⟨#[x]⟩] 9)) fun e w' => ∃ v, e = .returned v ∧ St C r lb i w' := by
  have e := one_some hr
  subst e
  refine (one_ok C.g w.heap.size 1 1 [x] r [[x]] C.M lb _ rfl (by omega) (h.new (new1 w _)).tk (Zs.one w 9 [x]) (by simp)).mono ?_
  rintro e w1 ⟨rfl, hx, hch⟩
  exact ⟨_, rfl, (h.new (new1 w _)).tok hx hch⟩
theorem one1_no (C : Cx) (x : UInt8) (L : List Bs) (lb : Bs) (i : In) (w : World) (h : St C L lb i w) (hr : pOne x L = none) :
    Calls Tryz.prog 95 #[.pointer (some ⟨C.g, 0, none⟩), .slice (some ⟨w.heap.size, 0, none⟩) 1 1] (w.alloc (.cells #[.string ⟨#[x]⟩] 9)) (Sno C) := by
  refine (one_no C.T C.q C.g w.heap.size 1 1 L [[x]] C.M lb _ rfl (by omega) (h.new (new1 w _)).tk (Zs.one w 9 [x]) (one_none hr) (h.new (new1 w _)).err).mono ?_
  rintro e w1 ⟨rfl, hch⟩
  exact ⟨rfl, (h.new (new1 w _)).fell hch⟩

/-! ### cells -/
theorem cell_ok (C : Cx) (L a b c r : List Bs) (lb : Bs) (i : In) (n m : Int) (w : World) (h : St C L lb i w) (h1 : pOne 91 L = some a) (h2 : pReg a = some (n, b)) (h3 : pSgn b = some (m, c)) (h4 : pOne 93 c = some r) :
    Calls Tryz.prog 97 #[.pointer (some ⟨C.g, 0, none⟩)] w (Sok C (.tuple #[.int .i64 n, .int .i64 m]) r lb i) := by
  have H := Lib.hid h
  have H1 := Lib.hid h1
  have H2 := Lib.hid h2
  have H3 := Lib.hid h3
  have H4 := Lib.hid h4
  clear h h1 h2 h3 h4
  go_enter Tryz.func97, Tryz.ntmps97
  go_wp2_with (go_at_call 95; refine (one1_ok C 91 L a lb i w H.out H1.out).mono ?_; rintro e w1 ⟨v1, rfl, hs⟩; have HA := Lib.hid hs; clear hs)
  go_wp2_with (first
    | (go_at_call 94; refine (register_any C a b lb i n _ HA.out H2.out).mono ?_; rintro e w2 ⟨rfl, hs⟩; have HB := Lib.hid hs; clear hs)
    | (go_at_call 99; refine (signed_any C b c lb i m _ HB.out H3.out).mono ?_; rintro e w3 ⟨rfl, hs⟩; have HC := Lib.hid hs; clear hs))
  go_wp2_with (go_at_call 95; refine (one1_ok C 93 c r lb i _ HC.out H4.out).mono ?_; rintro e w4 ⟨v4, rfl, hs⟩; have HD := Lib.hid hs; clear hs)
  go_ret2
  exact ⟨rfl, HD.out⟩
end Go.Proofs.YtddojdgnakajmaaGreatDoor.txt

namespace Go.Proofs.YtddojdgnakajmaaGreatDoor.txt
open Go.RowKit Go.Proofs.YtddojdgnakajmaaGreatDoor.mem Go.Proofs.YtddojdgnakajmaaGreatDoor.kit Go.Proofs.YtddojdgnakajmaaGreatDoor.ins
set_option linter.unusedVariables false
set_option linter.unusedSimpArgs false

theorem cell_some {L r : List Bs} {n m : Int} (h : pCell L = some (n, m, r)) : ∃ a b c, pOne 91 L = some a ∧ pReg a = some (n, b) ∧ pSgn b = some (m, c) ∧ pOne 93 c = some r := by
  unfold pCell at h
  obtain ⟨a, h1, h⟩ := Option.bind_eq_some_iff.1 h
  obtain ⟨⟨n', b⟩, h2, h⟩ := Option.bind_eq_some_iff.1 h
  obtain ⟨⟨m', c⟩, h3, h⟩ := Option.bind_eq_some_iff.1 h
  obtain ⟨d, h4, h⟩ := Option.map_eq_some_iff.1 h
  simp only [Prod.mk.injEq] at h
  obtain ⟨rfl, rfl, rfl⟩ := h
  exact ⟨a, b, c, h1, h2, h3, h4⟩
theorem cell_any (C : Cx) (L r : List Bs) (lb : Bs) (i : In) (n m : Int) (w : World) (h : St C L lb i w) (hc : pCell L = some (n, m, r)) :
    Calls Tryz.prog 97 #[.pointer (some ⟨C.g, 0, none⟩)] w (Sok C (.tuple #[.int .i64 n, .int .i64 m]) r lb i) := by
  obtain ⟨a, b, c, h1, h2, h3, h4⟩ := cell_some hc
  exact cell_ok C L a b c r lb i n m w h h1 h2 h3 h4
theorem cell_no (C : Cx) (L : List Bs) (lb : Bs) (i : In) (w : World) (h : St C L lb i w) (hc : pCell L = none) :
    Calls Tryz.prog 97 #[.pointer (some ⟨C.g, 0, none⟩)] w (Sno C) := by
  have H := Lib.hid h
  unfold pCell at hc
  cases h1 : pOne 91 L with
  | none =>
    have H1 := Lib.hid h1
    clear h hc h1
    go_enter Tryz.func97, Tryz.ntmps97
    go_wp2_with (go_at_call 95; refine (one1_no C 91 L lb i w H.out H1.out).mono ?_; rintro e w1 ⟨rfl, hs⟩)
    exact ⟨rfl, rfl, hs⟩
  | some a =>
    rw [h1, Option.bind_some] at hc
    have H1 := Lib.hid h1
    cases h2 : pReg a with
    | none =>
      have H2 := Lib.hid h2
      clear h hc h1 h2
      go_enter Tryz.func97, Tryz.ntmps97
      go_wp2_with (go_at_call 95; refine (one1_ok C 91 L a lb i w H.out H1.out).mono ?_; rintro e w1 ⟨v1, rfl, hs⟩; have HA := Lib.hid hs; clear hs)
      go_wp2_with (go_at_call 94; refine (register_no C a lb i _ HA.out H2.out).mono ?_; rintro e w2 ⟨rfl, hs⟩)
      exact ⟨rfl, rfl, hs⟩
    | some nb =>
      obtain ⟨n, b⟩ := nb
      rw [h2, Option.bind_some] at hc
      have H2 := Lib.hid h2
      cases h3 : pSgn b with
      | none =>
        have H3 := Lib.hid h3
        clear h hc h1 h2 h3
        go_enter Tryz.func97, Tryz.ntmps97
        go_wp2_with (go_at_call 95; refine (one1_ok C 91 L a lb i w H.out H1.out).mono ?_; rintro e w1 ⟨v1, rfl, hs⟩; have HA := Lib.hid hs; clear hs)
        go_wp2_with (first
          | (go_at_call 94; refine (register_any C a b lb i n _ HA.out H2.out).mono ?_; rintro e w2 ⟨rfl, hs⟩; have HB := Lib.hid hs; clear hs)
          | (go_at_call 99; refine (signed_no C b lb i _ HB.out H3.out).mono ?_; rintro e w3 ⟨rfl, hs⟩))
        exact ⟨rfl, rfl, hs⟩
      | some mc =>
        obtain ⟨m, c⟩ := mc
        rw [h3, Option.bind_some, Option.map_eq_none_iff] at hc
        have H3 := Lib.hid h3
        have H4 := Lib.hid hc
        clear h hc h1 h2 h3
        go_enter Tryz.func97, Tryz.ntmps97
        go_wp2_with (go_at_call 95; refine (one1_ok C 91 L a lb i w H.out H1.out).mono ?_; rintro e w1 ⟨v1, rfl, hs⟩; have HA := Lib.hid hs; clear hs)
        go_wp2_with (first
          | (go_at_call 94; refine (register_any C a b lb i n _ HA.out H2.out).mono ?_; rintro e w2 ⟨rfl, hs⟩; have HB := Lib.hid hs; clear hs)
          | (go_at_call 99; refine (signed_any C b c lb i m _ HB.out H3.out).mono ?_; rintro e w3 ⟨rfl, hs⟩; have HC := Lib.hid hs; clear hs))
        go_wp2_with (go_at_call 95; refine (one1_no C 93 c lb i _ HC.out H4.out).mono ?_; rintro e w4 ⟨rfl, hs⟩)
        exact ⟨rfl, rfl, hs⟩

/-! ### where a jump goes -/
theorem TkX.lab {w : World} {g : Nat} {L : List Bs} {M : Value} {lb : Bs} (h : TkX w g L M lb) (t : Bs) : TkX (w.setCell ⟨g, 2, none⟩ (.string ⟨t.toArray⟩)) g L M t ∧ Ch (fun j => j = g) w (w.setCell ⟨g, 2, none⟩ (.string ⟨t.toArray⟩)) := by
  obtain ⟨A, n, c, h⟩ := h
  have hch : Ch (fun j => j = g) w (w.setCell ⟨g, 2, none⟩ (.string ⟨t.toArray⟩)) := (Ch.refl (fun j => j = g) w).setCell (p := ⟨g, 2, none⟩) (fun _ => rfl) _
  have hne : ∀ ad, A = some ad → ad.block ≠ g := fun ad e => by
    obtain ⟨cs, hcs⟩ := h.ty ad e
    exact hcs.ne_ h.blk (by decide)
  refine ⟨⟨A, n, c, h.blk.set_ 2 _, h.len, h.cap, h.rd.ch hch hne, fun ad e => ?_, h.tok⟩, hch⟩
  obtain ⟨cs, hcs⟩ := h.ty ad e
  exact ⟨cs, hcs.ch hch (hne ad e)⟩
theorem St.lab {C : Cx} {L : List Bs} {lb : Bs} {i : In} {w : World} (h : St C L lb i w) (t : Bs) : St C L t i (w.setCell ⟨C.g, 2, none⟩ (.string ⟨t.toArray⟩)) := h.tok (h.tk.lab t).1 (h.tk.lab t).2
theorem TkX.at2 {w : World} {g : Nat} {L : List Bs} {M : Value} {lb : Bs} (h : TkX w g L M lb) : w.cell? ⟨g, 2, none⟩ = some (.string ⟨lb.toArray⟩) ∧ w.frozen? ⟨g, 2, none⟩ = false := by
  obtain ⟨A, n, c, h⟩ := h
  exact ⟨(h.blk.cell 2).trans rfl, h.blk.frozen 2⟩
theorem comes2 (C : Cx) (L : List Bs) (lb : Bs) (i : In) (B : Bool) (w : World) (h : St C L lb i w) (hB : decide (hd L = [43] ∨ hd L = [45]) = B) :
    Calls Tryz.prog 98 #[.pointer (some ⟨C.g, 0, none⟩), .slice (some ⟨w.heap.size, 0, none⟩) 2 2] (w.alloc (.cells #[.string ⟨#[43]⟩, .string ⟨#[45]⟩] 9)) fun e w' => e = .returned (.bool B) ∧ w.alloc (.cells #[.string ⟨#[43]⟩, .string ⟨#[45]⟩] 9) = w' :=
  comes_any C.g w.heap.size 2 2 L [[43], [45]] C.M lb B _ rfl (by omega) (h.new (new1 w _)).tk (Zs.two w 9 [43] [45]) (by rw [← hB]; simp)

set_option maxRecDepth 100000 in
theorem jump_ok (C : Cx) (L r : List Bs) (lb t : Bs) (i j : In) (w : World) (h : St C L [] i w) (hs : pTo i L = some (j, t, r)) :
    Calls Tryz.prog 42 #[.pointer (some ⟨C.g, 0, none⟩), .pointer (some ⟨C.gi, 0, none⟩)] w (Sok C (.tuple #[]) r t j) := by
  have H := Lib.hid h
  have HV := Lib.hid (h.new (new1 w (.cells #[.string ⟨#[43]⟩, .string ⟨#[45]⟩] 9)))
  unfold pTo at hs
  by_cases hm : hd L = [43] ∨ hd L = [45]
  · rw [if_pos hm] at hs
    obtain ⟨⟨n, r'⟩, hp, he⟩ := Option.map_eq_some_iff.1 hs
    simp only [Prod.mk.injEq] at he
    obtain ⟨rfl, rfl, rfl⟩ := he
    have HP := Lib.hid hp
    have HM : Hid (decide (hd L = [43] ∨ hd L = [45]) = true) := Lib.hid (decide_eq_true hm)
    clear h hs hp hm
    go_enter Tryz.func42, Tryz.ntmps42
    go_wp2_with (first
      | (go_at_call 98; refine (comes2 C L [] i true w H.out HM.out).mono ?_; rintro e w1 ⟨rfl, rfl⟩)
      | (go_at_call 99; refine (signed_any C L r' [] i n _ HV.out HP.out).mono ?_; rintro e w1 ⟨rfl, h1⟩; obtain ⟨x5, z5⟩ := h1.at5; have H1 := Lib.hid h1; clear h1))
    refine Great.bodyPost_end0 rfl rfl ?_
    exact ⟨rfl, H1.out.off n⟩
  · rw [if_neg hm] at hs
    have HM : Hid (decide (hd L = [43] ∨ hd L = [45]) = false) := Lib.hid (decide_eq_false hm)
    cases L with
    | nil => cases hs
    | cons u L =>
      change (if isLab u = true then some (i, u, L) else none) = some (j, t, r) at hs
      split at hs
      · rename_i hu
        simp only [Option.some.injEq, Prod.mk.injEq] at hs
        obtain ⟨rfl, rfl, rfl⟩ := hs
        have hl := h.len.2
        have HL := Lib.hid hu
        clear h hm hu
        go_enter Tryz.func42, Tryz.ntmps42
        go_wp2_with (first
          | (go_at_call 98; refine (comes2 C (u :: L) [] i false w H.out HM.out).mono ?_; rintro e w1 ⟨rfl, rfl⟩)
          | (go_at_call 101; refine (take_ok C.g u L C.M [] _ HV.out.tk).mono ?_; rintro e w1 ⟨rfl, hx, hch⟩; obtain ⟨x2, z2⟩ := hx.at2; have H1 := Lib.hid (HV.out.tok hx hch); clear hx hch)
          | (go_at_call 100; refine (labelOf_ok u _ hl HL.out).mono ?_; rintro e w2 ⟨rfl, rfl⟩))
        refine Great.bodyPost_end0 rfl rfl ?_
        exact ⟨rfl, H1.out.lab u⟩
      · cases hs

set_option maxRecDepth 100000 in
theorem jump_no (C : Cx) (L : List Bs) (i : In) (w : World) (h : St C L [] i w) (hs : pTo i L = none) :
    Calls Tryz.prog 42 #[.pointer (some ⟨C.g, 0, none⟩), .pointer (some ⟨C.gi, 0, none⟩)] w (Sno C) := by
  have H := Lib.hid h
  have HV := Lib.hid (h.new (new1 w (.cells #[.string ⟨#[43]⟩, .string ⟨#[45]⟩] 9)))
  unfold pTo at hs
  by_cases hm : hd L = [43] ∨ hd L = [45]
  · rw [if_pos hm, Option.map_eq_none_iff] at hs
    have HP := Lib.hid hs
    have HM : Hid (decide (hd L = [43] ∨ hd L = [45]) = true) := Lib.hid (decide_eq_true hm)
    clear h hs hm
    go_enter Tryz.func42, Tryz.ntmps42
    go_wp2_with (first
      | (go_at_call 98; refine (comes2 C L [] i true w H.out HM.out).mono ?_; rintro e w1 ⟨rfl, rfl⟩)
      | (go_at_call 99; refine (signed_no C L [] i _ HV.out HP.out).mono ?_; rintro e w1 ⟨rfl, h1⟩))
    exact ⟨rfl, rfl, h1⟩
  · rw [if_neg hm] at hs
    have HM : Hid (decide (hd L = [43] ∨ hd L = [45]) = false) := Lib.hid (decide_eq_false hm)
    cases L with
    | nil =>
      clear h hs hm
      go_enter Tryz.func42, Tryz.ntmps42
      go_wp2_with (first
        | (go_at_call 98; refine (comes2 C [] [] i false w H.out HM.out).mono ?_; rintro e w1 ⟨rfl, rfl⟩)
        | (go_at_call 101; refine (take_no C.T C.q C.g C.M [] _ HV.out.tk HV.out.err).mono ?_; rintro e w1 ⟨rfl, hch⟩))
      exact ⟨rfl, rfl, HV.out.fell hch⟩
    | cons u L =>
      change (if isLab u = true then some (i, u, L) else none) = none at hs
      split at hs
      · cases hs
      · rename_i hu
        obtain ⟨hl0, hl⟩ := h.len
        have HL : Hid (isLab u = false) := Lib.hid (by simpa using hu)
        clear h hs hm hu
        go_enter Tryz.func42, Tryz.ntmps42
        go_wp2_with (first
          | (go_at_call 98; refine (comes2 C (u :: L) [] i false w H.out HM.out).mono ?_; rintro e w1 ⟨rfl, rfl⟩)
          | (go_at_call 101; refine (take_ok C.g u L C.M [] _ HV.out.tk).mono ?_; rintro e w1 ⟨rfl, hx, hch⟩; have H1 := Lib.hid (HV.out.tok hx hch); clear hx hch)
          | (go_at_call 100; refine (labelOf_no C.T C.q u _ hl hl0 HL.out H1.out.err).mono ?_; rintro e w2 ⟨rfl, rfl⟩))
        exact ⟨rfl, rfl, H1.out.ch⟩
end Go.Proofs.YtddojdgnakajmaaGreatDoor.txt
