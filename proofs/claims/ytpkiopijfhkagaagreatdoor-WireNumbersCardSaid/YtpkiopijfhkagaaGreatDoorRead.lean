/-
  Contracts of wire's reader: what is left.
-/
import Derived.Test.YtpkiopijfhkagaaGreatDoorWireB
import Derived.WalkLawsBesides
import Derived.Lib.SliceRun
import Derived.Laws.BitsAllLaws
namespace Go.Proofs.YtpkiopijfhkagaaGreatDoor.rd
open Go.RowKit Go.Proofs.YtpkiopijfhkagaaGreatDoor.mem Go.Proofs.YtpkiopijfhkagaaGreatDoor.kit Go.Proofs.YtpkiopijfhkagaaGreatDoor.wire
set_option linter.unusedVariables false

/-- What the package's error variable holds: an error. -/
def ErrAt (w : World) (T : TypeId) (q : Addr) : Prop := w.cell? ⟨0, 0, none⟩ = some (.iface T (.pointer (some q)))

theorem must_yes (w : World) : Calls Tryz.prog 101 #[.bool true] w fun e w' => e = .returned (.tuple #[]) ∧ w = w' := by
  go_enter Tryz.func101, Tryz.ntmps101
  go_wp2
  go_end0
  exact ⟨rfl, rfl⟩

theorem must_no (T : TypeId) (q : Addr) (w : World) (hE : ErrAt w T q) : Calls Tryz.prog 101 #[.bool false] w fun e w' => e = .panicked [{ v := .iface T (.pointer (some q)), recovered := false }] ∧ w = w' := by
  have h : w.cell? ⟨0, 0, none⟩ = some (.iface T (.pointer (some q))) := hE
  go_enter Tryz.func101, Tryz.ntmps101
  go_wp2
  exact ⟨rfl, rfl, rfl⟩

/-- A reader in block g that is good, with l left. -/
def Good (w : World) (g : Nat) (l : List UInt8) : Prop :=
  ∃ A c, Blk w g 77 #[.slice A l.length c, .pointer (some ⟨g, 0, none⟩)] ∧ l.length ≤ c ∧ c ≤ maxLen ∧ Reads w w.heap.size 1 A l.length (vb l) ∧ (∀ ad, A = some ad → ∃ cs, Blk w ad.block 5 cs)


/-- What a take leaves. -/
def Took (w : World) (g k : Nat) (l : List UInt8) (e : Ending) (w' : World) : Prop :=
  ∃ A c, e = .returned (.slice A k c) ∧ Reads w' w'.heap.size 1 A k (vb (l.take k)) ∧ Good w' g (l.drop k) ∧ Ch (fun j => j = g) w w'

theorem took_close (g k : Nat) (l : List UInt8) (w : World) (A : Option Addr) (c : Nat) (hk : k ≤ l.length) (hc : l.length ≤ c) (hm : c ≤ maxLen) (hr : Reads w w.heap.size 1 A l.length (vb l)) (hty : ∀ ad, A = some ad → ∃ cs, Blk w ad.block 5 cs)
    (HB : Blk w g 77 #[.slice A l.length c, .pointer (some ⟨g, 0, none⟩)]) :
    Took w g k l (.returned (.slice A k c)) (w.setCell ⟨g, 0, none⟩ (.slice (if c = k then A else A.map (·.add k)) (l.length - k) (c - k))) := by
  have hch : Ch (fun j => j = g) w (w.setCell ⟨g, 0, none⟩ (.slice (if c = k then A else A.map (·.add k)) (l.length - k) (c - k))) := (Ch.refl (fun j => j = g) w).setCell (p := ⟨g, 0, none⟩) (fun _ => rfl) _
  have hne : ∀ ad, A = some ad → ad.block ≠ g := fun ad e => by
    obtain ⟨cs, hcs⟩ := hty ad e
    exact hcs.ne_ HB (by decide)
  have hr' := hr.ch hch (fun ad e => hne ad e)
  have hb' := HB.set_ 0 (.slice (if c = k then A else A.map (·.add k)) (l.length - k) (c - k))
  have hcut := hr'.cut hk hc
  rw [Nat.mul_one] at hcut
  refine ⟨A, c, rfl, ?_, ⟨if c = k then A else A.map (·.add k), c - k, ?_, by rw [List.length_drop]; omega, by omega, ?_, fun ad e => ?_⟩, hch⟩
  · refine ⟨by simp [vb]; omega, fun hn => ?_⟩
    obtain ⟨ad, e, hb, hcell⟩ := hr'.2 (by omega)
    refine ⟨ad, e, hb, fun j u hu => hcell j u ?_⟩
    have hlt : j < k := by
      have := (List.getElem?_eq_some_iff.1 hu).1
      simp [vb] at this
      omega
    rw [show vb (l.take k) = (vb l).take k by simp [vb], List.getElem?_take, if_pos hlt] at hu
    exact hu
  · rw [List.length_drop]; exact hb'
  · rw [List.length_drop, show vb (l.drop k) = (vb l).drop k by simp [vb]]; exact hcut
  · by_cases hck : c = k
    · rw [if_pos hck] at e
      obtain ⟨cs, hcs⟩ := hty ad e
      exact ⟨cs, hcs.ch hch (hne ad e)⟩
    · rw [if_neg hck] at e
      cases A with
      | none => cases e
      | some a =>
        simp at e
        subst e
        rw [block_of_add]
        obtain ⟨cs, hcs⟩ := hty a rfl
        exact ⟨cs, hcs.ch hch (hne a rfl)⟩

set_option maxRecDepth 100000 in
theorem take_ok (g k : Nat) (l : List UInt8) (w : World) (hk : k ≤ l.length) (hl : l.length ≤ 1099511627776) (h : Good w g l) :
    Calls Tryz.prog 75 #[.pointer (some ⟨g, 0, none⟩), .int .i64 k] w (Took w g k l) := by
  obtain ⟨A, c, hb, hc, hm, hr, hne⟩ := h
  have hcl := took_close g k l w A c hk hc hm hr hne hb
  have c0 := hb.cell 0
  have z0 := hb.frozen 0
  simp only [List.getElem?_toArray, List.getElem?_cons_zero] at c0
  have HB := Lib.hid hcl
  clear hb hcl
  have hd : decide (k ≤ l.length) = true := by simpa using hk
  go_enter Tryz.func75, Tryz.ntmps75
  go_wp2_with (go_at_call 101; refine (must_yes _).mono ?_; rintro e w1 ⟨rfl, rfl⟩)
  · have H := HB.out
    subst h
    rw [if_pos rfl, Nat.sub_self] at H
    go_ret
    exact H
  · have H := HB.out
    rw [if_neg h] at H
    go_ret
    exact H

/-- What a call that can't read leaves: the reader's cells, whatever they hold. -/
def Fell (w : World) (T : TypeId) (q : Addr) (g : Nat) (e : Ending) (w' : World) : Prop :=
  e = .panicked [{ v := .iface T (.pointer (some q)), recovered := false }] ∧ (∃ x y, Blk w' g 77 #[x, y]) ∧ Ch (fun j => j = g) w w'

set_option maxRecDepth 100000 in
theorem take_no (T : TypeId) (q : Addr) (g : Nat) (n : Int) (l : List UInt8) (w : World) (n0 : -9223372036854775808 ≤ n) (n1 : n ≤ 9223372036854775807) (hn : n < 0 ∨ (l.length : Int) < n) (hl : l.length ≤ 1099511627776) (h : Good w g l) (hE : ErrAt w T q) :
    Calls Tryz.prog 75 #[.pointer (some ⟨g, 0, none⟩), .int .i64 n] w (Fell w T q g) := by
  obtain ⟨A, c, hb, hc, hm, hr, hne⟩ := h
  have c0 := hb.cell 0
  have z0 := hb.frozen 0
  simp only [List.getElem?_toArray, List.getElem?_cons_zero] at c0
  have HB := Lib.hid hb
  clear hb
  by_cases hneg : n < 0
  · have hd : decide (0 ≤ n) = false := by simp; omega
    clear hn
    go_enter Tryz.func75, Tryz.ntmps75
    go_wp2_with (go_at_call 101; refine (must_no T q _ hE).mono ?_; rintro e w1 ⟨rfl, rfl⟩)
    exact ⟨rfl, rfl, ⟨_, _, HB.out⟩, Ch.refl _ _⟩
  · have hd : decide (0 ≤ n) = true := by simp; omega
    have hd2 : decide (n ≤ (l.length : Int)) = false := by simp; omega
    clear hn
    go_enter Tryz.func75, Tryz.ntmps75
    go_wp2_with (go_at_call 101; refine (must_no T q _ hE).mono ?_; rintro e w1 ⟨rfl, rfl⟩)
    exact ⟨rfl, rfl, ⟨_, _, HB.out⟩, Ch.refl _ _⟩


/-- The number that bytes are. -/
def wd (l : List UInt8) : Nat := l.foldl (fun n b => n * 256 + b.toNat) 0
theorem wd_snoc (l : List UInt8) (b : UInt8) : wd (l ++ [b]) = wd l * 256 + b.toNat := by simp [wd, List.foldl_append]
theorem wd_gen : ∀ (l : List UInt8) (n : Nat), l.foldl (fun n b => n * 256 + b.toNat) n < (n + 1) * 256 ^ l.length
  | [], n => by simp
  | b :: l, n => by
    have ih := wd_gen l (n * 256 + b.toNat)
    have hb := b.toNat_lt
    simp only [List.foldl_cons, List.length_cons, Nat.pow_succ]
    have h2 : (n * 256 + b.toNat + 1) * 256 ^ l.length ≤ ((n + 1) * 256) * 256 ^ l.length := Nat.mul_le_mul_right _ (by omega)
    have h3 : (n + 1) * (256 ^ l.length * 256) = ((n + 1) * 256) * 256 ^ l.length := by rw [Nat.mul_comm (256 ^ l.length) 256, Nat.mul_assoc]
    omega
theorem wd_lt (l : List UInt8) : wd l < 256 ^ l.length := by have := wd_gen l 0; unfold wd; simpa using this
theorem wd_take7 (l : List UInt8) (k : Nat) (h : k < 8) : wd (l.take k) < 72057594037927936 := by
  have h1 := wd_lt (l.take k)
  have h2 : (256:Nat) ^ (l.take k).length ≤ 256 ^ 7 := Nat.pow_le_pow_right (by omega) (by simp; omega)
  have h3 : (256:Nat) ^ 7 = 72057594037927936 := by decide
  omega
theorem or_add (n b : Nat) (hb : b < 256) : n * 256 ||| b = n * 256 + b := by
  rw [show n * 256 = 2 ^ 8 * n by omega]
  exact (Nat.two_pow_add_eq_or_of_lt (by omega) n).symm
/-- The number that the first eight bytes are. -/
def numV (l : List UInt8) : Int := wrap64 (wd (l.take 8) : Int)

/-- What a number leaves. -/
def Numb (w : World) (g : Nat) (l : List UInt8) (e : Ending) (w' : World) : Prop :=
  e = .returned (.int .i64 (numV l)) ∧ Good w' g (l.drop 8) ∧ Ch (fun j => j = g) w w'

theorem take_le8 (l : List UInt8) (h : 8 ≤ l.length) : (l.take 8).length = 8 := by simp; omega

set_option maxRecDepth 100000 in
theorem left_number_ok (g : Nat) (l : List UInt8) (w : World) (h8 : 8 ≤ l.length) (hl : l.length ≤ 1099511627776) (h : Good w g l) :
    Calls Tryz.prog 43 #[.pointer (some ⟨g, 0, none⟩)] w (Numb w g l) := by
  have h8' := take_le8 l h8
  have hT := take_ok g 8 l w h8 hl h
  have HT := Lib.hid hT
  have H8 := Lib.hid h8'
  clear hT h8' h
  go_enter Tryz.func43, Tryz.ntmps43
  go_wp2_with (go_at_call 75; refine HT.out.mono ?_; rintro e w1 ⟨A, c, rfl, hr, hG, hch⟩; clear HT)
  go_loopw [3, 5, 9] (fun n x i wr => ∃ k : Nat, k ≤ 8 ∧ i = .int .i64 k ∧ n = .int .u64 (wd (l.take k) : Nat) ∧ w1 = wr) (fun _ _ i _ => 8 - (intOf i).toNat)
  case atStart => exact ⟨0, Nat.zero_le _, rfl, rfl, rfl⟩
  case round =>
    obtain ⟨k, hk, rfl, rfl, rfl⟩ := hrel
    by_cases hlt : k < 8
    · obtain ⟨a, u, rfl, ha, hx, hc⟩ := hr.at_ hlt
      rw [vb_get (l.take 8) k (by rw [H8.out]; exact hlt)] at hx
      injection hx with hx
      subst hx
      have hg : (l.take 8)[k]'(by rw [H8.out]; exact hlt) = l[k]'(by omega) := by simp
      rw [hg] at hc
      have hs : wd (l.take (k + 1)) = wd (l.take k) * 256 + (l[k]'(by omega)).toNat := by
        rw [← List.take_append_getElem (show k < l.length by omega), wd_snoc]
      have hlt2 := wd_take7 l k hlt
      have hb := (l[k]'(by omega)).toNat_lt
      have hor := or_add (wd (l.take k)) (l[k]'(by omega)).toNat (by omega)
      have HS := Lib.hid hs
      have HOR := Lib.hid hor
      generalize wd (l.take k) = n at *
      generalize (l[k]'(by omega)).toNat = b at *
      clear hs hor
      go_wp2
      go_roundw
      case rel =>
        refine ⟨k + 1, by omega, by go_num, ?_, trivial⟩
        rw [HS.out, ← HOR.out, show ((n : Int) * 256) = ((n * 256 : Nat) : Int) by omega, u64_or_nat (n * 256) b (by omega) (by omega)]
      case measure => simp [intOf]; omega
    · obtain rfl : k = 8 := by omega
      go_wp2
      go_ret
      exact ⟨rfl, hG, hch⟩


theorem left_number_no (T : TypeId) (q : Addr) (g : Nat) (l : List UInt8) (w : World) (h8 : l.length < 8) (h : Good w g l) (hE : ErrAt w T q) :
    Calls Tryz.prog 43 #[.pointer (some ⟨g, 0, none⟩)] w (Fell w T q g) := by
  have hT := take_no T q g 8 l w (by omega) (by omega) (Or.inr (by omega)) (by omega) h hE
  have HT := Lib.hid hT
  clear hT h
  go_enter Tryz.func43, Tryz.ntmps43
  go_wp2_with (go_at_call 75; refine HT.out.mono ?_; rintro e w1 ⟨rfl, hb, hch⟩; clear HT)
  exact ⟨rfl, rfl, hb, hch⟩

theorem Good.any {w : World} {g : Nat} {l : List UInt8} (h : Good w g l) : ∃ x y, Blk w g 77 #[x, y] := by
  obtain ⟨A, c, hb, _⟩ := h
  exact ⟨_, _, hb⟩
theorem ErrAt.ch {w w' : World} {T : TypeId} {q : Addr} {S : Nat → Prop} (h : ErrAt w T q) (hc : Ch S w w') (hn : ¬ S 0) : ErrAt w' T q := hc.cellOf h hn
theorem Good.ne {w : World} {g : Nat} {l : List UInt8} {T : TypeId} {q : Addr} (h : Good w g l) (hE : ErrAt w T q) : ¬ (0 = g) := by
  obtain ⟨A, c, hb, _⟩ := h
  rintro rfl
  have h1 := hb.cell 0
  have h2 : w.cell? ⟨0, 0, none⟩ = some (.iface T (.pointer (some q))) := hE
  rw [h2] at h1
  simp at h1

theorem numV_bd (l : List UInt8) : -9223372036854775808 ≤ numV l ∧ numV l ≤ 9223372036854775807 := by unfold numV wrap64; omega

/-- A number from 0 to m. -/
theorem within_ok (g : Nat) (m : Int) (l : List UInt8) (w : World) (h8 : 8 ≤ l.length) (hl : l.length ≤ 1099511627776) (hv : 0 ≤ numV l ∧ numV l ≤ m) (h : Good w g l) :
    Calls Tryz.prog 78 #[.pointer (some ⟨g, 0, none⟩), .int .i64 m] w (Numb w g l) := by
  have HT := Lib.hid (left_number_ok g l w h8 hl h)
  obtain ⟨v0, v1⟩ := hv
  have hd : decide (0 ≤ numV l) = true := by simpa using v0
  have hd2 : decide (numV l ≤ m) = true := by simpa using v1
  clear h
  go_enter Tryz.func78, Tryz.ntmps78
  go_wp2_with (first
    | (go_at_call 43; refine HT.out.mono ?_; rintro e w1 ⟨rfl, hG, hch⟩; clear HT)
    | (go_at_call 101; refine (must_yes _).mono ?_; rintro e w2 ⟨rfl, rfl⟩))
  go_ret
  exact ⟨rfl, hG, hch⟩

theorem within_no (T : TypeId) (q : Addr) (g : Nat) (m : Int) (l : List UInt8) (w : World) (hl : l.length ≤ 1099511627776) (hv : ¬ (8 ≤ l.length ∧ 0 ≤ numV l ∧ numV l ≤ m)) (h : Good w g l) (hE : ErrAt w T q) :
    Calls Tryz.prog 78 #[.pointer (some ⟨g, 0, none⟩), .int .i64 m] w (Fell w T q g) := by
  by_cases h8 : 8 ≤ l.length
  · have HT := Lib.hid (left_number_ok g l w h8 hl h)
    have hne := h.ne hE
    by_cases v0 : 0 ≤ numV l
    · have v1 : ¬ numV l ≤ m := fun hh => hv ⟨h8, v0, hh⟩
      have hd : decide (0 ≤ numV l) = true := by simpa using v0
      have hd2 : decide (numV l ≤ m) = false := by simpa using v1
      clear h hv
      go_enter Tryz.func78, Tryz.ntmps78
      go_wp2_with (first
        | (go_at_call 43; refine HT.out.mono ?_; rintro e w1 ⟨rfl, hG, hch⟩; clear HT)
        | (go_at_call 101; refine (must_no T q _ (hE.ch hch hne)).mono ?_; rintro e w2 ⟨rfl, rfl⟩))
      exact ⟨rfl, rfl, hG.any, hch⟩
    · have hd : decide (0 ≤ numV l) = false := by simpa using v0
      clear h hv
      go_enter Tryz.func78, Tryz.ntmps78
      go_wp2_with (first
        | (go_at_call 43; refine HT.out.mono ?_; rintro e w1 ⟨rfl, hG, hch⟩; clear HT)
        | (go_at_call 101; refine (must_no T q _ (hE.ch hch hne)).mono ?_; rintro e w2 ⟨rfl, rfl⟩))
      exact ⟨rfl, rfl, hG.any, hch⟩
  · have HT := Lib.hid (left_number_no T q g l w (by omega) h hE)
    clear h hv
    go_enter Tryz.func78, Tryz.ntmps78
    go_wp2_with (go_at_call 43; refine HT.out.mono ?_; rintro e w1 ⟨rfl, hb, hch⟩; clear HT)
    exact ⟨rfl, rfl, hb, hch⟩

end Go.Proofs.YtpkiopijfhkagaaGreatDoor.rd
