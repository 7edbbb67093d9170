/-
  The program's reader and the document's, each as one state: what is left, or that nothing can be read any more.
-/
import Derived.Test.YtpkiopijfhkagaaGreatDoorMath
import Derived.Test.YtpkiopijfhkagaaGreatDoorRefREN
import Derived.Test.YtpkiopijfhkagaaGreatDoorEntKit
import Derived.Test.YtpkiopijfhkagaaGreatDoorApartB
import Derived.Test.YtpkiopijfhkagaaGreatDoorBagW
namespace Go.Proofs.YtpkiopijfhkagaaGreatDoor.rd
open Go.RowKit Go.Proofs.YtpkiopijfhkagaaGreatDoor.mem Go.Proofs.YtpkiopijfhkagaaGreatDoor.kit Go.Proofs.YtpkiopijfhkagaaGreatDoor.wire
set_option linter.unusedVariables false

instance (l : List UInt8) : Decidable (canB l) := by unfold canB; infer_instance
instance (l : List UInt8) : Decidable (canE l) := by unfold canE; infer_instance

/-- What is left, or nothing any more. -/
abbrev Lft := Option (List UInt8)
def RS (w : World) (g : Nat) (s : Lft) : Prop :=
  match s with
  | some L => L.length ≤ 1099511627776 ∧ Good w g L
  | none => Zero w g
def DS (w : World) (h : Nat) (s : Lft) : Prop :=
  match s with
  | some L => ∃ l a, l.length ≤ 1099511627776 ∧ a ≤ l.length ∧ l.drop a = L ∧ rread.DR w h l a false
  | none => ∃ l a, l.length ≤ 1099511627776 ∧ rread.DR w h l a true
def numS (s : Lft) : Int := match s with | some L => if 8 ≤ L.length then numV L else 0 | none => 0
def aftN (s : Lft) : Lft := match s with | some L => if 8 ≤ L.length then some (L.drop 8) else none | none => none
def valS (s : Lft) : List UInt8 := match s with | some L => if canB L then valB L else [] | none => []
def aftB (s : Lft) : Lft := match s with | some L => if canB L then some (restB L) else none | none => none
def dataS (s : Lft) : List UInt8 := match s with | some L => if canE L then dataE L else [] | none => []
def aftE (s : Lft) : Lft := match s with | some L => if canE L then some (restE L) else none | none => none
def fS (s : Lft) (k : Nat) : Int := match s with | some L => if canE L then numV (L.drop k) else 0 | none => 0
def gS (s : Lft) : Bool := match s with | some L => if canE L then (numV (L.drop 32) == 1) else false | none => false
def doneS (s : Lft) : Bool := match s with | some L => decide (L = []) | none => false
def badS (s : Lft) : Bool := match s with | some L => false | none => true
abbrev entS (s : Lft) (v : Value) : Value := ent (fS s 0) (fS s 8) (fS s 16) (fS s 24) (gS s) v

def NumS (w : World) (g : Nat) (s : Lft) (e : Ending) (w' : World) : Prop := e = .returned (.int .i64 (numS s)) ∧ RS w' g (aftN s) ∧ Ch (fun j => j = g) w w'
def NumD (w : World) (g : Nat) (s : Lft) (e : Ending) (w' : World) : Prop := e = .returned (.int .i64 (numS s)) ∧ DS w' g (aftN s) ∧ Ch (fun j => j = g) w w'
def BytS (w : World) (g : Nat) (s : Lft) (e : Ending) (w' : World) : Prop :=
  ∃ A c, e = .returned (.slice A (valS s).length c) ∧ w'.ownsRow w.heap.size 5 1 (.slice A (valS s).length c) (valS s).length (vb (valS s)) ∧ RS w' g (aftB s) ∧ Ch (fun j => j = g) w w'
def BytD (w : World) (g : Nat) (s : Lft) (e : Ending) (w' : World) : Prop :=
  ∃ A c, e = .returned (.slice A (valS s).length c) ∧ Reads w' w'.heap.size 1 A (valS s).length (vb (valS s)) ∧ DS w' g (aftB s) ∧ Ch (fun j => j = g) w w'
def EntSS (w : World) (g : Nat) (s : Lft) (e : Ending) (w' : World) : Prop :=
  ∃ A c, e = .returned (entS s (.slice A (dataS s).length c)) ∧ w'.ownsRow w.heap.size 5 1 (.slice A (dataS s).length c) (dataS s).length (vb (dataS s)) ∧ RS w' g (aftE s) ∧ Ch (fun j => j = g) w w'
def EntD (w : World) (g : Nat) (s : Lft) (e : Ending) (w' : World) : Prop :=
  ∃ A c, e = .returned (entS s (.slice A (dataS s).length c)) ∧ Reads w' w'.heap.size 1 A (dataS s).length (vb (dataS s)) ∧ DS w' g (aftE s) ∧ Ch (fun j => j = g) w w'

theorem zero_new {w w' : World} {g : Nat} (h : Zero w g) (hn : New w w') : Zero w' g := Blk.below h hn h.lt
theorem restB_len (L : List UInt8) : (restB L).length ≤ L.length := by simp [restB]
theorem restE_len (L : List UInt8) : (restE L).length ≤ L.length := by simp [restE, restB]
theorem valB_len (L : List UInt8) : (valB L).length ≤ L.length := by simp [valB]; omega

theorem rNum (T : TypeId) (q : Addr) (g : Nat) (s : Lft) (w : World) (h : RS w g s) (hE : ErrAt w T q) :
    Calls Tryz.prog 24 #[.pointer (some ⟨g, 0, none⟩)] w (NumS w g s) := by
  cases s with
  | none => exact (Number_zero g w h).mono fun e w' ⟨he, hn⟩ => ⟨he, zero_new h hn, Ch.of_new hn⟩
  | some L =>
    obtain ⟨hl, hG⟩ := h
    by_cases h8 : 8 ≤ L.length
    · refine (Number_ok g L w h8 hl hG).mono fun e w' ⟨he, hG', hch⟩ => ⟨?_, ?_, hch⟩
      · simp [numS, h8, he]
      · simp only [aftN, if_pos h8]
        exact ⟨by simp; omega, hG'⟩
    · refine (Number_no T q g L w (by omega) hG hE).mono fun e w' ⟨he, hZ, hch⟩ => ⟨?_, ?_, hch⟩
      · simp [numS, h8, he]
      · simp only [aftN, if_neg h8]
        exact hZ
theorem dNum (g : Nat) (s : Lft) (w : World) (h : DS w g s) :
    Calls Tryz.prog 25 #[.pointer (some ⟨g, 0, none⟩)] w (NumD w g s) := by
  cases s with
  | none =>
    obtain ⟨l, a, hl, hD⟩ := h
    exact (rread.number_no g l a true w hl (Or.inl rfl) hD).mono fun e w' ⟨he, hD', hch⟩ => ⟨he, ⟨l, a, hl, hD'⟩, hch⟩
  | some L =>
    obtain ⟨l, a, hl, ha, rfl, hD⟩ := h
    by_cases h8 : 8 ≤ (l.drop a).length
    · have h8' : a + 8 ≤ l.length := by simp at h8; omega
      refine (rread.number_ok g l a w hl h8' hD).mono fun e w' ⟨he, hD', hch⟩ => ⟨?_, ?_, hch⟩
      · simp only [numS, if_pos h8]; exact he
      · simp only [aftN, if_pos h8]
        exact ⟨l, a + 8, hl, h8', by rw [List.drop_drop], hD'⟩
    · have h8' : l.length < a + 8 := by simp at h8; omega
      refine (rread.number_no g l a false w hl (Or.inr h8') hD).mono fun e w' ⟨he, hD', hch⟩ => ⟨?_, ?_, hch⟩
      · simp only [numS, if_neg h8]; exact he
      · simp only [aftN, if_neg h8]
        exact ⟨l, a, hl, hD'⟩

theorem rBytes (T : TypeId) (q : Addr) (g : Nat) (s : Lft) (w : World) (h : RS w g s) (hE : ErrAt w T q) :
    Calls Tryz.prog 26 #[.pointer (some ⟨g, 0, none⟩)] w (BytS w g s) := by
  cases s with
  | none => exact (Bytes_zero g w h).mono fun e w' ⟨he, hn⟩ => ⟨none, 0, he, World.ownsRow_nil _ _ _ _, zero_new h hn, Ch.of_new hn⟩
  | some L =>
    obtain ⟨hl, hG⟩ := h
    by_cases h8 : canB L
    · refine (Bytes_ok g L w h8 hl hG).mono fun e w' ⟨A, c, he, ho, hG', hch⟩ => ?_
      unfold BytS
      simp only [valS, aftB, if_pos h8]
      exact ⟨A, c, he, ho, ⟨by have := restB_len L; omega, hG'⟩, hch⟩
    · refine (Bytes_no T q g L w h8 hl hG hE).mono fun e w' ⟨he, hZ, hch⟩ => ?_
      unfold BytS
      simp only [valS, aftB, if_neg h8]
      exact ⟨none, 0, he, World.ownsRow_nil _ _ _ _, hZ, hch⟩
theorem dBytes (g : Nat) (s : Lft) (w : World) (h : DS w g s) :
    Calls Tryz.prog 27 #[.pointer (some ⟨g, 0, none⟩)] w (BytD w g s) := by
  cases s with
  | none =>
    obtain ⟨l, a, hl, hD⟩ := h
    exact (rread.bytes_fall g l a true w hl (by simp) hD).mono fun e w' ⟨he, ⟨a', hD'⟩, hch⟩ => ⟨none, 0, he, Reads.none_, ⟨l, a', hl, hD'⟩, hch⟩
  | some L =>
    obtain ⟨l, a, hl, ha, rfl, hD⟩ := h
    by_cases h8 : canB (l.drop a)
    · refine (rread.bytes_ok g l a w hl ha h8 hD).mono fun e w' ⟨A, c, he, ho, hD', hch⟩ => ?_
      unfold BytD
      simp only [valS, aftB, if_pos h8]
      have h3 := h8
      obtain ⟨h0, h1, h2⟩ := h3
      simp only [List.length_drop] at h0 h2
      refine ⟨A, c, he, (own_typed ho).2.1, ⟨l, a + 8 + (numV (l.drop a)).toNat, hl, by omega, ?_, hD'⟩, hch⟩
      simp only [restB, List.drop_drop]
    · refine (rread.bytes_fall g l a false w hl (by simpa using h8) hD).mono fun e w' ⟨he, ⟨a', hD'⟩, hch⟩ => ?_
      unfold BytD
      simp only [valS, aftB, if_neg h8]
      exact ⟨none, 0, he, Reads.none_, ⟨l, a', hl, hD'⟩, hch⟩

theorem rEntry (T : TypeId) (q : Addr) (g : Nat) (s : Lft) (w : World) (h : RS w g s) (hE : ErrAt w T q) :
    Calls Tryz.prog 28 #[.pointer (some ⟨g, 0, none⟩)] w (EntSS w g s) := by
  cases s with
  | none => exact (Entry_zero g w h).mono fun e w' ⟨he, hn⟩ => ⟨none, 0, he, World.ownsRow_nil _ _ _ _, zero_new h hn, Ch.of_new hn⟩
  | some L =>
    obtain ⟨hl, hG⟩ := h
    by_cases h8 : canE L
    · refine (Entry_ok g L w h8 hl hG).mono fun e w' ⟨A, c, v, he, hv, ho, hG', hch⟩ => ?_
      unfold EntSS entS
      simp only [dataS, aftE, fS, gS, if_pos h8]
      subst hv
      exact ⟨A, c, he, ho, ⟨by have := restE_len L; omega, hG'⟩, hch⟩
    · refine (Entry_no T q g L w h8 hl hG hE).mono fun e w' ⟨he, hZ, hch⟩ => ?_
      unfold EntSS entS
      simp only [dataS, aftE, fS, gS, if_neg h8]
      exact ⟨none, 0, he, World.ownsRow_nil _ _ _ _, hZ, hch⟩
theorem dEntry (g : Nat) (s : Lft) (w : World) (h : DS w g s) :
    Calls Tryz.prog 30 #[.pointer (some ⟨g, 0, none⟩)] w (EntD w g s) := by
  cases s with
  | none =>
    obtain ⟨l, a, hl, hD⟩ := h
    exact (rread.entry_no g l a true w hl hD.1 (by simp) hD).mono fun e w' ⟨he, ⟨a', hD'⟩, hch⟩ => ⟨none, 0, he, Reads.none_, ⟨l, a', hl, hD'⟩, hch⟩
  | some L =>
    obtain ⟨l, a, hl, ha, rfl, hD⟩ := h
    by_cases h8 : canE (l.drop a)
    · refine (rread.entry_ok g l a w hl ha h8 hD).mono fun e w' ⟨A, c, he, ho, hD', hch⟩ => ?_
      unfold EntD entS
      simp only [dataS, aftE, fS, gS, if_pos h8]
      have h3 := h8.2.2.2
      obtain ⟨h0, h1, h2⟩ := h3
      simp only [List.length_drop, List.drop_drop] at h0 h1 h2
      refine ⟨A, c, he, (own_typed ho).2.1, ⟨l, a + 48 + (numV (l.drop (a + 40))).toNat, hl, by omega, ?_, hD'⟩, hch⟩
      simp only [restE, restB, List.drop_drop]
    · refine (rread.entry_no g l a false w hl ha (by simpa using h8) hD).mono fun e w' ⟨he, ⟨a', hD'⟩, hch⟩ => ?_
      unfold EntD entS
      simp only [dataS, aftE, fS, gS, if_neg h8]
      exact ⟨none, 0, he, Reads.none_, ⟨l, a', hl, hD'⟩, hch⟩

theorem rBad (g : Nat) (s : Lft) (w : World) (h : RS w g s) : Calls Tryz.prog 31 #[.pointer (some ⟨g, 0, none⟩)] w fun e w' => e = .returned (.bool (badS s)) ∧ w = w' := by
  cases s with
  | none => exact bad_zero g w h
  | some L => exact bad_good g L w h.2
theorem rDone (g : Nat) (s : Lft) (w : World) (h : RS w g s) : Calls Tryz.prog 33 #[.pointer (some ⟨g, 0, none⟩)] w fun e w' => e = .returned (.bool (doneS s)) ∧ w = w' := by
  cases s with
  | none => exact done_zero g w h
  | some L => exact done_good g L w h.2
theorem dBad (g : Nat) (s : Lft) (w : World) (h : DS w g s) : Calls Tryz.prog 32 #[.pointer (some ⟨g, 0, none⟩)] w fun e w' => e = .returned (.bool (badS s)) ∧ w = w' := by
  cases s with
  | none => obtain ⟨l, a, hl, hD⟩ := h; exact rread.bad_any g l a true w hD
  | some L => obtain ⟨l, a, hl, ha, rfl, hD⟩ := h; exact rread.bad_any g l a false w hD
theorem dDone (g : Nat) (s : Lft) (w : World) (h : DS w g s) : Calls Tryz.prog 34 #[.pointer (some ⟨g, 0, none⟩)] w fun e w' => e = .returned (.bool (doneS s)) ∧ New w w' := by
  cases s with
  | none => obtain ⟨l, a, hl, hD⟩ := h; exact (rread.done_any g l a true w hl hD).mono fun e w' ⟨he, hn⟩ => ⟨by simpa [doneS] using he, hn⟩
  | some L =>
    obtain ⟨l, a, hl, ha, rfl, hD⟩ := h
    refine (rread.done_any g l a false w hl hD).mono fun e w' ⟨he, hn⟩ => ⟨?_, hn⟩
    have : decide (a = l.length) = decide (l.drop a = []) := by
      rw [decide_eq_decide, List.drop_eq_nil_iff]
      omega
    simpa [doneS, this] using he

theorem valS_len (s : Lft) (n : Nat) (h : ∀ L, s = some L → L.length ≤ n) : (valS s).length ≤ n := by
  cases s with
  | none => simp [valS]
  | some L =>
    have := h L rfl
    have := valB_len L
    simp only [valS]
    split
    · omega
    · simp
theorem dataS_len (s : Lft) (n : Nat) (h : ∀ L, s = some L → L.length ≤ n) : (dataS s).length ≤ n := by
  cases s with
  | none => simp [dataS]
  | some L =>
    have := h L rfl
    have := valB_len (L.drop 40)
    simp only [dataS]
    split
    · simp only [dataE]; simp at this; omega
    · simp
theorem RS.len {w : World} {g : Nat} {s : Lft} (h : RS w g s) : ∀ L, s = some L → L.length ≤ 1099511627776 := by
  rintro L rfl
  exact h.1
end Go.Proofs.YtpkiopijfhkagaaGreatDoor.rd
