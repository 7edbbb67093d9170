/-
  A law's steps with two readers, each as one contract over the law's state.
-/
import Derived.Test.YtpkiopijfhkagaaGreatDoorReadT
namespace Go.Proofs.YtpkiopijfhkagaaGreatDoor.rd
open Go.RowKit Go.Proofs.YtpkiopijfhkagaaGreatDoor.mem Go.Proofs.YtpkiopijfhkagaaGreatDoor.kit Go.Proofs.YtpkiopijfhkagaaGreatDoor.wire
set_option linter.unusedVariables false

theorem errNew {W w : World} {T : TypeId} {q : Addr} (h : ErrAt W T q) (hn : New W w) : ErrAt w T q := h.ch (Ch.of_new (S := fun _ => False) hn) (fun e => e)

theorem LS.rnum (T : TypeId) (q : Addr) {W w : World} {g h : Nat} {s s2 : Lft} {v : Value} {vs : List Value} {rs : List (Value × List UInt8)} (k : LS W g h s s2 v vs rs w) (hE : ErrAt W T q) (x : Int) (hx : numS s = x) :
    Calls Tryz.prog 24 #[.pointer (some ⟨g, 0, none⟩)] w fun e w' => e = .returned (.int .i64 x) ∧ LS W g h (aftN s) s2 v vs rs w' := by
  subst hx
  exact (rNum T q g s w k.rg (errNew hE k.rows.new)).mono fun e w' hh => ⟨hh.1, k.rop hh.2.1 hh.2.2⟩
theorem LS.dnum {W w : World} {g h : Nat} {s s1 : Lft} {v : Value} {vs : List Value} {rs : List (Value × List UInt8)} (k : LS W g h s1 s v vs rs w) (x : Int) (hx : numS s = x) :
    Calls Tryz.prog 25 #[.pointer (some ⟨h, 0, none⟩)] w fun e w' => e = .returned (.int .i64 x) ∧ LS W g h s1 (aftN s) v vs rs w' := by
  subst hx
  exact (dNum h s w k.dh).mono fun e w' hh => ⟨hh.1, k.dop hh.2.1 hh.2.2⟩
theorem LS.rbytes (T : TypeId) (q : Addr) {W w : World} {g h : Nat} {s s2 : Lft} {v : Value} {vs : List Value} {rs : List (Value × List UInt8)} (k : LS W g h s s2 v vs rs w) (hE : ErrAt W T q) (n : Nat) (l : List UInt8) (hl : valS s = l) (hn : n = l.length) :
    Calls Tryz.prog 26 #[.pointer (some ⟨g, 0, none⟩)] w fun e w' => ∃ A c, e = .returned (.slice A n c) ∧ LS W g h (aftB s) s2 v vs (rs ++ [(.slice A n c, l)]) w' := by
  subst hn
  subst hl
  exact (rBytes T q g s w k.rg (errNew hE k.rows.new)).mono fun e w' hh => by
    obtain ⟨A, c, he, ho, hR, hch⟩ := hh
    exact ⟨A, c, he, k.push hR hch (valS_len s _ k.rg.len) ho⟩
theorem LS.dbytes {W w : World} {g h : Nat} {s s1 : Lft} {v : Value} {vs : List Value} {rs : List (Value × List UInt8)} (k : LS W g h s1 s v vs rs w) (n : Nat) (l : List UInt8) (hl : valS s = l) (hn : n = l.length) :
    Calls Tryz.prog 27 #[.pointer (some ⟨h, 0, none⟩)] w fun e w' => ∃ A c, e = .returned (.slice A n c) ∧ Reads w' w'.heap.size 1 A n (vb l) ∧ LS W g h s1 (aftB s) v vs rs w' := by
  subst hn
  subst hl
  exact (dBytes h s w k.dh).mono fun e w' hh => by
    obtain ⟨A, c, he, hr, hD, hch⟩ := hh
    exact ⟨A, c, he, hr, k.dop hD hch⟩
/-- What is read of an entry, its bytes aside. -/
structure EF (s : Lft) (t kk ve se : Int) (go : Bool) (n : Nat) (l : List UInt8) : Prop where
  t : fS s 0 = t
  kk : fS s 8 = kk
  ve : fS s 16 = ve
  se : fS s 24 = se
  go : gS s = go
  dl : dataS s = l
  nl : n = l.length
theorem EF.some (s : Lft) : ∃ t kk ve se go n l, EF s t kk ve se go n l := ⟨_, _, _, _, _, _, _, rfl, rfl, rfl, rfl, rfl, rfl, rfl⟩
theorem LS.rentry (T : TypeId) (q : Addr) {W w : World} {g h : Nat} {s s2 : Lft} {v : Value} {vs : List Value} {rs : List (Value × List UInt8)} (k : LS W g h s s2 v vs rs w) (hE : ErrAt W T q) {t kk ve se : Int} {go : Bool} {n : Nat} {l : List UInt8} (hf : EF s t kk ve se go n l) :
    Calls Tryz.prog 28 #[.pointer (some ⟨g, 0, none⟩)] w fun e w' => ∃ A c, e = .returned (.agg #[.int .i64 t, .int .u8 kk, .int .i64 ve, .int .i64 se, .bool go, .slice A n c]) ∧ LS W g h (aftE s) s2 v vs (rs ++ [(.slice A n c, l)]) w' := by
  obtain ⟨rfl, rfl, rfl, rfl, rfl, rfl, rfl⟩ := hf
  exact (rEntry T q g s w k.rg (errNew hE k.rows.new)).mono fun e w' hh => by
    obtain ⟨A, c, he, ho, hR, hch⟩ := hh
    exact ⟨A, c, he, k.push hR hch (dataS_len s _ k.rg.len) ho⟩
theorem LS.dentry {W w : World} {g h : Nat} {s s1 : Lft} {v : Value} {vs : List Value} {rs : List (Value × List UInt8)} (k : LS W g h s1 s v vs rs w) {t kk ve se : Int} {go : Bool} {n : Nat} {l : List UInt8} (hf : EF s t kk ve se go n l) :
    Calls Tryz.prog 30 #[.pointer (some ⟨h, 0, none⟩)] w fun e w' => ∃ A c, e = .returned (.agg #[.int .i64 t, .int .u8 kk, .int .i64 ve, .int .i64 se, .bool go, .slice A n c]) ∧ Reads w' w'.heap.size 1 A n (vb l) ∧ LS W g h s1 (aftE s) v vs rs w' ∧ Ch (fun j => j = h) w w' := by
  obtain ⟨rfl, rfl, rfl, rfl, rfl, rfl, rfl⟩ := hf
  exact (dEntry h s w k.dh).mono fun e w' hh => by
    obtain ⟨A, c, he, hr, hD, hch⟩ := hh
    exact ⟨A, c, he, hr, k.dop hD hch, hch⟩
theorem LS.rbad {W w : World} {g h : Nat} {s s2 : Lft} {v : Value} {vs : List Value} {rs : List (Value × List UInt8)} (k : LS W g h s s2 v vs rs w) (b : Bool) (hb : badS s = b) :
    Calls Tryz.prog 31 #[.pointer (some ⟨g, 0, none⟩)] w fun e w' => e = .returned (.bool b) ∧ w = w' := by
  subst hb
  exact rBad g s w k.rg
theorem LS.rdone {W w : World} {g h : Nat} {s s2 : Lft} {v : Value} {vs : List Value} {rs : List (Value × List UInt8)} (k : LS W g h s s2 v vs rs w) (b : Bool) (hb : doneS s = b) :
    Calls Tryz.prog 33 #[.pointer (some ⟨g, 0, none⟩)] w fun e w' => e = .returned (.bool b) ∧ w = w' := by
  subst hb
  exact rDone g s w k.rg
theorem LS.dbad {W w : World} {g h : Nat} {s s1 : Lft} {v : Value} {vs : List Value} {rs : List (Value × List UInt8)} (k : LS W g h s1 s v vs rs w) (b : Bool) (hb : badS s = b) :
    Calls Tryz.prog 32 #[.pointer (some ⟨h, 0, none⟩)] w fun e w' => e = .returned (.bool b) ∧ w = w' := by
  subst hb
  exact dBad h s w k.dh
theorem LS.ddone {W w : World} {g h : Nat} {s s1 : Lft} {v : Value} {vs : List Value} {rs : List (Value × List UInt8)} (k : LS W g h s1 s v vs rs w) (b : Bool) (hb : doneS s = b) :
    Calls Tryz.prog 34 #[.pointer (some ⟨h, 0, none⟩)] w fun e w' => e = .returned (.bool b) ∧ LS W g h s1 s v vs rs w' := by
  subst hb
  exact (dDone h s w k.dh).mono fun e w' hh => ⟨hh.1, k.keep hh.2⟩
end Go.Proofs.YtpkiopijfhkagaaGreatDoor.rd
