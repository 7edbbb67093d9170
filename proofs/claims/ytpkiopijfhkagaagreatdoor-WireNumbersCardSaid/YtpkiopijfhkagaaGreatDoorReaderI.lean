/-
  Contracts of wire's reader: a number.
-/
import Derived.Test.YtpkiopijfhkagaaGreatDoorReader
namespace Go.Proofs.YtpkiopijfhkagaaGreatDoor.rd
open Go.RowKit Go.Proofs.YtpkiopijfhkagaaGreatDoor.mem Go.Proofs.YtpkiopijfhkagaaGreatDoor.kit Go.Proofs.YtpkiopijfhkagaaGreatDoor.wire
set_option linter.unusedVariables false

theorem closI_ok (b g : Nat) (l : List UInt8) (w : World) (hb : w.cell? ⟨b, 0, none⟩ = some (.pointer (some ⟨g, 0, none⟩))) (h8 : 8 ≤ l.length) (hl : l.length ≤ 1099511627776) (h : Good w g l) :
    Calls Tryz.prog 42 #[.pointer (some ⟨b, 0, none⟩)] w (Numb w g l) := by
  have HT := Lib.hid (left_number_ok g l w h8 hl h)
  clear h
  go_enter Tryz.func42, Tryz.ntmps42
  go_wp2_with (go_at_call 43; refine HT.out.mono ?_; rintro e w1 ⟨rfl, hG, hch⟩)
  go_ret
  exact ⟨rfl, hG, hch⟩

theorem closI_no (T : TypeId) (q : Addr) (b g : Nat) (l : List UInt8) (w : World) (hb : w.cell? ⟨b, 0, none⟩ = some (.pointer (some ⟨g, 0, none⟩))) (h8 : l.length < 8) (h : Good w g l) (hE : ErrAt w T q) :
    Calls Tryz.prog 42 #[.pointer (some ⟨b, 0, none⟩)] w (Fell w T q g) := by
  have HT := Lib.hid (left_number_no T q g l w h8 h hE)
  clear h
  go_enter Tryz.func42, Tryz.ntmps42
  go_wp2_with (go_at_call 43; refine HT.out.mono ?_; rintro e w1 ⟨rfl, hx, hch⟩)
  exact ⟨rfl, rfl, hx, hch⟩

theorem readI_ok (b g : Nat) (l : List UInt8) (w : World) (hb : w.cell? ⟨b, 0, none⟩ = some (.pointer (some ⟨g, 0, none⟩))) (h8 : 8 ≤ l.length) (hl : l.length ≤ 1099511627776) (h : Good w g l) :
    Calls Tryz.prog 41 #[.pointer (some ⟨g, 0, none⟩), .func (.func 42) #[] #[.pointer (some ⟨b, 0, none⟩)]] w (Numb w g l) := by
  have hmf : ∀ (fn : Fn) (first cap : Array Value) (w : World), (Instr.makeFunc fn first cap).run Tryz.prog w = .ok (.func fn first cap) w := fun _ _ _ _ => rfl
  have hn := (new_refl w).alloc (Nat.le_refl _) (.cells #[.pointer (some ⟨g, 0, none⟩)] 40)
  have hG := h.new hn
  have hb' := (hn.cell (block_lt_of_cell hb)).trans hb
  clear h hb
  go_enter_defers Tryz.func41, Tryz.ntmps41
  go_wp2_with (first
    | (go_at_call 31; refine (bad_good _ _ _ hG).mono ?_; rintro e w1 ⟨rfl, rfl⟩)
    | (go_at_call 42; refine (closI_ok _ _ _ _ hb' h8 hl hG).mono ?_; rintro e w2 ⟨rfl, hG2, hch⟩))
  refine leaves_cons (f := 74) (args := #[.pointer (some ⟨w.heap.size, 0, none⟩)]) (by simp) (by simp [go_sem]) ?_
  refine (catchI_idle ⟨w.heap.size, 0, none⟩ _).mono ?_
  rintro e u' w'' ⟨rfl, rfl, rfl⟩
  simp [Leaves, settle, results, Tryz.results41, go_sem]
  exact ⟨rfl, hG2, (Ch.of_new hn).then hch (fun _ _ hh => hh)⟩

/-- A call of a good reader that can't be met. -/
def Failed (w : World) (g : Nat) (v : Value) (e : Ending) (w' : World) : Prop := e = .returned v ∧ Zero w' g ∧ Ch (fun j => j = g) w w'

theorem readI_no (T : TypeId) (q : Addr) (b g : Nat) (l : List UInt8) (w : World) (hb : w.cell? ⟨b, 0, none⟩ = some (.pointer (some ⟨g, 0, none⟩))) (h8 : l.length < 8) (h : Good w g l) (hE : ErrAt w T q) :
    Calls Tryz.prog 41 #[.pointer (some ⟨g, 0, none⟩), .func (.func 42) #[] #[.pointer (some ⟨b, 0, none⟩)]] w (Failed w g (.int .i64 0)) := by
  have hmf : ∀ (fn : Fn) (first cap : Array Value) (w : World), (Instr.makeFunc fn first cap).run Tryz.prog w = .ok (.func fn first cap) w := fun _ _ _ _ => rfl
  have hlt : g < w.heap.size := by obtain ⟨_, _, hx, _⟩ := h; exact hx.lt
  have hn := (new_refl w).alloc (Nat.le_refl _) (.cells #[.pointer (some ⟨g, 0, none⟩)] 40)
  have hG := h.new hn
  have hE' := hE.ch (Ch.of_new (S := fun _ => False) hn) id
  have hb' := (hn.cell (block_lt_of_cell hb)).trans hb
  clear h hb
  go_enter_defers Tryz.func41, Tryz.ntmps41
  go_wp2_with (first
    | (go_at_call 31; refine (bad_good _ _ _ hG).mono ?_; rintro e w1 ⟨rfl, rfl⟩)
    | (go_at_call 42; refine (closI_no T q _ _ _ _ hb' h8 hG hE').mono ?_; rintro e w2 ⟨rfl, ⟨x, y, hx⟩, hch⟩))
  refine leaves_cons (f := 74) (args := #[.pointer (some ⟨w.heap.size, 0, none⟩)]) (by simp) (by simp [go_sem]) ?_
  refine (catchI_panicking w.heap.size g T _ x y [] _ ?_ hx).mono ?_
  · exact hch.cellOf (p := ⟨w.heap.size, 0, none⟩) (by simp [go_sem]) (by simp; omega)
  rintro e u' w'' ⟨rfl, rfl, rfl⟩
  simp [Leaves, settle, results, Tryz.results41, go_sem]
  exact ⟨rfl, setRow_heap _ _ _ _ _ _ hx, ((Ch.of_new hn).then hch (fun _ _ hh => hh)).then (ch_setRow _ _ _) (fun _ _ hh => hh)⟩

theorem readI_zero (b g : Nat) (w : World) (h : Zero w g) :
    Calls Tryz.prog 41 #[.pointer (some ⟨g, 0, none⟩), .func (.func 42) #[] #[.pointer (some ⟨b, 0, none⟩)]] w (fun e w' => e = .returned (.int .i64 0) ∧ New w w') := by
  have hmf : ∀ (fn : Fn) (first cap : Array Value) (w : World), (Instr.makeFunc fn first cap).run Tryz.prog w = .ok (.func fn first cap) w := fun _ _ _ _ => rfl
  have hn := (new_refl w).alloc (Nat.le_refl _) (.cells #[.pointer (some ⟨g, 0, none⟩)] 40)
  have hG : Zero _ g := Blk.below h hn h.lt
  go_enter_defers Tryz.func41, Tryz.ntmps41
  go_wp2_with (go_at_call 31; refine (bad_zero _ _ hG).mono ?_; rintro e w1 ⟨rfl, rfl⟩)
  simp [bodyPostD, Leaves, results, Tryz.results41, go_sem]
  exact hn

theorem readI_nil (b : Nat) (w : World) :
    Calls Tryz.prog 41 #[.pointer none, .func (.func 42) #[] #[.pointer (some ⟨b, 0, none⟩)]] w (fun e w' => e = .returned (.int .i64 0) ∧ New w w') := by
  have hmf : ∀ (fn : Fn) (first cap : Array Value) (w : World), (Instr.makeFunc fn first cap).run Tryz.prog w = .ok (.func fn first cap) w := fun _ _ _ _ => rfl
  have hn := (new_refl w).alloc (Nat.le_refl _) (.cells #[.pointer none] 40)
  go_enter_defers Tryz.func41, Tryz.ntmps41
  go_wp2_with (go_at_call 31; refine (bad_nil _).mono ?_; rintro e w1 ⟨rfl, rfl⟩)
  simp [bodyPostD, Leaves, results, Tryz.results41, go_sem]
  exact hn

/-! ### Number -/
theorem Number_ok (g : Nat) (l : List UInt8) (w : World) (h8 : 8 ≤ l.length) (hl : l.length ≤ 1099511627776) (h : Good w g l) :
    Calls Tryz.prog 24 #[.pointer (some ⟨g, 0, none⟩)] w (Numb w g l) := by
  have hmf : ∀ (fn : Fn) (first cap : Array Value) (w : World), (Instr.makeFunc fn first cap).run Tryz.prog w = .ok (.func fn first cap) w := fun _ _ _ _ => rfl
  have hn := (new_refl w).alloc (Nat.le_refl _) (.cells #[.pointer (some ⟨g, 0, none⟩)] 40)
  have hG := h.new hn
  have hb' : (w.alloc (.cells #[.pointer (some ⟨g, 0, none⟩)] 40)).cell? ⟨w.heap.size, 0, none⟩ = some (.pointer (some ⟨g, 0, none⟩)) := by simp [go_sem]
  have HT := Lib.hid (readI_ok _ _ _ _ hb' h8 hl hG)
  clear h hb'
  go_enter Tryz.func24, Tryz.ntmps24
  go_wp2_with (go_at_call 41; refine HT.out.mono ?_; rintro e w2 ⟨rfl, hG2, hch⟩)
  go_ret
  exact ⟨rfl, hG2, (Ch.of_new hn).then hch (fun _ _ hh => hh)⟩
theorem Number_no (T : TypeId) (q : Addr) (g : Nat) (l : List UInt8) (w : World) (h8 : l.length < 8) (h : Good w g l) (hE : ErrAt w T q) :
    Calls Tryz.prog 24 #[.pointer (some ⟨g, 0, none⟩)] w (Failed w g (.int .i64 0)) := by
  have hmf : ∀ (fn : Fn) (first cap : Array Value) (w : World), (Instr.makeFunc fn first cap).run Tryz.prog w = .ok (.func fn first cap) w := fun _ _ _ _ => rfl
  have hn := (new_refl w).alloc (Nat.le_refl _) (.cells #[.pointer (some ⟨g, 0, none⟩)] 40)
  have hG := h.new hn
  have hE' := hE.ch (Ch.of_new (S := fun _ => False) hn) id
  have hb' : (w.alloc (.cells #[.pointer (some ⟨g, 0, none⟩)] 40)).cell? ⟨w.heap.size, 0, none⟩ = some (.pointer (some ⟨g, 0, none⟩)) := by simp [go_sem]
  have HT := Lib.hid (readI_no T q _ _ _ _ hb' h8 hG hE')
  clear h hb'
  go_enter Tryz.func24, Tryz.ntmps24
  go_wp2_with (go_at_call 41; refine HT.out.mono ?_; rintro e w2 ⟨rfl, hG2, hch⟩)
  go_ret
  exact ⟨rfl, hG2, (Ch.of_new hn).then hch (fun _ _ hh => hh)⟩
theorem Number_zero (g : Nat) (w : World) (h : Zero w g) :
    Calls Tryz.prog 24 #[.pointer (some ⟨g, 0, none⟩)] w (fun e w' => e = .returned (.int .i64 0) ∧ New w w') := by
  have hmf : ∀ (fn : Fn) (first cap : Array Value) (w : World), (Instr.makeFunc fn first cap).run Tryz.prog w = .ok (.func fn first cap) w := fun _ _ _ _ => rfl
  have hn := (new_refl w).alloc (Nat.le_refl _) (.cells #[.pointer (some ⟨g, 0, none⟩)] 40)
  have HT := Lib.hid (readI_zero w.heap.size g _ (Blk.below h hn h.lt))
  clear h
  go_enter Tryz.func24, Tryz.ntmps24
  go_wp2_with (go_at_call 41; refine HT.out.mono ?_; rintro e w2 ⟨rfl, hn2⟩)
  go_ret
  exact ⟨rfl, New.then hn hn2⟩
theorem Number_nil (w : World) :
    Calls Tryz.prog 24 #[.pointer none] w (fun e w' => e = .returned (.int .i64 0) ∧ New w w') := by
  have hmf : ∀ (fn : Fn) (first cap : Array Value) (w : World), (Instr.makeFunc fn first cap).run Tryz.prog w = .ok (.func fn first cap) w := fun _ _ _ _ => rfl
  have hn := (new_refl w).alloc (Nat.le_refl _) (.cells #[.pointer none] 40)
  go_enter Tryz.func24, Tryz.ntmps24
  go_wp2_with (go_at_call 41; refine (readI_nil _ _).mono ?_; rintro e w2 ⟨rfl, hn2⟩)
  go_ret
  exact ⟨rfl, New.then hn hn2⟩

end Go.Proofs.YtpkiopijfhkagaaGreatDoor.rd
