/-
  Contracts of wire's reader: Bytes.
-/
import Derived.Test.YtpkiopijfhkagaaGreatDoorReaderI
namespace Go.Proofs.YtpkiopijfhkagaaGreatDoor.rd
open Go.RowKit Go.Proofs.YtpkiopijfhkagaaGreatDoor.mem Go.Proofs.YtpkiopijfhkagaaGreatDoor.kit Go.Proofs.YtpkiopijfhkagaaGreatDoor.wire
set_option linter.unusedVariables false

theorem closB_ok (b g : Nat) (l : List UInt8) (w : World) (hb : w.cell? ⟨b, 0, none⟩ = some (.pointer (some ⟨g, 0, none⟩))) (h8 : canB l) (hl : l.length ≤ 1099511627776) (h : Good w g l) :
    Calls Tryz.prog 45 #[.pointer (some ⟨b, 0, none⟩)] w (CountOk w g l) := by
  have HT := Lib.hid (counted_ok g l w h8 hl h)
  clear h
  go_enter Tryz.func45, Tryz.ntmps45
  go_wp2_with (go_at_call 46; refine HT.out.mono ?_; rintro e w1 ⟨A, c, rfl, ho, hG, hch⟩)
  go_ret
  exact ⟨A, c, rfl, ho, hG, hch⟩

theorem closB_no (T : TypeId) (q : Addr) (b g : Nat) (l : List UInt8) (w : World) (hb : w.cell? ⟨b, 0, none⟩ = some (.pointer (some ⟨g, 0, none⟩))) (h8 : ¬ canB l) (hl : l.length ≤ 1099511627776) (h : Good w g l) (hE : ErrAt w T q) :
    Calls Tryz.prog 45 #[.pointer (some ⟨b, 0, none⟩)] w (Fell w T q g) := by
  have HT := Lib.hid (counted_no T q g l w h8 hl h hE)
  clear h
  go_enter Tryz.func45, Tryz.ntmps45
  go_wp2_with (go_at_call 46; refine HT.out.mono ?_; rintro e w1 ⟨rfl, hx, hch⟩)
  exact ⟨rfl, rfl, hx, hch⟩

theorem readB_ok (b g : Nat) (l : List UInt8) (w : World) (hb : w.cell? ⟨b, 0, none⟩ = some (.pointer (some ⟨g, 0, none⟩))) (h8 : canB l) (hl : l.length ≤ 1099511627776) (h : Good w g l) :
    Calls Tryz.prog 44 #[.pointer (some ⟨g, 0, none⟩), .func (.func 45) #[] #[.pointer (some ⟨b, 0, none⟩)]] w (CountOk w g l) := by
  have hmf : ∀ (fn : Fn) (first cap : Array Value) (w : World), (Instr.makeFunc fn first cap).run Tryz.prog w = .ok (.func fn first cap) w := fun _ _ _ _ => rfl
  have hn := (new_refl w).alloc (Nat.le_refl _) (.cells #[.pointer (some ⟨g, 0, none⟩)] 40)
  have hG := h.new hn
  have hb' := (hn.cell (block_lt_of_cell hb)).trans hb
  clear h hb
  go_enter_defers Tryz.func44, Tryz.ntmps44
  go_wp2_with (first
    | (go_at_call 31; refine (bad_good _ _ _ hG).mono ?_; rintro e w1 ⟨rfl, rfl⟩)
    | (go_at_call 45; refine (closB_ok _ _ _ _ hb' h8 hl hG).mono ?_; rintro e w2 ⟨A, c, rfl, ho, hG2, hch⟩))
  refine leaves_cons (f := 76) (args := #[.pointer (some ⟨w.heap.size, 0, none⟩)]) (by simp) (by simp [go_sem]) ?_
  refine (catchB_idle ⟨w.heap.size, 0, none⟩ _).mono ?_
  rintro e u' w'' ⟨rfl, rfl, rfl⟩
  simp [Leaves, settle, results, Tryz.results44, go_sem]
  exact ⟨A, c, rfl, own_base ho hn.size, hG2, (Ch.of_new hn).then hch (fun _ _ hh => hh)⟩

theorem readB_no (T : TypeId) (q : Addr) (b g : Nat) (l : List UInt8) (w : World) (hb : w.cell? ⟨b, 0, none⟩ = some (.pointer (some ⟨g, 0, none⟩))) (h8 : ¬ canB l) (hl : l.length ≤ 1099511627776) (h : Good w g l) (hE : ErrAt w T q) :
    Calls Tryz.prog 44 #[.pointer (some ⟨g, 0, none⟩), .func (.func 45) #[] #[.pointer (some ⟨b, 0, none⟩)]] w (Failed w g (.slice none 0 0)) := by
  have hmf : ∀ (fn : Fn) (first cap : Array Value) (w : World), (Instr.makeFunc fn first cap).run Tryz.prog w = .ok (.func fn first cap) w := fun _ _ _ _ => rfl
  have hlt : g < w.heap.size := by obtain ⟨_, _, hx, _⟩ := h; exact hx.lt
  have hn := (new_refl w).alloc (Nat.le_refl _) (.cells #[.pointer (some ⟨g, 0, none⟩)] 40)
  have hG := h.new hn
  have hE' := hE.ch (Ch.of_new (S := fun _ => False) hn) id
  have hb' := (hn.cell (block_lt_of_cell hb)).trans hb
  clear h hb
  go_enter_defers Tryz.func44, Tryz.ntmps44
  go_wp2_with (first
    | (go_at_call 31; refine (bad_good _ _ _ hG).mono ?_; rintro e w1 ⟨rfl, rfl⟩)
    | (go_at_call 45; refine (closB_no T q _ _ _ _ hb' h8 hl hG hE').mono ?_; rintro e w2 ⟨rfl, ⟨x, y, hx⟩, hch⟩))
  refine leaves_cons (f := 76) (args := #[.pointer (some ⟨w.heap.size, 0, none⟩)]) (by simp) (by simp [go_sem]) ?_
  refine (catchB_panicking w.heap.size g T _ x y [] _ ?_ hx).mono ?_
  · exact hch.cellOf (p := ⟨w.heap.size, 0, none⟩) (by simp [go_sem]) (by simp; omega)
  rintro e u' w'' ⟨rfl, rfl, rfl⟩
  simp [Leaves, settle, results, Tryz.results44, go_sem]
  exact ⟨rfl, setRow_heap _ _ _ _ _ _ hx, ((Ch.of_new hn).then hch (fun _ _ hh => hh)).then (ch_setRow _ _ _) (fun _ _ hh => hh)⟩

theorem readB_zero (b g : Nat) (w : World) (h : Zero w g) :
    Calls Tryz.prog 44 #[.pointer (some ⟨g, 0, none⟩), .func (.func 45) #[] #[.pointer (some ⟨b, 0, none⟩)]] w (fun e w' => e = .returned (.slice none 0 0) ∧ New w w') := by
  have hmf : ∀ (fn : Fn) (first cap : Array Value) (w : World), (Instr.makeFunc fn first cap).run Tryz.prog w = .ok (.func fn first cap) w := fun _ _ _ _ => rfl
  have hn := (new_refl w).alloc (Nat.le_refl _) (.cells #[.pointer (some ⟨g, 0, none⟩)] 40)
  have hG : Zero _ g := Blk.below h hn h.lt
  go_enter_defers Tryz.func44, Tryz.ntmps44
  go_wp2_with (go_at_call 31; refine (bad_zero _ _ hG).mono ?_; rintro e w1 ⟨rfl, rfl⟩)
  simp [bodyPostD, Leaves, results, Tryz.results44, go_sem]
  exact hn

theorem readB_nil (b : Nat) (w : World) :
    Calls Tryz.prog 44 #[.pointer none, .func (.func 45) #[] #[.pointer (some ⟨b, 0, none⟩)]] w (fun e w' => e = .returned (.slice none 0 0) ∧ New w w') := by
  have hmf : ∀ (fn : Fn) (first cap : Array Value) (w : World), (Instr.makeFunc fn first cap).run Tryz.prog w = .ok (.func fn first cap) w := fun _ _ _ _ => rfl
  have hn := (new_refl w).alloc (Nat.le_refl _) (.cells #[.pointer none] 40)
  go_enter_defers Tryz.func44, Tryz.ntmps44
  go_wp2_with (go_at_call 31; refine (bad_nil _).mono ?_; rintro e w1 ⟨rfl, rfl⟩)
  simp [bodyPostD, Leaves, results, Tryz.results44, go_sem]
  exact hn

/-! ### Bytes -/
theorem Bytes_ok (g : Nat) (l : List UInt8) (w : World) (h8 : canB l) (hl : l.length ≤ 1099511627776) (h : Good w g l) :
    Calls Tryz.prog 26 #[.pointer (some ⟨g, 0, none⟩)] w (CountOk w g l) := by
  have hmf : ∀ (fn : Fn) (first cap : Array Value) (w : World), (Instr.makeFunc fn first cap).run Tryz.prog w = .ok (.func fn first cap) w := fun _ _ _ _ => rfl
  have hn := (new_refl w).alloc (Nat.le_refl _) (.cells #[.pointer (some ⟨g, 0, none⟩)] 40)
  have hG := h.new hn
  have hb' : (w.alloc (.cells #[.pointer (some ⟨g, 0, none⟩)] 40)).cell? ⟨w.heap.size, 0, none⟩ = some (.pointer (some ⟨g, 0, none⟩)) := by simp [go_sem]
  have HT := Lib.hid (readB_ok _ _ _ _ hb' h8 hl hG)
  clear h hb'
  go_enter Tryz.func26, Tryz.ntmps26
  go_wp2_with (go_at_call 44; refine HT.out.mono ?_; rintro e w2 ⟨A, c, rfl, ho, hG2, hch⟩)
  go_ret
  exact ⟨A, c, rfl, own_base ho hn.size, hG2, (Ch.of_new hn).then hch (fun _ _ hh => hh)⟩
theorem Bytes_no (T : TypeId) (q : Addr) (g : Nat) (l : List UInt8) (w : World) (h8 : ¬ canB l) (hl : l.length ≤ 1099511627776) (h : Good w g l) (hE : ErrAt w T q) :
    Calls Tryz.prog 26 #[.pointer (some ⟨g, 0, none⟩)] w (Failed w g (.slice none 0 0)) := by
  have hmf : ∀ (fn : Fn) (first cap : Array Value) (w : World), (Instr.makeFunc fn first cap).run Tryz.prog w = .ok (.func fn first cap) w := fun _ _ _ _ => rfl
  have hn := (new_refl w).alloc (Nat.le_refl _) (.cells #[.pointer (some ⟨g, 0, none⟩)] 40)
  have hG := h.new hn
  have hE' := hE.ch (Ch.of_new (S := fun _ => False) hn) id
  have hb' : (w.alloc (.cells #[.pointer (some ⟨g, 0, none⟩)] 40)).cell? ⟨w.heap.size, 0, none⟩ = some (.pointer (some ⟨g, 0, none⟩)) := by simp [go_sem]
  have HT := Lib.hid (readB_no T q _ _ _ _ hb' h8 hl hG hE')
  clear h hb'
  go_enter Tryz.func26, Tryz.ntmps26
  go_wp2_with (go_at_call 44; refine HT.out.mono ?_; rintro e w2 ⟨rfl, hG2, hch⟩)
  go_ret
  exact ⟨rfl, hG2, (Ch.of_new hn).then hch (fun _ _ hh => hh)⟩
theorem Bytes_zero (g : Nat) (w : World) (h : Zero w g) :
    Calls Tryz.prog 26 #[.pointer (some ⟨g, 0, none⟩)] w (fun e w' => e = .returned (.slice none 0 0) ∧ New w w') := by
  have hmf : ∀ (fn : Fn) (first cap : Array Value) (w : World), (Instr.makeFunc fn first cap).run Tryz.prog w = .ok (.func fn first cap) w := fun _ _ _ _ => rfl
  have hn := (new_refl w).alloc (Nat.le_refl _) (.cells #[.pointer (some ⟨g, 0, none⟩)] 40)
  have HT := Lib.hid (readB_zero w.heap.size g _ (Blk.below h hn h.lt))
  clear h
  go_enter Tryz.func26, Tryz.ntmps26
  go_wp2_with (go_at_call 44; refine HT.out.mono ?_; rintro e w2 ⟨rfl, hn2⟩)
  go_ret
  exact ⟨rfl, New.then hn hn2⟩
theorem Bytes_nil (w : World) :
    Calls Tryz.prog 26 #[.pointer none] w (fun e w' => e = .returned (.slice none 0 0) ∧ New w w') := by
  have hmf : ∀ (fn : Fn) (first cap : Array Value) (w : World), (Instr.makeFunc fn first cap).run Tryz.prog w = .ok (.func fn first cap) w := fun _ _ _ _ => rfl
  have hn := (new_refl w).alloc (Nat.le_refl _) (.cells #[.pointer none] 40)
  go_enter Tryz.func26, Tryz.ntmps26
  go_wp2_with (go_at_call 44; refine (readB_nil _ _).mono ?_; rintro e w2 ⟨rfl, hn2⟩)
  go_ret
  exact ⟨rfl, New.then hn hn2⟩

end Go.Proofs.YtpkiopijfhkagaaGreatDoor.rd
