/-
  Contracts of wire's reader: Entry.
-/
import Derived.Test.YtpkiopijfhkagaaGreatDoorReaderB
namespace Go.Proofs.YtpkiopijfhkagaaGreatDoor.rd
open Go.RowKit Go.Proofs.YtpkiopijfhkagaaGreatDoor.mem Go.Proofs.YtpkiopijfhkagaaGreatDoor.kit Go.Proofs.YtpkiopijfhkagaaGreatDoor.wire
set_option linter.unusedVariables false

abbrev zent : Array Value := #[.int .i64 0, .int .u8 0, .int .i64 0, .int .i64 0, .bool false, .slice none 0 0]
abbrev ecells (l : List UInt8) (v : Value) : Array Value := #[.int .i64 (numV l), .int .u8 (numV (l.drop 8)), .int .i64 (numV (l.drop 16)), .int .i64 (numV (l.drop 24)), .bool (numV (l.drop 32) == 1), v]
theorem ent_size : (Tryz.prog.info? 28).map (·.size) = some 6 := by kernel_rfl

theorem ent_close {w w1 : World} {g rb : Nat} {l : List UInt8} {A : Option Addr} {c : Nat} {old : Array Value} (hr : Blk w1 rb 28 old) (hrb : w.heap.size ≤ rb) (hne : rb ≠ g)
    (ho : w1.ownsRow w.heap.size 5 1 (.slice A (dataE l).length c) (dataE l).length (vb (dataE l))) (hG : Good w1 g (restE l)) (hch : Ch (fun j => j = g) w w1) :
    EntOk w g l (.returned (.agg (ecells l (.slice A (dataE l).length c)))) (w1.setRow rb (ecells l (.slice A (dataE l).length c))) := by
  have c2 := ch_setRow w1 rb (ecells l (.slice A (dataE l).length c))
  exact ⟨A, c, _, rfl, rfl, own_ch ho c2 (fun j hj e => own_blk_ne ho hr (by decide) (hj.trans (congrArg some e))), hG.past hr c2 (by decide) hne, hch.then c2 (fun i hi e => absurd e (by omega))⟩

theorem _root_.Go.Proofs.YtpkiopijfhkagaaGreatDoor.mem.New.then_row {w w' : World} (h : New w w') (b : Nat) (cs : Array Value) (hb : w.heap.size ≤ b) : New w (w'.setRow b cs) :=
  ⟨h.os, h.tape, h.output, by simpa using h.size, fun k hk => (setRow_other w' b k cs (by omega)).trans (h.block k hk)⟩

set_option maxRecDepth 100000 in
theorem closE_ok (b g : Nat) (l : List UInt8) (w : World) (hb : w.cell? ⟨b, 0, none⟩ = some (.pointer (some ⟨g, 0, none⟩))) (h8 : canE l) (hl : l.length ≤ 1099511627776) (h : Good w g l) :
    Calls Tryz.prog 48 #[.pointer (some ⟨b, 0, none⟩)] w (EntOk w g l) := by
  have hlt : g < w.heap.size := by obtain ⟨_, _, hx, _⟩ := h; exact hx.lt
  have hn := (new_refl w).alloc (Nat.le_refl _) (.cells zent 28)
  have HT := Lib.hid (left_entry_ok g l _ h8 hl (h.new hn))
  have HB := Lib.hid (Blk.new w 28 zent)
  have hb' := (hn.cell (block_lt_of_cell hb)).trans hb
  have ei := ent_size
  clear h hb
  go_enter Tryz.func48, Tryz.ntmps48
  go_wp2_with (first
    | (go_at_call 49; refine HT.out.mono ?_; rintro e w1 ⟨A, c, z, rfl, hz, ho, hG, hch⟩; have HZ : Hid (z = .agg (ecells l (.slice A (dataE l).length c))) := Lib.hid hz; clear hz; have HR := Lib.hid (HB.out.ch hch (fun e => absurd (show _ = g from e) (by omega))))
    | (refine wpList_store_row rfl 28 _ _ rfl w.heap.size (ecells l (.slice A (dataE l).length c)) rfl HZ.out 28 _ HR.out ei (Eq.trans (b := 6) rfl rfl) (by simp [Value.oneCell']) ?_))
  refine bodyPost_ret (results_cell_row rfl _ _ w.heap.size 28 _ (0, 0) _ rfl (setRow_heap _ _ _ _ _ _ HR.out) Tryz.underlying28 rfl ei) rfl ?_
  exact ent_close HR.out (Nat.le_refl _) (by omega) (own_base ho hn.size) hG ((Ch.of_new hn).then hch (fun _ _ hh => hh))

set_option maxRecDepth 100000 in
theorem closE_no (T : TypeId) (q : Addr) (b g : Nat) (l : List UInt8) (w : World) (hb : w.cell? ⟨b, 0, none⟩ = some (.pointer (some ⟨g, 0, none⟩))) (h8 : ¬ canE l) (hl : l.length ≤ 1099511627776) (h : Good w g l) (hE : ErrAt w T q) :
    Calls Tryz.prog 48 #[.pointer (some ⟨b, 0, none⟩)] w (Fell w T q g) := by
  have hn := (new_refl w).alloc (Nat.le_refl _) (.cells zent 28)
  have HT := Lib.hid (left_entry_no T q g l _ h8 hl (h.new hn) (hE.ch (Ch.of_new (S := fun _ => False) hn) id))
  have hb' := (hn.cell (block_lt_of_cell hb)).trans hb
  clear h hb
  go_enter Tryz.func48, Tryz.ntmps48
  go_wp2_with (go_at_call 49; refine HT.out.mono ?_; rintro e w1 ⟨rfl, hx, hch⟩)
  exact ⟨rfl, rfl, hx, (Ch.of_new hn).then hch (fun _ _ hh => hh)⟩

set_option maxRecDepth 100000 in
theorem readE_ok (b g : Nat) (l : List UInt8) (w : World) (hb : w.cell? ⟨b, 0, none⟩ = some (.pointer (some ⟨g, 0, none⟩))) (h8 : canE l) (hl : l.length ≤ 1099511627776) (h : Good w g l) :
    Calls Tryz.prog 47 #[.pointer (some ⟨g, 0, none⟩), .func (.func 48) #[] #[.pointer (some ⟨b, 0, none⟩)]] w (EntOk w g l) := by
  have hmf : ∀ (fn : Fn) (first cap : Array Value) (w : World), (Instr.makeFunc fn first cap).run Tryz.prog w = .ok (.func fn first cap) w := fun _ _ _ _ => rfl
  have hlt : g < w.heap.size := by obtain ⟨_, _, hx, _⟩ := h; exact hx.lt
  have hn1 := (new_refl w).alloc (Nat.le_refl _) (.cells #[.pointer (some ⟨g, 0, none⟩)] 40)
  have hn := hn1.alloc (by simp) (.cells zent 28)
  have hG := h.new hn
  have hb' := (hn.cell (block_lt_of_cell hb)).trans hb
  have HB0 := Blk.new (w.alloc (.cells #[.pointer (some ⟨g, 0, none⟩)] 40)) 28 zent
  have HB : Hid (Blk ((w.alloc (.cells #[.pointer (some ⟨g, 0, none⟩)] 40)).alloc (.cells zent 28)) (w.heap.size + 1) 28 zent) := Lib.hid (by simpa using HB0)
  have ei := ent_size
  clear h hb HB0
  go_enter_defers Tryz.func47, Tryz.ntmps47
  go_wp2_with (first
    | (go_at_call 31; refine (bad_good _ _ _ hG).mono ?_; rintro e w1 ⟨rfl, rfl⟩)
    | (go_at_call 48; refine (closE_ok _ _ _ _ hb' h8 hl hG).mono ?_; rintro e w2 ⟨A, c, z, rfl, hz, ho, hG2, hch⟩; have HZ : Hid (z = .agg (ecells l (.slice A (dataE l).length c))) := Lib.hid hz; clear hz; have HR := Lib.hid (HB.out.ch hch (fun e => absurd (show _ = g from e) (by omega))))
    | (refine wpList_store_row rfl 28 _ _ rfl (w.heap.size + 1) (ecells l (.slice A (dataE l).length c)) rfl HZ.out 28 _ HR.out ei (Eq.trans (b := 6) rfl rfl) (by simp [Value.oneCell']) ?_))
  refine leaves_cons (f := 77) (args := #[.pointer (some ⟨w.heap.size, 0, none⟩)]) (by simp) (by simp [go_sem]) ?_
  refine (catchE_idle ⟨w.heap.size, 0, none⟩ _).mono ?_
  rintro e u' w'' ⟨rfl, rfl, rfl⟩
  exact ⟨_, results_cell_row rfl _ _ (w.heap.size + 1) 28 _ (0, 0) _ rfl (setRow_heap _ _ _ _ _ _ HR.out) Tryz.underlying28 rfl ei, ent_close HR.out (by omega) (by omega) (own_base ho hn.size) hG2 ((Ch.of_new hn).then hch (fun _ _ hh => hh))⟩

/-- A call of a bad reader: nothing happens. -/
def Nought (w : World) (v : Value) (e : Ending) (w' : World) : Prop := e = .returned v ∧ New w w'

set_option maxRecDepth 100000 in
theorem readE_no (T : TypeId) (q : Addr) (b g : Nat) (l : List UInt8) (w : World) (hb : w.cell? ⟨b, 0, none⟩ = some (.pointer (some ⟨g, 0, none⟩))) (h8 : ¬ canE l) (hl : l.length ≤ 1099511627776) (h : Good w g l) (hE : ErrAt w T q) :
    Calls Tryz.prog 47 #[.pointer (some ⟨g, 0, none⟩), .func (.func 48) #[] #[.pointer (some ⟨b, 0, none⟩)]] w (Failed w g (.agg zent)) := by
  have hmf : ∀ (fn : Fn) (first cap : Array Value) (w : World), (Instr.makeFunc fn first cap).run Tryz.prog w = .ok (.func fn first cap) w := fun _ _ _ _ => rfl
  have hlt : g < w.heap.size := by obtain ⟨_, _, hx, _⟩ := h; exact hx.lt
  have hn1 := (new_refl w).alloc (Nat.le_refl _) (.cells #[.pointer (some ⟨g, 0, none⟩)] 40)
  have hn := hn1.alloc (by simp) (.cells zent 28)
  have HB0 := Blk.new (w.alloc (.cells #[.pointer (some ⟨g, 0, none⟩)] 40)) 28 zent
  have HB : Hid (Blk ((w.alloc (.cells #[.pointer (some ⟨g, 0, none⟩)] 40)).alloc (.cells zent 28)) (w.heap.size + 1) 28 zent) := Lib.hid (by simpa using HB0)
  have ei := ent_size
  clear HB0
  have hG := h.new hn
  have hE' := hE.ch (Ch.of_new (S := fun _ => False) hn) id
  have hb' := (hn.cell (block_lt_of_cell hb)).trans hb
  clear h hb
  go_enter_defers Tryz.func47, Tryz.ntmps47
  go_wp2_with (first
    | (go_at_call 31; refine (bad_good _ _ _ hG).mono ?_; rintro e w1 ⟨rfl, rfl⟩)
    | (go_at_call 48; refine (closE_no T q _ _ _ _ hb' h8 hl hG hE').mono ?_; rintro e w2 ⟨rfl, ⟨x, y, hx⟩, hch⟩; have HR := Lib.hid (HB.out.ch hch (fun e => absurd (show _ = g from e) (by omega)))))
  refine leaves_cons (f := 77) (args := #[.pointer (some ⟨w.heap.size, 0, none⟩)]) (by simp) (by simp [go_sem]) ?_
  refine (catchE_panicking w.heap.size g T _ x y [] _ ?_ hx).mono ?_
  · exact hch.cellOf (p := ⟨w.heap.size, 0, none⟩) (by simp [go_sem]) (by simp; omega)
  rintro e u' w'' ⟨rfl, rfl, rfl⟩
  have hz : Blk (w2.setRow g #[.slice none 0 0, .pointer none]) (w.heap.size + 1) 28 zent := HR.out.ch (ch_setRow _ _ _) (fun e => absurd (show _ = g from e) (by omega))
  exact ⟨_, results_cell_row rfl _ _ (w.heap.size + 1) 28 _ (0, 0) _ rfl hz Tryz.underlying28 rfl ei, rfl, setRow_heap _ _ _ _ _ _ hx, ((Ch.of_new hn).then hch (fun _ _ hh => hh)).then (ch_setRow _ _ _) (fun _ _ hh => hh)⟩

set_option maxRecDepth 100000 in
theorem readE_zero (b : Nat) (g : Nat) (w : World) (h : Zero w g) :
    Calls Tryz.prog 47 #[.pointer (some ⟨g, 0, none⟩), .func (.func 48) #[] #[.pointer (some ⟨b, 0, none⟩)]] w (Nought w (.agg zent)) := by
  have hmf : ∀ (fn : Fn) (first cap : Array Value) (w : World), (Instr.makeFunc fn first cap).run Tryz.prog w = .ok (.func fn first cap) w := fun _ _ _ _ => rfl
  have hn1 := (new_refl w).alloc (Nat.le_refl _) (.cells #[.pointer (some ⟨g, 0, none⟩)] 40)
  have hn := hn1.alloc (by simp) (.cells zent 28)
  have HB0 := Blk.new (w.alloc (.cells #[.pointer (some ⟨g, 0, none⟩)] 40)) 28 zent
  have HB : Hid (Blk ((w.alloc (.cells #[.pointer (some ⟨g, 0, none⟩)] 40)).alloc (.cells zent 28)) (w.heap.size + 1) 28 zent) := Lib.hid (by simpa using HB0)
  have ei := ent_size
  clear HB0
  go_enter_defers Tryz.func47, Tryz.ntmps47
  go_wp2_with (go_at_call 31; refine (bad_zero _ _ (Blk.below h hn h.lt)).mono ?_; rintro e w1 ⟨rfl, rfl⟩)
  exact ⟨_, results_cell_row rfl _ _ (w.heap.size + 1) 28 _ (0, 0) _ rfl HB.out Tryz.underlying28 rfl ei, rfl, hn⟩

set_option maxRecDepth 100000 in
theorem readE_nil (b : Nat) (w : World) :
    Calls Tryz.prog 47 #[.pointer none, .func (.func 48) #[] #[.pointer (some ⟨b, 0, none⟩)]] w (Nought w (.agg zent)) := by
  have hmf : ∀ (fn : Fn) (first cap : Array Value) (w : World), (Instr.makeFunc fn first cap).run Tryz.prog w = .ok (.func fn first cap) w := fun _ _ _ _ => rfl
  have hn1 := (new_refl w).alloc (Nat.le_refl _) (.cells #[.pointer none] 40)
  have hn := hn1.alloc (by simp) (.cells zent 28)
  have HB0 := Blk.new (w.alloc (.cells #[.pointer none] 40)) 28 zent
  have HB : Hid (Blk ((w.alloc (.cells #[.pointer none] 40)).alloc (.cells zent 28)) (w.heap.size + 1) 28 zent) := Lib.hid (by simpa using HB0)
  have ei := ent_size
  clear HB0
  go_enter_defers Tryz.func47, Tryz.ntmps47
  go_wp2_with (go_at_call 31; refine (bad_nil _).mono ?_; rintro e w1 ⟨rfl, rfl⟩)
  exact ⟨_, results_cell_row rfl _ _ (w.heap.size + 1) 28 _ (0, 0) _ rfl HB.out Tryz.underlying28 rfl ei, rfl, hn⟩

set_option maxRecDepth 100000 in
theorem Entry_ok (g : Nat) (l : List UInt8) (w : World) (h8 : canE l) (hl : l.length ≤ 1099511627776) (h : Good w g l) :
    Calls Tryz.prog 28 #[.pointer (some ⟨g, 0, none⟩)] w (EntOk w g l) := by
  have hmf : ∀ (fn : Fn) (first cap : Array Value) (w : World), (Instr.makeFunc fn first cap).run Tryz.prog w = .ok (.func fn first cap) w := fun _ _ _ _ => rfl
  have hn1 := (new_refl w).alloc (Nat.le_refl _) (.cells #[.pointer (some ⟨g, 0, none⟩)] 40)
  have hn := hn1.alloc (by simp) (.cells zent 28)
  have HB0 := Blk.new (w.alloc (.cells #[.pointer (some ⟨g, 0, none⟩)] 40)) 28 zent
  have HB : Hid (Blk ((w.alloc (.cells #[.pointer (some ⟨g, 0, none⟩)] 40)).alloc (.cells zent 28)) (w.heap.size + 1) 28 zent) := Lib.hid (by simpa using HB0)
  have ei := ent_size
  clear HB0
  have hlt : g < w.heap.size := by obtain ⟨_, _, hx, _⟩ := h; exact hx.lt
  have hb' : ((w.alloc (.cells #[.pointer (some ⟨g, 0, none⟩)] 40)).alloc (.cells zent 28)).cell? ⟨w.heap.size, 0, none⟩ = some (.pointer (some ⟨g, 0, none⟩)) := by simp [go_sem]
  have HT := Lib.hid (readE_ok _ _ _ _ hb' h8 hl (h.new hn))
  clear h hb'
  go_enter Tryz.func28, Tryz.ntmps28
  go_wp2_with (first
    | (go_at_call 47; refine HT.out.mono ?_; rintro e w1 ⟨A, c, z, rfl, hz, ho, hG, hch⟩; have HZ : Hid (z = .agg (ecells l (.slice A (dataE l).length c))) := Lib.hid hz; clear hz; have HR := Lib.hid (HB.out.ch hch (fun e => absurd (show _ = g from e) (by omega))))
    | (refine wpList_store_row rfl 28 _ _ rfl (w.heap.size + 1) (ecells l (.slice A (dataE l).length c)) rfl HZ.out 28 _ HR.out ei (Eq.trans (b := 6) rfl rfl) (by simp [Value.oneCell']) ?_))
  refine bodyPost_ret (results_cell_row rfl _ _ (w.heap.size + 1) 28 _ (0, 0) _ rfl (setRow_heap _ _ _ _ _ _ HR.out) Tryz.underlying28 rfl ei) rfl ?_
  exact ent_close HR.out (by omega) (by omega) (own_base ho hn.size) hG ((Ch.of_new hn).then hch (fun _ _ hh => hh))

set_option maxRecDepth 100000 in
theorem Entry_no (T : TypeId) (q : Addr) (g : Nat) (l : List UInt8) (w : World) (h8 : ¬ canE l) (hl : l.length ≤ 1099511627776) (h : Good w g l) (hE : ErrAt w T q) :
    Calls Tryz.prog 28 #[.pointer (some ⟨g, 0, none⟩)] w (Failed w g (.agg zent)) := by
  have hmf : ∀ (fn : Fn) (first cap : Array Value) (w : World), (Instr.makeFunc fn first cap).run Tryz.prog w = .ok (.func fn first cap) w := fun _ _ _ _ => rfl
  have hn1 := (new_refl w).alloc (Nat.le_refl _) (.cells #[.pointer (some ⟨g, 0, none⟩)] 40)
  have hn := hn1.alloc (by simp) (.cells zent 28)
  have HB0 := Blk.new (w.alloc (.cells #[.pointer (some ⟨g, 0, none⟩)] 40)) 28 zent
  have HB : Hid (Blk ((w.alloc (.cells #[.pointer (some ⟨g, 0, none⟩)] 40)).alloc (.cells zent 28)) (w.heap.size + 1) 28 zent) := Lib.hid (by simpa using HB0)
  have ei := ent_size
  clear HB0
  have hlt : g < w.heap.size := by obtain ⟨_, _, hx, _⟩ := h; exact hx.lt
  have hb' : ((w.alloc (.cells #[.pointer (some ⟨g, 0, none⟩)] 40)).alloc (.cells zent 28)).cell? ⟨w.heap.size, 0, none⟩ = some (.pointer (some ⟨g, 0, none⟩)) := by simp [go_sem]
  have HT := Lib.hid (readE_no T q _ _ _ _ hb' h8 hl (h.new hn) (hE.ch (Ch.of_new (S := fun _ => False) hn) id))
  clear h hb'
  go_enter Tryz.func28, Tryz.ntmps28
  go_wp2_with (first
    | (go_at_call 47; refine HT.out.mono ?_; rintro e w1 ⟨rfl, hz, hch⟩; have HR := Lib.hid (HB.out.ch hch (fun e => absurd (show _ = g from e) (by omega))))
    | (refine wpList_store_row rfl 28 _ _ rfl (w.heap.size + 1) zent rfl rfl 28 _ HR.out ei (Eq.trans (b := 6) rfl rfl) (by simp [Value.oneCell']) ?_))
  refine bodyPost_ret (results_cell_row rfl _ _ (w.heap.size + 1) 28 _ (0, 0) _ rfl (setRow_heap _ _ _ _ _ _ HR.out) Tryz.underlying28 rfl ei) rfl ?_
  exact ⟨rfl, Blk.ch hz (ch_setRow _ _ _) (fun e => absurd (show g = _ from e) (by omega)), ((Ch.of_new hn).then hch (fun _ _ hh => hh)).then (ch_setRow w1 (w.heap.size + 1) zent) (fun i hi e => absurd (show i = _ from e) (by omega))⟩

set_option maxRecDepth 100000 in
theorem Entry_zero (g : Nat) (w : World) (h : Zero w g) :
    Calls Tryz.prog 28 #[.pointer (some ⟨g, 0, none⟩)] w (Nought w (.agg zent)) := by
  have hmf : ∀ (fn : Fn) (first cap : Array Value) (w : World), (Instr.makeFunc fn first cap).run Tryz.prog w = .ok (.func fn first cap) w := fun _ _ _ _ => rfl
  have hn1 := (new_refl w).alloc (Nat.le_refl _) (.cells #[.pointer (some ⟨g, 0, none⟩)] 40)
  have hn := hn1.alloc (by simp) (.cells zent 28)
  have HB0 := Blk.new (w.alloc (.cells #[.pointer (some ⟨g, 0, none⟩)] 40)) 28 zent
  have HB : Hid (Blk ((w.alloc (.cells #[.pointer (some ⟨g, 0, none⟩)] 40)).alloc (.cells zent 28)) (w.heap.size + 1) 28 zent) := Lib.hid (by simpa using HB0)
  have ei := ent_size
  clear HB0
  have HT := Lib.hid (readE_zero w.heap.size g _ (Blk.below h hn h.lt))
  go_enter Tryz.func28, Tryz.ntmps28
  go_wp2_with (first
    | (go_at_call 47; refine HT.out.mono ?_; rintro e w1 ⟨rfl, hn2⟩; have HR := Lib.hid (HB.out.below hn2 HB.out.lt))
    | (refine wpList_store_row rfl 28 _ _ rfl (w.heap.size + 1) zent rfl rfl 28 _ HR.out ei (Eq.trans (b := 6) rfl rfl) (by simp [Value.oneCell']) ?_))
  refine bodyPost_ret (results_cell_row rfl _ _ (w.heap.size + 1) 28 _ (0, 0) _ rfl (setRow_heap _ _ _ _ _ _ HR.out) Tryz.underlying28 rfl ei) rfl ?_
  exact ⟨rfl, (New.then hn hn2).then_row (w.heap.size + 1) zent (by omega)⟩

set_option maxRecDepth 100000 in
theorem Entry_nil (w : World) :
    Calls Tryz.prog 28 #[.pointer none] w (Nought w (.agg zent)) := by
  have hmf : ∀ (fn : Fn) (first cap : Array Value) (w : World), (Instr.makeFunc fn first cap).run Tryz.prog w = .ok (.func fn first cap) w := fun _ _ _ _ => rfl
  have hn1 := (new_refl w).alloc (Nat.le_refl _) (.cells #[.pointer none] 40)
  have hn := hn1.alloc (by simp) (.cells zent 28)
  have HB0 := Blk.new (w.alloc (.cells #[.pointer none] 40)) 28 zent
  have HB : Hid (Blk ((w.alloc (.cells #[.pointer none] 40)).alloc (.cells zent 28)) (w.heap.size + 1) 28 zent) := Lib.hid (by simpa using HB0)
  have ei := ent_size
  clear HB0
  have HT := Lib.hid (readE_nil w.heap.size ((w.alloc (.cells #[.pointer none] 40)).alloc (.cells zent 28)))
  go_enter Tryz.func28, Tryz.ntmps28
  go_wp2_with (first
    | (go_at_call 47; refine HT.out.mono ?_; rintro e w1 ⟨rfl, hn2⟩; have HR := Lib.hid (HB.out.below hn2 HB.out.lt))
    | (refine wpList_store_row rfl 28 _ _ rfl (w.heap.size + 1) zent rfl rfl 28 _ HR.out ei (Eq.trans (b := 6) rfl rfl) (by simp [Value.oneCell']) ?_))
  refine bodyPost_ret (results_cell_row rfl _ _ (w.heap.size + 1) 28 _ (0, 0) _ rfl (setRow_heap _ _ _ _ _ _ HR.out) Tryz.underlying28 rfl ei) rfl ?_
  exact ⟨rfl, (New.then hn hn2).then_row (w.heap.size + 1) zent (by omega)⟩

end Go.Proofs.YtpkiopijfhkagaaGreatDoor.rd
