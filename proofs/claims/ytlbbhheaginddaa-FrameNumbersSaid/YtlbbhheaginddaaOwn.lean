/-
  The frames' laws: own (the program's frames, lent).
-/
import Derived.Test.YtlbbhheaginddaaLawF
namespace Go.Proofs.Ytlbbhheaginddaa.fr
open Go.RowKit Go.Proofs.Ytlbbhheaginddaa.mem Go.Proofs.Ytlbbhheaginddaa.kit Go.Proofs.Ytlbbhheaginddaa.wire Go.Proofs.Ytlbbhheaginddaa.crc
set_option linter.unusedVariables false

/-- A lent list reads as the list. -/
theorem lent_reads {w : World} {g : Nat} {l : List UInt8} (h : Blk w g 5 (vb (l ++ marks 1 12)).toArray) : Reads w w.heap.size 1 (some ⟨g, 0, none⟩) l.length (vb l) :=
  ⟨by rw [vb_length, Nat.mul_one], fun _ => ⟨_, rfl, h.lt, fun j u hu => by
    have hj : j < l.length := by
      rcases Nat.lt_or_ge j l.length with h' | h'
      · exact h'
      · rw [List.getElem?_eq_none (by rw [vb_length]; exact h')] at hu; cases hu
    rw [vb_get l j hj] at hu
    rw [Addr.add_lit, Nat.zero_add, h.cell j, lm_left l _ j hj]
    exact hu⟩⟩

theorem reads_two (W : World) (t : TypeId) (a b : Value) : Reads (W.alloc (.cells #[a, b] t)) (W.alloc (.cells #[a, b] t)).heap.size 2 (some ⟨W.heap.size, 0, none⟩) 1 [a, b] :=
  ⟨rfl, fun _ => ⟨_, rfl, by simp, new_two W t a b⟩⟩
def fiC (x : Fi) : List Value := [.int .i64 x.kind, .slice x.A x.data.length x.c]
def fiCs (l : List Fi) : List Value := (l.map fiC).flatten
theorem fiCs_snoc (l : List Fi) (x : Fi) : fiCs (l ++ [x]) = fiCs l ++ [.int .i64 x.kind, .slice x.A x.data.length x.c] := by simp [fiCs, fiC]
theorem fiCs_at (l : List Fi) (i : Nat) (h : i < l.length) : (fiCs l)[i * 2]? = some (.int .i64 l[i].kind) ∧ (fiCs l)[i * 2 + 1]? = some (.slice l[i].A l[i].data.length l[i].c) := by
  induction l generalizing i with
  | nil => simp at h
  | cons a t ih =>
    have e : fiCs (a :: t) = .int .i64 a.kind :: .slice a.A a.data.length a.c :: fiCs t := by simp [fiCs, fiC]
    rw [e]
    cases i with
    | zero => exact ⟨rfl, rfl⟩
    | succ i =>
      have h' : i < t.length := by simpa using h
      have e1 : (i + 1) * 2 = i * 2 + 1 + 1 := by omega
      rw [e1]
      simpa using ih i h'
def Fi.kd (x : Fi) : Int × List UInt8 := (x.kind, x.data)

/-- A row of frames that reads is frames in memory. -/
theorem frArr_of {w : World} {g : Nat} {fs : List Fi} {n : Nat} (hr : Reads w w.heap.size 2 (some ⟨g, 0, none⟩) n (fiCs fs)) (hn : n = fs.length) (hd : ∀ i (h : i < fs.length), Reads w w.heap.size 1 fs[i].A fs[i].data.length (vb fs[i].data)) : FrArr w (some ⟨g, 0, none⟩) fs := by
  intro i hi
  obtain ⟨ad, e, hb, hc⟩ := hr.2 (by omega)
  simp only [Option.some.injEq] at e
  subst e
  obtain ⟨h0, h1⟩ := fiCs_at fs i hi
  have c0 := hc _ _ h0
  have c1 := hc _ _ h1
  rw [Addr.add_lit, Nat.zero_add] at c0 c1
  exact ⟨g, rfl, hb, c0, c1, hd i hi⟩

/-- own while it goes on. -/
structure OS (w : World) (fs : List Fi) (k : Nat) (v : Value) (wr : World) : Prop where
  new : New w wr
  row : ∃ gs : List Fi, gs.map Fi.kd = (fs.take k).map Fi.kd ∧ wr.ownsRow w.heap.size 31 2 v k (fiCs gs) ∧ ∀ i (h : i < gs.length), ∃ b, gs[i].A = some ⟨b, 0, none⟩ ∧ Blk wr b 5 (vb (gs[i].data ++ marks 1 12)).toArray
theorem OS.start (w : World) (fs : List Fi) : OS w fs 0 (.slice none 0 0) w := ⟨new_refl w, [], by simp, World.ownsRow_nil _ _ _ _, fun i h => absurd h (by simp)⟩
theorem OS.keep {w wr w' : World} {fs : List Fi} {k : Nat} {v : Value} (h : OS w fs k v wr) (hn : New wr w') : OS w fs k v w' := by
  obtain ⟨h1, gs, h2, h3, h4⟩ := h
  exact ⟨New.then h1 hn, gs, h2, own_new h3 hn, fun i hi => by obtain ⟨b, e, hb⟩ := h4 i hi; exact ⟨b, e, hb.below hn hb.lt⟩⟩
theorem OS.step {w w7 w9 : World} {fs gs : List Fi} {k b cl : Nat} {v v9 : Value} {x : Fi} (hk : k < fs.length) (hx : fs[k] = x) (hn : New w w7) (hg : gs.map Fi.kd = (fs.take k).map Fi.kd) (hrow : w7.ownsRow w.heap.size 31 2 v k (fiCs gs)) (hd : ∀ i (h : i < gs.length), ∃ b, gs[i].A = some ⟨b, 0, none⟩ ∧ Blk w7 b 5 (vb (gs[i].data ++ marks 1 12)).toArray)
    (hb : Blk w7 b 5 (vb (x.data ++ marks 1 12)).toArray) (hown9 : w9.ownsRow w.heap.size 31 2 v9 (k + 1) (fiCs gs ++ [.int .i64 x.kind, .slice (some ⟨b, 0, none⟩) x.data.length cl])) {o : Obj} (hg9 : (w7.alloc o).grownBy w9 v.ownBlock) : OS w fs (k + 1) v9 w9 := by
  have hch := Ch.of_grown hg9
  have hne : ∀ (j : Nat) (cs : Array Value), Blk w7 j 5 cs → ¬ some j = v.ownBlock := fun j cs h e => by
    obtain ⟨_, cs', h'⟩ := own_cells hrow e.symm
    exact h.ne_ h' (by decide) rfl
  refine ⟨(New.then hn (alloc_new w7 o)).grown hg9 (New.then hn (alloc_new w7 o)).size (fun j hj => (own_cells hrow hj).1), gs ++ [⟨x.kind, some ⟨b, 0, none⟩, cl, x.data⟩], ?_, ?_, fun i hi => ?_⟩
  · rw [← List.take_append_getElem hk, List.map_append, List.map_append, hg, hx]
    rfl
  · rw [fiCs_snoc]
    exact hown9
  · by_cases hlt : i < gs.length
    · obtain ⟨b', e, hb'⟩ := hd i hlt
      rw [List.getElem_append_left hlt]
      exact ⟨b', e, (hb'.alloc _).ch hch (hne _ _ hb')⟩
    · have : i = gs.length := by simp at hi; omega
      subst this
      refine ⟨b, by simp, ?_⟩
      have := (hb.alloc o).ch hch (hne _ _ hb)
      simpa using this

theorem cell_grown {w w7 w9 : World} {k : Nat} {v u : Value} {xs : List Value} {p : Addr} {o : Obj} (hn : New w w7) (hrow : w7.ownsRow w.heap.size 31 2 v k xs) (hg9 : (w7.alloc o).grownBy w9 v.ownBlock) (hp : p.block < w.heap.size) (hu : w.cell? p = some u) : w9.cell? p = some u :=
  (((New.then hn (alloc_new w7 o)).grown hg9 (New.then hn (alloc_new w7 o)).size (fun j hj => (own_cells hrow hj).1)).cell hp).trans hu

/-- Frames of the call's own. -/
def OwnD (w : World) (fs : List Fi) (e : Ending) (w' : World) : Prop :=
  ∃ (gs : List Fi) (A : Option Addr) (c : Nat), gs.map Fi.kd = fs.map Fi.kd ∧ e = .returned (.slice A gs.length c) ∧ FrArr w' A gs ∧ New w w'
theorem OS.done {w wr : World} {fs : List Fi} {v : Value} (h : OS w fs fs.length v wr) : OwnD w fs (.returned v) wr := by
  obtain ⟨hn, gs, hg, hrow, hd⟩ := h
  rw [List.take_length] at hg
  have hl : gs.length = fs.length := by have := congrArg List.length hg; simpa using this
  obtain ⟨A, c, rfl, -, -, hr⟩ := own_len hrow
  refine ⟨gs, A, c, hg, by rw [hl], ?_, hn⟩
  intro i hi
  rcases hrow.2 with ⟨e, e0⟩ | ⟨g, cap, cur, e, _⟩
  · omega
  · simp only [Value.slice.injEq] at e
    obtain ⟨rfl, -, -⟩ := e
    exact frArr_of (fs := gs) hr hl.symm (fun i h => by obtain ⟨b, e, hb⟩ := hd i h; rw [e]; exact lent_reads hb) i hi

set_option maxRecDepth 100000 in
set_option maxHeartbeats 2000000 in
theorem own_any (A : Option Addr) (n c : Nat) (fs : List Fi) (w : World) (hn : n = fs.length) (hnl : n ≤ 268435456) (hdl : ∀ i (h : i < fs.length), fs[i].data.length ≤ 1099511627776) (hA : FrOf w A fs) :
    Calls Try.prog 12 #[.slice A n c] w (OwnD w fs) := by
  obtain ⟨i0, hi, hz0, hz1, hz2⟩ := info_parts frame_info
  have HA := Lib.hid hA
  have HN := Lib.hid hn
  have HD := Lib.hid hdl
  clear hA hn hdl
  go_enter Try.func12, Try.ntmps12
  go_wp2
  go_loopw [3, 4] (fun v i wr => ∃ k : Nat, k ≤ n ∧ i = .int .i64 k ∧ OS w fs k v wr) (fun _ i _ => n - (intOf i).toNat)
  case atStart => exact ⟨0, Nat.zero_le _, rfl, OS.start w fs⟩
  case round =>
    obtain ⟨k, hk, rfl, hos⟩ := hrel
    have HOS := Lib.hid hos
    clear hos
    by_cases hlt : k < n
    · have hlf : k < fs.length := by have := HN.out; omega
      obtain ⟨g, o, rfl, hg, g0, g1, hr⟩ := HA.out k hlf
      have k0 := (HOS.out.new.cell (p := ⟨g, o + k * 2, none⟩) hg).trans g0
      have k1 := (HOS.out.new.cell (p := ⟨g, o + k * 2 + 1, none⟩) hg).trans g1
      have hdk := HD.out k hlf
      have hr1 := hr.new (Below.drew HOS.out.new)
      obtain ⟨x, hx⟩ : ∃ x, fs[k] = x := ⟨_, rfl⟩
      rw [hx] at k0 k1 hdk hr1 g0 g1
      have HG0 := Lib.hid g0
      have HG1 := Lib.hid g1
      have HX := Lib.hid hx
      have HL := Lib.hid (lent_any x.A x.c x.data wr.drew hdk hr1)
      have HG := Lib.hid hg
      have hN0 : New wr wr.drew := Below.drew (new_refl wr)
      obtain ⟨gs, hgs, hrow, hds⟩ := HOS.out.row
      have HGS := Lib.hid hgs
      have HROW := Lib.hid hrow
      have HDS := Lib.hid hds
      have HK0 := Lib.hid k0
      have HK1 := Lib.hid k1
      have HBW := Lib.hid HOS.out.new.size
      have hb1 : k + 1 ≤ maxLen := by unfold maxLen; omega
      have hb2 : (k + 1) * 32 ≤ 140737488355328 := by omega
      have HGR : Hid (g < wr.heap.size) := Lib.hid (by have := HOS.out.new.size; omega)
      clear hr g0 g1 hr1 hx hgs hrow hds hg
      go_wp2
      go_region_held3 (fun w' => w'.cell? ⟨g, o + k * 2, none⟩ = some (.int .i64 x.kind) ∧ w'.cell? ⟨g, o + k * 2 + 1, none⟩ = some (.slice x.A x.data.length x.c))
        (go_keep)
        (first
          | (go_at_call 24; (with_reducible refine HL.out.mono ?_); rintro e w7 ⟨⟨rfl, hb7⟩, hn7⟩; have hN7 := New.then hN0 hn7; have HB7 := Lib.hid hb7; clear hb7; have s0 := (hN7.cell (p := ⟨g, o + k * 2, none⟩) HGR.out).trans HK0.out; have s1 := (hN7.cell (p := ⟨g, o + k * 2 + 1, none⟩) HGR.out).trans HK1.out)
          | (refine step_append_any _ (by rfl) (.tmp 11) (.tmp 24) 32 (by rfl) w.heap.size 31 i0 (.agg #[.int .i64 0, .slice none 0 0]) 2 32 Try.underlying32 hi hz0 hz1 hz2 rfl (by decide) _ k (fiCs gs) (by rfl) (own_new HROW.out (New.then hN7 (alloc_new w7 _))) _ (some ⟨w7.heap.size, 0, none⟩) 1 1 [.int .i64 x.kind, .slice (some ⟨wr.heap.size, 0, none⟩) x.data.length (x.data.length + 12)] (by rfl) (reads_two w7 _ _ _) (by simp [Value.oneCell']) hb1 hb2 (by have := hN7.size; have := HBW.out; simp; omega) ?_; intro v9 w9 hown9 hg9 hat9; have s0 := cell_grown (p := ⟨g, o + k * 2, none⟩) (New.then HOS.out.new hN7) (own_new HROW.out hN7) hg9 HG.out HG0.out; have s1 := cell_grown (p := ⟨g, o + k * 2 + 1, none⟩) (New.then HOS.out.new hN7) (own_new HROW.out hN7) hg9 HG.out HG1.out))
      go_wp2_with fail
      go_roundw
      case rel =>
        exact ⟨k + 1, by omega, by go_num, OS.step hlf HX.out (New.then HOS.out.new hN7) HGS.out (own_new HROW.out hN7) (fun i h => by obtain ⟨b, e, hb⟩ := HDS.out i h; exact ⟨b, e, hb.below hN7 hb.lt⟩) HB7.out hown9 hg9⟩
      case measure => simp [intOf]; omega
    · obtain rfl : k = n := by omega
      have h := HOS.out
      have hn := HN.out
      subst hn
      have HE := Lib.hid h.done
      clear h
      go_wp2
      go_ret
      exact HE.out
end Go.Proofs.Ytlbbhheaginddaa.fr
