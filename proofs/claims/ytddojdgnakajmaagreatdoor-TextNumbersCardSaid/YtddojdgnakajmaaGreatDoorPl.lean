/-
  The document's Parse: an instruction.
-/
import Derived.Test.YtddojdgnakajmaaGreatDoorPk
import Derived.BigRegion
namespace Go.Proofs.YtddojdgnakajmaaGreatDoor.txt
open Go.RowKit Go.Proofs.YtddojdgnakajmaaGreatDoor.mem Go.Proofs.YtddojdgnakajmaaGreatDoor.kit Go.Proofs.YtddojdgnakajmaaGreatDoor.ins
set_option linter.unusedVariables false
set_option linter.unusedSimpArgs false

def zI : In := ⟨0, false, 0, 0, false, 0, 0, 0⟩
/-- A line's reader in memory, no instruction beside it yet. -/
structure SL0 (g : Nat) (s : Ls) (w : World) : Prop where
  row : ∃ v base, Blk w g 122 #[v, .int .i64 (s.k : Int), .bool s.bad] ∧ w.ownsRow base 9 1 v s.ts.length (vs s.ts)
  few : s.ts.length ≤ 1000000000
  tok : ∀ t ∈ s.ts, t.length ≤ 1000000000
  pow : PowT w
theorem SL0.start {g : Nat} {s : Ls} {w : World} (h : SL0 g s w) : SL ⟨w.alloc (.cells (icell zI) 41), g, w.heap.size⟩ (inI s zI) (w.alloc (.cells (icell zI) 41)) := by
  obtain ⟨v, base, hb, ho⟩ := h.row
  have n1 := new1 w (.cells (icell zI) 41)
  exact ⟨⟨v, base, hb.below n1 hb.lt, own_new ho n1⟩, h.few, h.tok, Blk.new w 41 (icell zI), Ch.refl _ _, h.pow.new n1⟩
/-- The instruction's own block, and the result's left as it was. -/
theorem SL.again {w0 w : World} {g r : Nat} {s : Ls} (h : SL ⟨w0, g, r⟩ s w) (hr : Blk w0 r 41 (icell s.i)) (j : In) : SL ⟨w0, g, w.heap.size⟩ (inI s j) (w.alloc (.cells (icell j) 41)) := by
  obtain ⟨v, base, hb, ho⟩ := h.row
  have n1 := new1 w (.cells (icell j) 41)
  have hc : Ch (fun j => j = g) w0 w := ⟨h.ch.os, h.ch.tape, h.ch.output, h.ch.size, fun i hi hn => by
    by_cases e : i = r
    · subst e
      exact h.i.trans hr.symm
    · exact h.ch.block i hi (fun hh => hh.elim hn e)⟩
  refine ⟨⟨v, base, hb.below n1 hb.lt, own_new ho n1⟩, h.few, h.tok, Blk.new w 41 (icell j), ?_, h.pow.new n1⟩
  exact (hc.then (Ch.of_new (S := fun _ => False) n1) (fun _ _ hf => hf.elim)).mono (fun i hi e => Or.inl e)

theorem opis_one {t : Bs} {o o' : Int} {n n' : Bool} (h : OpIs t o n) (h' : OpIs t o' n') : o = o' ∧ n = n' := by
  rcases h with ⟨k, hk, h1, h2, rfl⟩ | ⟨h1, rfl, rfl⟩
  · rcases h' with ⟨k', hk', h1', h2', rfl⟩ | ⟨h1', rfl, rfl⟩
    · rcases Nat.lt_trichotomy k k' with e | e | e
      · rw [h2' k e] at h1; cases h1
      · subst e
        rw [h1] at h1'
        cases h1'
        exact ⟨rfl, rfl⟩
      · rw [h2 k' e] at h1'; cases h1'
    · rw [h1' k hk] at h1; cases h1
  · rcases h' with ⟨k', hk', h1', h2', rfl⟩ | ⟨h1', rfl, rfl⟩
    · rw [h1 k' hk'] at h1'; cases h1'
    · exact ⟨rfl, rfl⟩
theorem opis_some (t : Bs) : ∃ o n, OpIs t o n := by
  have key : ∀ m, m ≤ 27 → (∀ j, j < m → opHit t j = none) ∨ ∃ k n, k < m ∧ opHit t k = some n ∧ ∀ j, j < k → opHit t j = none := by
    intro m
    induction m with
    | zero => intro _; exact .inl fun j h => by omega
    | succ m ih =>
      intro hm
      rcases ih (by omega) with h | ⟨k, n, hk, h1, h2⟩
      · cases hq : opHit t m with
        | none =>
          left
          intro j hj
          by_cases e : j = m
          · rw [e]; exact hq
          · exact h j (by omega)
        | some n => exact .inr ⟨m, n, by omega, hq, h⟩
      · exact .inr ⟨k, n, by omega, h1, h2⟩
  rcases key 27 (Nat.le_refl _) with h | ⟨k, n, hk, h1, h2⟩
  · exact ⟨0, false, .inr ⟨h, rfl, rfl⟩⟩
  · exact ⟨(k : Int) + 1, n, .inl ⟨k, hk, h1, h2, rfl⟩⟩
theorem rop_is (t : Bs) (o : Int) (n : Bool) (w : World) (h : OpIs t o n) : Calls Tryz.prog 109 #[.string ⟨t.toArray⟩] w fun e w' => e = .returned (.tuple #[.int .u8 o, .bool n]) ∧ New w w' := by
  refine (rop_any t w).mono ?_
  rintro e w' ⟨o', n', rfl, h', hn⟩
  obtain ⟨rfl, rfl⟩ := opis_one h h'
  exact ⟨rfl, hn⟩
theorem SL.i0 {C : Cl} {s : Ls} {w : World} (h : SL C s w) : (w.cell? ⟨C.gi, 0, none⟩ = some (.int .u8 s.i.op) ∧ w.frozen? ⟨C.gi, 0, none⟩ = false) ∧ w.cell? ⟨C.gi, 1, none⟩ = some (.bool s.i.nar) ∧ w.frozen? ⟨C.gi, 1, none⟩ = false := ⟨⟨(h.i.cell 0).trans rfl, h.i.frozen 0⟩, (h.i.cell 1).trans rfl, h.i.frozen 1⟩
theorem SL.i2 {C : Cl} {s : Ls} {w : World} (h : SL C s w) : w.cell? ⟨C.gi, 2, none⟩ = some (.int .i64 s.i.dst) ∧ w.frozen? ⟨C.gi, 2, none⟩ = false := ⟨(h.i.cell 2).trans rfl, h.i.frozen 2⟩

theorem results_row_tmp {P : Program} {fn : Func} {p u : Tmp} {ty : TypeId} (h : fn.results = #[.cell u ty, .tmp p]) (tmps : Array Value) (w : World) (g : Nat) (t : TypeId) (cs : Array Value) (v : Value) (fr : Nat × Nat) (d : TypeDesc)
    (hp : tmps.getD p undef = v) (hq : tmps.getD u undef = .pointer (some ⟨g, 0, none⟩)) (hg : w.heap[g]? = some (.cells cs t fr))
    (hu : P.underlying ty = some d) (hd : (match d with | .struct _ | .array _ _ => true | _ => false) = true) (hi : (P.info? ty).map (·.size) = some cs.size) :
    (results fn tmps).run P w = .ok (.tuple #[.agg cs, v]) w := by
  have hp' : tmps[p]?.getD undef = v := by simpa using hp
  have hq' : tmps[u]?.getD undef = .pointer (some ⟨g, 0, none⟩) := by simpa using hq
  simp [results, h, hp', hq', asAddr, run_loadVar_row w g t ty cs fr d hg hu hd hi]
/-- The instruction struck out, the result's block laid. -/
theorem SL.done {w0 w : World} {g gi r : Nat} {s : Ls} {cs cs' : Array Value} {u : World} (h : SL ⟨w0, g, gi⟩ s w) (hr : Blk w r 41 cs) (hcs : cs.size = 8) (h0 : New u w0) (hur : u.heap.size ≤ r) (hug : u.heap.size ≤ gi) (j : In) :
    SL0 g (inI s j) (w.drew.setRow r cs') ∧ Ch (fun b => b = g) u (w.drew.setRow r cs') := by
  obtain ⟨v, base, hb, ho⟩ := h.row
  have hc : Ch (fun b => b = r) w (w.drew.setRow r cs') := by
    have h1 := Below.drew (new_refl w)
    exact ⟨h1.os, h1.tape, h1.output, by simp, fun k hk hn => (setRow_other w.drew r k cs' hn).trans (h1.block k hk)⟩
  refine ⟨⟨⟨v, base, hb.ch hc (hb.ne_ hr (by decide)), own_ch ho hc (fun b e hh => ?_)⟩, h.few, h.tok, pow_ch h.pow hc hr (by omega)⟩, ?_⟩
  · obtain ⟨-, cs, hcs⟩ := own_cells ho e
    exact (hcs.ne_ hr (by decide)) hh
  · have h2 : Ch (fun b => b = g) u w := (Ch.of_new (S := fun b => b = g) h0).then h.ch (fun i hi e => e.elim id (fun e => by have e2 : i = gi := e; omega))
    exact h2.then hc (fun i hi e => by have e2 : i = r := e; omega)

/-- What an instruction's reading leaves: its Ins, its label, the reader. -/
def InstD (g : Nat) (R : In → Bs → Ls → Prop) (w : World) (e : Ending) (w' : World) : Prop :=
  ∃ j u s', e = .returned (.tuple #[j.val, .string ⟨u.toArray⟩]) ∧ R j u s' ∧ SL0 g s' w' ∧ Ch (fun b => b = g) w w'

set_option maxRecDepth 100000 in
set_option maxHeartbeats 4000000 in
theorem rinst_neg (g : Nat) (s : Ls) (n : Bool) (w : World) (h : SL0 g s w) (hk : s.k ≤ 100) (ho : OpIs (nx s) 13 n) :
    Calls Tryz.prog 52 #[.pointer (some ⟨g, 0, none⟩)] w (InstD g (fun j u s' => ∃ d, (∀ m, regOf (nx (tkS s)) = some m → d = m) ∧ j = ⟨13, n, d, 0, false, 0, 0, 0⟩ ∧ u = [] ∧ s' = badS (badS (tkS (tkS s)) !(regOf (nx (tkS s))).isSome) (decide (s.k + 2 ≠ s.ts.length))) w) := by
  have HR0 := Lib.hid (Blk.new w 41 (icell zI))
  have k0 : s.k ≤ 1000 := by omega
  have HT : Hid (Calls Tryz.prog 108 #[.pointer (some ⟨g, 0, none⟩)] (w.alloc (.cells #[.int .u8 0, .bool false, .int .i64 0, .int .i64 0, .bool false, .int .i64 0, .int .i64 0, .int .i64 0] 41)) (LsD ⟨w.alloc (.cells #[.int .u8 0, .bool false, .int .i64 0, .int .i64 0, .bool false, .int .i64 0, .int .i64 0, .int .i64 0] 41), g, w.heap.size⟩ (.string ⟨(nx s).toArray⟩) (tkS (inI s zI)))) := Lib.hid (ltake_any _ (inI s zI) _ h.start k0)
  have HO : Hid (∀ W, Calls Tryz.prog 109 #[.string ⟨(nx s).toArray⟩] W fun e w' => e = .returned (.tuple #[.int .u8 13, .bool n]) ∧ New W w') := Lib.hid (fun W => rop_is (nx s) 13 n W ho)
  have HRG : Hid (∀ gi W s1, s1.k ≤ 1000 → SL ⟨w.alloc (.cells #[.int .u8 0, .bool false, .int .i64 0, .int .i64 0, .bool false, .int .i64 0, .int .i64 0, .int .i64 0] 41), g, gi⟩ s1 W → Calls Tryz.prog 110 #[.pointer (some ⟨g, 0, none⟩)] W (LregD ⟨w.alloc (.cells #[.int .u8 0, .bool false, .int .i64 0, .int .i64 0, .bool false, .int .i64 0, .int .i64 0, .int .i64 0] 41), g, gi⟩ s1)) := Lib.hid (fun gi W s1 h1 h2 => lreg_any _ s1 W h2 h1)
  have k1 : (inI (tkS (inI s zI)) ⟨13, n, 0, 0, false, 0, 0, 0⟩).k ≤ 1000 := by show s.k + 1 ≤ 1000; omega
  have hg : g < w.heap.size := by obtain ⟨_, _, hb, _⟩ := h.row; exact hb.lt
  clear h ho
  go_enter Tryz.func52, Tryz.ntmps52
  go_wp2_with (first
    | (go_at_call 108; (with_reducible refine HT.out.mono ?_); rintro e w1 ⟨rfl, h1⟩; have HW1 := Lib.hid h1.ch.size; have H2 : Hid (SL ⟨w.alloc (.cells #[.int .u8 0, .bool false, .int .i64 0, .int .i64 0, .bool false, .int .i64 0, .int .i64 0, .int .i64 0] 41), g, w1.heap.size⟩ (inI (tkS (inI s zI)) zI) (w1.alloc (.cells #[.int .u8 0, .bool false, .int .i64 0, .int .i64 0, .bool false, .int .i64 0, .int .i64 0, .int .i64 0] 41))) := Lib.hid (h1.again HR0.out zI); clear h1)
    | (go_at_call 109; (with_reducible refine (HO.out _).mono ?_); rintro e w3 ⟨rfl, hn3⟩; have h3 := H2.out.new hn3; obtain ⟨⟨p0, z0⟩, p1, z1⟩ := h3.i0; have h4 := h3.seti 0 (.int .u8 13) ⟨13, false, 0, 0, false, 0, 0, 0⟩ rfl; have h5 : SL ⟨w.alloc (.cells #[.int .u8 0, .bool false, .int .i64 0, .int .i64 0, .bool false, .int .i64 0, .int .i64 0, .int .i64 0] 41), g, w1.heap.size⟩ (inI (tkS (inI s zI)) ⟨13, n, 0, 0, false, 0, 0, 0⟩) ((w3.setCell ⟨w1.heap.size, 0, none⟩ (.int .u8 13)).setCell ⟨w1.heap.size, 1, none⟩ (.bool n)) := h4.seti 1 (.bool n) ⟨13, n, 0, 0, false, 0, 0, 0⟩ rfl; have H5 := Lib.hid h5; obtain ⟨⟨y0, yz0⟩, -, -⟩ := h5.i0; clear hn3 h3 h4 h5)
    | (go_at_call 110; (with_reducible refine (HRG.out w1.heap.size _ _ k1 H5.out).mono ?_); rintro e w6 ⟨d, rfl, hi6, hm6, h6⟩; have HM := Lib.hid hm6; obtain ⟨x2, xz2⟩ := h6.i2; have H7 := Lib.hid (h6.seti 2 (.int .i64 d) ⟨13, n, d, 0, false, 0, 0, 0⟩ rfl); clear hi6 hm6 h6))
  obtain ⟨o, hh⟩ : ∃ o, regOf (nx (tkS s)) = o := ⟨_, rfl⟩
  have HM2 : Hid (∀ m, o = some m → d = m) := Lib.hid (by rw [← hh]; exact HM.out)
  obtain ⟨b, hb⟩ : ∃ b, (s.bad || !o.isSome) = b := ⟨_, rfl⟩
  have H8 : Hid (SL ⟨w.alloc (.cells #[.int .u8 0, .bool false, .int .i64 0, .int .i64 0, .bool false, .int .i64 0, .int .i64 0, .int .i64 0] 41), g, w1.heap.size⟩ (inI (badS (tkS (tkS s)) !o.isSome) ⟨13, n, d, 0, false, 0, 0, 0⟩) (w6.setCell ⟨w1.heap.size, 2, none⟩ (.int .i64 d))) := Lib.hid (by rw [← hh]; exact H7.out)
  clear HM H7 HT HO HRG H2 H5
  obtain ⟨v, base, hrow, hown⟩ := H8.out.row
  obtain ⟨A, c, rfl, hc1, hc2, -⟩ := own_len hown
  have HROW := Lib.hid hrow
  have f0 := (hrow.cell 0).trans (show _ = some _ from rfl)
  have f1 := (hrow.cell 1).trans (show _ = some _ from rfl)
  have f2 := (hrow.cell 2).trans (show _ = some _ from rfl)
  have fz := hrow.frozen 2
  change World.cell? _ _ = some (.slice A s.ts.length c) at f0
  change World.cell? _ _ = some (.int .i64 ((s.k + 2 : Nat) : Int)) at f1
  change World.cell? _ _ = some (.bool (s.bad || !o.isSome)) at f2
  rw [hb] at f2
  have HOWN := Lib.hid hown
  clear hrow hown
  generalize w6.setCell ⟨w1.heap.size, 2, none⟩ (.int .i64 d) = w7 at *
  cases b with
  | true =>
    have h9 := H8.out.bad_ true
    rw [Bool.or_true] at h9
    have hgi := h9.i
    have e0 : (w7.setCell ⟨g, 2, none⟩ (.bool true)).cell? ⟨w1.heap.size, 0, none⟩ = some (.int .u8 13) := (hgi.cell 0).trans rfl
    have e1 : (w7.setCell ⟨g, 2, none⟩ (.bool true)).cell? ⟨w1.heap.size, 1, none⟩ = some (.bool n) := (hgi.cell 1).trans rfl
    have e2 : (w7.setCell ⟨g, 2, none⟩ (.bool true)).cell? ⟨w1.heap.size, 2, none⟩ = some (.int .i64 d) := (hgi.cell 2).trans rfl
    have e3 : (w7.setCell ⟨g, 2, none⟩ (.bool true)).cell? ⟨w1.heap.size, 3, none⟩ = some (.int .i64 0) := (hgi.cell 3).trans rfl
    have e4 : (w7.setCell ⟨g, 2, none⟩ (.bool true)).cell? ⟨w1.heap.size, 4, none⟩ = some (.bool false) := (hgi.cell 4).trans rfl
    have e5 : (w7.setCell ⟨g, 2, none⟩ (.bool true)).cell? ⟨w1.heap.size, 5, none⟩ = some (.int .i64 0) := (hgi.cell 5).trans rfl
    have e6 : (w7.setCell ⟨g, 2, none⟩ (.bool true)).cell? ⟨w1.heap.size, 6, none⟩ = some (.int .i64 0) := (hgi.cell 6).trans rfl
    have e7 : (w7.setCell ⟨g, 2, none⟩ (.bool true)).cell? ⟨w1.heap.size, 7, none⟩ = some (.int .i64 0) := (hgi.cell 7).trans rfl
    have HR8 : Hid (Blk (w7.setCell ⟨g, 2, none⟩ (.bool true)) w.heap.size 41 (icell zI)) := Lib.hid (HR0.out.ch h9.ch (fun e => e.elim (fun e => by have e2 : w.heap.size = g := e; omega) (fun e => by have e2 : w.heap.size = w1.heap.size := e; have := HW1.out; rw [World.size_alloc] at this; omega)))
    have H9 := Lib.hid h9
    clear h9 hgi
    go_region
    all_goals go_wp2_with (refine wpList_store_row rfl 41 _ _ rfl w.heap.size #[.int .u8 13, .bool n, .int .i64 d, .int .i64 0, .bool false, .int .i64 0, .int .i64 0, .int .i64 0] rfl rfl 41 _ HR8.out.drew ins_size rfl (by simp [Value.oneCell']) ?_)
    refine bodyPost_ret (results_row_tmp rfl _ _ w.heap.size 41 #[.int .u8 13, .bool n, .int .i64 d, .int .i64 0, .bool false, .int .i64 0, .int .i64 0, .int .i64 0] _ (0, 0) _ rfl rfl (setRow_heap _ _ _ _ _ _ HR8.out.drew) Tryz.underlying41 rfl ins_size) rfl ?_
    obtain ⟨q1, q2⟩ := H9.out.done HR8.out rfl (new1 w _) (Nat.le_refl _) (by have := HW1.out; rw [World.size_alloc] at this; omega) s.i
    have eo : o.isNone = !o.isSome := by cases o <;> rfl
    have hbt : (badS (tkS (tkS s)) !o.isSome).bad = true := hb
    refine ⟨⟨13, n, d, 0, false, 0, 0, 0⟩, [], badS (badS (tkS (tkS s)) !o.isSome) true, rfl, ⟨d, HM2.out, rfl, rfl, ?_⟩, q1, q2⟩
    first
      | exact badS_true hbt _ _
      | (rw [eo]; exact badS_true hbt _ _)
  | false =>
    by_cases hq : s.k + 2 = s.ts.length
    ·
      have u1 : ((s.k + 2 : Nat) : Int) = (s.ts.length : Int) := by omega
      have u2 : ((s.k : Int) + 2 == (s.ts.length : Int)) = true := beq_iff_eq.2 (by omega)
      have h9 := H8.out.bad_ false
      rw [show (inI (badS (tkS (tkS s)) !o.isSome) ⟨13, n, d, 0, false, 0, 0, 0⟩).bad = false from hb, Bool.false_or] at h9
      have hgi := h9.i
      have e0 : (w7.setCell ⟨g, 2, none⟩ (.bool false)).cell? ⟨w1.heap.size, 0, none⟩ = some (.int .u8 13) := (hgi.cell 0).trans rfl
      have e1 : (w7.setCell ⟨g, 2, none⟩ (.bool false)).cell? ⟨w1.heap.size, 1, none⟩ = some (.bool n) := (hgi.cell 1).trans rfl
      have e2 : (w7.setCell ⟨g, 2, none⟩ (.bool false)).cell? ⟨w1.heap.size, 2, none⟩ = some (.int .i64 d) := (hgi.cell 2).trans rfl
      have e3 : (w7.setCell ⟨g, 2, none⟩ (.bool false)).cell? ⟨w1.heap.size, 3, none⟩ = some (.int .i64 0) := (hgi.cell 3).trans rfl
      have e4 : (w7.setCell ⟨g, 2, none⟩ (.bool false)).cell? ⟨w1.heap.size, 4, none⟩ = some (.bool false) := (hgi.cell 4).trans rfl
      have e5 : (w7.setCell ⟨g, 2, none⟩ (.bool false)).cell? ⟨w1.heap.size, 5, none⟩ = some (.int .i64 0) := (hgi.cell 5).trans rfl
      have e6 : (w7.setCell ⟨g, 2, none⟩ (.bool false)).cell? ⟨w1.heap.size, 6, none⟩ = some (.int .i64 0) := (hgi.cell 6).trans rfl
      have e7 : (w7.setCell ⟨g, 2, none⟩ (.bool false)).cell? ⟨w1.heap.size, 7, none⟩ = some (.int .i64 0) := (hgi.cell 7).trans rfl
      have HR8 : Hid (Blk (w7.setCell ⟨g, 2, none⟩ (.bool false)) w.heap.size 41 (icell zI)) := Lib.hid (HR0.out.ch h9.ch (fun e => e.elim (fun e => by have e2 : w.heap.size = g := e; omega) (fun e => by have e2 : w.heap.size = w1.heap.size := e; have := HW1.out; rw [World.size_alloc] at this; omega)))
      have H9 := Lib.hid h9
      clear h9 hgi
      go_region
      all_goals go_wp2_with (refine wpList_store_row rfl 41 _ _ rfl w.heap.size #[.int .u8 13, .bool n, .int .i64 d, .int .i64 0, .bool false, .int .i64 0, .int .i64 0, .int .i64 0] rfl rfl 41 _ HR8.out.drew ins_size rfl (by simp [Value.oneCell']) ?_)
      refine bodyPost_ret (results_row_tmp rfl _ _ w.heap.size 41 #[.int .u8 13, .bool n, .int .i64 d, .int .i64 0, .bool false, .int .i64 0, .int .i64 0, .int .i64 0] _ (0, 0) _ rfl rfl (setRow_heap _ _ _ _ _ _ HR8.out.drew) Tryz.underlying41 rfl ins_size) rfl ?_
      obtain ⟨q1, q2⟩ := H9.out.done HR8.out rfl (new1 w _) (Nat.le_refl _) (by have := HW1.out; rw [World.size_alloc] at this; omega) s.i
      have eo : o.isNone = !o.isSome := by cases o <;> rfl
      refine ⟨⟨13, n, d, 0, false, 0, 0, 0⟩, [], badS (badS (tkS (tkS s)) !o.isSome) false, rfl, ⟨d, HM2.out, rfl, rfl, ?_⟩, q1, q2⟩
      simp [hq]
    ·
      have u1 : ¬ ((s.k + 2 : Nat) : Int) = (s.ts.length : Int) := by omega
      have u2 : ((s.k : Int) + 2 == (s.ts.length : Int)) = false := beq_eq_false_iff_ne.2 (by omega)
      have u3 : ((s.k : Int) + 2 != (s.ts.length : Int)) = true := by rw [bne, u2]; rfl
      have u4 : ¬ (s.k : Int) + 2 = (s.ts.length : Int) := by omega
      have h9 := H8.out.bad_ true
      rw [show (inI (badS (tkS (tkS s)) !o.isSome) ⟨13, n, d, 0, false, 0, 0, 0⟩).bad = false from hb, Bool.false_or] at h9
      have hgi := h9.i
      have e0 : (w7.setCell ⟨g, 2, none⟩ (.bool true)).cell? ⟨w1.heap.size, 0, none⟩ = some (.int .u8 13) := (hgi.cell 0).trans rfl
      have e1 : (w7.setCell ⟨g, 2, none⟩ (.bool true)).cell? ⟨w1.heap.size, 1, none⟩ = some (.bool n) := (hgi.cell 1).trans rfl
      have e2 : (w7.setCell ⟨g, 2, none⟩ (.bool true)).cell? ⟨w1.heap.size, 2, none⟩ = some (.int .i64 d) := (hgi.cell 2).trans rfl
      have e3 : (w7.setCell ⟨g, 2, none⟩ (.bool true)).cell? ⟨w1.heap.size, 3, none⟩ = some (.int .i64 0) := (hgi.cell 3).trans rfl
      have e4 : (w7.setCell ⟨g, 2, none⟩ (.bool true)).cell? ⟨w1.heap.size, 4, none⟩ = some (.bool false) := (hgi.cell 4).trans rfl
      have e5 : (w7.setCell ⟨g, 2, none⟩ (.bool true)).cell? ⟨w1.heap.size, 5, none⟩ = some (.int .i64 0) := (hgi.cell 5).trans rfl
      have e6 : (w7.setCell ⟨g, 2, none⟩ (.bool true)).cell? ⟨w1.heap.size, 6, none⟩ = some (.int .i64 0) := (hgi.cell 6).trans rfl
      have e7 : (w7.setCell ⟨g, 2, none⟩ (.bool true)).cell? ⟨w1.heap.size, 7, none⟩ = some (.int .i64 0) := (hgi.cell 7).trans rfl
      have HR8 : Hid (Blk (w7.setCell ⟨g, 2, none⟩ (.bool true)) w.heap.size 41 (icell zI)) := Lib.hid (HR0.out.ch h9.ch (fun e => e.elim (fun e => by have e2 : w.heap.size = g := e; omega) (fun e => by have e2 : w.heap.size = w1.heap.size := e; have := HW1.out; rw [World.size_alloc] at this; omega)))
      have H9 := Lib.hid h9
      clear h9 hgi
      go_region
      all_goals go_wp2_with (refine wpList_store_row rfl 41 _ _ rfl w.heap.size #[.int .u8 13, .bool n, .int .i64 d, .int .i64 0, .bool false, .int .i64 0, .int .i64 0, .int .i64 0] rfl rfl 41 _ HR8.out.drew ins_size rfl (by simp [Value.oneCell']) ?_)
      refine bodyPost_ret (results_row_tmp rfl _ _ w.heap.size 41 #[.int .u8 13, .bool n, .int .i64 d, .int .i64 0, .bool false, .int .i64 0, .int .i64 0, .int .i64 0] _ (0, 0) _ rfl rfl (setRow_heap _ _ _ _ _ _ HR8.out.drew) Tryz.underlying41 rfl ins_size) rfl ?_
      obtain ⟨q1, q2⟩ := H9.out.done HR8.out rfl (new1 w _) (Nat.le_refl _) (by have := HW1.out; rw [World.size_alloc] at this; omega) s.i
      have eo : o.isNone = !o.isSome := by cases o <;> rfl
      refine ⟨⟨13, n, d, 0, false, 0, 0, 0⟩, [], badS (badS (tkS (tkS s)) !o.isSome) true, rfl, ⟨d, HM2.out, rfl, rfl, ?_⟩, q1, q2⟩
      simp [hq]
end Go.Proofs.YtddojdgnakajmaaGreatDoor.txt
