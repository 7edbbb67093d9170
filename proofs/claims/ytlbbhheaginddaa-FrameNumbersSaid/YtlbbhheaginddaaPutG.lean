/-
  frame.Put: frames that may be.
-/
import Derived.Test.YtlbbhheaginddaaPutF
namespace Go.Proofs.Ytlbbhheaginddaa.fr
open Go.RowKit Go.Proofs.Ytlbbhheaginddaa.mem Go.Proofs.Ytlbbhheaginddaa.kit Go.Proofs.Ytlbbhheaginddaa.wire Go.Proofs.Ytlbbhheaginddaa.crc
set_option linter.unusedVariables false

/-- A frame as it is handed in. -/
structure Fi where
  kind : Int
  A : Option Addr
  c : Nat
  data : List UInt8
def Fi.fr (x : Fi) : Fr := (UInt8.ofNat x.kind.toNat, x.data)
def Fi.Ok (x : Fi) : Prop := 0 ≤ x.kind ∧ x.kind ≤ 255 ∧ x.data.length ≤ 262144
theorem Fi.Ok.kind {x : Fi} (h : x.Ok) : x.kind = (x.fr.1.toNat : Int) := by
  unfold Fi.fr
  rw [UInt8.toNat_ofNat']
  have := h.1
  have := h.2.1
  omega
/-- Frames in a row of two cells each. -/
def FrArr (w : World) (A : Option Addr) (fs : List Fi) : Prop :=
  ∀ (i : Nat) (h : i < fs.length), ∃ g, A = some ⟨g, 0, none⟩ ∧ g < w.heap.size ∧ w.cell? ⟨g, i * 2, none⟩ = some (.int .i64 fs[i].kind) ∧ w.cell? ⟨g, i * 2 + 1, none⟩ = some (.slice fs[i].A fs[i].data.length fs[i].c) ∧ Reads w w.heap.size 1 fs[i].A fs[i].data.length (vb fs[i].data)

/-- A part: old, or a row of the call's own. -/
def Pt (B : Nat) (w : World) (v : Value) (l : List UInt8) : Prop :=
  ∃ A c, v = .slice A l.length c ∧ (Reads w B 1 A l.length (vb l) ∨ w.ownsRow B 5 1 (.slice A l.length c) l.length (vb l))
def PtS (B : Nat) (vs : List Value) (ls : List (List UInt8)) (w : World) : Prop := vs.length = ls.length ∧ ∀ (k : Nat) (h : k < ls.length), ∃ v, vs[k]? = some v ∧ Pt B w v ls[k]
theorem Pt.ch {B : Nat} {w w' : World} {v : Value} {l : List UInt8} {S : Nat → Prop} (h : Pt B w v l) (hB : B ≤ w.heap.size) (hch : Ch S w w') (hS : ∀ j, j < w.heap.size → S j → B ≤ j ∧ ∃ t cs, Blk w j t cs ∧ 5 ≠ t) : Pt B w' v l := by
  obtain ⟨A, c, rfl, h | h⟩ := h
  · exact ⟨A, c, rfl, Or.inl (h.below (hch.below hB (fun k hk e => (hS k hk e).1)))⟩
  · refine ⟨A, c, rfl, Or.inr (own_ch h hch (fun j hj e => ?_))⟩
    obtain ⟨_, cs, hb⟩ := own_cells h hj
    obtain ⟨_, t, cs', hb', ht⟩ := hS j hb.lt e
    exact hb.ne_ hb' ht rfl
theorem PtS.ch {B : Nat} {w w' : World} {vs : List Value} {ls : List (List UInt8)} {S : Nat → Prop} (h : PtS B vs ls w) (hB : B ≤ w.heap.size) (hch : Ch S w w') (hS : ∀ j, j < w.heap.size → S j → B ≤ j ∧ ∃ t cs, Blk w j t cs ∧ 5 ≠ t) : PtS B vs ls w' :=
  ⟨h.1, fun k hk => by obtain ⟨v, e, hp⟩ := h.2 k hk; exact ⟨v, e, hp.ch hB hch hS⟩⟩
theorem PtS.new {B : Nat} {w w' : World} {vs : List Value} {ls : List (List UInt8)} (h : PtS B vs ls w) (hB : B ≤ w.heap.size) (hn : New w w') : PtS B vs ls w' :=
  h.ch hB (Ch.of_new (S := fun _ => False) hn) (fun _ _ e => e.elim)
theorem PtS.nil (B : Nat) (w : World) : PtS B [] [] w := ⟨rfl, fun k h => absurd h (by simp)⟩
theorem PtS.snoc {B : Nat} {w : World} {vs : List Value} {ls : List (List UInt8)} {v : Value} {l : List UInt8} (h : PtS B vs ls w) (hp : Pt B w v l) : PtS B (vs ++ [v]) (ls ++ [l]) w := by
  refine ⟨by simp [h.1], fun k hk => ?_⟩
  by_cases hlt : k < ls.length
  · obtain ⟨u, e, hu⟩ := h.2 k hlt
    exact ⟨u, by rw [List.getElem?_append_left (by rw [h.1]; exact hlt)]; exact e, by rw [List.getElem_append_left hlt]; exact hu⟩
  · have : k = ls.length := by simp at hk; omega
    subst this
    exact ⟨v, by rw [List.getElem?_append_right (by rw [h.1]; exact Nat.le_refl _)]; simp [h.1], by simpa using hp⟩
theorem PtS.parts {B : Nat} {w : World} {vs : List Value} {ls : List (List UInt8)} (h : PtS B vs ls w) (hB : B ≤ w.heap.size) : Parts w vs ls :=
  ⟨h.1, fun k hk => by
    obtain ⟨v, e, A, c, rfl, hr | ho⟩ := h.2 k hk
    · exact ⟨A, c, e, hr.more hB⟩
    · exact ⟨A, c, e, (own_typed ho).2.1⟩⟩

/-- The parts of frames. -/
def pls (fs : List Fi) : List (List UInt8) := (fs.map fun x => [head9 x.fr, x.data]).flatten
theorem pls_snoc (fs : List Fi) (x : Fi) : pls (fs ++ [x]) = pls fs ++ [head9 x.fr] ++ [x.data] := by simp [pls]
theorem pls_len (fs : List Fi) : (pls fs).length = 2 * fs.length := by
  induction fs with
  | nil => rfl
  | cons a t ih => simp [pls] at ih ⊢; omega
theorem pls_cat (fs : List Fi) : (pls fs).flatten = fbs (fs.map Fi.fr) := by
  induction fs with
  | nil => rfl
  | cons a t ih => rw [List.map_cons, fbs_cons, ← ih]; simp [pls, fb, Fi.fr]

/-- Put while it goes on. -/
structure PS (w : World) (fs : List Fi) (k : Nat) (v : Value) (wr : World) : Prop where
  new : New w wr
  row : ∃ vs, wr.ownsRow (w.heap.size + 2) 24 1 v (2 * k) vs ∧ PtS w.heap.size vs (pls (fs.take k)) wr
  r2 : Blk wr w.heap.size 24 #[.slice none 0 0]
  r3 : Blk wr (w.heap.size + 1) 28 #[.int .i64 0]
theorem PS.keep {w wr w' : World} {fs : List Fi} {k : Nat} {v : Value} (h : PS w fs k v wr) (hn : New wr w') : PS w fs k v w' := by
  obtain ⟨h1, ⟨vs, h2, h3⟩, h4, h5⟩ := h
  exact ⟨New.then h1 hn, ⟨vs, own_new h2 hn, h3.new h1.size hn⟩, h4.below hn h4.lt, h5.below hn h5.lt⟩

theorem PS.step {w w6 w7 w9 : World} {fs : List Fi} {k B7 : Nat} {u v9 : Value} {vs : List Value} {x : Fi} {Ah : Option Addr} {ch : Nat} (hk : k < fs.length) (hx : fs[k] = x) (hp : PS w fs k u w6) (hrow : w6.ownsRow (w.heap.size + 2) 24 1 u (2 * k) vs) (hpts : PtS w.heap.size vs (pls (fs.take k)) w6)
    (hr : Reads w w.heap.size 1 x.A x.data.length (vb x.data)) (hN7 : New w6 w7) (hB7 : w.heap.size ≤ B7) (ho7 : w7.ownsRow B7 5 1 (.slice Ah (head9 x.fr).length ch) (head9 x.fr).length (vb (head9 x.fr)))
    (hown9 : w9.ownsRow (w.heap.size + 2) 24 1 v9 (2 * k + 2) (vs ++ [.slice Ah (head9 x.fr).length ch, .slice x.A x.data.length x.c]))
    (hg9 : (w7.alloc (.cells #[.slice Ah (head9 x.fr).length ch, .slice x.A x.data.length x.c] 24)).grownBy w9 u.ownBlock) : PS w fs (k + 1) v9 w9 := by
  have hN8 : New w6 (w7.alloc (.cells #[.slice Ah (head9 x.fr).length ch, .slice x.A x.data.length x.c] 24)) := New.then hN7 (alloc_new w7 _)
  have ho8 := own_new ho7 (alloc_new w7 (.cells #[.slice Ah (head9 x.fr).length ch, .slice x.A x.data.length x.c] 24))
  have hn8 := New.then hp.new hN8
  have hrow8 := own_new hrow hN8
  have hpts8 := hpts.new hp.new.size hN8
  have hb2 := hp.r2.below hN8 hp.r2.lt
  have hb3 := hp.r3.below hN8 hp.r3.lt
  generalize (w7.alloc (.cells #[.slice Ah (head9 x.fr).length ch, .slice x.A x.data.length x.c] 24)) = w8 at *
  have hch := Ch.of_grown hg9
  have hS : ∀ j, j < w8.heap.size → some j = u.ownBlock → w.heap.size ≤ j ∧ ∃ t cs, Blk w8 j t cs ∧ 5 ≠ t := fun j _ e => by
    obtain ⟨h1, cs, h2⟩ := own_cells hrow8 e.symm
    exact ⟨by omega, _, cs, h2, by decide⟩
  have hn9 : New w w9 := hn8.grown hg9 hn8.size (fun j hj => by have := (own_cells hrow8 hj).1; omega)
  refine ⟨hn9, ⟨_, hown9, ?_⟩, hb2.ch hch (fun e => by have := (own_cells hrow8 e.symm).1; omega), hb3.ch hch (fun e => by have := (own_cells hrow8 e.symm).1; omega)⟩
  rw [← List.take_append_getElem hk, hx, pls_snoc, show vs ++ [Value.slice Ah (head9 x.fr).length ch, .slice x.A x.data.length x.c] = (vs ++ [.slice Ah (head9 x.fr).length ch]) ++ [.slice x.A x.data.length x.c] by simp]
  have ho9 := own_ch ho8 hch (fun j hj e => by
    obtain ⟨_, cs, hb⟩ := own_cells ho8 hj
    obtain ⟨_, t, cs', hb', ht⟩ := hS j hb.lt e
    exact hb.ne_ hb' ht rfl)
  exact ((hpts8.ch hn8.size hch hS).snoc ⟨Ah, ch, rfl, Or.inr (own_base ho9 hB7)⟩).snoc ⟨x.A, x.c, rfl, Or.inl (hr.below hn9)⟩

theorem row_info : (Try.prog.info? 24).map (fun i => (i.zero, i.size, i.bytes)) = some (some (.slice none 0 0), 1, 24) := by kernel_rfl

def PutOk (w : World) (fs : List Fi) (e : Ending) (w' : World) : Prop :=
  ∃ A c, e = .returned (.tuple #[.slice A (fbs (fs.map Fi.fr)).length c, .int .i64 0]) ∧ w'.ownsRow w.heap.size 5 1 (.slice A (fbs (fs.map Fi.fr)).length c) (fbs (fs.map Fi.fr)).length (vb (fbs (fs.map Fi.fr))) ∧ New w w'

set_option maxRecDepth 100000 in
set_option maxHeartbeats 2000000 in
theorem put_ok (A : Option Addr) (n c : Nat) (fs : List Fi) (w : World) (hn : n = fs.length) (hok : ∀ i (h : i < fs.length), fs[i].Ok) (hfl : fs.length ≤ 268435456) (htl : (fbs (fs.map Fi.fr)).length ≤ 1099511627776) (hA : FrArr w A fs) :
    Calls Try.prog 5 #[.slice A n c] w (PutOk w fs) := by
  have hmf : ∀ (fn : Fn) (first cap : Array Value) (w : World), (Instr.makeFunc fn first cap).run Try.prog w = .ok (.func fn first cap) w := fun _ _ _ _ => rfl
  obtain ⟨i0, hi, hz0, hz1, hz2⟩ := info_parts row_info
  have HOK := Lib.hid hok
  have HA := Lib.hid hA
  have HTL := Lib.hid htl
  have HN := Lib.hid hn
  have hnl : n ≤ 268435456 := by omega
  have hP0 : PS w fs 0 (.slice none 0 0) ((w.alloc (.cells #[.slice none 0 0] 24)).alloc (.cells #[.int .i64 0] 28)) :=
    ⟨New.then (alloc_new w _) (alloc_new _ _), ⟨[], World.ownsRow_nil _ _ _ _, PtS.nil _ _⟩, (Blk.new w _ _).alloc _, by have h := Blk.new (w.alloc (.cells #[.slice none 0 0] 24)) 28 #[.int .i64 0]; rwa [World.size_alloc] at h⟩
  have HP0 := Lib.hid hP0
  clear hok hA htl hn hP0 hfl
  go_enter_defers Try.func5, Try.ntmps5
  go_wp2
  go_loopw [4, 10] (fun v i wr => ∃ k : Nat, k ≤ n ∧ i = .int .i64 k ∧ PS w fs k v wr) (fun _ i _ => n - (intOf i).toNat)
  case atStart => exact ⟨0, Nat.zero_le _, rfl, HP0.out⟩
  case round =>
    clear HP0
    obtain ⟨k, hk, rfl, hps⟩ := hrel
    have HPS := Lib.hid hps
    clear hps
    by_cases hlt : k < n
    · have hlf : k < fs.length := by have := HN.out; omega
      obtain ⟨g, rfl, hg, g0, g1, hr⟩ := HA.out k hlf
      have k0 := (HPS.out.new.cell (p := ⟨g, k * 2, none⟩) hg).trans g0
      have k1 := (HPS.out.new.cell (p := ⟨g, k * 2 + 1, none⟩) hg).trans g1
      have HR := Lib.hid hr
      have HX := Lib.hid (HOK.out k hlf)
      obtain ⟨x, hx⟩ : ∃ x, fs[k] = x := ⟨_, rfl⟩
      rw [hx] at k0 k1 HR HX
      have HXK := Lib.hid hx
      clear g0 g1 hr hx hg
      have HM := Lib.hid (must_ok x.kind x.A x.data.length x.c (wr.alloc (.cells #[.int .i64 x.kind, .slice x.A x.data.length x.c] 31)) HX.out.1 HX.out.2.1 HX.out.2.2)
      have HP1 := Lib.hid (HPS.out.keep (alloc_new wr (.cells #[.int .i64 x.kind, .slice x.A x.data.length x.c] 31)))
      have HB1 := Lib.hid (Blk.new wr 31 #[.int .i64 x.kind, .slice x.A x.data.length x.c])
      go_wp2_with (go_at_call 18; (refine HM.out.mono ?_); rintro e w6 ⟨rfl, hn6⟩)
      have HP6 := Lib.hid (HP1.out.keep hn6)
      have HB6 := Lib.hid (HB1.out.below hn6 HB1.out.lt)
      clear HM HP1 HB1 HPS k0 k1 hn6
      obtain ⟨x0, x1, -, -⟩ := fzf HB6.out
      have hkd := HX.out.kind
      have hHD := head_any x.fr x.A x.data.length x.c w6.drew rfl HX.out.2.2 (HR.out.new (Below.drew HP6.out.new))
      rw [← hkd] at hHD
      have HHD := Lib.hid hHD
      clear hkd hHD
      obtain ⟨vs, hrow, hpts⟩ := HP6.out.row
      have HROW := Lib.hid hrow
      have HPTS := Lib.hid hpts
      have hk2 : 2 * k + 2 ≤ maxLen := by unfold maxLen; omega
      have hk3 : (2 * k + 2) * 24 ≤ 140737488355328 := by omega
      have hN6d : New w6 w6.drew := Below.drew (new_refl w6)
      clear hrow hpts
      go_region_held3 (fun w' => w'.cell? ⟨wr.heap.size, 0, none⟩ = some (.int .i64 x.kind) ∧ w'.cell? ⟨wr.heap.size, 1, none⟩ = some (.slice x.A x.data.length x.c))
        (go_keep)
        (first
          | (go_at_call 19; (with_reducible refine HHD.out.mono ?_); rintro e w7 ⟨Ah, ch, rfl, ho7, hn7⟩; have hN7 := New.then hN6d hn7; have HO7 := Lib.hid ho7; clear ho7; obtain ⟨s0, s1, -, -⟩ := fzf (HB6.out.below hN7 HB6.out.lt))
          | (refine step_append_any _ (by rfl) (.tmp 16) (.tmp 21) 46 (by rfl) (w.heap.size + 2) 24 i0 _ 1 24 Try.underlying46 hi hz0 hz1 hz2 rfl (by omega) _ (2 * k) vs (by rfl) (own_new HROW.out (New.then hN7 (alloc_new w7 _))) _ (some ⟨w7.heap.size, 0, none⟩) 2 2 [.slice Ah (head9 x.fr).length ch, .slice x.A x.data.length x.c] (by rfl) (reads_blk (Blk.new w7 24 #[.slice Ah (head9 x.fr).length ch, .slice x.A x.data.length x.c])) (by simp [Value.oneCell']) hk2 hk3 (by have := HP6.out.r3.lt; have := hN7.size; simp; omega) ?_; intro v9 w9 hown9 hg9 hat9; obtain ⟨s0, s1, -, -⟩ := fzf (((HB6.out.below hN7 HB6.out.lt).alloc _).ch (Ch.of_grown hg9) (fun e => by obtain ⟨_, cs, hb⟩ := own_cells HROW.out e.symm; exact hb.ne_ HB6.out (by decide) rfl))))
      go_wp2_with fail
      go_roundw
      case rel =>
        exact ⟨k + 1, by omega, by go_num, HP6.out.step hlf HXK.out HROW.out HPTS.out HR.out hN7 HP6.out.new.size HO7.out hown9 hg9⟩
      case measure => simp [intOf]; omega
    · obtain rfl : k = n := by omega
      obtain ⟨vs, hrow, hpts⟩ := HPS.out.row
      rw [HN.out, List.take_length] at hpts
      have hlen := pls_len fs
      obtain ⟨Av, cv, rfl, hcv, -, hrd⟩ := own_len hrow
      rw [show 2 * k = (pls fs).length by rw [hlen, HN.out]] at hrd ⊢
      have hcc := concat_any Av cv vs (pls fs) wr (hpts.parts HPS.out.new.size) hrd (by rw [hlen, ← HN.out]; omega) (by rw [pls_cat]; exact HTL.out)
      rw [pls_cat] at hcc
      have HCC := Lib.hid hcc
      clear hcc hrd hpts hrow hcv hlen
      go_wp2_with (go_at_call 20; (refine HCC.out.mono ?_); rintro e w7 ⟨Ac, cc, rfl, hoc, hnc⟩; have hP7 := HPS.out.keep hnc; have k2 : w7.cell? ⟨w.heap.size, 0, none⟩ = some (.slice none 0 0) := (hP7.r2.cell 0).trans rfl; have k3 : w7.cell? ⟨w.heap.size + 1, 0, none⟩ = some (.int .i64 0) := (hP7.r3.cell 0).trans rfl; have z2 := hP7.r2.frozen 0; have z3 := hP7.r3.frozen 0; have HOC := Lib.hid hoc; have HP7 := Lib.hid hP7; have HNC := Lib.hid hnc; clear hoc hP7 hnc)
      refine leaves_cons (f := 17) (args := #[.pointer (some ⟨w.heap.size, 0, none⟩), .pointer (some ⟨w.heap.size + 1, 0, none⟩)]) (by simp) (by simp [go_sem]) ?_
      refine (catch_idle ⟨w.heap.size, 0, none⟩ ⟨w.heap.size + 1, 0, none⟩ _).mono ?_
      rintro e u' w'' ⟨rfl, rfl, rfl⟩
      have a2 := HP7.out.r2.set_ 0 (.slice Ac (fbs (fs.map Fi.fr)).length cc)
      have a3 := HP7.out.r3.far (p := ⟨w.heap.size, 0, none⟩) (by simp) (.slice Ac (fbs (fs.map Fi.fr)).length cc)
      have c1 : Ch (fun j => j = w.heap.size) w7 (w7.setCell ⟨w.heap.size, 0, none⟩ (.slice Ac (fbs (fs.map Fi.fr)).length cc)) := (Ch.refl (fun j => j = w.heap.size) w7).setCell (p := ⟨w.heap.size, 0, none⟩) (fun _ => rfl) _
      have o1 := own_ch HOC.out c1 (fun j hj e => own_blk_ne HOC.out HP7.out.r2 (by decide) (hj.trans (congrArg some e)))
      have n1 : New w (w7.setCell ⟨w.heap.size, 0, none⟩ (.slice Ac (fbs (fs.map Fi.fr)).length cc)) := HP7.out.new.setCell (p := ⟨w.heap.size, 0, none⟩) (Nat.le_refl _) _
      generalize (w7.setCell ⟨w.heap.size, 0, none⟩ (.slice Ac (fbs (fs.map Fi.fr)).length cc)) = w8 at *
      have b2 := a2.far (p := ⟨w.heap.size + 1, 0, none⟩) (by simp) (.int .i64 0)
      have b3 := a3.set_ 0 (.int .i64 0)
      have c2 : Ch (fun j => j = w.heap.size + 1) w8 (w8.setCell ⟨w.heap.size + 1, 0, none⟩ (.int .i64 0)) := (Ch.refl (fun j => j = w.heap.size + 1) w8).setCell (p := ⟨w.heap.size + 1, 0, none⟩) (fun _ => rfl) _
      have o2 := own_ch o1 c2 (fun j hj e => own_blk_ne o1 a3 (by decide) (hj.trans (congrArg some e)))
      have n2 : New w (w8.setCell ⟨w.heap.size + 1, 0, none⟩ (.int .i64 0)) := n1.setCell (p := ⟨w.heap.size + 1, 0, none⟩) (Nat.le_succ _) _
      generalize (w8.setCell ⟨w.heap.size + 1, 0, none⟩ (.int .i64 0)) = w9 at *
      have d2 : w9.cell? ⟨w.heap.size, 0, none⟩ = some (.slice Ac (fbs (fs.map Fi.fr)).length cc) := (b2.cell 0).trans rfl
      have d3 : w9.cell? ⟨w.heap.size + 1, 0, none⟩ = some (.int .i64 0) := (b3.cell 0).trans rfl
      refine ⟨.tuple #[.slice Ac (fbs (fs.map Fi.fr)).length cc, .int .i64 0], by simp [results, Try.results5, go_sem, d2, d3], Ac, cc, rfl, own_base o2 HPS.out.new.size, n2⟩
end Go.Proofs.Ytlbbhheaginddaa.fr
