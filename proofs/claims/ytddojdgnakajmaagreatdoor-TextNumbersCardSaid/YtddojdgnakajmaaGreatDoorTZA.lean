/-
  Contracts of text: join.
-/
import Derived.Test.YtddojdgnakajmaaGreatDoorTY
import Derived.BigQuiet
import Derived.Deep.QuietTactic
namespace Go.Proofs.YtddojdgnakajmaaGreatDoor.txt
open Go.RowKit Go.Proofs.YtddojdgnakajmaaGreatDoor.mem Go.Proofs.YtddojdgnakajmaaGreatDoor.kit Go.Proofs.YtddojdgnakajmaaGreatDoor.ins
set_option linter.unusedVariables false
set_option linter.unusedSimpArgs false

/-- As it may be. -/
structure FM.Ok (s : FM) : Prop where
  i : s.is.length ≤ 4096
  j : s.js.length ≤ s.is.length
  l : ∀ p ∈ s.ls, p.2 ≤ s.is.length
  k : ∀ p ∈ s.js, p.2.1 < s.is.length
theorem fault_size : (Tryz.prog.info? 26).map (·.size) = some 2 := by kernel_rfl
theorem lab_mem {k : Bs} {m : Nat} : ∀ {l : List (Bs × Nat)}, lab k l = some m → ∃ p ∈ l, p.2 = m
  | [], h => by cases h
  | p :: l, h => by
    simp only [lab] at h
    split at h
    · injection h with h
      exact ⟨p, List.mem_cons_self .., h⟩
    · obtain ⟨q, hq, e⟩ := lab_mem h
      exact ⟨q, List.mem_cons_of_mem _ hq, e⟩
/-- While jumps are joined. -/
structure JS (w0 w : World) (g bm bl : Nat) (is : List In) (ls : List (Bs × Nat)) (js : List (Int × Nat × Bs)) (b c bj d : Nat) (wr : World) : Prop where
  f : FS w0 g bm bl ⟨is, ls, js⟩ (.slice (some ⟨b, 0, none⟩) is.length c) (.slice (some ⟨bj, 0, none⟩) js.length d) wr
  r : Blk wr w.heap.size 26 #[.int .i64 0, .int .i64 0]
def JoinD (w0 : World) (g bm bl : Nat) (ls : List (Bs × Nat)) (js : List (Int × Nat × Bs)) (x : Int × Int × List In) (e : Ending) (w' : World) : Prop :=
  e = .returned (.agg #[.int .i64 x.1, .int .i64 x.2.1]) ∧ FX w0 g bm bl ⟨x.2.2, ls, js⟩ w'
theorem FS.far {w0 w w' : World} {g bm bl r : Nat} {s : FM} {vl vj : Value} {cs : Array Value} (h : FS w0 g bm bl s vl vj w) (hr : Blk w r 26 cs) (h0 : w0.heap.size ≤ r) (hc : Ch (fun j => j = r) w w') : FS w0 g bm bl s vl vj w' :=
  ⟨h.fb.ch hc (fun e => h.fb.ne_ hr (by decide) e), own_ch h.lo hc (fun j hj e => own_blk_not h.lo hr (by decide) ((congrArg some (show j = r from e)).symm.trans hj.symm)), own_ch h.jo hc (fun j hj e => own_blk_not h.jo hr (by decide) ((congrArg some (show j = r from e)).symm.trans hj.symm)),
    h.wm.ch hc (fun e => h.wm.ne hr e), h.lm.ch hc (fun e => h.lm.ne hr e), h.ne, h.new.then hc (fun j hj e => by have e' : j = r := e; omega)⟩
theorem JS.done {w0 w wr : World} {g bm bl b c bj d : Nat} {is : List In} {ls : List (Bs × Nat)} {js : List (Int × Nat × Bs)} (h : JS w0 w g bm bl is ls js b c bj d wr) (h0 : w0.heap.size ≤ w.heap.size) (y z : Int) :
    JoinD w0 g bm bl ls js (y, z, is) (.returned (.agg #[.int .i64 y, .int .i64 z])) (wr.setRow w.heap.size #[.int .i64 y, .int .i64 z]) :=
  ⟨rfl, _, _, h.f.far h.r h0 (ch_setRow _ _ _)⟩
theorem JS.keep {w0 w wr wr' : World} {g bm bl b c bj d : Nat} {is : List In} {ls : List (Bs × Nat)} {js : List (Int × Nat × Bs)} (h : JS w0 w g bm bl is ls js b c bj d wr) (hn : New wr wr') : JS w0 w g bm bl is ls js b c bj d wr' := ⟨h.f.keep hn, h.r.below hn h.r.lt⟩

set_option maxRecDepth 100000 in
set_option maxHeartbeats 1000000 in
theorem join_none (g bm bl : Nat) (is : List In) (ls : List (Bs × Nat)) (w0 w : World) (h : FX w0 g bm bl ⟨is, ls, []⟩ w) :
    Calls Tryz.prog 17 #[.pointer (some ⟨g, 0, none⟩)] w (JoinD w0 g bm bl ls [] (0, 0, is)) := by
  obtain ⟨vl, vj, h⟩ := h
  obtain ⟨B, d, rfl, -, -, -⟩ := own_len h.jo
  have h1 := h.keep (new1 w (.cells #[.int .i64 0, .int .i64 0] 26))
  obtain ⟨c0, c1, c2, c3⟩ := h1.cells
  have HB := Lib.hid (Blk.new w 26 #[.int .i64 0, .int .i64 0])
  have H := Lib.hid h1
  simp only [List.length_nil] at c3
  clear h h1
  go_enter Tryz.func17, Tryz.ntmps17
  go_wp2
  refine wp_loop_rounds 1 ?_
  rw [rounds_succ]
  go_wp2
  refine bodyPost_ret (results_cell_row rfl _ _ w.heap.size 26 #[.int .i64 0, .int .i64 0] (0, 0) _ rfl HB.out Tryz.underlying26 rfl fault_size) rfl ?_
  exact ⟨rfl, _, _, H.out⟩

set_option maxRecDepth 100000 in
set_option maxHeartbeats 10000000 in
theorem join_some (g bm bl : Nat) (is : List In) (ls : List (Bs × Nat)) (js : List (Int × Nat × Bs)) (w0 w : World) (h : FX w0 g bm bl ⟨is, ls, js⟩ w) (hok : FM.Ok ⟨is, ls, js⟩) (h0 : 0 < js.length) :
    Calls Tryz.prog 17 #[.pointer (some ⟨g, 0, none⟩)] w (JoinD w0 g bm bl ls js (joinM ls is js)) := by
  obtain ⟨vl, vj, h⟩ := h
  obtain ⟨o1, o2, o3, o4⟩ := hok
  simp only at o1 o2 o3 o4
  obtain ⟨b, c, rfl⟩ := h.some_ (by omega)
  obtain ⟨bj, d, rfl⟩ := h.somej h0
  have h1 := h.keep (new1 w (.cells #[.int .i64 0, .int .i64 0] 26))
  have hst : JS w0 w g bm bl is ls js b c bj d (w.alloc (.cells #[.int .i64 0, .int .i64 0] 26)) := ⟨h1, Blk.new w _ _⟩
  obtain ⟨c0, c1, c2, c3⟩ := h1.cells
  obtain ⟨N, hN⟩ : ∃ N, is.length = N := ⟨_, rfl⟩
  obtain ⟨X, hX⟩ : ∃ X, joinM ls is js = X := ⟨_, rfl⟩
  rw [hX]
  have O3 := Lib.hid o3
  have O4 := Lib.hid o4
  have HW0 : Hid (w0.heap.size ≤ w.heap.size) := Lib.hid h.new.size
  clear h h1 o3 o4
  go_enter Tryz.func17, Tryz.ntmps17
  go_wp2
  go_loopw [13] (fun i wr => ∃ (k : Nat) (isk : List In), k ≤ js.length ∧ i = .int .i64 k ∧ isk.length = N ∧ joinM ls isk (js.drop k) = X ∧ JS w0 w g bm bl isk ls js b c bj d wr) (fun i _ => js.length - (intOf i).toNat)
  case atStart => exact ⟨0, is, Nat.zero_le _, rfl, hN, hX, hst⟩
  case round =>
    clear hst c0 c1 c2 c3 hX
    obtain ⟨k, isk, hk, rfl, hNk, hXk, hjs⟩ := hrel
    by_cases hlt : k < js.length
    · obtain ⟨x, hx⟩ : ∃ x, js[k] = x := ⟨_, rfl⟩
      obtain ⟨ln, a, lbl⟩ := x
      have ha : a < N := by have := O4.out _ (List.getElem_mem hlt); rw [hx] at this; have h' : a < is.length := this; omega
      obtain ⟨q0, q1, q2⟩ := jv_at js k hlt
      rw [hx] at q0 q1 q2
      simp only at q0 q1 q2
      have m0 := (World.ownsRow.cellAt hjs.f.jo (k * 3) (by show _ < js.length * 3; omega)).trans q0
      have m1 := (World.ownsRow.cellAt hjs.f.jo (k * 3 + 1) (by show _ < js.length * 3; omega)).trans q1
      have m2 := (World.ownsRow.cellAt hjs.f.jo (k * 3 + 2) (by show _ < js.length * 3; omega)).trans q2
      have hd : js.drop k = (ln, a, lbl) :: js.drop (k + 1) := by rw [List.drop_eq_getElem_cons hlt, hx]
      rw [hd] at hXk
      have h2 := hjs.keep (new1 wr (.cells #[.int .i64 ln, .int .i64 (a : Int), .string ⟨lbl.toArray⟩] 113))
      obtain ⟨c0, c1, c2, c3⟩ := h2.f.cells
      have HT := Lib.hid (Blk.new wr 113 #[.int .i64 ln, .int .i64 (a : Int), .string ⟨lbl.toArray⟩])
      have HLM := Lib.hid h2.f.lm
      have H2 := Lib.hid h2
      clear hjs hx hd h2 q0 q1 q2
      cases hlb : lab lbl ls with
      | none =>
        have hask := fun q : Nat => (run_ask (P := Tryz.prog) (T := 46) Tryz.underlying46 Tryz.underlying9 _ zero_int (((wr.alloc (.cells #[.int .i64 ln, .int .i64 (a : Int), .string ⟨lbl.toArray⟩] 113))).drewN q) bl (lv ls) lbl (HLM.out.new ((new_refl _).drewN q))).2 (by rw [look_lv, hlb]; rfl)
        have hask0 := hask 0
        go_wp2
        go_quiet (fail)
        have h4 := H2.out.keep ((new_refl (wr.alloc (.cells #[.int .i64 ln, .int .i64 (a : Int), .string ⟨lbl.toArray⟩] 113))).drewN nq)
        have ht4 := HT.out.below ((new_refl (wr.alloc (.cells #[.int .i64 ln, .int .i64 (a : Int), .string ⟨lbl.toArray⟩] 113))).drewN nq) HT.out.lt
        clear c0 c1 c2 c3 hask hask0 m0 m1 m2 HLM H2 HT
        generalize (wr.alloc (.cells #[.int .i64 ln, .int .i64 (a : Int), .string ⟨lbl.toArray⟩] 113)).drewN nq = w4 at *
        generalize wr.heap.size = bt at *
        obtain ⟨c0, c1, c2, c3⟩ := h4.f.cells
        have t0 : w4.cell? ⟨bt, 0, none⟩ = some (.int .i64 ln) := (ht4.cell 0).trans rfl
        have t1 : w4.cell? ⟨bt, 1, none⟩ = some (.int .i64 (a : Int)) := (ht4.cell 1).trans rfl
        have hia : decide ((a : Int) < (isk.length : Int)) = true := by simp; omega
        have hal : a < isk.length := by omega
        have x5 := (World.ownsRow.cellAt h4.f.lo (a * 8 + 5) (by show _ < isk.length * 8; omega)).trans (vi_at isk a hal).2.2.2.2.2.1
        obtain ⟨h5, z5⟩ := h4.f.setO a (-((a : Int) + 1)) hal
        have hr5 := h4.r.far (p := ⟨b, a * 8 + 5, none⟩) (fun e => by
          obtain ⟨_, cs, hb⟩ := own_cells h4.f.lo (j := b) rfl
          exact h4.r.ne_ hb (by decide) e) (.int .i64 (-((a : Int) + 1)))
        have ht5 := ht4.far (p := ⟨b, a * 8 + 5, none⟩) (fun e => by
          obtain ⟨_, cs, hb⟩ := own_cells h4.f.lo (j := b) rfl
          exact ht4.ne_ hb (by decide) e) (.int .i64 (-((a : Int) + 1)))
        have H5 : Hid (JS w0 w g bm bl (setO isk a (-((a : Int) + 1))) ls js b c bj d (w4.setCell ⟨b, a * 8 + 5, none⟩ (.int .i64 (-((a : Int) + 1)))).drew) := Lib.hid (JS.keep ⟨by
          have e := setO_length isk a (-((a : Int) + 1))
          rw [← e] at h5
          exact h5, hr5⟩ (Below.drew (new_refl _)))
        have HT5 := Lib.hid (ht5.drew)
        have HX : Hid (X = (121, ln, setO isk a (-((a : Int) + 1)))) := Lib.hid (by
          rw [← hXk]
          simp only [joinM, hlb, Option.isSome, Bool.false_and, Bool.false_eq_true, if_false, Option.getD]
          simp)
        clear h5 hr5 ht5 hXk
        go_wp2
        go_region
        clear c0 c1 c2 c3 t0 t1 hia x5 z5 h4 ht4
        generalize (w4.setCell ⟨b, a * 8 + 5, none⟩ (.int .i64 (-((a : Int) + 1)))).drew = w5 at *
        obtain ⟨c0, c1, c2, c3⟩ := H5.out.f.cells
        have t0 : w5.cell? ⟨bt, 0, none⟩ = some (.int .i64 ln) := (HT5.out.cell 0).trans rfl
        have t1 : w5.cell? ⟨bt, 1, none⟩ = some (.int .i64 (a : Int)) := (HT5.out.cell 1).trans rfl
        go_wp2
        go_quiet (fail)
        have h6 := H5.out.keep ((new_refl w5).drewN nq)
        have ht6 := HT5.out.below ((new_refl w5).drewN nq) HT5.out.lt
        clear c0 c1 c2 c3 t0 t1 H5 HT5
        generalize w5.drewN nq = w6 at *
        have t0 : w6.cell? ⟨bt, 0, none⟩ = some (.int .i64 ln) := (ht6.cell 0).trans rfl
        have H6 := Lib.hid h6
        clear h6 ht6
        go_wp2_with (refine wpList_store_row rfl 26 _ _ rfl w.heap.size #[.int .i64 121, .int .i64 ln] rfl rfl 26 _ H6.out.r fault_size rfl (by simp [Value.oneCell']) ?_)
        refine bodyPost_ret (results_cell_row rfl _ _ w.heap.size 26 #[.int .i64 121, .int .i64 ln] (0, 0) _ rfl (setRow_heap _ _ _ _ _ _ H6.out.r) Tryz.underlying26 rfl fault_size) rfl ?_
        rw [HX.out]
        exact H6.out.done HW0.out 121 ln
      | some m =>
        have hask := fun q : Nat => (run_ask (P := Tryz.prog) (T := 46) Tryz.underlying46 Tryz.underlying9 _ zero_int (((wr.alloc (.cells #[.int .i64 ln, .int .i64 (a : Int), .string ⟨lbl.toArray⟩] 113))).drewN q) bl (lv ls) lbl (HLM.out.new ((new_refl _).drewN q))).1 _ (by rw [look_lv, hlb]; rfl)
        have hask0 := hask 0
        go_wp2
        go_quiet (fail)
        have h4 := H2.out.keep ((new_refl (wr.alloc (.cells #[.int .i64 ln, .int .i64 (a : Int), .string ⟨lbl.toArray⟩] 113))).drewN nq)
        have ht4 := HT.out.below ((new_refl (wr.alloc (.cells #[.int .i64 ln, .int .i64 (a : Int), .string ⟨lbl.toArray⟩] 113))).drewN nq) HT.out.lt
        clear c0 c1 c2 c3 hask hask0 m0 m1 m2 HLM H2 HT
        generalize (wr.alloc (.cells #[.int .i64 ln, .int .i64 (a : Int), .string ⟨lbl.toArray⟩] 113)).drewN nq = w4 at *
        generalize wr.heap.size = bt at *
        obtain ⟨c0, c1, c2, c3⟩ := h4.f.cells
        have t0 : w4.cell? ⟨bt, 0, none⟩ = some (.int .i64 ln) := (ht4.cell 0).trans rfl
        have t1 : w4.cell? ⟨bt, 1, none⟩ = some (.int .i64 (a : Int)) := (ht4.cell 1).trans rfl
        have hia : decide ((a : Int) < (isk.length : Int)) = true := by simp; omega
        have hal : a < isk.length := by omega
        have x5 := (World.ownsRow.cellAt h4.f.lo (a * 8 + 5) (by show _ < isk.length * 8; omega)).trans (vi_at isk a hal).2.2.2.2.2.1
        have hmb : m ≤ 4096 := by
          obtain ⟨p, hp, e⟩ := lab_mem hlb
          have := O3.out p hp
          omega
        obtain ⟨h5, z5⟩ := h4.f.setO a ((m : Int) - ((a : Int) + 1)) hal
        have hr5 := h4.r.far (p := ⟨b, a * 8 + 5, none⟩) (fun e => by
          obtain ⟨_, cs, hb⟩ := own_cells h4.f.lo (j := b) rfl
          exact h4.r.ne_ hb (by decide) e) (.int .i64 ((m : Int) - ((a : Int) + 1)))
        have ht5 := ht4.far (p := ⟨b, a * 8 + 5, none⟩) (fun e => by
          obtain ⟨_, cs, hb⟩ := own_cells h4.f.lo (j := b) rfl
          exact ht4.ne_ hb (by decide) e) (.int .i64 ((m : Int) - ((a : Int) + 1)))
        have H5 : Hid (JS w0 w g bm bl (setO isk a ((m : Int) - ((a : Int) + 1))) ls js b c bj d (w4.setCell ⟨b, a * 8 + 5, none⟩ (.int .i64 ((m : Int) - ((a : Int) + 1)))).drew) := Lib.hid (JS.keep ⟨by
          have e := setO_length isk a ((m : Int) - ((a : Int) + 1))
          rw [← e] at h5
          exact h5, hr5⟩ (Below.drew (new_refl _)))
        have HT5 := Lib.hid (ht5.drew)
        have hme : m ≤ is.length := by
          obtain ⟨p, hp, e⟩ := lab_mem hlb
          have := O3.out p hp
          omega
        have hoo : (setO isk a ((m : Int) - ((a : Int) + 1))).length = isk.length := setO_length _ _ _
        obtain ⟨i, hi⟩ : ∃ i, (setO isk a ((m : Int) - ((a : Int) + 1)))[a]'(by omega) = i := ⟨_, rfl⟩
        have HX : Hid ((if ok i then joinM ls (setO isk a ((m : Int) - ((a : Int) + 1))) (js.drop (k + 1)) else (121, ln, setO isk a ((m : Int) - ((a : Int) + 1)))) = X) := Lib.hid (by
          rw [← hXk]
          simp only [joinM, hlb, Option.isSome, Bool.true_and, Option.getD, List.getElem?_eq_getElem (show a < (setO isk a ((m : Int) - ((a : Int) + 1))).length by omega), hi, Option.map])
        have HI := Lib.hid (vi_at (setO isk a ((m : Int) - ((a : Int) + 1))) a (by omega))
        rw [hi] at HI
        obtain ⟨io, inr, id, isr, iu, iof, iim, isz⟩ := i
        clear h5 hr5 ht5 hXk
        go_wp2
        go_region
        clear c0 c1 c2 c3 t0 t1 hia x5 z5 h4 ht4
        generalize (w4.setCell ⟨b, a * 8 + 5, none⟩ (.int .i64 ((m : Int) - ((a : Int) + 1)))).drew = w5 at *
        obtain ⟨c0, c1, c2, c3⟩ := H5.out.f.cells
        have t0 : w5.cell? ⟨bt, 0, none⟩ = some (.int .i64 ln) := (HT5.out.cell 0).trans rfl
        have t1 : w5.cell? ⟨bt, 1, none⟩ = some (.int .i64 (a : Int)) := (HT5.out.cell 1).trans rfl
        go_wp2
        have y := fun (q : Nat) (hq : q < N * 8) => World.ownsRow.cellAt H5.out.f.lo q (by show q < (setO isk a ((m : Int) - ((a : Int) + 1))).length * 8; omega)
        have y0 := (y (a * 8) (by omega)).trans HI.out.1
        have y1 := (y (a * 8 + 1) (by omega)).trans HI.out.2.1
        have y2 := (y (a * 8 + 2) (by omega)).trans HI.out.2.2.1
        have y3 := (y (a * 8 + 3) (by omega)).trans HI.out.2.2.2.1
        have y4 := (y (a * 8 + 4) (by omega)).trans HI.out.2.2.2.2.1
        have y5 := (y (a * 8 + 5) (by omega)).trans HI.out.2.2.2.2.2.1
        have y6 := (y (a * 8 + 6) (by omega)).trans HI.out.2.2.2.2.2.2.1
        have y7 := (y (a * 8 + 7) (by omega)).trans HI.out.2.2.2.2.2.2.2
        clear y
        rw [hoo] at c1
        have hia : decide ((a : Int) < (isk.length : Int)) = true := by simp; omega
        cases hokb : ok ⟨io, inr, id, isr, iu, iof, iim, isz⟩ with
        | false =>
          rw [hokb] at HX
          have HR := Lib.hid (right_b io inr id isr iu iof iim isz false hokb)
          go_region_with (go_at_call 33; (with_reducible refine (HR.out _).mono ?_); rintro e w6 ⟨rfl, hn6⟩; have h6 := H5.out.keep (New.then (Below.drew (new_refl w5)) hn6); have ht6 := HT5.out.below (New.then (Below.drew (new_refl w5)) hn6) HT5.out.lt; have t6 : w6.cell? ⟨bt, 0, none⟩ = some (.int .i64 ln) := (ht6.cell 0).trans rfl; have H6 := Lib.hid h6; clear h6 ht6 hn6)
          all_goals
            go_wp2_with (refine wpList_store_row rfl 26 _ _ rfl w.heap.size #[.int .i64 121, .int .i64 ln] rfl rfl 26 _ H6.out.r fault_size rfl (by simp [Value.oneCell']) ?_)
            refine bodyPost_ret (results_cell_row rfl _ _ w.heap.size 26 #[.int .i64 121, .int .i64 ln] (0, 0) _ rfl (setRow_heap _ _ _ _ _ _ H6.out.r) Tryz.underlying26 rfl fault_size) rfl ?_
            rw [← HX.out]
            exact H6.out.done HW0.out 121 ln
        | true =>
          rw [hokb] at HX
          have HR := Lib.hid (right_b io inr id isr iu iof iim isz true hokb)
          go_region_with (go_at_call 33; (with_reducible refine (HR.out _).mono ?_); rintro e w6 ⟨rfl, hn6⟩; have h6 := H5.out.keep (New.then (Below.drew (new_refl w5)) hn6); have H6 := Lib.hid h6; clear h6 hn6)
          all_goals
            go_wp2
            go_roundw
            case rel => exact ⟨k + 1, _, by omega, by go_num, by rw [setO_length]; exact hNk, HX.out, H6.out⟩
            case measure => simp [intOf]; omega
    · obtain rfl : k = js.length := by omega
      rw [List.drop_length] at hXk
      have hXe : (0, 0, isk) = X := hXk
      subst hXe
      have HJ := Lib.hid hjs
      clear hjs hXk
      go_wp2_with (refine wpList_store_row rfl 26 _ _ rfl w.heap.size #[.int .i64 0, .int .i64 0] rfl rfl 26 _ HJ.out.r fault_size rfl (by simp [Value.oneCell']) ?_)
      refine bodyPost_ret (results_cell_row rfl _ _ w.heap.size 26 #[.int .i64 0, .int .i64 0] (0, 0) _ rfl (setRow_heap _ _ _ _ _ _ HJ.out.r) Tryz.underlying26 rfl fault_size) rfl ?_
      exact HJ.out.done HW0.out 0 0
end Go.Proofs.YtddojdgnakajmaaGreatDoor.txt

