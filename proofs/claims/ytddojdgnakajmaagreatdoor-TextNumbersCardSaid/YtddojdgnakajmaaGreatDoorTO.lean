/-
  Contracts of text: what stands behind a word, whatever its kind.
-/
import Derived.Test.YtddojdgnakajmaaGreatDoorTH
import Derived.Test.YtddojdgnakajmaaGreatDoorTJ
import Derived.Laws.EntriesVeiled
namespace Go.Proofs.YtddojdgnakajmaaGreatDoor.txt
open Go.RowKit Go.Proofs.YtddojdgnakajmaaGreatDoor.mem Go.Proofs.YtddojdgnakajmaaGreatDoor.kit Go.Proofs.YtddojdgnakajmaaGreatDoor.ins
set_option linter.unusedVariables false
set_option linter.unusedSimpArgs false

theorem enter_k (k : Nat) : ∀ args w, (callFunc (fnK k) args).run Tryz.prog w = .ok (.enter (fnK k) args) w := by
  match k with
  | 0 => exact enters_of Tryz.func38 (by kernel_rfl) rfl
  | 1 => exact enters_of Tryz.func39 (by kernel_rfl) rfl
  | 2 => exact enters_of Tryz.func40 (by kernel_rfl) rfl
  | 3 => exact enters_of Tryz.func41 (by kernel_rfl) rfl
  | 4 => exact enters_of Tryz.func42 (by kernel_rfl) rfl
  | 5 => exact enters_of Tryz.func43 (by kernel_rfl) rfl
  | n + 6 => exact enters_of Tryz.func44 (by kernel_rfl) rfl

theorem rest_ok (C : Cx) (k : Nat) (L r : List Bs) (t : Bs) (i j : In) (w : World) (h : St C L [] i w) (hk : pRest k i L = some (j, t, r)) :
    Calls Tryz.prog (fnK k) #[.pointer (some ⟨C.g, 0, none⟩), .pointer (some ⟨C.gi, 0, none⟩)] w (Sok C (.tuple #[]) r t j) := by
  match k with
  | 0 =>
    change ((pReg L).bind fun a => (pOne 44 a.2).bind fun b => (pSec { i with dst := a.1 } b).map fun c => (c.1, [], c.2)) = some (j, t, r) at hk
    obtain ⟨⟨n, a⟩, h1, hk⟩ := Option.bind_eq_some_iff.1 hk
    obtain ⟨b, h2, hk⟩ := Option.bind_eq_some_iff.1 hk
    obtain ⟨⟨j', r'⟩, h3, hk⟩ := Option.map_eq_some_iff.1 hk
    simp only [Prod.mk.injEq] at hk
    obtain ⟨rfl, rfl, rfl⟩ := hk
    exact operator_ok C L a b r' [] i j' n w h h1 h2 h3
  | 1 =>
    change ((pReg L).map fun a => ({ i with dst := a.1 }, [], a.2)) = some (j, t, r) at hk
    obtain ⟨⟨n, a⟩, h1, hk⟩ := Option.map_eq_some_iff.1 hk
    simp only [Prod.mk.injEq] at hk
    obtain ⟨rfl, rfl, rfl⟩ := hk
    exact neg_ok C L a [] i n w h h1
  | 2 =>
    change ((pReg L).bind fun a => (pOne 44 a.2).bind fun b => (pCell b).map fun c => ({ i with dst := a.1, src := c.1, off := c.2.1 }, [], c.2.2)) = some (j, t, r) at hk
    obtain ⟨⟨n, a⟩, h1, hk⟩ := Option.bind_eq_some_iff.1 hk
    obtain ⟨b, h2, hk⟩ := Option.bind_eq_some_iff.1 hk
    obtain ⟨⟨n1, m1, r'⟩, h3, hk⟩ := Option.map_eq_some_iff.1 hk
    simp only [Prod.mk.injEq] at hk
    obtain ⟨rfl, rfl, rfl⟩ := hk
    exact load_ok C L a b r' [] i n n1 m1 w h h1 h2 h3
  | 3 =>
    change ((pCell L).bind fun c => (pOne 44 c.2.2).bind fun b => (pSec { i with dst := c.1, off := c.2.1 } b).map fun d => (d.1, [], d.2)) = some (j, t, r) at hk
    obtain ⟨⟨n1, m1, a⟩, h1, hk⟩ := Option.bind_eq_some_iff.1 hk
    obtain ⟨b, h2, hk⟩ := Option.bind_eq_some_iff.1 hk
    obtain ⟨⟨j', r'⟩, h3, hk⟩ := Option.map_eq_some_iff.1 hk
    simp only [Prod.mk.injEq] at hk
    obtain ⟨rfl, rfl, rfl⟩ := hk
    exact put_ok C L a b r' [] i j' n1 m1 w h h1 h2 h3
  | 4 => exact jump_ok C L r [] t i j w h hk
  | 5 =>
    change ((pReg L).bind fun a => (pOne 44 a.2).bind fun b => (pSec { i with dst := a.1 } b).bind fun c => (pOne 44 c.2).bind fun d => pTo c.1 d) = some (j, t, r) at hk
    obtain ⟨⟨n, a⟩, h1, hk⟩ := Option.bind_eq_some_iff.1 hk
    obtain ⟨b, h2, hk⟩ := Option.bind_eq_some_iff.1 hk
    obtain ⟨⟨j', c⟩, h3, hk⟩ := Option.bind_eq_some_iff.1 hk
    obtain ⟨d, h4, h5⟩ := Option.bind_eq_some_iff.1 hk
    exact question_ok C L a b c d r t i j' j' j n w h h1 h2 h3 h4 h5
  | n + 6 =>
    change some (i, [], L) = some (j, t, r) at hk
    simp only [Option.some.injEq, Prod.mk.injEq] at hk
    obtain ⟨rfl, rfl, rfl⟩ := hk
    exact exit_ok C L i w h

theorem rest_no (C : Cx) (k : Nat) (L : List Bs) (i : In) (w : World) (h : St C L [] i w) (hk : pRest k i L = none) :
    Calls Tryz.prog (fnK k) #[.pointer (some ⟨C.g, 0, none⟩), .pointer (some ⟨C.gi, 0, none⟩)] w (Sno C) := by
  match k with
  | 0 =>
    change ((pReg L).bind fun a => (pOne 44 a.2).bind fun b => (pSec { i with dst := a.1 } b).map fun c => (c.1, [], c.2)) = none at hk
    cases h1 : pReg L with
    | none => exact operator_no1 C L [] i i 0 w h h1
    | some x =>
      obtain ⟨n, a⟩ := x
      rw [h1, Option.bind_some] at hk
      cases h2 : pOne 44 a with
      | none => exact operator_no2 C L a [] i i n w h h1 h2
      | some b =>
        simp only [h2, Option.bind_some, Option.map_eq_none_iff] at hk
        exact operator_no3 C L a b [] i i n w h h1 h2 hk
  | 1 =>
    change ((pReg L).map fun a => ({ i with dst := a.1 }, [], a.2)) = none at hk
    exact neg_no1 C L [] i 0 w h (Option.map_eq_none_iff.1 hk)
  | 2 =>
    change ((pReg L).bind fun a => (pOne 44 a.2).bind fun b => (pCell b).map fun c => ({ i with dst := a.1, src := c.1, off := c.2.1 }, [], c.2.2)) = none at hk
    cases h1 : pReg L with
    | none => exact load_no1 C L [] i 0 0 0 w h h1
    | some x =>
      obtain ⟨n, a⟩ := x
      rw [h1, Option.bind_some] at hk
      cases h2 : pOne 44 a with
      | none => exact load_no2 C L a [] i n 0 0 w h h1 h2
      | some b =>
        simp only [h2, Option.bind_some, Option.map_eq_none_iff] at hk
        exact load_no3 C L a b [] i n 0 0 w h h1 h2 hk
  | 3 =>
    change ((pCell L).bind fun c => (pOne 44 c.2.2).bind fun b => (pSec { i with dst := c.1, off := c.2.1 } b).map fun d => (d.1, [], d.2)) = none at hk
    cases h1 : pCell L with
    | none => exact put_no1 C L [] i i 0 0 w h h1
    | some x =>
      obtain ⟨n1, m1, a⟩ := x
      rw [h1, Option.bind_some] at hk
      cases h2 : pOne 44 a with
      | none => exact put_no2 C L a [] i i n1 m1 w h h1 h2
      | some b =>
        simp only [h2, Option.bind_some, Option.map_eq_none_iff] at hk
        exact put_no3 C L a b [] i i n1 m1 w h h1 h2 hk
  | 4 => exact jump_no C L i w h hk
  | 5 =>
    change ((pReg L).bind fun a => (pOne 44 a.2).bind fun b => (pSec { i with dst := a.1 } b).bind fun c => (pOne 44 c.2).bind fun d => pTo c.1 d) = none at hk
    cases h1 : pReg L with
    | none => exact question_no1 C L [] i i i i 0 w h h1
    | some x =>
      obtain ⟨n, a⟩ := x
      rw [h1, Option.bind_some] at hk
      cases h2 : pOne 44 a with
      | none => exact question_no2 C L a [] i i i i n w h h1 h2
      | some b =>
        simp only [h2, Option.bind_some] at hk
        cases h3 : pSec { i with dst := n } b with
        | none => exact question_no3 C L a b [] i i i i n w h h1 h2 h3
        | some y =>
          obtain ⟨j', c⟩ := y
          simp only [h3, Option.bind_some] at hk
          cases h4 : pOne 44 c with
          | none => exact question_no4 C L a b c [] i j' j' i n w h h1 h2 h3 h4
          | some d =>
            simp only [h4, Option.bind_some] at hk
            exact question_no5 C L a b c d [] i j' j' i n w h h1 h2 h3 h4 hk
  | n + 6 => cases hk
end Go.Proofs.YtddojdgnakajmaaGreatDoor.txt

namespace Go.Proofs.YtddojdgnakajmaaGreatDoor.txt
open Go.RowKit Go.Proofs.YtddojdgnakajmaaGreatDoor.mem Go.Proofs.YtddojdgnakajmaaGreatDoor.kit Go.Proofs.YtddojdgnakajmaaGreatDoor.ins
set_option linter.unusedVariables false
set_option linter.unusedSimpArgs false

theorem right_b (o : Int) (n : Bool) (d s : Int) (u : Bool) (f m z : Int) (B : Bool) (h : ok ⟨o, n, d, s, u, f, m, z⟩ = B) (w : World) :
    Calls Tryz.prog 33 #[.agg #[.int .u8 o, .bool n, .int .i64 d, .int .i64 s, .bool u, .int .i64 f, .int .i64 m, .int .i64 z]] w fun e w' => e = .returned (.bool B) ∧ New w w' := h ▸ Right_any ⟨o, n, d, s, u, f, m, z⟩ w
theorem zero_word : ∀ w, (zeroValue 100).run Tryz.prog w = .ok (.agg #[.int .u8 0, .bool false, .int .i64 0, .int .i64 0, .bool false, .int .i64 0, .int .i64 0, .int .i64 0, .nilFunc]) w := fun w => by kernel_rfl
abbrev zi : Array Value := #[.int .u8 0, .bool false, .int .i64 0, .int .i64 0, .bool false, .int .i64 0, .int .i64 0, .int .i64 0]
theorem look_wl (k : Bs) : look k wlv = (findW k wl).map Wd.val := look_map k wl
theorem ch_setRow (w : World) (b : Nat) (cs : Array Value) : Ch (fun j => j = b) w (w.setRow b cs) := ⟨rfl, rfl, rfl, by simp, fun k _ hk => setRow_other w b k cs hk⟩
/-- What an instruction's reading leaves. -/
def InsR (w : World) (g : Nat) (M : Value) (r : List Bs) (t : Bs) (j : In) (e : Ending) (w' : World) : Prop := e = .returned (.agg (icell j)) ∧ TkX w' g r M t ∧ Ch (fun b => b = g) w w'

set_option maxRecDepth 100000 in
set_option maxHeartbeats 1000000 in
theorem instr_none (T : TypeId) (q : Addr) (g bm : Nat) (first : Bs) (L : List Bs) (w : World) (h : TkX w g L (.map (some bm)) []) (hm : MapAt w bm wlv) (hE : ErrT w T q) (hp : findW first wl = none) :
    Calls Tryz.prog 173 #[.pointer (some ⟨g, 0, none⟩), .string ⟨first.toArray⟩] w (FellT w T q g) := by
  have hN0 := new1 w (.cells zi 41)
  have hl : look first wlv = none := by rw [look_wl, hp]; rfl
  have hask := (run_ask (P := Tryz.prog) (T := 44) Tryz.underlying44 Tryz.underlying9 _ zero_word (w.alloc (.cells zi 41)) bm wlv first (hm.new hN0)).2 hl
  obtain ⟨A, n, c, hk⟩ := h
  have c1 : w.cell? ⟨g, 1, none⟩ = some (.map (some bm)) := (hk.blk.cell 1).trans rfl
  have hglt := hk.blk.lt
  have HE := Lib.hid (hE.new (new2 w (.cells zi 41) (.cells #[.int .u8 0, .bool false, .int .i64 0, .int .i64 0, .bool false, .int .i64 0, .int .i64 0, .int .i64 0, .nilFunc] 100)))
  have HN := Lib.hid (new2 w (.cells zi 41) (.cells #[.int .u8 0, .bool false, .int .i64 0, .int .i64 0, .bool false, .int .i64 0, .int .i64 0, .int .i64 0, .nilFunc] 100))
  clear hN0 hl hk hE hm
  go_enter Tryz.func173, Tryz.ntmps173
  go_wp2_with (go_at_call 164; refine (must_no T q _ HE.out).mono ?_; rintro e w1 ⟨rfl, rfl⟩)
  exact ⟨rfl, rfl, Ch.of_new HN.out⟩

set_option maxRecDepth 100000 in
set_option maxHeartbeats 1000000 in
theorem instr_ok (T : TypeId) (q : Addr) (g bm : Nat) (first t : Bs) (L r : List Bs) (j : In) (w : World) (h : TkX w g L (.map (some bm)) []) (hm : MapAt w bm wlv) (hE : ErrT w T q) (o z k : Nat) (n : Bool) (hp : findW first wl = some ⟨o, n, z, k⟩) (hr : pRest k ⟨(o : Int), n, 0, 0, false, 0, 0, (z : Int)⟩ L = some (j, t, r)) (hok : ok j = true) :
    Calls Tryz.prog 173 #[.pointer (some ⟨g, 0, none⟩), .string ⟨first.toArray⟩] w (InsR w g (.map (some bm)) r t j) := by
  obtain ⟨fk, hfk⟩ : ∃ fk, fnK k = fk := ⟨_, rfl⟩
  have hent := enter_k k
  have hrest := fun C w' hs => rest_ok C k L r t ⟨(o : Int), n, 0, 0, false, 0, 0, (z : Int)⟩ j w' hs hr
  have hl : look first wlv = some (wv o z fk n) := by rw [look_wl, hp, ← hfk]; rfl
  rw [hfk] at hent hrest
  have hN0 := new1 w (.cells zi 41)
  have hask := (run_ask (P := Tryz.prog) (T := 44) Tryz.underlying44 Tryz.underlying9 _ zero_word (w.alloc (.cells zi 41)) bm wlv first (hm.new hN0)).1 _ hl
  obtain ⟨A, nn, c, hk⟩ := h
  have c1 : w.cell? ⟨g, 1, none⟩ = some (.map (some bm)) := (hk.blk.cell 1).trans rfl
  have hglt := hk.blk.lt
  have HR := Lib.hid hrest
  have HOK := Lib.hid hok
  have q1 := new1 w (.cells zi 41)
  have q2 := q1.alloc q1.size (.cells #[.int .u8 (o : Int), .bool n, .int .i64 0, .int .i64 0, .bool false, .int .i64 0, .int .i64 0, .int .i64 (z : Int), .func (.func fk) #[] #[]] 100)
  have q3 := q2.alloc q2.size (.cells #[.int .u8 (o : Int), .bool n, .int .i64 0, .int .i64 0, .bool false, .int .i64 0, .int .i64 0, .int .i64 (z : Int)] 41)
  have HQ := Lib.hid q3
  have HST : Hid (St ⟨_, T, q, g, w.heap.size + 1 + 1, .map (some bm)⟩ L [] ⟨(o : Int), n, 0, 0, false, 0, 0, (z : Int)⟩ (((w.alloc (.cells zi 41)).alloc (.cells #[.int .u8 (o : Int), .bool n, .int .i64 0, .int .i64 0, .bool false, .int .i64 0, .int .i64 0, .int .i64 (z : Int), .func (.func fk) #[] #[]] 100)).alloc (.cells #[.int .u8 (o : Int), .bool n, .int .i64 0, .int .i64 0, .bool false, .int .i64 0, .int .i64 0, .int .i64 (z : Int)] 41))) :=
    Lib.hid ⟨⟨A, nn, c, hk.new q3⟩, by
      have hb := Blk.new ((w.alloc (.cells zi 41)).alloc (.cells #[.int .u8 (o : Int), .bool n, .int .i64 0, .int .i64 0, .bool false, .int .i64 0, .int .i64 0, .int .i64 (z : Int), .func (.func fk) #[] #[]] 100)) 41 #[.int .u8 (o : Int), .bool n, .int .i64 0, .int .i64 0, .bool false, .int .i64 0, .int .i64 0, .int .i64 (z : Int)]
      rw [World.size_alloc, World.size_alloc] at hb
      exact hb, Ch.refl _ _, hE.new q3⟩
  have HB0 := Lib.hid (((Blk.new w 41 zi).alloc (.cells #[.int .u8 (o : Int), .bool n, .int .i64 0, .int .i64 0, .bool false, .int .i64 0, .int .i64 0, .int .i64 (z : Int), .func (.func fk) #[] #[]] 100)).alloc (.cells #[.int .u8 (o : Int), .bool n, .int .i64 0, .int .i64 0, .bool false, .int .i64 0, .int .i64 0, .int .i64 (z : Int)] 41))
  have HG : Hid (w.heap.size ≠ g) := Lib.hid (by omega)
  clear hl hk hE hm hrest hok hN0 q1 q2 q3 hr hp hfk
  obtain ⟨jo, jn, jd, js, ju, jf, jm, jz⟩ := j
  go_enter Tryz.func173, Tryz.ntmps173
  go_wp2_with (first
    | (go_at_call 164; refine (must_yes _).mono ?_; rintro e w1 ⟨rfl, rfl⟩)
    | (go_at_fn fk; refine (HR.out _ _ HST.out).mono ?_; rintro e w4 ⟨rfl, h4⟩; obtain ⟨x0, x1, x2, x3, x4, x5, x6, x7⟩ := cells8 h4.i; simp only at x0 x1 x2 x3 x4 x5 x6 x7; have HRB4 := Lib.hid (HB0.out.ch h4.ch (fun e => e.elim (fun e => HG.out e) (fun e => by have e' : w.heap.size = w.heap.size + 1 + 1 := e; omega))); have H4 := Lib.hid h4; clear h4)
    | (go_at_call 33; refine (right_b jo jn jd js ju jf jm jz true HOK.out _).mono ?_; rintro e w5 ⟨rfl, hn5⟩; obtain ⟨y0, y1, y2, y3, y4, y5, y6, y7⟩ := cells8 (H4.out.i.below hn5 H4.out.i.lt); simp only at y0 y1 y2 y3 y4 y5 y6 y7; have H5 := Lib.hid (H4.out.new hn5); have HRB5 := Lib.hid (HRB4.out.below hn5 HRB4.out.lt); clear hn5)
    | (refine wpList_store_row rfl 41 _ _ rfl w.heap.size #[.int .u8 jo, .bool jn, .int .i64 jd, .int .i64 js, .bool ju, .int .i64 jf, .int .i64 jm, .int .i64 jz] rfl rfl 41 _ HRB5.out ins_size (Eq.trans (b := 8) rfl rfl) (by simp [Value.oneCell']) ?_))
  refine bodyPost_ret (results_cell_row rfl _ _ w.heap.size 41 _ (0, 0) _ rfl (setRow_heap _ _ _ _ _ _ HRB5.out) Tryz.underlying41 rfl ins_size) rfl ?_
  have hc2 := ch_setRow w5 w.heap.size #[.int .u8 jo, .bool jn, .int .i64 jd, .int .i64 js, .bool ju, .int .i64 jf, .int .i64 jm, .int .i64 jz]
  refine ⟨rfl, H5.out.tk.ch hc2 (fun e => HG.out e.symm) (fun b cs hb e => (hb.ne_ HRB5.out (by decide)) e), ?_⟩
  refine Ch.then (T := fun j => j = w.heap.size) (Ch.then (T := fun j => j = g ∨ j = w.heap.size + 1 + 1) (Ch.of_new (S := fun b => b = g) HQ.out) H5.out.ch (fun i hi e => e.elim id (fun e => by omega))) hc2 (fun i hi e => by omega)
set_option maxRecDepth 100000 in
set_option maxHeartbeats 1000000 in
theorem instr_fell (T : TypeId) (q : Addr) (g bm : Nat) (first : Bs) (L : List Bs) (w : World) (h : TkX w g L (.map (some bm)) []) (hm : MapAt w bm wlv) (hE : ErrT w T q) (o z k : Nat) (n : Bool) (hp : findW first wl = some ⟨o, n, z, k⟩) (hr : pRest k ⟨(o : Int), n, 0, 0, false, 0, 0, (z : Int)⟩ L = none) :
    Calls Tryz.prog 173 #[.pointer (some ⟨g, 0, none⟩), .string ⟨first.toArray⟩] w (FellT w T q g) := by
  obtain ⟨fk, hfk⟩ : ∃ fk, fnK k = fk := ⟨_, rfl⟩
  have hent := enter_k k
  have hrest := fun C w' hs => rest_no C k L ⟨(o : Int), n, 0, 0, false, 0, 0, (z : Int)⟩ w' hs hr
  have hl : look first wlv = some (wv o z fk n) := by rw [look_wl, hp, ← hfk]; rfl
  rw [hfk] at hent hrest
  have hN0 := new1 w (.cells zi 41)
  have hask := (run_ask (P := Tryz.prog) (T := 44) Tryz.underlying44 Tryz.underlying9 _ zero_word (w.alloc (.cells zi 41)) bm wlv first (hm.new hN0)).1 _ hl
  obtain ⟨A, nn, c, hk⟩ := h
  have c1 : w.cell? ⟨g, 1, none⟩ = some (.map (some bm)) := (hk.blk.cell 1).trans rfl
  have hglt := hk.blk.lt
  have HR := Lib.hid hrest
  have q1 := new1 w (.cells zi 41)
  have q2 := q1.alloc q1.size (.cells #[.int .u8 (o : Int), .bool n, .int .i64 0, .int .i64 0, .bool false, .int .i64 0, .int .i64 0, .int .i64 (z : Int), .func (.func fk) #[] #[]] 100)
  have q3 := q2.alloc q2.size (.cells #[.int .u8 (o : Int), .bool n, .int .i64 0, .int .i64 0, .bool false, .int .i64 0, .int .i64 0, .int .i64 (z : Int)] 41)
  have HQ := Lib.hid q3
  have HST : Hid (St ⟨_, T, q, g, w.heap.size + 1 + 1, .map (some bm)⟩ L [] ⟨(o : Int), n, 0, 0, false, 0, 0, (z : Int)⟩ (((w.alloc (.cells zi 41)).alloc (.cells #[.int .u8 (o : Int), .bool n, .int .i64 0, .int .i64 0, .bool false, .int .i64 0, .int .i64 0, .int .i64 (z : Int), .func (.func fk) #[] #[]] 100)).alloc (.cells #[.int .u8 (o : Int), .bool n, .int .i64 0, .int .i64 0, .bool false, .int .i64 0, .int .i64 0, .int .i64 (z : Int)] 41))) :=
    Lib.hid ⟨⟨A, nn, c, hk.new q3⟩, by
      have hb := Blk.new ((w.alloc (.cells zi 41)).alloc (.cells #[.int .u8 (o : Int), .bool n, .int .i64 0, .int .i64 0, .bool false, .int .i64 0, .int .i64 0, .int .i64 (z : Int), .func (.func fk) #[] #[]] 100)) 41 #[.int .u8 (o : Int), .bool n, .int .i64 0, .int .i64 0, .bool false, .int .i64 0, .int .i64 0, .int .i64 (z : Int)]
      rw [World.size_alloc, World.size_alloc] at hb
      exact hb, Ch.refl _ _, hE.new q3⟩
  have HB0 := Lib.hid (((Blk.new w 41 zi).alloc (.cells #[.int .u8 (o : Int), .bool n, .int .i64 0, .int .i64 0, .bool false, .int .i64 0, .int .i64 0, .int .i64 (z : Int), .func (.func fk) #[] #[]] 100)).alloc (.cells #[.int .u8 (o : Int), .bool n, .int .i64 0, .int .i64 0, .bool false, .int .i64 0, .int .i64 0, .int .i64 (z : Int)] 41))
  have HG : Hid (w.heap.size ≠ g) := Lib.hid (by omega)
  clear hl hk hE hm hrest hN0 q1 q2 q3 hr hp hfk
  go_enter Tryz.func173, Tryz.ntmps173
  go_wp2_with (first
    | (go_at_call 164; refine (must_yes _).mono ?_; rintro e w1 ⟨rfl, rfl⟩)
    | (go_at_fn fk; refine (HR.out _ _ HST.out).mono ?_; rintro e w4 ⟨rfl, h4⟩))
  exact ⟨rfl, rfl, Ch.then (T := fun j => j = g ∨ j = w.heap.size + 1 + 1) (Ch.of_new (S := fun b => b = g) HQ.out) h4 (fun i hi e => e.elim id (fun e => by omega))⟩

set_option maxRecDepth 100000 in
set_option maxHeartbeats 1000000 in
theorem instr_bad (T : TypeId) (q : Addr) (g bm : Nat) (first t : Bs) (L r : List Bs) (j : In) (w : World) (h : TkX w g L (.map (some bm)) []) (hm : MapAt w bm wlv) (hE : ErrT w T q) (o z k : Nat) (n : Bool) (hp : findW first wl = some ⟨o, n, z, k⟩) (hr : pRest k ⟨(o : Int), n, 0, 0, false, 0, 0, (z : Int)⟩ L = some (j, t, r)) (hok : ok j = false) :
    Calls Tryz.prog 173 #[.pointer (some ⟨g, 0, none⟩), .string ⟨first.toArray⟩] w (FellT w T q g) := by
  obtain ⟨fk, hfk⟩ : ∃ fk, fnK k = fk := ⟨_, rfl⟩
  have hent := enter_k k
  have hrest := fun C w' hs => rest_ok C k L r t ⟨(o : Int), n, 0, 0, false, 0, 0, (z : Int)⟩ j w' hs hr
  have hl : look first wlv = some (wv o z fk n) := by rw [look_wl, hp, ← hfk]; rfl
  rw [hfk] at hent hrest
  have hN0 := new1 w (.cells zi 41)
  have hask := (run_ask (P := Tryz.prog) (T := 44) Tryz.underlying44 Tryz.underlying9 _ zero_word (w.alloc (.cells zi 41)) bm wlv first (hm.new hN0)).1 _ hl
  obtain ⟨A, nn, c, hk⟩ := h
  have c1 : w.cell? ⟨g, 1, none⟩ = some (.map (some bm)) := (hk.blk.cell 1).trans rfl
  have hglt := hk.blk.lt
  have HR := Lib.hid hrest
  have HOK := Lib.hid hok
  have q1 := new1 w (.cells zi 41)
  have q2 := q1.alloc q1.size (.cells #[.int .u8 (o : Int), .bool n, .int .i64 0, .int .i64 0, .bool false, .int .i64 0, .int .i64 0, .int .i64 (z : Int), .func (.func fk) #[] #[]] 100)
  have q3 := q2.alloc q2.size (.cells #[.int .u8 (o : Int), .bool n, .int .i64 0, .int .i64 0, .bool false, .int .i64 0, .int .i64 0, .int .i64 (z : Int)] 41)
  have HQ := Lib.hid q3
  have HST : Hid (St ⟨_, T, q, g, w.heap.size + 1 + 1, .map (some bm)⟩ L [] ⟨(o : Int), n, 0, 0, false, 0, 0, (z : Int)⟩ (((w.alloc (.cells zi 41)).alloc (.cells #[.int .u8 (o : Int), .bool n, .int .i64 0, .int .i64 0, .bool false, .int .i64 0, .int .i64 0, .int .i64 (z : Int), .func (.func fk) #[] #[]] 100)).alloc (.cells #[.int .u8 (o : Int), .bool n, .int .i64 0, .int .i64 0, .bool false, .int .i64 0, .int .i64 0, .int .i64 (z : Int)] 41))) :=
    Lib.hid ⟨⟨A, nn, c, hk.new q3⟩, by
      have hb := Blk.new ((w.alloc (.cells zi 41)).alloc (.cells #[.int .u8 (o : Int), .bool n, .int .i64 0, .int .i64 0, .bool false, .int .i64 0, .int .i64 0, .int .i64 (z : Int), .func (.func fk) #[] #[]] 100)) 41 #[.int .u8 (o : Int), .bool n, .int .i64 0, .int .i64 0, .bool false, .int .i64 0, .int .i64 0, .int .i64 (z : Int)]
      rw [World.size_alloc, World.size_alloc] at hb
      exact hb, Ch.refl _ _, hE.new q3⟩
  have HB0 := Lib.hid (((Blk.new w 41 zi).alloc (.cells #[.int .u8 (o : Int), .bool n, .int .i64 0, .int .i64 0, .bool false, .int .i64 0, .int .i64 0, .int .i64 (z : Int), .func (.func fk) #[] #[]] 100)).alloc (.cells #[.int .u8 (o : Int), .bool n, .int .i64 0, .int .i64 0, .bool false, .int .i64 0, .int .i64 0, .int .i64 (z : Int)] 41))
  have HG : Hid (w.heap.size ≠ g) := Lib.hid (by omega)
  clear hl hk hE hm hrest hok hN0 q1 q2 q3 hr hp hfk
  obtain ⟨jo, jn, jd, js, ju, jf, jm, jz⟩ := j
  go_enter Tryz.func173, Tryz.ntmps173
  go_wp2_with (first
    | (go_at_call 164; (with_reducible refine (must_yes _).mono ?_); rintro e w1 ⟨rfl, rfl⟩)
    | (go_at_fn fk; refine (HR.out _ _ HST.out).mono ?_; rintro e w4 ⟨rfl, h4⟩; obtain ⟨x0, x1, x2, x3, x4, x5, x6, x7⟩ := cells8 h4.i; simp only at x0 x1 x2 x3 x4 x5 x6 x7; have HRB4 := Lib.hid (HB0.out.ch h4.ch (fun e => e.elim (fun e => HG.out e) (fun e => by have e' : w.heap.size = w.heap.size + 1 + 1 := e; omega))); have H4 := Lib.hid h4; clear h4)
    | (go_at_call 33; refine (right_b jo jn jd js ju jf jm jz false HOK.out _).mono ?_; rintro e w5 ⟨rfl, hn5⟩; have H5 := Lib.hid (H4.out.new hn5); clear hn5)
    | (go_at_call 164; (with_reducible refine (must_no T q _ H5.out.err).mono ?_); rintro e w6 ⟨rfl, rfl⟩))
  exact ⟨rfl, rfl, Ch.then (T := fun j => j = g ∨ j = w.heap.size + 1 + 1) (Ch.of_new (S := fun b => b = g) HQ.out) H5.out.ch (fun i hi e => e.elim id (fun e => by omega))⟩


/-- Of any first word. -/
theorem instr_any (T : TypeId) (q : Addr) (g bm : Nat) (first t : Bs) (L r : List Bs) (j : In) (w : World) (h : TkX w g L (.map (some bm)) []) (hm : MapAt w bm wlv) (hE : ErrT w T q) (hp : pIns first L = some (j, t, r)) :
    Calls Tryz.prog 173 #[.pointer (some ⟨g, 0, none⟩), .string ⟨first.toArray⟩] w (InsR w g (.map (some bm)) r t j) := by
  unfold pIns at hp
  obtain ⟨⟨o, n, z, k⟩, h1, hp⟩ := Option.bind_eq_some_iff.1 hp
  obtain ⟨⟨j', t', r'⟩, h2, hp⟩ := Option.bind_eq_some_iff.1 hp
  split at hp
  · rename_i hok
    simp only [Option.some.injEq, Prod.mk.injEq] at hp
    obtain ⟨rfl, rfl, rfl⟩ := hp
    exact instr_ok T q g bm first t' L r' j' w h hm hE o z k n h1 h2 hok
  · cases hp
theorem instr_no (T : TypeId) (q : Addr) (g bm : Nat) (first : Bs) (L : List Bs) (w : World) (h : TkX w g L (.map (some bm)) []) (hm : MapAt w bm wlv) (hE : ErrT w T q) (hp : pIns first L = none) :
    Calls Tryz.prog 173 #[.pointer (some ⟨g, 0, none⟩), .string ⟨first.toArray⟩] w (FellT w T q g) := by
  unfold pIns at hp
  cases h1 : findW first wl with
  | none => exact instr_none T q g bm first L w h hm hE h1
  | some x =>
    obtain ⟨o, n, z, k⟩ := x
    rw [h1, Option.bind_some] at hp
    cases h2 : pRest k ⟨(o : Int), n, 0, 0, false, 0, 0, (z : Int)⟩ L with
    | none => exact instr_fell T q g bm first L w h hm hE o z k n h1 h2
    | some y =>
      obtain ⟨j, t, r⟩ := y
      change ((pRest k ⟨(o : Int), n, 0, 0, false, 0, 0, (z : Int)⟩ L).bind fun r => if Go.Proofs.YtddojdgnakajmaaGreatDoor.ins.ok r.1 then some r else none) = none at hp
      rw [h2, Option.bind_some] at hp
      have hok : Go.Proofs.YtddojdgnakajmaaGreatDoor.ins.ok j = false := by
        cases hq : Go.Proofs.YtddojdgnakajmaaGreatDoor.ins.ok j with
        | false => rfl
        | true => simp only [hq] at hp; cases hp
      exact instr_bad T q g bm first t L r j w h hm hE o z k n h1 h2 hok
end Go.Proofs.YtddojdgnakajmaaGreatDoor.txt
