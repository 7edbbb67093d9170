/-
  WirePuts, walked.
-/
import Derived.Test.YtpkiopijfhkagaaGreatDoorBagW
import Derived.Test.YtpkiopijfhkagaaGreatDoorEnts
import Derived.Deep.RegionHeld3
import Derived.Deep.DeepCutAuto
import Derived.Deep.DrawnRows
namespace Go.Proofs.YtpkiopijfhkagaaGreatDoor.laws
open Go.RowKit Go.Proofs.YtpkiopijfhkagaaGreatDoor.mem Go.Proofs.YtpkiopijfhkagaaGreatDoor.kit Go.Proofs.YtpkiopijfhkagaaGreatDoor.wire Go.Proofs.YtpkiopijfhkagaaGreatDoor.rd
set_option linter.unusedVariables false
attribute [local go_sem ↓] Go.wp_at_zero Go.wp_at_succ

abbrev enV (e : En) : Value := ent e.term e.kind e.version e.server e.good (.slice e.A e.data.length e.c)
abbrev enC (e : En) : Array Value := #[.int .i64 e.term, .int .u8 e.kind, .int .i64 e.version, .int .i64 e.server, .bool e.good, .slice e.A e.data.length e.c]
abbrev leC (e : En) (b : Nat) : Array Value := #[.int .i64 e.term, .int .u8 e.kind, .int .i64 e.version, .int .i64 e.server, .bool e.good, .slice (some ⟨b, 0, none⟩) e.data.length (e.data.length + 12)]

abbrev entX (x : En) : List UInt8 := entB x.term x.kind x.version x.server x.good x.data
theorem entX_len (x : En) : (entX x).length = 48 + x.data.length := bytes_len x
/-- The boxed entry, as a walk asks for it. -/
abbrev sixE (w : World) (g : Nat) (x : En) : Prop := Six w g (.int .i64 x.term) (.int .u8 x.kind) (.int .i64 x.version) (.int .i64 x.server) (.bool x.good) (.slice x.A x.data.length x.c)
theorem six_blk {w : World} {g : Nat} {x : En} (h : Blk w g 28 (enC x)) : sixE w g x := ⟨h.cell 0, h.cell 1, h.cell 2, h.cell 3, h.cell 4, h.cell 5⟩

theorem zfacts {w : World} {g : Nat} (h : Blk w g 28 zent) : (w.cell? ⟨g, 0, none⟩ = some (.int .i64 0) ∧ w.cell? ⟨g, 1, none⟩ = some (.int .u8 0) ∧ w.cell? ⟨g, 2, none⟩ = some (.int .i64 0) ∧ w.cell? ⟨g, 3, none⟩ = some (.int .i64 0) ∧ w.cell? ⟨g, 4, none⟩ = some (.bool false) ∧ w.cell? ⟨g, 5, none⟩ = some (.slice none 0 0)) ∧ w.frozen? ⟨g, 0, none⟩ = false ∧ w.frozen? ⟨g, 1, none⟩ = false ∧ w.frozen? ⟨g, 2, none⟩ = false ∧ w.frozen? ⟨g, 3, none⟩ = false ∧ w.frozen? ⟨g, 4, none⟩ = false ∧ w.frozen? ⟨g, 5, none⟩ = false :=
  ⟨⟨h.cell 0, h.cell 1, h.cell 2, h.cell 3, h.cell 4, h.cell 5⟩, h.frozen 0, h.frozen 1, h.frozen 2, h.frozen 3, h.frozen 4, h.frozen 5⟩
/-- Six cells stored, one by one. -/
abbrev set6 (w : World) (b : Nat) (v0 v1 v2 v3 v4 v5 : Value) : World := (((((w.setCell ⟨b, 0, none⟩ v0).setCell ⟨b, 1, none⟩ v1).setCell ⟨b, 2, none⟩ v2).setCell ⟨b, 3, none⟩ v3).setCell ⟨b, 4, none⟩ v4).setCell ⟨b, 5, none⟩ v5
theorem six_set6 {w : World} {g b : Nat} {x : En} {v0 v1 v2 v3 v4 v5 : Value} (h : sixE w g x) (hne : g ≠ b) : sixE (set6 w b v0 v1 v2 v3 v4 v5) g x := by
  obtain ⟨h0, h1, h2, h3, h4, h5⟩ := h
  have hk : ∀ i, (set6 w b v0 v1 v2 v3 v4 v5).cell? ⟨g, i, none⟩ = w.cell? ⟨g, i, none⟩ := fun i => by
    have e : ∀ (W : World) j u, (W.setCell ⟨b, j, none⟩ u).cell? ⟨g, i, none⟩ = W.cell? ⟨g, i, none⟩ := fun W j u => World.cell?_setCell_other W _ _ u (fun e => by injection e with e _ _; first | exact hne e | exact hne e.symm)
    unfold set6
    rw [e, e, e, e, e, e]
  exact ⟨(hk 0).trans h0, (hk 1).trans h1, (hk 2).trans h2, (hk 3).trans h3, (hk 4).trans h4, (hk 5).trans h5⟩
theorem blk_set6 {w : World} {b : Nat} {v0 v1 v2 v3 v4 v5 : Value} (h : Blk w b 28 zent) : Blk (set6 w b v0 v1 v2 v3 v4 v5) b 28 #[v0, v1, v2, v3, v4, v5] :=
  (((((h.set_ 0 v0).set_ 1 v1).set_ 2 v2).set_ 3 v3).set_ 4 v4).set_ 5 v5
theorem new_set6 {w0 w : World} {b : Nat} {v0 v1 v2 v3 v4 v5 : Value} (h : New w0 w) (hb : w0.heap.size ≤ b) : New w0 (set6 w b v0 v1 v2 v3 v4 v5) :=
  (((((h.setCell (p := ⟨b, 0, none⟩) hb v0).setCell (p := ⟨b, 1, none⟩) hb v1).setCell (p := ⟨b, 2, none⟩) hb v2).setCell (p := ⟨b, 3, none⟩) hb v3).setCell (p := ⟨b, 4, none⟩) hb v4).setCell (p := ⟨b, 5, none⟩) hb v5
theorem far_set6 {w : World} {g b : Nat} {t : TypeId} {cs : Array Value} {v0 v1 v2 v3 v4 v5 : Value} (h : Blk w g t cs) (hne : g ≠ b) : Blk (set6 w b v0 v1 v2 v3 v4 v5) g t cs :=
  (((((h.far (p := ⟨b, 0, none⟩) hne v0).far (p := ⟨b, 1, none⟩) hne v1).far (p := ⟨b, 2, none⟩) hne v2).far (p := ⟨b, 3, none⟩) hne v3).far (p := ⟨b, 4, none⟩) hne v4).far (p := ⟨b, 5, none⟩) hne v5
theorem fresh_blk (w : World) (cs : Array Value) : Blk ((w.alloc (.cells cs 28)).drew.alloc (.cells zent 28)) (w.heap.size + 1) 28 zent := by
  have h0 := Blk.new (w.alloc (.cells cs 28)).drew 28 zent
  simpa using h0
theorem leSix {w : World} {g gd : Nat} {x : En} (h : Blk w g 28 (leC x gd)) : w.cell? ⟨g, 0, none⟩ = some (.int .i64 x.term) ∧ w.cell? ⟨g, 1, none⟩ = some (.int .u8 x.kind) ∧ w.cell? ⟨g, 2, none⟩ = some (.int .i64 x.version) ∧ w.cell? ⟨g, 3, none⟩ = some (.int .i64 x.server) ∧ w.cell? ⟨g, 4, none⟩ = some (.bool x.good) ∧ w.cell? ⟨g, 5, none⟩ = some (.slice (some ⟨gd, 0, none⟩) x.data.length (x.data.length + 12)) :=
  ⟨h.cell 0, h.cell 1, h.cell 2, h.cell 3, h.cell 4, h.cell 5⟩
theorem lentB_at (W0 W : World) (g : Nat) (x : En) (A : Option Addr) (c : Nat) (l : List UInt8) (hl : l.length ≤ 1099511627776) (hA : Reads W0 W0.heap.size 1 A l.length (vb l)) (h6 : Blk W0 g 28 (enC x)) (hn : New W0 W) :
    Calls Tryz.prog 9 #[.slice A l.length c] W fun e w' => ∃ gi, e = .returned (.slice (some ⟨gi, 0, none⟩) l.length (l.length + 12)) ∧ Blk w' gi 5 (vb (l ++ marks 1 12)).toArray ∧ New W0 w' ∧ New W w' ∧ sixE w' g x :=
  (lent_any A c l W hl (hA.new hn)).mono fun e w' h => ⟨_, h.1.1, h.1.2, New.then hn h.2, h.2, six_blk (h6.below (New.then hn h.2) h6.lt)⟩
theorem lentE_at (W0 W : World) (g : Nat) (x : En) (hl : x.data.length ≤ 1099511627776) (hA : Reads W0 W0.heap.size 1 x.A x.data.length (vb x.data)) (h6 : Blk W0 g 28 (enC x)) (hn : New W0 W) :
    Calls Tryz.prog 10 #[enV x] W fun e w' => ∃ gd, e = .returned (ent x.term x.kind x.version x.server x.good (.slice (some ⟨gd, 0, none⟩) x.data.length (x.data.length + 12))) ∧ Blk w' gd 5 (vb (x.data ++ marks 1 12)).toArray ∧ New W0 w' ∧ New W w' ∧ sixE w' g x :=
  (lent_entry x.term x.kind x.version x.server x.good x.A x.c x.data W hl (hA.new hn)).mono fun e w' h => by
    obtain ⟨b, he, _, hb, hn'⟩ := h
    exact ⟨b, he, hb, New.then hn hn', hn', six_blk (h6.below (New.then hn hn') h6.lt)⟩

theorem Parts.nil (w : World) : Parts w [] [] := ⟨rfl, fun k h => absurd h (by simp)⟩
theorem Parts.cons {w : World} {A : Option Addr} {n c : Nat} {l : List UInt8} {vs : List Value} {ls : List (List UInt8)} (hn : n = l.length) (hr : Reads w w.heap.size 1 A n (vb l)) (h : Parts w vs ls) : Parts w (.slice A n c :: vs) (l :: ls) := by
  subst hn
  refine ⟨by simp [h.1], fun k hk => ?_⟩
  cases k with
  | zero => exact ⟨A, c, rfl, hr⟩
  | succ k => exact h.2 k (by simpa using hk)
theorem RSt_call {w0 : World} {rs : List (Value × List UInt8)} {l : List UInt8} {f : Nat} {args : Array Value} (w : World) (h : RSt w0 rs w) (hc : Calls Tryz.prog f args w (Got w l)) :
    Calls Tryz.prog f args w (fun e w' => ∃ A c, e = .returned (.slice A l.length c) ∧ RSt w0 (rs ++ [(.slice A l.length c, l)]) w' ∧ New w w') :=
  hc.mono fun e w' k => by obtain ⟨A, c, rfl, ho, hn⟩ := k; exact ⟨A, c, rfl, h.push ho hn, hn⟩
theorem apart_rs {w0 w : World} {rs : List (Value × List UInt8)} {n : Nat} (A : Option Addr) (C : Nat) (h : RSt w0 rs w) (hn : n = rs.length) (hK : n ≤ 1000000) (hl : ∀ p ∈ rs, p.2.length ≤ 1099511627776) (hA : Reads w w.heap.size 1 A n (rs.map Prod.fst)) :
    Calls Tryz.prog 19 #[.slice A n C] w fun e w' => e = .returned (.bool true) ∧ Below w0.heap.size w w' := by
  have e : n = (rs.map fun p => p.2.length).length := by simp [hn]
  have hE := h.each
  have hlen : ∀ k (hk : k < (rs.map fun p => p.2.length).length), (rs.map fun p => p.2.length)[k] ≤ 1099511627776 := fun k hk => by
    simp only [List.getElem_map]
    exact hl _ (List.getElem_mem _)
  rw [e] at hA hK ⊢
  refine (ApartBytes_any w w0.heap.size A C _ _ h.new.size hK hlen hE hA).mono fun e w' hh => ⟨hh.1, hh.2.below h.new.size fun k hk hS => ?_⟩
  obtain ⟨j, v, hv, hg⟩ := hS
  rw [List.getElem?_map] at hv
  obtain ⟨p, hp, rfl⟩ := Option.map_eq_some_iff.1 hv
  obtain ⟨hj, rfl⟩ := List.getElem?_eq_some_iff.1 hp
  exact ((h.row j hj).2.lt k hg).1
theorem same_two (A B : Option Addr) (n m c d : Nat) (l : List UInt8) (w : World) (hn : n = l.length) (hm : m = l.length) (hl : l.length ≤ 1099511627776) (hA : Reads w w.heap.size 1 A n (vb l)) (hB : Reads w w.heap.size 1 B m (vb l)) :
    Calls Tryz.prog 16 #[.slice A n c, .slice B m d] w fun e w' => e = .returned (.bool true) ∧ New w w' := by
  subst hn
  subst hm
  exact same_any A B c d l w hl hA hB
/-- A row that grows out of nothing, made since w0. -/
structure Ac (w0 : World) (v : Value) (z : List UInt8) (w : World) : Prop where
  own : w.ownsRow w0.heap.size 5 1 v z.length (vb z)
  new : New w0 w
theorem Ac.keep {w0 w w' : World} {v : Value} {z : List UInt8} (h : Ac w0 v z w) (hn : New w w') : Ac w0 v z w' := ⟨own_new h.own hn, New.then h.new hn⟩
theorem Ac.made (w0 w : World) (h : New w0 w) : Ac w0 (.slice (some ⟨w.heap.size, 0, none⟩) 0 0) [] (w.alloc (.cells #[] 5)) :=
  ⟨World.ownsRow_made (e := 5) (base := w0.heap.size) (size := 1) w #[] 0 h.size (by unfold maxLen; omega) (by simp), h.alloc h.size _⟩
theorem Ac.call {w0 w : World} {v : Value} {z l : List UInt8} {f : Nat} {args : Array Value} (h : Ac w0 v z w) (hc : Calls Tryz.prog f args w (Got w l)) :
    Calls Tryz.prog f args w (fun e w' => ∃ A c, e = .returned (.slice A l.length c) ∧ Ac w0 v z w' ∧ Reads w' w'.heap.size 1 A l.length (vb l)) :=
  hc.mono fun e w' k => by obtain ⟨A, c, rfl, ho, hn⟩ := k; exact ⟨A, c, rfl, h.keep hn, (own_typed ho).2.1⟩
theorem step_ac {ops : Array Oper} {o : Oper} {a : Act} {K : Act → World → Prop} {Q : Exit → Act → World → Prop} {E : Prop} {w : World} (hgd : o.guard = none) (s x : Operand)
    (ho : o.op = .call { callee := .builtin .append, args := #[s, x], argTypes := #[23, 23] })
    {w0 : World} {v : Value} {z l : List UInt8} {A : Option Addr} {c : Nat} (h : Ac w0 v z w) (hs : a.eval s = v) (hx : a.eval x = .slice A l.length c) (hr : Reads w w.heap.size 1 A l.length (vb l)) (hb : z.length + l.length ≤ 1099511627776)
    (hK : ∀ v' w', Ac w0 v' (z ++ l) w' → K (a.put o.dst v') w') :
    if Region.wanted o (yielded ops a.tmps) = true then Oper.wp Tryz.prog o a w K Q else E := by
  obtain ⟨i0, hi, hz0, hz1, hz2⟩ := info_parts byte_info
  refine step_append_any w hgd s x 23 ho w0.heap.size 5 i0 _ 1 1 Tryz.underlying23 hi hz0 hz1 hz2 rfl (by omega) v _ _ hs h.own _ A l.length c (vb l) hx hr (vb_one _) (by unfold maxLen; omega) (by omega) h.new.size ?_
  intro v' w' hown hg _
  refine hK v' w' ⟨?_, h.new.grown hg h.new.size (fun k hk => (h.own.lt k hk).1)⟩
  rw [vb_append, List.length_append]
  exact hown
theorem reads_ac {w0 w : World} {v : Value} {z : List UInt8} (h : Ac w0 v z w) : ∃ A c, v = .slice A z.length c ∧ Reads w w.heap.size 1 A z.length (vb z) := by
  obtain ⟨A, c, rfl, _, _, hr⟩ := own_len h.own
  exact ⟨A, c, rfl, hr⟩

set_option maxRecDepth 100000 in
set_option maxHeartbeats 20000000 in
theorem WirePuts_any (T : TypeId) (q : Addr) (n : Int) (A : Option Addr) (c : Nat) (l : List UInt8) (x : En) (w : World) (hE : ErrAt w T q)
    (n0 : -9223372036854775808 ≤ n) (n1 : n ≤ 9223372036854775807) (hll : l.length ≤ maxLen) (hx : x.Ok) (hA : Reads w w.heap.size 1 A l.length (vb l)) (hD : Reads w w.heap.size 1 x.A x.data.length (vb x.data)) :
    Calls Tryz.prog 5 #[.int .i64 n, .slice A l.length c, enV x] w fun e w' => e = .returned (.bool true) ∧ New w w' := by
  have HE := Lib.hid hE
  have HXK := Lib.hid hx
  have hdl := hx.l
  unfold maxLen at hll hdl
  have hn0 := (new_refl w).alloc (Nat.le_refl _) (.cells (enC x) 28)
  have HA := Lib.hid (hA.new hn0)
  have HD := Lib.hid (hD.new hn0)
  have HX := Lib.hid (Blk.new w 28 (enC x))
  clear hE hx hA hD
  by_cases hb : 20000 < l.length ∨ 20000 < x.data.length
  · by_cases h1 : 20000 < l.length
    · have t1 : (20000 : Int) < (l.length : Int) := by omega
      clear hb
      go_enter Tryz.func5, Tryz.ntmps5
      go_wp2_with (go_at_call 8; refine (awake_any T q _ (HE.out.ch (Ch.of_new (S := fun _ => False) hn0) id)).mono ?_; rintro e w1 ⟨rfl, hn1⟩)
      go_ret
      exact ⟨rfl, New.then hn0 hn1⟩
    · have t1 : ¬ (20000 : Int) < (l.length : Int) := by omega
      have t2 : (20000 : Int) < (x.data.length : Int) := by omega
      clear hb
      go_enter Tryz.func5, Tryz.ntmps5
      go_wp2_with (go_at_call 8; refine (awake_any T q _ (HE.out.ch (Ch.of_new (S := fun _ => False) hn0) id)).mono ?_; rintro e w1 ⟨rfl, hn1⟩)
      go_ret
      exact ⟨rfl, New.then hn0 hn1⟩
  · have t1 : ¬ (20000 : Int) < (l.length : Int) := by omega
    have t2 : ¬ (20000 : Int) < (x.data.length : Int) := by omega
    have g1 : l.length ≤ 20000 := by omega
    have g2 : x.data.length ≤ 20000 := by omega
    clear hb hll hdl
    have HLB := Lib.hid (fun W hn => lentB_at _ W w.heap.size x A c l (by omega) HA.out HX.out hn)
    have HLE := Lib.hid (fun W hn => lentE_at _ W w.heap.size x (by omega) HD.out HX.out hn)
    go_enter Tryz.func5, Tryz.ntmps5
    go_upto_region 3 with fail
    go_cut [7, 8] (fun s7 s8 wx => ∃ gi gx gd : Nat, s7 = .slice (some ⟨gi, 0, none⟩) l.length (l.length + 12) ∧ s8 = .pointer (some ⟨gx, 0, none⟩) ∧ Blk wx gi 5 (vb (l ++ marks 1 12)).toArray ∧ Blk wx gd 5 (vb (x.data ++ marks 1 12)).toArray ∧ Blk wx gx 28 (leC x gd) ∧ New (w.alloc (.cells (enC x) 28)) wx)
    case first =>
      go_region_held3 (fun w' => w'.cell? ⟨w.heap.size, 0, none⟩ = some (.int .i64 x.term) ∧ w'.cell? ⟨w.heap.size, 1, none⟩ = some (.int .u8 x.kind) ∧ w'.cell? ⟨w.heap.size, 2, none⟩ = some (.int .i64 x.version) ∧ w'.cell? ⟨w.heap.size, 3, none⟩ = some (.int .i64 x.server) ∧ w'.cell? ⟨w.heap.size, 4, none⟩ = some (.bool x.good) ∧ w'.cell? ⟨w.heap.size, 5, none⟩ = some (.slice x.A x.data.length x.c))
        (first | go_keep | exact six_set6 ⟨s0, s1, s2, s3, s4, s5⟩ (by omega) | exact six_set6 ⟨s0, s1, s2, s3, s4, s5⟩ (by have := hN1.size; simp at this; omega))
        (first
          | (go_at_call 9; refine (HLB.out _ (by first | assumption | exact new_refl _ | exact alloc_new _ _ | exact Below.drew (new_refl _) | exact Below.drew (alloc_new _ _) | exact New.then (Below.drew (new_refl _)) (alloc_new _ _))).mono ?_; rintro e w1 ⟨gi, rfl, hbi, hN1, hn1, s0, s1, s2, s3, s4, s5⟩; (first | (have hz1 : Blk w1 (w.heap.size + 1) 28 zent := Blk.below (fresh_blk _ _) hn1 (by simp)) | skip))
          | (go_at_call 10; refine (HLE.out _ (by first | assumption | exact New.then hN1 (alloc_new _ _))).mono ?_; rintro e w2 ⟨gd, rfl, hbd, hN2, hn2, s0, s1, s2, s3, s4, s5⟩; (first | (have hz : Blk w2 (w.heap.size + 1) 28 zent := hz1.below hn2 hz1.lt; obtain ⟨⟨z0, z1, z2, z3, z4, z5⟩, f0, f1, f2, f3, f4, f5⟩ := zfacts hz) | (have hz : Blk w2 w1.heap.size 28 zent := Blk.below (heap_alloc_new _ _) hn2 (by simp); obtain ⟨⟨z0, z1, z2, z3, z4, z5⟩, f0, f1, f2, f3, f4, f5⟩ := zfacts hz) | skip)))
      all_goals go_wp2_with fail
      all_goals go_meet
      · exact ⟨gi, w2.heap.size, gd, rfl, rfl, (hbi.below hn2 hbi.lt).alloc _, hbd.alloc _, Blk.new _ _ _, New.then hN2 (alloc_new _ _)⟩
      · exact ⟨gi, w1.heap.size, gd, rfl, rfl, far_set6 (hbi.below (New.then (alloc_new w1 _) hn2) hbi.lt) (by have := hbi.lt; omega), far_set6 hbd (Blk.ne_ hbd hz (by decide)), blk_set6 hz, new_set6 hN2 hN1.size⟩
      · exact ⟨gi, w.heap.size + 1, gd, rfl, rfl, far_set6 (hbi.below hn2 hbi.lt) (Blk.ne_ (hbi.below hn2 hbi.lt) hz (by decide)), far_set6 hbd (Blk.ne_ hbd hz (by decide)), blk_set6 hz, new_set6 hN2 (by simp)⟩
    case rest =>
      obtain ⟨gi, gx, gd, rfl, rfl, hbi, hbd, hbx, hN⟩ := hcut
      obtain ⟨W4, rfl⟩ : ∃ W4 : World, W4 = wc := ⟨_, rfl⟩
      have HBI := Lib.hid hbi
      have HBD := Lib.hid hbd
      have HBX := Lib.hid hbx
      have HN := Lib.hid hN
      clear HLB HLE hbi hbd hbx hN
      have hdl : x.data.length ≤ 274877906944 := by omega
      have hbl : l.length ≤ 549755813888 := by omega
      have hkk := HXK.out.k
      obtain ⟨s0, s1, s2, s3, s4, s5⟩ := leSix HBX.out
      go_wp2_with fail
      go_region_held3 (fun w' => w'.cell? ⟨gx, 0, none⟩ = some (.int .i64 x.term) ∧ w'.cell? ⟨gx, 1, none⟩ = some (.int .u8 x.kind) ∧ w'.cell? ⟨gx, 2, none⟩ = some (.int .i64 x.version) ∧ w'.cell? ⟨gx, 3, none⟩ = some (.int .i64 x.server) ∧ w'.cell? ⟨gx, 4, none⟩ = some (.bool x.good) ∧ w'.cell? ⟨gx, 5, none⟩ = some (.slice (some ⟨gd, 0, none⟩) x.data.length (x.data.length + 12)))
        (go_keep)
        (first
          | (go_at_call 11; refine (RSt.call _ ((RSt.nil W4).keep (Below.drew (new_refl _))) (wire.number_any n _)).mono ?_; rintro e w1 ⟨A1, c1, rfl, hR1⟩; obtain ⟨s0, s1, s2, s3, s4, s5⟩ := leSix (HBX.out.below hR1.new HBX.out.lt))
          | (go_at_call 12; refine (RSt.call _ hR1 (wire.bytes_any _ _ l _ hbl (lent_reads (HBI.out.below hR1.new HBI.out.lt)))).mono ?_; rintro e w2 ⟨A2, c2, rfl, hR2⟩; obtain ⟨s0, s1, s2, s3, s4, s5⟩ := leSix (HBX.out.below hR2.new HBX.out.lt))
          | (go_at_call 13; refine (RSt.call _ hR2 (wire.entry_any x.term x.kind x.version x.server x.good _ _ x.data _ hkk.1 hkk.2 hdl (lent_reads (HBD.out.below hR2.new HBD.out.lt)))).mono ?_; rintro e w3 ⟨A3, c3, rfl, hR3⟩; obtain ⟨s0, s1, s2, s3, s4, s5⟩ := leSix (HBX.out.below hR3.new HBX.out.lt)))
      have hN3 := New.then HN.out hR3.new
      have HR3 := Lib.hid hR3
      clear hR1 hR2 hR3 s0 s1 s2 s3 s4 s5
      go_upto_region 5 with fail
      go_cut [12] (fun s12 wx => ∃ A c, s12 = .slice A ((numB n ++ lenB l) ++ (entX x)).length c ∧ Reads wx wx.heap.size 1 A ((numB n ++ lenB l) ++ (entX x)).length (vb ((numB n ++ lenB l) ++ (entX x))) ∧ New w3 wx)
      case first =>
        have hl1 : (numB n).length = 8 := numB_length n
        have hl2 : (lenB l).length ≤ 20008 := by simp [lenB, numB_length]; omega
        have hl3 : (entB x.term x.kind x.version x.server x.good x.data).length ≤ 20048 := by simp [entB, lenB, numB_length]; omega
        have HX3 := Lib.hid (HX.out.below hN3 HX.out.lt)
        have HA3 := Lib.hid (HA.out.new hN3)
        have HD3 := Lib.hid (HD.out.new hN3)
        have hM3 := Ac.made w3 w3.drew (Below.drew (new_refl w3))
        have hM3d : Ac w3 (.slice (some ⟨w3.heap.size, 0, none⟩) 0 0) [] (w3.alloc (.cells #[] 5)).drew := ⟨(Ac.made w3 w3 (new_refl w3)).own, Below.drew (Ac.made w3 w3 (new_refl w3)).new⟩
        have hN3d : New w3 w3.drew := Below.drew (new_refl w3)
        obtain ⟨s0, s1, s2, s3, s4, s5⟩ := six_blk HX3.out
        go_region_held3 (fun w' => w'.cell? ⟨w.heap.size, 0, none⟩ = some (.int .i64 x.term) ∧ w'.cell? ⟨w.heap.size, 1, none⟩ = some (.int .u8 x.kind) ∧ w'.cell? ⟨w.heap.size, 2, none⟩ = some (.int .i64 x.version) ∧ w'.cell? ⟨w.heap.size, 3, none⟩ = some (.int .i64 x.server) ∧ w'.cell? ⟨w.heap.size, 4, none⟩ = some (.bool x.good) ∧ w'.cell? ⟨w.heap.size, 5, none⟩ = some (.slice x.A x.data.length x.c))
          (go_keep)
          (first
            | (go_at_call 4; (refine (rwire.number_any n _).mono ?_); rintro e w4 ⟨A4, c4, rfl, ho4, hn4⟩; (first
              | ((with_reducible have hM4 : Ac w3 (.slice (some ⟨w3.drew.heap.size, 0, none⟩) 0 0) [] w4 := hM3.keep hn4); have hr4 := (own_typed ho4).2.1; obtain ⟨s0, s1, s2, s3, s4, s5⟩ := six_blk (HX3.out.below hM4.new HX3.out.lt))
              | ((with_reducible have hM4 : Ac w3 (.slice (some ⟨w3.heap.size, 0, none⟩) 0 0) [] w4 := hM3d.keep hn4); have hr4 := (own_typed ho4).2.1; obtain ⟨s0, s1, s2, s3, s4, s5⟩ := six_blk (HX3.out.below hM4.new HX3.out.lt))
              | ((with_reducible have hN4 : New w3 w4 := New.then hN3d hn4); have hM4 := Ac.made w3 w4 hN4; have hr4 := (own_typed ho4).2.1.new (alloc_new w4 (.cells #[] 5)); obtain ⟨s0, s1, s2, s3, s4, s5⟩ := six_blk (HX3.out.below hN4 HX3.out.lt))))
            | (go_at_call 14; (with_reducible refine (Ac.call hM5 (rwire.bytes_any A c l w5 hbl (HA3.out.new hM5.new))).mono ?_); rintro e w6 ⟨A6, c6, rfl, hM6, hr6⟩; obtain ⟨s0, s1, s2, s3, s4, s5⟩ := six_blk (HX3.out.below hM6.new HX3.out.lt))
            | (go_at_call 7; (with_reducible refine (Ac.call hM7 (rwire.entry_any x.term x.kind x.version x.server x.good x.A x.c x.data w7 hkk.1 hkk.2 hdl (HD3.out.new hM7.new))).mono ?_); rintro e w8 ⟨A8, c8, rfl, hM8, hr8⟩; obtain ⟨s0, s1, s2, s3, s4, s5⟩ := six_blk (HX3.out.below hM8.new HX3.out.lt))
            | (refine step_ac (by rfl) (.tmp 37) (.tmp 39) (by rfl) hM4 (by rfl) (by rfl) hr4 (by simp only [List.length_nil]; omega) ?_; intro v5 w5 hM5; obtain ⟨s0, s1, s2, s3, s4, s5⟩ := six_blk (HX3.out.below hM5.new HX3.out.lt))
            | (refine step_ac (by rfl) (.tmp 40) (.tmp 42) (by rfl) hM6 (by rfl) (by rfl) hr6 (by simp only [List.length_nil, List.length_append]; omega) ?_; intro v7 w7 hM7; obtain ⟨s0, s1, s2, s3, s4, s5⟩ := six_blk (HX3.out.below hM7.new HX3.out.lt))
            | (refine step_ac (by rfl) (.tmp 43) (.tmp 45) (by rfl) hM8 (by rfl) (by rfl) hr8 (by simp only [List.length_nil, List.length_append]; omega) ?_; intro v9 w9 hM9; obtain ⟨s0, s1, s2, s3, s4, s5⟩ := six_blk (HX3.out.below hM9.new HX3.out.lt)))
        all_goals go_wp2_with fail
        all_goals go_meet
        all_goals
          obtain ⟨A9, c9, e9, hr9⟩ := reads_ac hM9
          exact ⟨A9, c9, e9, hr9, hM9.new⟩
      case rest =>
        obtain ⟨Aw, cw, rfl, hrw, hnw⟩ := hcut
        obtain ⟨W5, rfl⟩ : ∃ W5 : World, W5 = wc := ⟨_, rfl⟩
        have hR := HR3.out.keep hnw
        have hl1 : (numB n).length = 8 := numB_length n
        have hl2 : (lenB l).length ≤ 20008 := by simp [lenB, numB_length]; omega
        have hl3 : (entX x).length ≤ 20048 := by have := entX_len x; omega
        have hq1 := hR.at_ 0 (by simp) rfl
        have hq2 := hR.at_ 1 (by simp) rfl
        have hq3 := hR.at_ 2 (by simp) rfl
        have HQ1 := Lib.hid hq1
        have HQ2 := Lib.hid hq2
        have HQ3 : Hid (Reads W5 W5.heap.size 1 A3 (entX x).length (vb (entX x))) := Lib.hid hq3
        have HRW := Lib.hid hrw
        have HR5 := Lib.hid hR
        have HL1 : Hid ((numB n).length ≤ 1099511627776) := Lib.hid (by omega)
        have HL2 : Hid ((lenB l).length ≤ 1099511627776) := Lib.hid (by omega)
        have HL3 : Hid ((entX x).length ≤ 1099511627776) := Lib.hid (by omega)
        have HN5 := Lib.hid (New.then HN.out hR.new)
        clear hq1 hq2 hq3 hrw hR HR3 hnw hN3 hl1
        go_wp2_with (first
          | (go_at_call 9; ((with_reducible refine (lent_any A1 c1 (numB n) W5 HL1.out HQ1.out).mono ?_); rintro e w10 ⟨⟨rfl, hb1⟩, hn10⟩))
          | (go_at_call 9; ((with_reducible refine (lent_any A2 c2 (lenB l) w10 HL2.out (HQ2.out.new hn10)).mono ?_); rintro e w11 ⟨⟨rfl, hb2⟩, hn11⟩))
          | (go_at_call 9; ((with_reducible refine (lent_any A3 c3 (entX x) w11 HL3.out ((HQ3.out.new hn10).new hn11)).mono ?_); rintro e w12 ⟨⟨rfl, hb3⟩, hn12⟩))
          | (go_at_call 15; go_loud (refine (RSt_call _ (HR5.out.keep (New.then (New.then (New.then hn10 hn11) hn12) (alloc_new w12 _))) (wire.join_any _ 4 4 [.slice (some ⟨W5.heap.size, 0, none⟩) (numB n).length ((numB n).length + 12), .slice (some ⟨w10.heap.size, 0, none⟩) (lenB l).length ((lenB l).length + 12), .slice none 0 0, .slice (some ⟨w11.heap.size, 0, none⟩) (entX x).length ((entX x).length + 12)] [numB n, lenB l, [], (entX x)] _ rfl (Parts.cons rfl (lent_reads ((hb1.below (New.then hn11 hn12) hb1.lt).alloc _)) (Parts.cons rfl (lent_reads ((hb2.below hn12 hb2.lt).alloc _)) (Parts.cons rfl (reads_nil _ _) (Parts.cons rfl (lent_reads (hb3.alloc _)) (Parts.nil _))))) (reads_blk (Blk.new w12 _ _)) (by simp) (by simp only [catB, List.flatten_cons, List.flatten_nil, List.length_append, List.length_nil, numB_length]; omega))).mono ?_); rintro e w14 ⟨A14, c14, rfl, hR, hn14⟩))
        have hcat : catB [numB n, lenB l, [], (entX x)] = (numB n ++ lenB l) ++ (entX x) := by simp [catB]
        have hn514 : New W5 w14 := New.then (New.then (New.then (New.then hn10 hn11) hn12) (alloc_new w12 _)) hn14
        have hn1214 : New w12 w14 := New.then (alloc_new w12 _) hn14
        have HB1 : Hid (Blk w14 W5.heap.size 5 (vb (numB n ++ marks 1 12)).toArray) := Lib.hid (hb1.below (New.then (New.then hn11 hn12) hn1214) hb1.lt)
        have HB2 : Hid (Blk w14 w10.heap.size 5 (vb (lenB l ++ marks 1 12)).toArray) := Lib.hid (hb2.below (New.then hn12 hn1214) hb2.lt)
        have HB3 : Hid (Blk w14 w11.heap.size 5 (vb ((entX x) ++ marks 1 12)).toArray) := Lib.hid (hb3.below hn1214 hb3.lt)
        have hP1 : Reads w14 w14.heap.size 1 A1 (numB n).length (vb (numB n)) := hR.at_ 0 (by simp) rfl
        have hP2 : Reads w14 w14.heap.size 1 A2 (lenB l).length (vb (lenB l)) := hR.at_ 1 (by simp) rfl
        have hP3 : Reads w14 w14.heap.size 1 A3 (entX x).length (vb (entX x)) := hR.at_ 2 (by simp) rfl
        have hP4 := hR.at_ 3 (by simp) rfl
        rw [hcat] at hP4
        have HP1 := Lib.hid hP1
        have HP2 := Lib.hid hP2
        have HP3 := Lib.hid hP3
        have HP4 : Hid (Reads w14 w14.heap.size 1 A14 ((numB n ++ lenB l) ++ (entX x)).length (vb ((numB n ++ lenB l) ++ (entX x)))) := Lib.hid hP4
        have HCAT := Lib.hid hcat
        have HW14 := Lib.hid (HRW.out.new hn514)
        have hNx := New.then HN.out hR.new
        have HI14 := Lib.hid (HBI.out.below hR.new HBI.out.lt)
        have HD14 := Lib.hid (HBD.out.below hR.new HBD.out.lt)
        have HX14 := Lib.hid (HBX.out.below hR.new HBX.out.lt)
        have HE14 := Lib.hid (HX.out.below hNx HX.out.lt)
        have HA14 := Lib.hid (HA.out.new hNx)
        have HDD14 := Lib.hid (HD.out.new hNx)
        have HR14 := Lib.hid hR
        have HNX := Lib.hid hNx
        have HLC : Hid ((catB [numB n, lenB l, [], (entX x)]).length = ((numB n ++ lenB l) ++ (entX x)).length ∧ ((numB n ++ lenB l) ++ (entX x)).length ≤ 1099511627776) := Lib.hid ⟨by rw [hcat], by simp only [List.length_append, numB_length]; omega⟩
        clear hb1 hb2 hb3 hn10 hn11 hn12 hn14 hn514 hn1214 hP1 hP2 hP3 hP4 hcat hNx hR HRW HQ1 HQ2 HQ3 HR5
        have hl5 : l.length ≤ 549755813888 := by omega
        go_wp2_with (go_at_call 4; ((with_reducible refine (rwire.number_any n _).mono ?_); rintro e w15 ⟨A15, c15, rfl, ho, hn15⟩))
        go_wp2_with (go_at_call 16; ((with_reducible refine (same_any A1 A15 c1 c15 (numB n) _ HL1.out (HP1.out.new hn15) (own_typed ho).2.1).mono ?_); rintro e w16 ⟨rfl, hn16⟩))
        have hN := New.then hn15 hn16
        clear hn15 hn16 ho
        go_wp2_with (go_at_call 14; ((with_reducible refine (rwire.bytes_any A c l _ hl5 (HA14.out.new hN)).mono ?_); rintro e w17 ⟨A17, c17, rfl, ho, hn17⟩))
        go_wp2_with (go_at_call 16; ((with_reducible refine (same_any A2 A17 c2 c17 (lenB l) _ HL2.out (HP2.out.new (New.then hN hn17)) (own_typed ho).2.1).mono ?_); rintro e w18 ⟨rfl, hn18⟩; obtain ⟨s0, s1, s2, s3, s4, s5⟩ := six_blk (HE14.out.below (New.then (New.then hN hn17) hn18) HE14.out.lt)))
        have hN2 := New.then (New.then hN hn17) hn18
        clear hn17 hn18 ho hN
        go_wp2_with (go_at_call 7; ((with_reducible refine (rwire.entry_any x.term x.kind x.version x.server x.good x.A x.c x.data _ hkk.1 hkk.2 hdl (HDD14.out.new hN2)).mono ?_); rintro e w19 ⟨A19, c19, rfl, ho, hn19⟩))
        go_wp2_with (go_at_call 16; ((with_reducible refine (same_any A3 A19 c3 c19 (entX x) _ HL3.out (HP3.out.new (New.then hN2 hn19)) (own_typed ho).2.1).mono ?_); rintro e w20 ⟨rfl, hn20⟩))
        have hN3 := New.then (New.then hN2 hn19) hn20
        clear hn19 hn20 ho hN2 s0 s1 s2 s3 s4 s5
        go_wp2_with (go_at_call 16; ((with_reducible refine (same_two A14 Aw _ _ c14 cw ((numB n ++ lenB l) ++ (entX x)) _ HLC.out.1 (by simp only [List.length_append, Nat.add_assoc]) HLC.out.2 (by rw [HLC.out.1]; exact HP4.out.new hN3) (by have h := HW14.out.new hN3; simp only [List.length_append, Nat.add_assoc] at h ⊢; exact h)).mono ?_); rintro e w21 ⟨rfl, hn21⟩))
        have hN4 := New.then hN3 hn21
        clear hN3 hn21
        go_wp2_with (go_at_call 17; ((with_reducible refine (kept_any gi A c l _ (by omega) (HI14.out.below hN4 HI14.out.lt) (HA14.out.new hN4)).mono ?_); rintro e w22 ⟨rfl, hn22⟩; obtain ⟨s0, s1, s2, s3, s4, s5⟩ := six_blk (HE14.out.below (New.then hN4 hn22) HE14.out.lt); obtain ⟨y0, y1, y2, y3, y4, y5⟩ := leSix (HX14.out.below (New.then hN4 hn22) HX14.out.lt)))
        have hN5 := New.then hN4 hn22
        clear hN4 hn22
        go_wp2_with (go_at_call 18; ((with_reducible refine (kept_entry x.term x.kind x.version x.server x.good gd x.A x.c x.data _ (by omega) (HD14.out.below hN5 HD14.out.lt) (HDD14.out.new hN5)).mono ?_); rintro e w23 ⟨rfl, hn23⟩))
        have hN6 := New.then hN5 hn23
        clear hN5 hn23 s0 s1 s2 s3 s4 s5 y0 y1 y2 y3 y4 y5
        go_wp2_with (go_at_call 17; ((with_reducible refine (kept_any _ A1 c1 (numB n) _ HL1.out (HB1.out.below hN6 HB1.out.lt) (HP1.out.new hN6)).mono ?_); rintro e w24 ⟨rfl, hn24⟩))
        have hN7 := New.then hN6 hn24
        clear hN6 hn24
        go_wp2_with (go_at_call 17; ((with_reducible refine (kept_any _ A2 c2 (lenB l) _ HL2.out (HB2.out.below hN7 HB2.out.lt) (HP2.out.new hN7)).mono ?_); rintro e w25 ⟨rfl, hn25⟩))
        have hN8 := New.then hN7 hn25
        clear hN7 hn25
        go_wp2_with (go_at_call 17; ((with_reducible refine (kept_any _ A3 c3 (entX x) _ HL3.out (HB3.out.below hN8 HB3.out.lt) (HP3.out.new hN8)).mono ?_); rintro e w26 ⟨rfl, hn26⟩))
        have hN9 := New.then hN8 hn26
        clear hN8 hn26
        have HJ0 := Lib.hid (wire.join_any none 0 0 [] [] w26 rfl (Parts.nil _) (reads_nil _ _) (by simp) (by simp [catB]))
        go_wp2_with (go_at_call 15; ((refine HJ0.out.mono ?_); rintro e w27 ⟨A27, c27, rfl, ho, hn27⟩))
        have hN10 := New.then hN9 hn27
        clear hN9 hn27 ho
        have HJ28 := Lib.hid (RSt_call _ (HR14.out.keep (New.then hN10 (alloc_new w27 (.cells #[.slice (some ⟨w10.heap.size, 0, none⟩) (lenB l).length ((lenB l).length + 12)] 23)))) (wire.join_any (some ⟨w27.heap.size, 0, none⟩) 1 1 [.slice (some ⟨w10.heap.size, 0, none⟩) (lenB l).length ((lenB l).length + 12)] [lenB l] _ rfl (Parts.cons rfl (lent_reads ((HB2.out.below hN10 HB2.out.lt).alloc _)) (Parts.nil _)) (reads_blk (Blk.new w27 _ _)) (by simp) (by simp only [catB, List.flatten_cons, List.flatten_nil, List.length_append, List.length_nil]; omega)))
        go_wp2_with (go_at_call 15; ((refine HJ28.out.mono ?_); rintro e w28 ⟨A28, c28, rfl, hR28, hn28⟩))
        have hN11 := New.then (New.then hN10 (alloc_new w27 _)) hn28
        clear hN10 hn28
        have HR28 := Lib.hid hR28
        clear hR28
        go_wp2_with (go_at_call 12; ((with_reducible refine (RSt_call _ HR28.out (wire.bytes_any _ _ l _ hl5 (lent_reads (HI14.out.below hN11 HI14.out.lt)))).mono ?_); rintro e w29 ⟨A29, c29, rfl, hR29, hn29⟩))
        have HR29 := Lib.hid hR29
        clear hR29 hn29 hN11
        have hap := HR29.out.keep (alloc_new w29 (.cells #[.slice A1 (numB n).length c1, .slice A2 (lenB l).length c2, .slice A3 (entX x).length c3, .slice A14 (catB [numB n, lenB l, [], (entX x)]).length c14, .slice A28 (catB [lenB l]).length c28, .slice A29 (lenB l).length c29] 23))
        have HAP := Lib.hid hap
        clear hap
        have hls : ∀ p ∈ ([(.slice A1 (numB n).length c1, numB n)] ++ [(.slice A2 (lenB l).length c2, lenB l)] ++ [(.slice A3 (entX x).length c3, (entX x))] ++ [(.slice A14 (catB [numB n, lenB l, [], (entX x)]).length c14, catB [numB n, lenB l, [], (entX x)])] ++ [(.slice A28 (catB [lenB l]).length c28, catB [lenB l])] ++ [(.slice A29 (lenB l).length c29, lenB l)] : List (Value × List UInt8)), p.2.length ≤ 1099511627776 := by
          intro p hp
          simp only [List.cons_append, List.nil_append, List.mem_cons, List.not_mem_nil, or_false] at hp
          rcases hp with rfl | rfl | rfl | rfl | rfl | rfl
          · exact HL1.out
          · exact HL2.out
          · exact HL3.out
          · simp only; rw [HLC.out.1]; exact HLC.out.2
          · have := HL2.out; simpa [catB] using this
          · exact HL2.out
        have HLS := Lib.hid hls
        clear hls
        go_wp2_with (go_at_call 19; go_loud (refine (apart_rs (n := 6) _ 6 HAP.out (by simp) (by omega) HLS.out (reads_blk (Blk.new w29 _ _))).mono ?_); rintro e w30 ⟨rfl, hb30⟩)
        have hf : New w w30 := New.then hn0 (HN.out.trans ((HAP.out.new.trans hb30).mono HN.out.size))
        go_wp2_with (go_at_call 8; ((with_reducible refine (awake_any T q _ (HE.out.ch (Ch.of_new (S := fun _ => False) hf) id)).mono ?_); rintro e w31 ⟨rfl, hn31⟩))
        go_ret
        exact ⟨rfl, New.then hf hn31⟩
end Go.Proofs.YtpkiopijfhkagaaGreatDoor.laws
