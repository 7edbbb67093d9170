/-
  Maps with strings as keys, that a call has made: laws over any program.
-/
import Derived.Test.YtddojdgnakajmaaGreatDoorKit
import Derived.Test.YtddojdgnakajmaaGreatDoorTA
import Derived.MapKept
import Derived.Test.YtddojdgnakajmaaGreatDoorTH
import Derived.Deep.RegionHeld3
namespace Go.Proofs.YtddojdgnakajmaaGreatDoor.txt
open Go.RowKit Go.Proofs.YtddojdgnakajmaaGreatDoor.mem
set_option linter.unusedVariables false

def look (k : Bs) : List (Bs × Value) → Option Value
  | [] => none
  | p :: l => if k = p.1 then some p.2 else look k l
def kv (l : List (Bs × Value)) : List (Value × Value) := l.map fun p => (.string ⟨p.1.toArray⟩, p.2)
/-- Block b is a map that reads as l, in the order in which its keys were put. -/
def MapAt (w : World) (b : Nat) (l : List (Bs × Value)) : Prop := ∃ es clock, w.heap[b]? = some (.map es clock) ∧ es.toList.map (fun e => (e.key, e.val)) = kv l
theorem MapAt.lt {w : World} {b : Nat} {l : List (Bs × Value)} (h : MapAt w b l) : b < w.heap.size := by
  obtain ⟨es, c, hb, _⟩ := h
  exact (Array.getElem?_eq_some_iff.1 hb).1
theorem MapAt.new {w w' : World} {b : Nat} {l : List (Bs × Value)} (h : MapAt w b l) (hn : New w w') : MapAt w' b l := by
  have hlt := h.lt
  obtain ⟨es, c, hb, hk⟩ := h
  exact ⟨es, c, (hn.block b hlt).trans hb, hk⟩
theorem MapAt.ch {w w' : World} {b : Nat} {l : List (Bs × Value)} {S : Nat → Prop} (h : MapAt w b l) (hc : Ch S w w') (hs : ¬ S b) : MapAt w' b l := by
  have hlt := h.lt
  obtain ⟨es, c, hb, hk⟩ := h
  exact ⟨es, c, (hc.block b hlt hs).trans hb, hk⟩
theorem MapAt.ne {w : World} {b g : Nat} {l : List (Bs × Value)} {t : TypeId} {cs : Array Value} (h : MapAt w b l) (hg : Blk w g t cs) : b ≠ g := by
  obtain ⟨es, c, hb, _⟩ := h
  rintro rfl
  unfold Blk at hg
  rw [hb] at hg
  cases hg
theorem MapAt.made (w : World) : MapAt (w.alloc (.map #[] 0)) w.heap.size [] := ⟨#[], 0, heap_alloc_new w _, rfl⟩

theorem ba_beq (a b : Bs) : ((⟨a.toArray⟩ : ByteArray) == ⟨b.toArray⟩) = (a == b) := by
  show (a.toArray == b.toArray) = _
  simp
theorem find_kv (k : Bs) : ∀ (es : List MapEntry) (l : List (Bs × Value)) (i : Nat), es.map (fun e => (e.key, e.val)) = kv l →
    (∃ j v, Instr.findNow .string (.string ⟨k.toArray⟩) es i = some (some (j, v)) ∧ look k l = some v) ∨ (Instr.findNow .string (.string ⟨k.toArray⟩) es i = some none ∧ look k l = none)
  | [], [], i, _ => Or.inr ⟨rfl, rfl⟩
  | [], p :: l, i, h => by simp [kv] at h
  | e :: es, [], i, h => by simp [kv] at h
  | e :: es, p :: l, i, h => by
    simp only [kv, List.map_cons, List.cons.injEq, Prod.mk.injEq] at h
    obtain ⟨⟨hk, hv⟩, ht⟩ := h
    by_cases hkp : k = p.1
    · refine Or.inl ⟨i, p.2, ?_, by simp [look, hkp]⟩
      unfold Instr.findNow
      rw [hk, hv, ← hkp]
      simp only [Instr.sameNow, ba_beq]
      simp
    · have hs : Instr.sameNow .string (.string ⟨k.toArray⟩) e.key = some false := by
        rw [hk]
        simp only [Instr.sameNow, ba_beq]
        simp [hkp]
      rcases find_kv k es l (i + 1) ht with ⟨j, v, h1, h2⟩ | ⟨h1, h2⟩
      · refine Or.inl ⟨j, v, ?_, by simp [look, hkp, h2]⟩
        unfold Instr.findNow
        rw [hs]
        exact h1
      · refine Or.inr ⟨?_, by simp [look, hkp, h2]⟩
        unfold Instr.findNow
        rw [hs]
        exact h1

section
variable {P : Program}
theorem run_put {T K E : TypeId} (hT : P.underlying T = some (.map K E)) (hK : P.underlying K = some .string) (w : World) (b : Nat) (l : List (Bs × Value)) (k : Bs) (v : Value) (h : MapAt w b l) (hk : look k l = none) :
    ∃ W, (Instr.mapUpdate T (.map (some b)) (.string ⟨k.toArray⟩) v).run P w = .ok () W ∧ MapAt W b (l ++ [(k, v)]) ∧ Ch (fun j => j = b) w W ∧ W.heap.size = w.heap.size := by
  obtain ⟨es, clock, hb, he⟩ := h
  have hc := MapKept.run_checkKey (P := P) (w := w) hK (k := .string ⟨k.toArray⟩) (by simp [MapKept.IsKey]) false 9999
  have hf : Instr.findNow .string (.string ⟨k.toArray⟩) es.toList 0 = some none := by
    rcases find_kv k es.toList l 0 he with ⟨j, v', h1, h2⟩ | ⟨h1, h2⟩
    · rw [hk] at h2; cases h2
    · exact h1
  refine ⟨{ w with heap := w.heap.setIfInBounds b (.map (es.push ⟨.string ⟨k.toArray⟩, v, clock⟩) (clock + 1)) }, ?_, ?_, ?_, by simp⟩
  · simp only [Instr.mapUpdate, Sem.run_bind, run_underlying hT, Result.andThen, MapKept.run_getObj_map hb, hc, Instr.findKey, run_underlying hK, hf, Sem.run_pure, MapKept.run_setObj_map _ hb]
  · have hlt := (Array.getElem?_eq_some_iff.1 hb).1
    refine ⟨_, _, Array.getElem?_setIfInBounds_self_of_lt hlt, ?_⟩
    simp [kv, he]
  · exact ⟨rfl, rfl, rfl, by simp, fun j hj hn => by
      show (w.heap.setIfInBounds b _)[j]? = w.heap[j]?
      rw [Array.getElem?_setIfInBounds]
      rw [if_neg (fun e => hn e.symm)]⟩
theorem run_ask {T K E : TypeId} (hT : P.underlying T = some (.map K E)) (hK : P.underlying K = some .string) (z : Value) (hz : ∀ w, (zeroValue E).run P w = .ok z w) (w : World) (b : Nat) (l : List (Bs × Value)) (k : Bs) (h : MapAt w b l) :
    (∀ v, look k l = some v → (Instr.lookup T (.map (some b)) (.string ⟨k.toArray⟩) true).run P w = .ok (.tuple #[v, .bool true]) w) ∧
    (look k l = none → (Instr.lookup T (.map (some b)) (.string ⟨k.toArray⟩) true).run P w = .ok (.tuple #[z, .bool false]) w) := by
  obtain ⟨es, clock, hb, he⟩ := h
  have hc := MapKept.run_checkKey (P := P) (w := w) hK (k := .string ⟨k.toArray⟩) (by simp [MapKept.IsKey]) es.isEmpty 9999
  rcases find_kv k es.toList l 0 he with ⟨j, v', h1, h2⟩ | ⟨h1, h2⟩
  · refine ⟨fun v hv => ?_, (fun hn => by rw [h2] at hn; cases hn)⟩
    rw [h2] at hv
    injection hv with hv
    subst hv
    simp [Instr.lookup, Sem.run_bind, run_underlying hT, Result.andThen, MapKept.run_getObj_map hb, hc, Instr.findKey, run_underlying hK, h1]
  · refine ⟨(fun v hv => by rw [h2] at hv; cases hv), fun _ => ?_⟩
    simp [Instr.lookup, Sem.run_bind, run_underlying hT, Result.andThen, MapKept.run_getObj_map hb, hc, Instr.findKey, run_underlying hK, h1, hz]
end
end Go.Proofs.YtddojdgnakajmaaGreatDoor.txt

namespace Go.Proofs.YtddojdgnakajmaaGreatDoor.txt
open Go.RowKit Go.Proofs.YtddojdgnakajmaaGreatDoor.mem Go.Proofs.YtddojdgnakajmaaGreatDoor.kit Go.Proofs.YtddojdgnakajmaaGreatDoor.ins
set_option linter.unusedVariables false
set_option linter.unusedSimpArgs false

/-- What reads a line, by its kind. -/
def fnK : Nat → Nat
  | 0 => 38
  | 1 => 39
  | 2 => 40
  | 3 => 41
  | 4 => 42
  | 5 => 43
  | _ => 44
theorem map_cell_ne {w : World} {b g o : Nat} {l : List (Bs × Value)} {v : Value} (h : MapAt w b l) (hc : w.cell? ⟨g, o, none⟩ = some v) : b ≠ g := by
  obtain ⟨es, c, hb, _⟩ := h
  rintro rfl
  simp [World.cell?, hb] at hc
theorem cells8 {w : World} {g : Nat} {t : TypeId} {x0 x1 x2 x3 x4 x5 x6 x7 : Value} (h : Blk w g t #[x0, x1, x2, x3, x4, x5, x6, x7]) :
    w.cell? ⟨g, 0, none⟩ = some x0 ∧ w.cell? ⟨g, 1, none⟩ = some x1 ∧ w.cell? ⟨g, 2, none⟩ = some x2 ∧ w.cell? ⟨g, 3, none⟩ = some x3 ∧ w.cell? ⟨g, 4, none⟩ = some x4 ∧ w.cell? ⟨g, 5, none⟩ = some x5 ∧ w.cell? ⟨g, 6, none⟩ = some x6 ∧ w.cell? ⟨g, 7, none⟩ = some x7 :=
  ⟨(h.cell 0).trans rfl, (h.cell 1).trans rfl, (h.cell 2).trans rfl, (h.cell 3).trans rfl, (h.cell 4).trans rfl, (h.cell 5).trans rfl, (h.cell 6).trans rfl, (h.cell 7).trans rfl⟩

/-- A word's value in the map. -/
abbrev wv (o z fk : Nat) (n : Bool) : Value := .agg #[.int .u8 (o : Int), .bool n, .int .i64 0, .int .i64 0, .bool false, .int .i64 0, .int .i64 0, .int .i64 (z : Int), .func (.func fk) #[] #[]]
def PutW (w : World) (b o z fk : Nat) (n : Bool) (l : List (Bs × Value)) (e : Ending) (w' : World) : Prop := e = .returned (.tuple #[]) ∧ MapAt w' b (l ++ [(wordB o n z, wv o z fk n)]) ∧ Ch (fun j => j = b) w w'

set_option maxRecDepth 100000 in
set_option maxHeartbeats 1000000 in
theorem put_word (ga b o z fk : Nat) (n : Bool) (l : List (Bs × Value)) (w : World) (ho : o < 29) (hz : z < 10) (hga : w.cell? ⟨ga, 0, none⟩ = some (.map (some b))) (hm : MapAt w b l) (hl : look (wordB o n z) l = none) (hN : NamesAt w) :
    Calls Tryz.prog 35 #[.agg #[.int .u8 (o : Int), .bool n, .int .i64 0, .int .i64 0, .bool false, .int .i64 0, .int .i64 0, .int .i64 (z : Int)], .func (.func fk) #[] #[], .pointer (some ⟨ga, 0, none⟩)] w (PutW w b o z fk n l) := by
  have hlt := block_lt_of_cell hga
  have HB0 := Blk.new w 41 #[.int .u8 (o : Int), .bool n, .int .i64 0, .int .i64 0, .bool false, .int .i64 0, .int .i64 0, .int .i64 (z : Int)]
  have HN0 := new1 w (.cells #[.int .u8 (o : Int), .bool n, .int .i64 0, .int .i64 0, .bool false, .int .i64 0, .int .i64 0, .int .i64 (z : Int)] 41)
  have HB := Lib.hid HB0.drew
  have HN := Lib.hid (Below.drew HN0)
  have HM := Lib.hid hm
  have HL := Lib.hid hl
  have HA := Lib.hid hga
  have HNM := Lib.hid hN
  clear HB0 HN0 hm hl hN
  go_enter Tryz.func35, Tryz.ntmps35
  go_wp2
  go_region_held3 (fun w' => w'.cell? ⟨ga, 0, none⟩ = some (.map (some b)) ∧ w'.cell? ⟨w.heap.size, 0, none⟩ = some (.int .u8 (o : Int)) ∧ w'.cell? ⟨w.heap.size, 1, none⟩ = some (.bool n) ∧ w'.cell? ⟨w.heap.size, 2, none⟩ = some (.int .i64 0) ∧ w'.cell? ⟨w.heap.size, 3, none⟩ = some (.int .i64 0) ∧ w'.cell? ⟨w.heap.size, 4, none⟩ = some (.bool false) ∧ w'.cell? ⟨w.heap.size, 5, none⟩ = some (.int .i64 0) ∧ w'.cell? ⟨w.heap.size, 6, none⟩ = some (.int .i64 0) ∧ w'.cell? ⟨w.heap.size, 7, none⟩ = some (.int .i64 (z : Int)))
    (go_keep)
    (first
      | (go_at_call 36; (with_reducible refine (wordOf_any o z n 0 0 false 0 0 _ ho hz (HNM.out.new HN.out)).mono ?_); rintro e w2 ⟨rfl, hn2⟩; obtain ⟨s0, s1, s2, s3, s4, s5, s6, s7⟩ := cells8 (HB.out.below hn2 HB.out.lt); have sa : w2.cell? ⟨ga, 0, none⟩ = some (.map (some b)) := ((New.then HN.out hn2).cell (p := ⟨ga, 0, none⟩) hlt).trans HA.out; have HM2 := Lib.hid (HM.out.new (New.then HN.out hn2)); obtain ⟨W, hmu, hmw, hch, hsz⟩ := run_put (P := Tryz.prog) (T := 44) (K := 9) (E := 100) Tryz.underlying44 Tryz.underlying9 w2 b l (wordB o n z) (wv o z fk n) HM2.out HL.out; have HBW := Lib.hid ((HB.out.below hn2 HB.out.lt).ch hch (fun e => HM2.out.ne (HB.out.below hn2 HB.out.lt) e.symm)); obtain ⟨t0, t1, t2, t3, t4, t5, t6, t7⟩ := cells8 HBW.out; have ta : W.cell? ⟨ga, 0, none⟩ = some (.map (some b)) := hch.cellOf sa (fun e => map_cell_ne HM2.out sa e.symm); have HMW := Lib.hid hmw; have HCH := Lib.hid ((Ch.of_new (S := fun j => j = b) (New.then HN.out hn2)).then hch (fun _ _ h => h)); clear hmw hch hsz))
  all_goals go_wp2
  all_goals refine Great.bodyPost_end0 rfl rfl ?_
  all_goals exact ⟨rfl, HMW.out, HCH.out⟩
end Go.Proofs.YtddojdgnakajmaaGreatDoor.txt

namespace Go.Proofs.YtddojdgnakajmaaGreatDoor.txt
open Go.RowKit Go.Proofs.YtddojdgnakajmaaGreatDoor.mem Go.Proofs.YtddojdgnakajmaaGreatDoor.kit Go.Proofs.YtddojdgnakajmaaGreatDoor.ins
set_option linter.unusedVariables false
set_option linter.unusedSimpArgs false

def Wd.val (x : Wd) : Value := wv x.o x.z (fnK x.k) x.n
def wlv : List (Bs × Value) := wl.map fun x => (x.key, x.val)
theorem look_map (k : Bs) : ∀ (l : List Wd), look k (l.map fun x => (x.key, x.val)) = (findW k l).map Wd.val
  | [] => rfl
  | x :: l => by
    simp only [List.map_cons, look, findW]
    split
    · rfl
    · exact look_map k l
theorem wlv_take (m : Nat) : wlv.take m = (wl.take m).map fun x => (x.key, x.val) := by unfold wlv; rw [List.map_take]
theorem wlv_new {m : Nat} {x : Wd} (h : wl[m]? = some x) : look x.key (wlv.take m) = none := by
  have hm : m < 58 := (List.getElem?_eq_some_iff.1 h).1
  have e : wl[m]'(by rw [wl_length]; exact hm) = x := (List.getElem?_eq_some_iff.1 h).2
  have hn := wl_new ⟨m, hm⟩
  simp only at hn
  rw [wlv_take, look_map, ← e, hn]
  rfl
theorem wlv_succ {m : Nat} {x : Wd} (h : wl[m]? = some x) : wlv.take (m + 1) = wlv.take m ++ [(x.key, x.val)] := by
  rw [wlv_take, wlv_take]
  have hm : m < wl.length := (List.getElem?_eq_some_iff.1 h).1
  have e : wl[m] = x := (List.getElem?_eq_some_iff.1 h).2
  rw [← List.take_append_getElem hm, e]
  simp

structure WS (w0 : World) (b ga gp m : Nat) (w : World) : Prop where
  new : New w0 w
  hb : w0.heap.size ≤ b
  a : w.cell? ⟨ga, 0, none⟩ = some (.map (some b))
  p : w.cell? ⟨gp, 0, none⟩ = some (.func (.func 35) #[] #[.pointer (some ⟨ga, 0, none⟩)])
  m : MapAt w b (wlv.take m)
  n : NamesAt w
def WSok (w0 : World) (b ga gp m : Nat) (e : Ending) (w : World) : Prop := e = .returned (.tuple #[]) ∧ WS w0 b ga gp m w

theorem put_at (w0 : World) (b ga gp m o z k : Nat) (n : Bool) (w : World) (h : WS w0 b ga gp m w) (hx : wl[m]? = some ⟨o, n, z, k⟩) (ho : o < 29) (hz : z < 10) :
    Calls Tryz.prog 35 #[.agg #[.int .u8 (o : Int), .bool n, .int .i64 0, .int .i64 0, .bool false, .int .i64 0, .int .i64 0, .int .i64 (z : Int)], .func (.func (fnK k)) #[] #[], .pointer (some ⟨ga, 0, none⟩)] w (WSok w0 b ga gp (m + 1)) :=
  (put_word ga b o z (fnK k) n (wlv.take m) w ho hz h.a h.m (wlv_new hx) h.n).mono fun e w' hh => by
    obtain ⟨he, hmm, hch⟩ := hh
    refine ⟨he, ⟨?_, h.hb, hch.cellOf h.a (fun e => map_cell_ne h.m h.a e.symm), hch.cellOf h.p (fun e => map_cell_ne h.m h.p e.symm), ?_, fun j hj => hch.cellOf (h.n j hj) (fun e => map_cell_ne h.m (h.n j hj) e.symm)⟩⟩
    · exact ⟨hch.os.trans h.new.os, hch.tape.trans h.new.tape, hch.output.trans h.new.output, Nat.le_trans h.new.size hch.size, fun j hj => (hch.block j (Nat.lt_of_lt_of_le hj h.new.size) (fun e => by have := h.hb; have e' : j = b := e; omega)).trans (h.new.block j hj)⟩
    · rw [wlv_succ hx]
      exact hmm

theorem put_at0 (w0 : World) (b ga gp m m' o k fk : Nat) (n : Bool) (w : World) (h : WS w0 b ga gp m w) (hx : wl[m]? = some ⟨o, n, 0, k⟩) (ho : o < 29) (hm : m + 1 = m') (hf : fnK k = fk) :
    Calls Tryz.prog 35 #[.agg #[.int .u8 (o : Int), .bool n, .int .i64 0, .int .i64 0, .bool false, .int .i64 0, .int .i64 0, .int .i64 0], .func (.func fk) #[] #[], .pointer (some ⟨ga, 0, none⟩)] w (WSok w0 b ga gp m') := by
  subst hm
  subst hf
  exact put_at w0 b ga gp m o 0 k n w h hx ho (by omega)
theorem both_at (w0 : World) (b ga gp m o k fk : Nat) (w : World) (h : WS w0 b ga gp m w) (hx : wl[m]? = some ⟨o, false, 0, k⟩) (hy : wl[m + 1]? = some ⟨o, true, 0, k⟩) (ho : o < 29) (hf : fnK k = fk) :
    Calls Tryz.prog 37 #[.int .u8 (o : Int), .func (.func fk) #[] #[], .pointer (some ⟨gp, 0, none⟩)] w (WSok w0 b ga gp (m + 2)) := by
  obtain ⟨m1, hm1⟩ : ∃ m1, m + 1 = m1 := ⟨_, rfl⟩
  obtain ⟨m2, hm2⟩ : ∃ m2, m1 + 1 = m2 := ⟨_, rfl⟩
  have e2 : m + 2 = m2 := by omega
  rw [hm1] at hy
  rw [e2]
  have H := Lib.hid h
  have HX := Lib.hid hx
  have HY := Lib.hid hy
  have HF := Lib.hid hf
  have HM1 := Lib.hid hm1
  have HM2 := Lib.hid hm2
  have cp := h.p
  clear h hx hy hf hm1 hm2 e2
  go_enter Tryz.func37, Tryz.ntmps37
  go_wp2_with (go_at_call 35; (with_reducible refine (put_at0 w0 b ga gp m m1 o k fk false _ H.out HX.out ho HM1.out HF.out).mono ?_); rintro e w1 ⟨rfl, h1⟩; have cp1 := h1.p; have H1 := Lib.hid h1; clear h1 cp)
  go_wp2_with (go_at_call 35; (with_reducible refine (put_at0 w0 b ga gp m1 m2 o k fk true _ H1.out HY.out ho HM2.out HF.out).mono ?_); rintro e w2 ⟨rfl, h2⟩; have H2 := Lib.hid h2; clear h2)
  refine Great.bodyPost_end0 rfl rfl ?_
  exact ⟨rfl, H2.out⟩
end Go.Proofs.YtddojdgnakajmaaGreatDoor.txt
