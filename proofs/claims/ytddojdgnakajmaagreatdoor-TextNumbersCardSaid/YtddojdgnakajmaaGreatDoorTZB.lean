/-
  Contracts of text: lines; what all of them say.
-/
import Derived.Test.YtddojdgnakajmaaGreatDoorTZA
import Derived.Test.YtddojdgnakajmaaGreatDoorTN
namespace Go.Proofs.YtddojdgnakajmaaGreatDoor.txt
open Go.RowKit Go.Proofs.YtddojdgnakajmaaGreatDoor.mem Go.Proofs.YtddojdgnakajmaaGreatDoor.kit Go.Proofs.YtddojdgnakajmaaGreatDoor.ins
set_option linter.unusedVariables false
set_option linter.unusedSimpArgs false

theorem join_any (g bm bl : Nat) (s : FM) (w0 w : World) (h : FX w0 g bm bl s w) (hok : FM.Ok s) :
    Calls Tryz.prog 17 #[.pointer (some ⟨g, 0, none⟩)] w (JoinD w0 g bm bl s.ls s.js (joinM s.ls s.is s.js)) := by
  obtain ⟨is, ls, js⟩ := s
  cases js with
  | nil => exact join_none g bm bl is ls w0 w h
  | cons j r => exact join_some g bm bl is ls (j :: r) w0 w h hok (by simp)
theorem addM_ok (n : Int) (d : Option Sd) (s : FM) (h : s.Ok) : (addM n d s).2.Ok := by
  obtain ⟨h1, h2, h3, h4⟩ := h
  cases d with
  | none => exact ⟨h1, h2, h3, h4⟩
  | some d =>
    cases d with
    | none => exact ⟨h1, h2, h3, h4⟩
    | lab x =>
      simp only [addM]
      split
      · exact ⟨h1, h2, h3, h4⟩
      · refine ⟨h1, h2, fun p hp => ?_, h4⟩
        rcases List.mem_append.1 hp with h | h
        · exact h3 p h
        · rw [List.mem_singleton.1 h]
          exact Nat.le_refl _
    | ins i t =>
      simp only [addM]
      split
      · exact ⟨h1, h2, h3, h4⟩
      · have hl : (s.is ++ [i]).length = s.is.length + 1 := by simp
        have hs : ∀ p ∈ s.js, p.2.1 < (s.is ++ [i]).length := fun p hp => by have := h4 p hp; omega
        refine ⟨by show (s.is ++ [i]).length ≤ 4096; omega, ?_, fun p hp => ?_, ?_⟩
        · show (if t = [] then s.js else s.js ++ [(n, s.is.length, t)]).length ≤ (s.is ++ [i]).length
          split
          · omega
          · simp; omega
        · have := h3 p hp
          show p.2 ≤ (s.is ++ [i]).length
          omega
        · show ∀ p ∈ (if t = [] then s.js else s.js ++ [(n, s.is.length, t)]), p.2.1 < (s.is ++ [i]).length
          split
          · exact hs
          · intro p hp
            rcases List.mem_append.1 hp with h | h
            · exact hs p h
            · rw [List.mem_singleton.1 h]
              show s.is.length < _
              omega

/-! ### lines -/
def linesB (l : Bs) : List Bs := (Lib.splitB ⟨#[10]⟩ 0 (Lib.countB ⟨l.toArray⟩ ⟨#[10]⟩) ⟨l.toArray⟩).map (·.data.toList)
theorem lines_len (l : Bs) : (linesB l).length = Lib.countB ⟨l.toArray⟩ ⟨#[10]⟩ + 1 := by
  unfold linesB
  rw [List.length_map]
  exact Lib.splitB_all _ (by decide) 0 _ _ rfl
theorem lines_row (l : Bs) : (Lib.splitB ⟨#[10]⟩ 0 (Lib.countB ⟨l.toArray⟩ ⟨#[10]⟩) ⟨l.toArray⟩).map Value.string = (linesB l).map sv := by
  unfold linesB
  rw [List.map_map]
  congr 1
theorem splitK_le (sep : Bs) : ∀ (k : Nat) (s p : Bs), p ∈ Lib.splitK sep 0 k s → p.length ≤ s.length
  | 0, s, p, h => by
    rw [List.mem_singleton.1 h]
    exact Nat.le_refl _
  | k + 1, s, p, h => by
    unfold Lib.splitK at h
    split at h
    · rw [List.mem_singleton.1 h]
      exact Nat.le_refl _
    · rcases List.mem_cons.1 h with rfl | h
      · rw [List.length_take]; omega
      · have := splitK_le sep k _ p h
        rw [List.length_drop] at this
        omega
theorem lines_le (l p : Bs) (h : p ∈ linesB l) : p.length ≤ l.length := by
  unfold linesB at h
  rw [Lib.splitB_data] at h
  exact splitK_le _ _ _ _ h
theorem lines_count (l : Bs) : (linesB l).length ≤ l.length + 1 := by
  rw [lines_len]
  have := Lib.countB_le ⟨#[10]⟩ (by decide) l.length ⟨l.toArray⟩ (by show l.toArray.size ≤ _; simp)
  have e : (⟨l.toArray⟩ : ByteArray).size = l.length := by show l.toArray.size = _; simp
  omega
theorem split_any (l : Bs) (w : World) (hl : l.length ≤ 1000000000) (hm : MaxT w) :
    Calls Tryz.prog 9 #[.string ⟨l.toArray⟩, .string ⟨#[10]⟩] w fun e w' => e = .returned (.slice (some ⟨w.heap.size, 0, none⟩) (linesB l).length (linesB l).length) ∧ w' = w.alloc (.cells ((linesB l).map sv).toArray 9) := by
  obtain ⟨m, hm⟩ := hm
  have h := Tryz.strings_Split ⟨l.toArray⟩ ⟨#[10]⟩ m w (by show l.toArray.size < _; simp; omega) hm (by decide)
  rw [lines_row, ← lines_len] at h
  exact h

/-! ### all lines -/
/-- The first fault, or what is there behind the lines. -/
def parseL : Nat → List Bs → FM → (Int × Int) ⊕ FM
  | _, [], s => .inr s
  | n, l :: r, s => if (addM ((n : Int) + 1) (lineB l) s).1 = 0 then parseL (n + 1) r (addM ((n : Int) + 1) (lineB l) s).2 else .inl ((addM ((n : Int) + 1) (lineB l) s).1, (n : Int) + 1)
/-- The fault, and the instructions. -/
def parseM (l : Bs) : (Int × Int) × List In :=
  if 262144 < l.length then ((3, 0), []) else match parseL 0 (linesB l) ⟨[], [], []⟩ with
  | .inl f => (f, [])
  | .inr s => if (joinM s.ls s.is s.js).1 = 0 then ((0, 0), (joinM s.ls s.is s.js).2.2) else (((joinM s.ls s.is s.js).1, (joinM s.ls s.is s.js).2.1), [])
def ParseD (w : World) (x : (Int × Int) × List In) (e : Ending) (w' : World) : Prop :=
  ∃ v, e = .returned (.tuple #[v, .agg #[.int .i64 x.1.1, .int .i64 x.1.2]]) ∧ w'.ownsRow w.heap.size 41 8 v x.2.length (vi x.2) ∧ New w w'
theorem results_tmp_row {P : Program} {fn : Func} {p u : Tmp} {ty : TypeId} (h : fn.results = #[.tmp p, .cell u ty]) (tmps : Array Value) (w : World) (g : Nat) (t : TypeId) (cs : Array Value) (v : Value) (fr : Nat × Nat) (d : TypeDesc)
    (hp : tmps.getD p undef = v) (hq : tmps.getD u undef = .pointer (some ⟨g, 0, none⟩)) (hg : w.heap[g]? = some (.cells cs t fr))
    (hu : P.underlying ty = some d) (hd : (match d with | .struct _ | .array _ _ => true | _ => false) = true) (hi : (P.info? ty).map (·.size) = some cs.size) :
    (results fn tmps).run P w = .ok (.tuple #[v, .agg cs]) w := by
  have hp' : tmps[p]?.getD undef = v := by simpa using hp
  have hq' : tmps[u]?.getD undef = .pointer (some ⟨g, 0, none⟩) := by simpa using hq
  simp [results, h, hp', hq', asAddr, run_loadVar_row w g t ty cs fr d hg hu hd hi]
end Go.Proofs.YtddojdgnakajmaaGreatDoor.txt

namespace Go.Proofs.YtddojdgnakajmaaGreatDoor.txt
open Go.RowKit Go.Proofs.YtddojdgnakajmaaGreatDoor.mem Go.Proofs.YtddojdgnakajmaaGreatDoor.kit Go.Proofs.YtddojdgnakajmaaGreatDoor.ins
set_option linter.unusedVariables false
set_option linter.unusedSimpArgs false

set_option maxRecDepth 100000 in
set_option maxHeartbeats 1000000 in
theorem parse_long (l : Bs) (w : World) (hl : 262144 < l.length) :
    Calls Tryz.prog 6 #[.string ⟨l.toArray⟩] w (ParseD w ((3, 0), [])) := by
  have HB := Lib.hid (Blk.new w 26 #[.int .i64 0, .int .i64 0])
  have hd : (262144 : Int) < (l.length : Int) := by omega
  go_enter Tryz.func6, Tryz.ntmps6
  go_wp2_with (refine wpList_store_row rfl 26 _ _ rfl w.heap.size #[.int .i64 3, .int .i64 0] rfl rfl 26 _ HB.out fault_size rfl (by simp [Value.oneCell']) ?_)
  refine bodyPost_ret (results_tmp_row rfl _ _ w.heap.size 26 #[.int .i64 3, .int .i64 0] _ (0, 0) _ rfl rfl (setRow_heap _ _ _ _ _ _ HB.out) Tryz.underlying26 rfl fault_size) rfl ?_
  exact ⟨.slice none 0 0, rfl, ⟨rfl, Or.inl ⟨rfl, rfl⟩⟩, new_row (new1 w _) _ _ (Nat.le_refl _)⟩

/-- Where the lines begin to be gone through. -/
structure PS (w w3 : World) (T : TypeId) (q : Addr) (g bm bl rb : Nat) (L : List Bs) : Prop where
  f : FX w3 g bm bl ⟨[], [], []⟩ w3
  row : Blk w3 rb 9 (L.map sv).toArray
  r : Blk w3 w.heap.size 26 #[.int .i64 0, .int .i64 0]
  m : MaxT w3
  e : ErrT w3 T q
  n : New w w3
  m0 : 2 < w.heap.size
  e0 : 5 < w.heap.size
  b1 : w.heap.size < bl
  b2 : bl < g
  b3 : g < rb
theorem PS.start {w w1 : World} {T : TypeId} {q : Addr} {bm : Nat} {L : List Bs} (hm : MaxT w) (hE : ErrT w T q) (hmap : MapAt w1 bm wlv) (hn : New (w.alloc (.cells #[.int .i64 0, .int .i64 0] 26)) w1) :
    PS w (((w1.alloc (.map #[] 0)).alloc (.cells #[.map (some bm), .slice none 0 0, .map (some w1.heap.size), .slice none 0 0] 49)).alloc (.cells (L.map sv).toArray 9)) T q (w1.heap.size + 1) bm w1.heap.size (w1.heap.size + 1 + 1) L := by
  have n0 := new1 w (.cells #[.int .i64 0, .int .i64 0] 26)
  have n3 := new3 w1 (.map #[] 0) (.cells #[.map (some bm), .slice none 0 0, .map (some w1.heap.size), .slice none 0 0] 49) (.cells (L.map sv).toArray 9)
  have hr := (Blk.new w 26 #[.int .i64 0, .int .i64 0])
  have hr1 := hr.below hn hr.lt
  have hr3 := hr1.below n3 hr1.lt
  have hsz : w.heap.size + 1 ≤ w1.heap.size := by have := hn.size; simpa using this
  have hfb := Blk.new (w1.alloc (.map #[] 0)) 49 #[.map (some bm), .slice none 0 0, .map (some w1.heap.size), .slice none 0 0]
  rw [World.size_alloc] at hfb
  have hrow := Blk.new ((w1.alloc (.map #[] 0)).alloc (.cells #[.map (some bm), .slice none 0 0, .map (some w1.heap.size), .slice none 0 0] 49)) 9 (L.map sv).toArray
  rw [World.size_alloc, World.size_alloc] at hrow
  have nn := New.then n0 (New.then hn n3)
  refine ⟨⟨_, _, hfb.alloc _, ⟨rfl, Or.inl ⟨rfl, rfl⟩⟩, ⟨rfl, Or.inl ⟨rfl, rfl⟩⟩, hmap.new n3, ((MapAt.made w1).new (new1 _ _)).new (new1 _ _), ?_, Ch.refl _ _⟩, hrow, hr3, hm.ch (Ch.of_new (S := fun _ => False) nn) id, hE.new nn, nn, ?_, hE.lt, by omega, by omega, by omega⟩
  · have := hmap.lt
    omega
  · obtain ⟨m, hm⟩ := hm
    exact block_lt_of_cell (a := ⟨2, 0, none⟩) hm

theorem PS.rch {w w3 w' : World} {T : TypeId} {q : Addr} {g bm bl rb : Nat} {L : List Bs} {s : FM} (h : PS w w3 T q g bm bl rb L) (hf : FX w3 g bm bl s w') : Blk w' w.heap.size 26 #[.int .i64 0, .int .i64 0] := by
  obtain ⟨_, _, hf⟩ := hf
  exact h.r.ch hf.new (fun e => by have := h.b1; have := h.b2; rcases e with e | e <;> omega)
theorem PS.nch {w w3 w' : World} {T : TypeId} {q : Addr} {g bm bl rb : Nat} {L : List Bs} {s : FM} (h : PS w w3 T q g bm bl rb L) (hf : FX w3 g bm bl s w') : New w w' := by
  obtain ⟨_, _, hf⟩ := hf
  exact h.n.trans (hf.new.below (B := w.heap.size) h.n.size (fun j _ e => by have := h.b1; have := h.b2; rcases e with e | e <;> omega))

set_option maxRecDepth 100000 in
set_option maxHeartbeats 4000000 in
theorem parse_ok (T : TypeId) (q : Addr) (l : Bs) (w : World) (hl : l.length ≤ 262144) (hm : MaxT w) (hE : ErrT w T q) (hN : NamesAt w) :
    Calls Tryz.prog 6 #[.string ⟨l.toArray⟩] w (ParseD w (parseM l)) := by
  have hmm := @run_makeMap Tryz.prog
  have HB := Lib.hid (Blk.new w 26 #[.int .i64 0, .int .i64 0])
  have HW := Lib.hid (words_any _ (hN.new (new1 w (.cells #[.int .i64 0, .int .i64 0] 26))))
  have HM := Lib.hid (hm.ch (Ch.of_new (S := fun _ => False) (new1 w (.cells #[.int .i64 0, .int .i64 0] 26))) id)
  have HE := Lib.hid hE
  have HW0 := Lib.hid hm
  have hd : ¬ (262144 : Int) < (l.length : Int) := by omega
  clear hm hE hN
  go_enter Tryz.func6, Tryz.ntmps6
  go_wp2_with (first
    | (go_at_call 15; refine HW.out.mono ?_; rintro e w1 ⟨bm, rfl, hmap, hn⟩; have HN := Lib.hid hn; have HMP := Lib.hid hmap; clear hn hmap)
    | (go_at_call 9; refine (split_any l _ (by omega) ((HM.out.ch (Ch.of_new (S := fun _ => False) HN.out) id).ch (Ch.of_new (S := fun _ => False) (new2 w1 _ _)) id)).mono ?_; rintro e w2 ⟨rfl, rfl⟩))
  have hps : PS w (((w1.alloc (.map #[] 0)).alloc (.cells #[.map (some bm), .slice none 0 0, .map (some w1.heap.size), .slice none 0 0] 49)).alloc (.cells ((linesB l).map sv).toArray 9)) T q (w1.heap.size + 1) bm w1.heap.size (w1.heap.size + 1 + 1) (linesB l) := PS.start HW0.out HE.out HMP.out HN.out
  have hLl := fun p hp => lines_le l p hp
  have hLc := lines_count l
  have hpm : (match parseL 0 (linesB l) ⟨[], [], []⟩ with
    | .inl f => (f, [])
    | .inr s => if (joinM s.ls s.is s.js).1 = 0 then ((0, 0), (joinM s.ls s.is s.js).2.2) else (((joinM s.ls s.is s.js).1, (joinM s.ls s.is s.js).2.1), [])) = parseM l := by
    unfold parseM
    rw [if_neg (by omega)]
    try (cases parseL 0 (linesB l) ⟨[], [], []⟩ <;> rfl)
  generalize parseM l = X at *
  generalize linesB l = L at *
  generalize ((w1.alloc (.map #[] 0)).alloc (.cells #[.map (some bm), .slice none 0 0, .map (some w1.heap.size), .slice none 0 0] 49)).alloc (.cells (L.map sv).toArray 9) = w3 at *
  generalize w1.heap.size + 1 + 1 = rb at *
  generalize w1.heap.size + 1 = g at *
  generalize w1.heap.size = bl at *
  obtain ⟨Y, hY⟩ : ∃ Y, parseL 0 L ⟨[], [], []⟩ = Y := ⟨_, rfl⟩
  rw [hY] at hpm
  have HPS := Lib.hid hps
  have HLL := Lib.hid hLl
  have HPM := Lib.hid hpm
  clear HB HW HM HW0 HE HN HMP hmm hLl hps hpm
  go_loopw [20] (fun i wr => ∃ (k : Nat) (s : FM), k ≤ L.length ∧ i = .int .i64 k ∧ s.Ok ∧ parseL k (L.drop k) s = Y ∧ FX w3 g bm bl s wr) (fun i _ => L.length - (intOf i).toNat)
  case atStart => exact ⟨0, _, Nat.zero_le _, rfl, ⟨by simp, by simp, by simp, by simp⟩, hY, HPS.out.f⟩
  case round =>
    clear hY
    obtain ⟨k, s, hk, rfl, hok, hYk, hfx⟩ := hrel
    have hch : Ch (fun j => j = g ∨ j = bl) w3 wr := by
      obtain ⟨_, _, h⟩ := hfx
      exact h.new
    by_cases hlt : k < L.length
    · obtain ⟨line, hline⟩ : ∃ x, L[k] = x := ⟨_, rfl⟩
      have hd : L.drop k = line :: L.drop (k + 1) := by rw [List.drop_eq_getElem_cons hlt, hline]
      rw [hd] at hYk
      have hll : line.length ≤ 262144 := by
        have := HLL.out line (by rw [← hline]; exact List.getElem_mem hlt)
        omega
      have c0 : wr.cell? ⟨rb, k, none⟩ = some (.string ⟨line.toArray⟩) := by
        refine hch.cellOf ((HPS.out.row.cell k).trans ?_) (fun e => by have := HPS.out.b2; have := HPS.out.b3; rcases e with e | e <;> (have e' := e; simp only at e'; omega))
        simp [hlt, hline]
      have HA := Lib.hid (add_any T q g bm bl ((k : Int) + 1) s line w3 wr hfx (by omega) (HPS.out.m.ch hch (fun e => by have := HPS.out.m0; have := HPS.out.b1; have := HPS.out.b2; rcases e with e | e <;> omega)) (HPS.out.e.ch hch (fun e => by have := HPS.out.e0; have := HPS.out.b1; have := HPS.out.b2; rcases e with e | e <;> omega)) hok.i hok.j)
      have hok2 := addM_ok ((k : Int) + 1) (lineB line) s hok
      simp only [parseL] at hYk
      obtain ⟨y, hy⟩ : ∃ y, (addM ((k : Int) + 1) (lineB line) s).1 = y := ⟨_, rfl⟩
      obtain ⟨s2, hs2⟩ : ∃ s2, (addM ((k : Int) + 1) (lineB line) s).2 = s2 := ⟨_, rfl⟩
      rw [hy, hs2] at HA hYk
      rw [hs2] at hok2
      have HOK := Lib.hid hok2
      clear hok2 hd hline hfx hch hok hy hs2
      by_cases hy0 : y = 0
      · subst hy0
        rw [if_pos rfl] at hYk
        have HY := Lib.hid hYk
        clear hYk
        go_wp2_with (go_at_call 16; (with_reducible refine HA.out.mono ?_); rintro e w4 ⟨rfl, hx⟩; have HX := Lib.hid hx; clear hx)
        go_roundw
        case rel => exact ⟨k + 1, s2, by omega, by go_num, HOK.out, HY.out, HX.out⟩
        case measure => simp [intOf]; omega
      · rw [if_neg hy0] at hYk
        subst hYk
        go_wp2_with (first
          | (go_at_call 16; (with_reducible refine HA.out.mono ?_); rintro e w4 ⟨rfl, hx⟩; have HR4 := Lib.hid (HPS.out.rch hx); have HN4 := Lib.hid (HPS.out.nch hx); clear hx)
          | (refine wpList_store_row rfl 26 _ _ rfl w.heap.size #[.int .i64 y, .int .i64 ((k : Int) + 1)] rfl rfl 26 _ HR4.out fault_size rfl (by simp [Value.oneCell']) ?_))
        refine bodyPost_ret (results_tmp_row rfl _ _ w.heap.size 26 #[.int .i64 y, .int .i64 ((k : Int) + 1)] _ (0, 0) _ rfl rfl (setRow_heap _ _ _ _ _ _ HR4.out) Tryz.underlying26 rfl fault_size) rfl ?_
        rw [← HPM.out]
        exact ⟨.slice none 0 0, rfl, ⟨rfl, Or.inl ⟨rfl, rfl⟩⟩, new_row HN4.out _ _ (Nat.le_refl _)⟩
    · obtain rfl : k = L.length := by omega
      rw [List.drop_length] at hYk
      have hYe : Sum.inr s = Y := hYk
      subst hYe
      have HJ := Lib.hid (join_any g bm bl s w3 wr hfx hok)
      have HPM2 := Lib.hid (show (if (joinM s.ls s.is s.js).1 = 0 then (((0 : Int), (0 : Int)), (joinM s.ls s.is s.js).2.2) else (((joinM s.ls s.is s.js).1, (joinM s.ls s.is s.js).2.1), [])) = X from HPM.out)
      generalize joinM s.ls s.is s.js = J at *
      obtain ⟨y, z, is⟩ := J
      clear HPM hYk hch hfx
      by_cases hy0 : y = 0
      · subst hy0
        have HXE : Hid (((0, 0), is) = X) := Lib.hid (by rw [← HPM2.out]; rfl)
        clear HPM2
        go_wp2_with (first
          | (go_at_call 17; (with_reducible refine HJ.out.mono ?_); rintro e w5 ⟨rfl, vl, vj, hf⟩; obtain ⟨A, c, rfl, -, -, -⟩ := own_len hf.lo; have h6 := hf.keep (new1 w5 (.cells #[.int .i64 0, .int .i64 z] 26)); obtain ⟨f0, f1, f2, f3⟩ := h6.cells; have h5 : FX w3 g bm bl _ w5 := ⟨_, _, hf⟩; have HR5 := Lib.hid (HPS.out.rch (FX.keep h5 (new1 w5 (.cells #[.int .i64 0, .int .i64 z] 26)))); have HN5 := Lib.hid (HPS.out.nch (FX.keep h5 (new1 w5 (.cells #[.int .i64 0, .int .i64 z] 26)))); have H6 := Lib.hid h6; have HB5 := Lib.hid (Blk.new w5 26 #[.int .i64 0, .int .i64 z]); clear hf h6 h5)
          | (refine wpList_store_row rfl 26 _ _ rfl w.heap.size #[.int .i64 0, .int .i64 0] rfl rfl 26 _ HR5.out fault_size rfl (by simp [Value.oneCell']) ?_))
        refine bodyPost_ret (results_tmp_row rfl _ _ w.heap.size 26 #[.int .i64 0, .int .i64 0] _ (0, 0) _ rfl rfl (setRow_heap _ _ _ _ _ _ HR5.out) Tryz.underlying26 rfl fault_size) rfl ?_
        rw [← HXE.out]
        have c2 := ch_setRow (w5.alloc (.cells #[.int .i64 0, .int .i64 z] 26)) w.heap.size #[.int .i64 0, .int .i64 0]
        exact ⟨_, rfl, own_base (own_ch H6.out.lo c2 (fun j hj e => own_blk_not H6.out.lo HR5.out (by decide) ((congrArg some (show j = w.heap.size from e)).symm.trans hj.symm))) HPS.out.n.size, new_row HN5.out _ _ (Nat.le_refl _)⟩
      · have HXE : Hid (((y, z), []) = X) := Lib.hid (by rw [← HPM2.out]; simp only [if_neg hy0])
        clear HPM2
        go_wp2_with (go_at_call 17; (with_reducible refine HJ.out.mono ?_); rintro e w5 ⟨rfl, vl, vj, hf⟩; obtain ⟨A, c, rfl, -, -, -⟩ := own_len hf.lo; have h6 := hf.keep (new1 w5 (.cells #[.int .i64 y, .int .i64 z] 26)); obtain ⟨f0, f1, f2, f3⟩ := h6.cells; have h5 : FX w3 g bm bl _ w5 := ⟨_, _, hf⟩; have HR5 := Lib.hid (HPS.out.rch (FX.keep h5 (new1 w5 (.cells #[.int .i64 y, .int .i64 z] 26)))); have HN5 := Lib.hid (HPS.out.nch (FX.keep h5 (new1 w5 (.cells #[.int .i64 y, .int .i64 z] 26)))); have H6 := Lib.hid h6; have HB5 := Lib.hid (Blk.new w5 26 #[.int .i64 y, .int .i64 z]); clear hf h6 h5)
        have r0 : (w5.alloc (.cells #[.int .i64 y, .int .i64 z] 26)).cell? ⟨w.heap.size, 0, none⟩ = some (.int .i64 0) := (HR5.out.cell 0).trans rfl
        have r1 : (w5.alloc (.cells #[.int .i64 y, .int .i64 z] 26)).cell? ⟨w.heap.size, 1, none⟩ = some (.int .i64 0) := (HR5.out.cell 1).trans rfl
        have r2 := HR5.out.frozen 0
        have r3 := HR5.out.frozen 1
        have s0 : (w5.alloc (.cells #[.int .i64 y, .int .i64 z] 26)).cell? ⟨w5.heap.size, 0, none⟩ = some (.int .i64 y) := (HB5.out.cell 0).trans rfl
        have s1 : (w5.alloc (.cells #[.int .i64 y, .int .i64 z] 26)).cell? ⟨w5.heap.size, 1, none⟩ = some (.int .i64 z) := (HB5.out.cell 1).trans rfl
        generalize (w5.alloc (.cells #[.int .i64 y, .int .i64 z] 26)) = w6 at *
        go_region
        all_goals go_wp2
        have a1 := HR5.out.set_ 0 (.int .i64 y)
        have a2 := a1.set_ 1 (.int .i64 z)
        have a3 : Blk ((w6.setCell ⟨w.heap.size, 0, none⟩ (.int .i64 y)).setCell ⟨w.heap.size, 1, none⟩ (.int .i64 z)).drew w.heap.size 26 #[.int .i64 y, .int .i64 z] := a2.drew
        have nn : New w ((w6.setCell ⟨w.heap.size, 0, none⟩ (.int .i64 y)).setCell ⟨w.heap.size, 1, none⟩ (.int .i64 z)).drew := Below.drew ((HN5.out.setCell (p := ⟨w.heap.size, 0, none⟩) (Nat.le_refl _) _).setCell (p := ⟨w.heap.size, 1, none⟩) (Nat.le_refl _) _)
        refine bodyPost_ret (results_tmp_row rfl _ _ w.heap.size 26 #[.int .i64 y, .int .i64 z] _ (0, 0) _ rfl rfl a3 Tryz.underlying26 rfl fault_size) rfl ?_
        rw [← HXE.out]
        exact ⟨.slice none 0 0, rfl, ⟨rfl, Or.inl ⟨rfl, rfl⟩⟩, nn⟩

/-- Parse. -/
theorem parse_any (T : TypeId) (q : Addr) (l : Bs) (w : World) (hm : MaxT w) (hE : ErrT w T q) (hN : NamesAt w) :
    Calls Tryz.prog 6 #[.string ⟨l.toArray⟩] w (ParseD w (parseM l)) := by
  by_cases hl : 262144 < l.length
  · have e : parseM l = ((3, 0), []) := by unfold parseM; rw [if_pos hl]
    rw [e]
    exact parse_long l w hl
  · exact parse_ok T q l w (by omega) hm hE hN
end Go.Proofs.YtddojdgnakajmaaGreatDoor.txt
