/-
  Contracts of text's Show: a line.
-/
import Derived.Test.YtddojdgnakajmaaGreatDoorTZD
import Derived.Lib.AppendStr
import Derived.Lib.UnsafeStr
import Derived.Laws.Externs
import Derived.Shelf.Strings.Builder1
namespace Go.Proofs.YtddojdgnakajmaaGreatDoor.txt
open Go.RowKit Go.Proofs.YtddojdgnakajmaaGreatDoor.mem Go.Proofs.YtddojdgnakajmaaGreatDoor.kit Go.Proofs.YtddojdgnakajmaaGreatDoor.ins
set_option linter.unusedVariables false
set_option linter.unusedSimpArgs false

def partsB (i : In) : List Bs :=
  if i.op = 28 then [] else if i.op = 16 then [sgnB i.off] else if i.op = 13 then [regB i.dst] else if i.op = 14 then [regB i.dst, celB i.src i.off] else if i.op = 15 then [celB i.dst i.off, secB i]
  else if 17 ≤ i.op ∧ i.op ≤ 27 then [regB i.dst, secB i, sgnB i.off] else [regB i.dst, secB i]
/-- A line. -/
def lnB (i : In) : Bs := wordB i.op.toNat i.nar i.siz.toNat ++ (if partsB i = [] then [] else [32] ++ Lib.join (partsB i) [44, 32])
theorem sm_of_ok {i : In} (h : ok i = true) : Sm i := by
  obtain ⟨h1, h2, h3, h4, h5, h6, -⟩ := ok_facts i h
  simp only [far, fits, Bool.and_eq_true, decide_eq_true_eq] at h5 h6
  exact ⟨⟨by omega, by omega⟩, ⟨by omega, by omega⟩, h5, ⟨by omega, by omega⟩⟩
theorem celB_le (r f : Int) (hr : I64 r) (hf : -32768 ≤ f ∧ f ≤ 32767) : (celB r f).length ≤ 48 := by
  have h1 := regB_le r hr
  have h2 := itoa_le (if f < 0 then -f else f) (by unfold I64; split <;> omega)
  unfold celB
  simp only [List.length_append]
  split <;> simp <;> split at h2 <;> omega
theorem sgnB_le (n : Int) (h : I64 n) : (sgnB n).length ≤ 48 := by
  have := itoa_le n h
  unfold sgnB
  split <;> simp <;> omega
theorem secB_le (i : In) (h : Sm i) : (secB i).length ≤ 48 := by
  have h1 := itoa_le i.imm h.m
  have h2 := regB_le i.src h.s
  unfold secB
  split <;> omega
theorem parts_le (i : In) (h : Sm i) : (∀ x ∈ partsB i, x.length ≤ 48) ∧ (partsB i).length ≤ 3 := by
  have h1 := regB_le i.dst h.d
  have h2 := secB_le i h
  have h3 := sgnB_le i.off h.o
  have h4 := celB_le i.dst i.off h.d h.f
  have h5 := celB_le i.src i.off h.s h.f
  have h6 : (regB i.dst).length ≤ 48 := by omega
  unfold partsB
  repeat' split
  all_goals simp_all
theorem join_le (L : List Bs) (h : ∀ x ∈ L, x.length ≤ 48) : (Lib.join L [44, 32]).length ≤ 50 * L.length := by
  cases L with
  | nil => simp [Lib.join_nil]
  | cons x r =>
    rw [Lib.join_cons, List.length_append]
    have hx := h x (List.mem_cons_self ..)
    have hr : ∀ y ∈ r, y.length ≤ 48 := fun y hy => h y (List.mem_cons_of_mem _ hy)
    have ht : (Lib.joinTail [44, 32] r).length ≤ 50 * r.length := by
      clear h hx
      induction r with
      | nil => simp [Lib.joinTail]
      | cons y t ih =>
        have e : Lib.joinTail [44, 32] (y :: t) = ([44, 32] ++ y) ++ Lib.joinTail [44, 32] t := by simp [Lib.joinTail]
        have h1 := hr y (List.mem_cons_self ..)
        have h2 := ih (fun z hz => hr z (List.mem_cons_of_mem _ hz))
        rw [e]
        simp only [List.length_append, List.length_cons, List.length_nil]
        omega
    simp only [List.length_cons]
    omega
theorem parts_any (i : In) (w : World) (h : ok i = true) (hP : PowT w) (hx : i.op ≠ 28) : Calls Tryz.prog 92 #[.agg (icell i)] w (PartsD w (partsB i)) := by
  have hs := sm_of_ok h
  obtain ⟨-, -, -, -, -, -, h1, h2, -⟩ := ok_facts i h
  obtain ⟨io, inr, id, isr, iu, iof, iim, isz⟩ := i
  simp only at h1 h2 hx
  unfold partsB
  simp only
  rw [if_neg hx]
  by_cases h16 : io = 16
  · subst h16; rw [if_pos rfl]; exact parts_jump inr id isr iu iof iim isz w hs hP
  rw [if_neg h16]
  by_cases h13 : io = 13
  · subst h13; rw [if_pos rfl]; exact parts_neg inr id isr iu iof iim isz w hs hP
  rw [if_neg h13]
  by_cases h14 : io = 14
  · subst h14; rw [if_pos rfl]; exact parts_load inr id isr iu iof iim isz w hs hP
  rw [if_neg h14]
  by_cases h15 : io = 15
  · subst h15; rw [if_pos rfl]; exact parts_put inr id isr iu iof iim isz w hs hP
  rw [if_neg h15]
  by_cases hj : 17 ≤ io ∧ io ≤ 27
  · rw [if_pos hj]; exact parts_q io inr id isr iu iof iim isz w hs hP hj.1 hj.2
  · rw [if_neg hj]; exact parts_op io inr id isr iu iof iim isz w hs hP h1 (by omega)
theorem wordB_le (o z : Nat) (n : Bool) (ho : o < 29) : (wordB o n z).length ≤ 7 := by
  have h : (nameB o).length ≤ 4 := name_le ⟨o, ho⟩
  unfold wordB
  simp only [List.length_append]
  split <;> split <;> simp <;> omega
theorem join_any' (b c : Nat) (L : List Bs) (w : World) (h : ∀ (j : Nat) (x : Bs), L[j]? = some x → w.cell? ⟨b, j, none⟩ = some (sv x)) (hb : b < w.heap.size) (hc : L.length ≤ c) (hL : (∀ x ∈ L, x.length ≤ 48) ∧ L.length ≤ 3) :
    Calls Tryz.prog 10 #[.slice (some ⟨b, 0, none⟩) L.length c, .string ⟨#[44, 32]⟩] w fun e w' => e = .returned (.string ⟨(Lib.join L [44, 32]).toArray⟩) ∧ New w w' := by
  have hj := join_le L hL.1
  have e1 : (bas L).map (·.data.toList) = L := by
    unfold bas
    rw [List.map_map]
    show L.map (fun l => l.toArray.toList) = L
    simp
  have e2 : (bas L).length = L.length := by simp [bas]
  have hk := Tryz.strings_Join b 0 c (bas L) ⟨#[44, 32]⟩ w (fun j x hx => by
    simp only [bas, List.getElem?_map, Option.map_eq_some_iff] at hx
    obtain ⟨y, hy, rfl⟩ := hx
    rw [Nat.zero_add]
    exact h j y hy) hb (by rw [e2]; omega) (by rw [e2]; exact hc) (by rw [e1]; show (Lib.join L [44, 32]).length ≤ _; omega)
  rw [e1, e2] at hk
  exact hk

set_option maxRecDepth 100000 in
set_option maxHeartbeats 1000000 in
theorem lineOf_exit (i : In) (w : World) (h : ok i = true) (hN : NamesAt w) (hx : i.op = 28) : Calls Tryz.prog 34 #[.agg (icell i)] w fun e w' => e = .returned (.string ⟨(lnB i).toArray⟩) ∧ New w w' := by
  have hz := (ok_facts i h).2.2.2.2.2.2.2.2
  have e : lnB i = wordB 28 i.nar 0 := by
    have hs : i.siz = 0 := by rcases hz with ⟨h1, -⟩ | ⟨-, h1⟩ <;> omega
    unfold lnB partsB
    rw [hx, hs]
    simp
  rw [e]
  have hs : i.siz = 0 := by rcases hz with ⟨h1, -⟩ | ⟨-, h1⟩ <;> omega
  clear e hz h
  obtain ⟨io, inr, id, isr, iu, iof, iim, isz⟩ := i
  simp only at hx hs
  subst hx
  subst hs
  have n1 := new1 w (.cells #[.int .u8 28, .bool inr, .int .i64 id, .int .i64 isr, .bool iu, .int .i64 iof, .int .i64 iim, .int .i64 0] 41)
  have HN := Lib.hid n1
  have HNM := Lib.hid (hN.new n1)
  have HB := Lib.hid (Blk.new w 41 #[.int .u8 28, .bool inr, .int .i64 id, .int .i64 isr, .bool iu, .int .i64 iof, .int .i64 iim, .int .i64 0])
  obtain ⟨a0, a1, a2, a3, a4, a5, a6, a7⟩ := cells8 HB.out
  clear n1 hN
  go_enter Tryz.func34, Tryz.ntmps34
  go_wp2_with (first
    | (go_at_call 92; refine (parts_exit inr id isr iu iof iim 0 _).mono ?_; rintro e w1 ⟨rfl, hn1⟩; have HN1 := Lib.hid hn1; obtain ⟨b0, b1, b2, b3, b4, b5, b6, b7⟩ := cells8 (HB.out.below hn1 HB.out.lt); clear hn1)
    | (go_at_call 36; refine (wordOf_any 28 0 inr id isr iu iof iim _ (by omega) (by omega) (HNM.out.new HN1.out)).mono ?_; rintro e w2 ⟨rfl, hn2⟩))
  go_ret
  exact ⟨rfl, New.then HN.out (New.then HN1.out hn2)⟩
set_option maxRecDepth 100000 in
set_option maxHeartbeats 1000000 in
theorem lineOf_more (i : In) (w : World) (h : ok i = true) (hN : NamesAt w) (hP : PowT w) (hx : i.op ≠ 28) : Calls Tryz.prog 34 #[.agg (icell i)] w fun e w' => e = .returned (.string ⟨(lnB i).toArray⟩) ∧ New w w' := by
  have hne : partsB i ≠ [] := by
    unfold partsB
    rw [if_neg hx]
    repeat' split
    all_goals simp
  have hpl := parts_le i (sm_of_ok h)
  obtain ⟨-, -, -, -, -, -, g1, g2, hz⟩ := ok_facts i h
  have HPT := Lib.hid (fun W hW => parts_any i W h hW hx)
  have hl : lnB i = wordB i.op.toNat i.nar i.siz.toNat ++ ([32] ++ Lib.join (partsB i) [44, 32]) := by
    unfold lnB
    rw [if_neg hne]
  have hjl := join_le _ hpl.1
  have hwl := wordB_le i.op.toNat i.siz.toNat i.nar (by omega)
  obtain ⟨o, ho⟩ : ∃ o : Nat, i.op = (o : Int) := ⟨i.op.toNat, by omega⟩
  have hzz : 0 ≤ i.siz ∧ i.siz < 10 := by
    rcases hz with ⟨-, -, h1⟩ | ⟨-, h1⟩
    · simp [sizd] at h1; omega
    · omega
  obtain ⟨z, hz'⟩ : ∃ z : Nat, i.siz = (z : Int) := ⟨i.siz.toNat, by omega⟩
  have eo : i.op.toNat = o := by omega
  have ez : i.siz.toNat = z := by omega
  have ho29 : o < 29 := by omega
  have hz10 : z < 10 := by omega
  rw [eo, ez] at hl hwl
  rw [hl]
  have hLn : 0 < (partsB i).length := List.length_pos_iff.2 hne
  generalize partsB i = L at *
  have hLd : decide ((L.length : Int) = 0) = false := by simp; omega
  have hLd2 : ¬ (L.length : Int) = 0 := by omega
  clear hl hx hne g1 g2 hz eo ez hzz h
  obtain ⟨io, inr, id, isr, iu, iof, iim, isz⟩ := i
  simp only at ho hz' HPT hwl
  subst ho
  subst hz'
  have n1 := new1 w (.cells #[.int .u8 (o : Int), .bool inr, .int .i64 id, .int .i64 isr, .bool iu, .int .i64 iof, .int .i64 iim, .int .i64 (z : Int)] 41)
  have HN := Lib.hid n1
  have HNM := Lib.hid (hN.new n1)
  have HP := Lib.hid (hP.new n1)
  have HB := Lib.hid (Blk.new w 41 #[.int .u8 (o : Int), .bool inr, .int .i64 id, .int .i64 isr, .bool iu, .int .i64 iof, .int .i64 iim, .int .i64 (z : Int)])
  obtain ⟨a0, a1, a2, a3, a4, a5, a6, a7⟩ := cells8 HB.out
  obtain ⟨J, hJ⟩ : ∃ J, Lib.join L [44, 32] = J := ⟨_, rfl⟩
  rw [hJ] at hjl ⊢
  have hw := wordOf_any o z inr id isr iu iof iim
  generalize wordB o inr z = x at *
  have hJ50 : J.length ≤ 150 := by omega
  have t1 := fun W => add_str x [32] (by simp; omega) W
  have t2 := fun W => add_str (x ++ [32]) J (by simp; omega) W
  have HW := Lib.hid hw
  have HJ := Lib.hid hJ
  clear n1 hN hP hw hJ
  go_enter Tryz.func34, Tryz.ntmps34
  go_wp2_with (first
    | (go_at_call 92; refine (HPT.out _ HP.out).mono ?_; rintro e w1 ⟨b, c, rfl, hb, hc, hcl, hn1⟩; have HN1 := Lib.hid hn1; have HCL := Lib.hid hcl; obtain ⟨b0, b1, b2, b3, b4, b5, b6, b7⟩ := cells8 (HB.out.below hn1 HB.out.lt); clear hn1 hcl)
    | (go_at_call 36; refine (HW.out _ ho29 hz10 (HNM.out.new HN1.out)).mono ?_; rintro e w2 ⟨rfl, hn2⟩; have HN2 := Lib.hid hn2; clear hn2)
    | (go_at_call 10; refine (join_any' b c L _ (fun j y hy => (HN2.out.cell (p := ⟨b, j, none⟩) hb).trans (HCL.out j y hy)) (Nat.lt_of_lt_of_le hb HN2.out.size) hc hpl).mono ?_; rintro e w3 ⟨rfl, hn3⟩; rw [HJ.out]))
  go_ret
  exact ⟨by simp, New.then HN.out (New.then HN1.out (New.then HN2.out hn3))⟩
theorem lineOf_any (i : In) (w : World) (h : ok i = true) (hN : NamesAt w) (hP : PowT w) : Calls Tryz.prog 34 #[.agg (icell i)] w fun e w' => e = .returned (.string ⟨(lnB i).toArray⟩) ∧ New w w' := by
  by_cases hx : i.op = 28
  · exact lineOf_exit i w h hN hx
  · exact lineOf_more i w h hN hP hx
theorem lnB_le (i : In) (h : ok i = true) : (lnB i).length ≤ 200 := by
  have hpl := parts_le i (sm_of_ok h)
  have hjl := join_le _ hpl.1
  obtain ⟨-, -, -, -, -, -, g1, g2, hz⟩ := ok_facts i h
  have hwl := wordB_le i.op.toNat i.siz.toNat i.nar (by omega)
  unfold lnB
  rw [List.length_append]
  split
  · simp; omega
  · rw [List.length_append]
    simp
    omega
end Go.Proofs.YtddojdgnakajmaaGreatDoor.txt

namespace Go.Proofs.YtddojdgnakajmaaGreatDoor.txt
open Go.RowKit Go.Proofs.YtddojdgnakajmaaGreatDoor.mem Go.Proofs.YtddojdgnakajmaaGreatDoor.kit Go.Proofs.YtddojdgnakajmaaGreatDoor.ins
set_option linter.unusedVariables false
set_option linter.unusedSimpArgs false

theorem bsize : (Tryz.prog.info? 80).map (·.size) = some 2 := by kernel_rfl
theorem blies : liesAt Tryz.prog Tryz.prog.depth 80 (2 / Tryz.prog.cellsOf 80) 0 80 1 = true := by kernel_rfl
abbrev BA (B b : Nat) (p : Value) (bs : List Value) (w : World) : Prop := Lib.BuilderAt 80 5 B b p bs w
set_option maxHeartbeats 1000000 in
set_option maxRecDepth 100000 in
theorem copyCheck_any (B b : Nat) (bs : List Value) (w : World) (h : Lib.IsBuilder 80 5 B b bs w) :
    Calls Tryz.prog 78 #[.pointer (some ⟨b, 0, none⟩)] w fun e w' => e = .returned (.tuple #[]) ∧ (BA B b (.pointer (some ⟨b, 0, none⟩)) bs w' ∧ Below B w w') := by
  obtain ⟨j, hj, hjs⟩ := Option.map_eq_some_iff.1 bsize
  rcases h with h | h
  · have c0 := h.cell0
    have s0 := h.shape
    have f0 := h.frozen0
    have H := Lib.hid h
    clear h
    go_enter Tryz.func78, Tryz.ntmps78
    go_wp2
    rw [Lib.run_to_unsafe w ⟨b, 0, none⟩ Tryz.underlying78 Tryz.underlying264 hj (by rw [hjs]; decide) s0 (Nat.zero_lt_succ 1)]
    simp only [Result.andThen]
    rw [Oper.upon_value]
    go_wp2
    rw [run_callFunc_extern Tryz.func150 (by kernel_rfl) (by kernel_rfl) (by kernel_rfl) (e := Extern.AbiNoEscape.same) (by kernel_rfl)]
    rw [Lib.run_noEscape]
    simp only [Result.andThen]
    rw [Oper.upon_value]
    go_wp2
    rw [Lib.run_from_unsafe w ⟨b, 0, none⟩ Tryz.underlying264 Tryz.underlying78 hj s0 blies]
    simp only [Result.andThen]
    rw [Oper.upon_value]
    go_wp2
    refine Great.bodyPost_end0 rfl rfl ?_
    exact ⟨rfl, H.out.used _, (Below.refl B w).setCell (p := ⟨b, 0, none⟩) H.out.1 _⟩
  · have c0 := h.cell0
    have H := Lib.hid h
    clear h
    go_enter Tryz.func78, Tryz.ntmps78
    go_wp2
    rw [Lib.run_neq_ptr_same w _ Tryz.underlying78 hj]
    go_wp2
    refine Great.bodyPost_end0 rfl rfl ?_
    exact ⟨rfl, H.out, Below.refl B _⟩

theorem own_some {w : World} {base n size : Nat} {e : TypeId} {v : Value} {xs : List Value} (h : w.ownsRow base e size v n xs) (hn : 0 < n) : ∃ g cap, v = .slice (some ⟨g, 0, none⟩) n cap := by
  rcases h.2 with ⟨_, h0⟩ | ⟨g, cap, cur, hv, _⟩
  · omega
  · exact ⟨g, cap, hv⟩
theorem bd_grown' {w1 w2 : World} {b : Nat} {p v : Value} (hbk : w1.heap[b]? = some (.cells #[p, v] 80 (0, 0))) (hne : v.ownBlock ≠ some b) (hg : w1.grownBy w2 v.ownBlock) :
    w2.heap[b]? = some (.cells #[p, v] 80 (0, 0)) ∧ w2.cell? ⟨b, 1, none⟩ = some v ∧ w2.frozen? ⟨b, 1, none⟩ = false := by
  have hlt : b < w1.heap.size := (Array.getElem?_eq_some_iff.1 hbk).1
  have hb2 : w2.heap[b]? = some (.cells #[p, v] 80 (0, 0)) := by
    rw [hg.block b hlt (fun e => hne e.symm)]
    exact hbk
  exact ⟨hb2, by rw [Lib.cell_of_heap hb2]; rfl, Lib.frozen_of_heap hb2 1⟩
theorem bd_grown {w1 w2 : World} {b : Nat} {p v : Value} {o : Obj} (hbk : w1.heap[b]? = some (.cells #[p, v] 80 (0, 0))) (hne : v.ownBlock ≠ some b) (hg : (w1.alloc o).grownBy w2 v.ownBlock) :
    w2.heap[b]? = some (.cells #[p, v] 80 (0, 0)) ∧ w2.cell? ⟨b, 1, none⟩ = some v ∧ w2.frozen? ⟨b, 1, none⟩ = false :=
  bd_grown' ((Lib.alloc_old w1 o b (Array.getElem?_eq_some_iff.1 hbk).1).trans hbk) hne hg
set_option maxHeartbeats 2000000 in
set_option maxRecDepth 100000 in
theorem writeByte_any (B b : Nat) (bs : List Value) (c : Int) (w : World) (h : Lib.IsBuilder 80 5 B b bs w) (hlen : bs.length + 1 ≤ 100000000) (hBw : B ≤ w.heap.size) :
    Calls Tryz.prog 27 #[.pointer (some ⟨b, 0, none⟩), .int .u8 c] w fun e w' => e = .returned .nilIface ∧ (BA B b (.pointer (some ⟨b, 0, none⟩)) (bs ++ [.int .u8 c]) w' ∧ Below B w w') := by
  obtain ⟨i0, hi, hz0, hz1, hz2⟩ := info_parts byte_info
  go_enter Tryz.func27, Tryz.ntmps27
  go_wp2_with (first
    | (go_at_call 78; refine (copyCheck_any B b bs _ h).mono ?_; rintro e w1 ⟨rfl, ⟨hB, v, hbk, hown, hne⟩, hb1⟩; obtain ⟨A, cp, rfl, -, -, -⟩ := own_len hown; have HBK := Lib.hid hbk; have HOW := Lib.hid hown; have HNE := Lib.hid hne; have HB1 := Lib.hid hb1; have c1 : w1.cell? ⟨b, 1, none⟩ = some (.slice A bs.length cp) := (by rw [Lib.cell_of_heap hbk]; rfl); clear hbk hown hne hb1)
    | (at_builtin; refine wpList_append_any _ rfl _ _ 37 rfl B 5 i0 (.int .u8 0) 1 1 Tryz.underlying37 hi hz0 hz1 hz2 rfl (by decide) _ _ _ rfl (HOW.out.alloc _) (w1.heap.size + 1) (some ⟨w1.heap.size, 0, none⟩) 1 1 [.int .u8 c] rfl ((reads_new w1 5 _).more (by simp)) (by simp [Value.oneCell']) (by unfold maxLen; omega) (by omega) (by have := HB1.out.size; simp; omega) ?_; intro v' w2 hown' hgrow _; obtain ⟨g, cap, rfl⟩ := own_some hown' (by omega); obtain ⟨hb2, d1, f1⟩ := bd_grown (o := .cells #[.int .u8 c] 5) HBK.out HNE.out hgrow; have HO2 := Lib.hid hown'; have HG2 := Lib.hid hgrow; have HB2 := Lib.hid hb2; clear hown' hgrow hb2))
  go_ret
  refine ⟨rfl, ?_, ?_⟩
  · exact Lib.BuilderAt.put (T := 80) (e := 5) hB HB2.out (bs' := bs ++ [.int .u8 c]) (by simpa using HO2.out) (by decide)
  · exact ((HB1.out.alloc (by have := HB1.out.size; omega) _).grown HG2.out (by have := HB1.out.size; simp; omega) (fun k hk => (HOW.out.lt k hk).1)).setCell (p := ⟨b, 1, none⟩) hB _
set_option maxHeartbeats 2000000 in
set_option maxRecDepth 100000 in
theorem writeString_any (B b : Nat) (bs : List Value) (s : ByteArray) (w : World) (h : Lib.IsBuilder 80 5 B b bs w) (hlen : bs.length + s.size ≤ 100000000) (hBw : B ≤ w.heap.size) :
    Calls Tryz.prog 24 #[.pointer (some ⟨b, 0, none⟩), .string s] w fun e w' => e = .returned (.tuple #[.int .i64 s.size, .nilIface]) ∧ (BA B b (.pointer (some ⟨b, 0, none⟩)) (bs ++ Lib.strCells s) w' ∧ Below B w w') := by
  obtain ⟨i0, hi, hz0, hz1, hz2⟩ := info_parts byte_info
  go_enter Tryz.func24, Tryz.ntmps24
  go_wp2_with (first
    | (go_at_call 78; refine (copyCheck_any B b bs _ h).mono ?_; rintro e w1 ⟨rfl, ⟨hB, v, hbk, hown, hne⟩, hb1⟩; obtain ⟨A, cp, rfl, -, -, -⟩ := own_len hown; have HBK := Lib.hid hbk; have HOW := Lib.hid hown; have HNE := Lib.hid hne; have HB1 := Lib.hid hb1; have c1 : w1.cell? ⟨b, 1, none⟩ = some (.slice A bs.length cp) := (by rw [Lib.cell_of_heap hbk]; rfl); clear hbk hown hne hb1)
    | (at_builtin; refine Lib.wpList_append_own_string _ rfl _ _ 37 9 rfl B 5 i0 Tryz.underlying37 Tryz.underlying9 hi hz0 hz1 hz2 _ _ _ rfl HOW.out s rfl (by unfold maxLen; omega) (by omega) (by have := HB1.out.size; omega) ?_; intro v' w2 hown' hgrow _; obtain ⟨A9, cap, rfl, -, -, -⟩ := own_len hown'; obtain ⟨hb2, d1, f1⟩ := bd_grown' HBK.out HNE.out hgrow; have HO2 := Lib.hid hown'; have HG2 := Lib.hid hgrow; have HB2 := Lib.hid hb2; clear hown' hgrow hb2))
  refine bodyPost_ret (v := .tuple #[.int .i64 s.size, .nilIface]) (by simp [results, Tryz.results24, go_sem]) rfl ?_
  refine ⟨rfl, ?_, ?_⟩
  · exact Lib.BuilderAt.put (T := 80) (e := 5) hB HB2.out (bs' := bs ++ Lib.strCells s) (by rw [List.length_append, Lib.strCells_length]; exact HO2.out) (by decide)
  · exact (HB1.out.grown HG2.out (by have := HB1.out.size; omega) (fun k hk => (HOW.out.lt k hk).1)).setCell (p := ⟨b, 1, none⟩) hB _
end Go.Proofs.YtddojdgnakajmaaGreatDoor.txt

namespace Go.Proofs.YtddojdgnakajmaaGreatDoor.txt
open Go.RowKit Go.Proofs.YtddojdgnakajmaaGreatDoor.mem Go.Proofs.YtddojdgnakajmaaGreatDoor.kit Go.Proofs.YtddojdgnakajmaaGreatDoor.ins
set_option linter.unusedVariables false
set_option linter.unusedSimpArgs false

def linesOf (l : List In) : Bs := (l.map fun i => lnB i ++ [10]).flatten
theorem linesOf_snoc (l : List In) (i : In) : linesOf (l ++ [i]) = linesOf l ++ lnB i ++ [10] := by simp [linesOf]
def showM (l : List In) : Int × Bs := if 4096 < l.length then (3, []) else if l.all ok then (0, linesOf l) else (4, [])
theorem linesOf_le (l : List In) (h : l.all ok = true) : (linesOf l).length ≤ 201 * l.length := by
  induction l with
  | nil => simp [linesOf]
  | cons i r ih =>
    simp only [List.all_cons, Bool.and_eq_true] at h
    have h1 := lnB_le i h.1
    have h2 := ih h.2
    have e : linesOf (i :: r) = (lnB i ++ [10]) ++ linesOf r := by simp [linesOf]
    rw [e]
    simp only [List.length_append, List.length_cons, List.length_nil]
    omega
/-- The Builder while lines are written. -/
abbrev Bd (B b : Nat) (l : Bs) (w : World) : Prop := Lib.IsBuilder 80 5 B b (Lib.byteCells l) w
theorem bdat_new {B b : Nat} {p : Value} {bs : List Value} {w w' : World} (h : Lib.BuilderAt 80 5 B b p bs w) (hn : New w w') : Lib.BuilderAt 80 5 B b p bs w' := by
  obtain ⟨h1, v, h2, h3, h4⟩ := h
  exact ⟨h1, v, (hn.block b (Array.getElem?_eq_some_iff.1 h2).1).trans h2, own_new h3 hn, h4⟩
theorem bd_new {B b : Nat} {l : Bs} {w w' : World} (h : Bd B b l w) (hn : New w w') : Bd B b l w' := h.elim (fun x => .inl (bdat_new x hn)) (fun x => .inr (bdat_new x hn))
theorem bd_start (w : World) : Bd w.heap.size w.heap.size [] (w.alloc (.cells #[.pointer none, .slice none 0 0] 80)) :=
  .inl ⟨Nat.le_refl _, .slice none 0 0, heap_alloc_new w _, ⟨rfl, Or.inl ⟨rfl, rfl⟩⟩, by simp [Value.ownBlock]⟩
theorem wstr_any (B b : Nat) (l s : Bs) (w : World) (h : Bd B b l w) (hl : l.length + s.length ≤ 100000000) (hB : B ≤ w.heap.size) :
    Calls Tryz.prog 24 #[.pointer (some ⟨b, 0, none⟩), .string ⟨s.toArray⟩] w fun e w' => e = .returned (.tuple #[.int .i64 (s.length : Int), .nilIface]) ∧ Bd B b (l ++ s) w' ∧ Below B w w' := by
  have e : (⟨s.toArray⟩ : ByteArray).size = s.length := by show s.toArray.size = _; simp
  refine (writeString_any B b (Lib.byteCells l) ⟨s.toArray⟩ w h (by rw [e, Lib.byteCells_length]; omega) hB).mono ?_
  rintro x w' ⟨rfl, hb, hn⟩
  refine ⟨by rw [e], .inr ?_, hn⟩
  have e2 : Lib.byteCells (l ++ s) = Lib.byteCells l ++ Lib.strCells ⟨s.toArray⟩ := by simp [Lib.byteCells, Lib.strCells]
  rw [e2]
  exact hb
theorem wbyte_any (B b : Nat) (l : Bs) (w : World) (h : Bd B b l w) (hl : l.length + 1 ≤ 100000000) (hB : B ≤ w.heap.size) :
    Calls Tryz.prog 27 #[.pointer (some ⟨b, 0, none⟩), .int .u8 10] w fun e w' => e = .returned .nilIface ∧ Bd B b (l ++ [10]) w' ∧ Below B w w' := by
  refine (writeByte_any B b (Lib.byteCells l) 10 w h (by rw [Lib.byteCells_length]; omega) hB).mono ?_
  rintro x w' ⟨rfl, hb, hn⟩
  refine ⟨rfl, .inr ?_, hn⟩
  have e2 : Lib.byteCells (l ++ [10]) = Lib.byteCells l ++ [.int .u8 10] := by simp [Lib.byteCells]
  rw [e2]
  exact hb
theorem right_x' (o : Int) (n : Bool) (d s : Int) (u : Bool) (f m z : Int) (B : Bool) (h : ok ⟨o, n, d, s, u, f, m, z⟩ = B) (w : World) :
    Calls Tryz.prog 33 #[.agg #[.int .u8 o, .bool n, .int .i64 d, .int .i64 s, .bool u, .int .i64 f, .int .i64 m, .int .i64 z]] w fun e w' => e = .returned (.bool B) ∧ New w w' := h ▸ Right_any ⟨o, n, d, s, u, f, m, z⟩ w
def ShowD (w : World) (x : Int × Bs) (e : Ending) (w' : World) : Prop := e = .returned (.tuple #[.string ⟨x.2.toArray⟩, .int .i64 x.1]) ∧ New w w'

set_option maxRecDepth 100000 in
set_option maxHeartbeats 4000000 in
theorem show_any (A : Option Addr) (n c : Nat) (l : List In) (w : World) (hn : n = l.length) (hnm : n ≤ maxLen) (hA : RI w A l) (hN : NamesAt w) (hP : PowT w) :
    Calls Tryz.prog 14 #[.slice A n c] w (ShowD w (showM l)) := by
  by_cases hlong : 4096 < n
  · have e : showM l = (3, []) := by unfold showM; rw [if_pos (by omega)]
    rw [e]
    have hd : (4096 : Int) < (n : Int) := by omega
    clear hn hA hN hP
    go_enter Tryz.func14, Tryz.ntmps14
    go_wp2
    refine bodyPost_ret (v := .tuple #[.string ⟨#[]⟩, .int .i64 3]) (by simp [results, Tryz.results14, go_sem]) rfl ?_
    exact ⟨rfl, new_refl w⟩
  · have hd : ¬ (4096 : Int) < (n : Int) := by omega
    have e : showM l = (if l.all ok then (0, linesOf l) else (4, [])) := by unfold showM; rw [if_neg (by omega)]
    obtain ⟨X, hX⟩ : ∃ X, showM l = X := ⟨_, rfl⟩
    rw [hX]
    rw [e] at hX
    have HX := Lib.hid hX
    have HLN := Lib.hid hn
    have HA := Lib.hid hA
    have HNM := Lib.hid hN
    have HP := Lib.hid hP
    have HST := Lib.hid (bd_start w)
    have HN1 := Lib.hid (new1 w (.cells #[.pointer none, .slice none 0 0] 80))
    clear hX e hn hA hN hP
    go_enter Tryz.func14, Tryz.ntmps14
    go_wp2
    go_loopw [12] (fun i wr => ∃ k : Nat, k ≤ n ∧ i = .int .i64 k ∧ (l.take k).all ok = true ∧ Bd w.heap.size w.heap.size (linesOf (l.take k)) wr ∧ New w wr) (fun i _ => n - (intOf i).toNat)
    case atStart => exact ⟨0, Nat.zero_le _, rfl, by simp, HST.out, HN1.out⟩
    case round =>
      clear HST HN1
      obtain ⟨k, hk, rfl, hall, hbd, hnw⟩ := hrel
      by_cases hlt : k < n
      · have hkl : k < l.length := by have := HLN.out; omega
        obtain ⟨g, o, rfl, hgb, hat⟩ := RI.at_ HA.out hkl
        obtain ⟨i, hi⟩ : ∃ i, l[k] = i := ⟨_, rfl⟩
        rw [hi] at hat
        have hat1 := hat.new hgb hnw
        obtain ⟨io, inr, id, isr, iu, iof, iim, isz⟩ := i
        obtain ⟨x0, x1, x2, x3, x4, x5, x6, x7⟩ := hat1
        have HI := Lib.hid (Blk.new wr 41 #[.int .u8 io, .bool inr, .int .i64 id, .int .i64 isr, .bool iu, .int .i64 iof, .int .i64 iim, .int .i64 isz])
        have HNA := Lib.hid (new1 wr (.cells #[.int .u8 io, .bool inr, .int .i64 id, .int .i64 isr, .bool iu, .int .i64 iof, .int .i64 iim, .int .i64 isz] 41))
        have HNW := Lib.hid hnw
        have HBD := Lib.hid hbd
        have HIK := Lib.hid hi
        have HALL := Lib.hid hall
        have hlen := linesOf_le _ hall
        rw [List.length_take] at hlen
        clear hnw hbd hat hi hall
        cases hok : ok ⟨io, inr, id, isr, iu, iof, iim, isz⟩ with
        | false =>
          have HR := Lib.hid (right_x' io inr id isr iu iof iim isz false hok)
          go_wp2_with (go_at_call 33; refine (HR.out _).mono ?_; rintro e w1 ⟨rfl, hn1⟩; have HN2 := Lib.hid hn1; clear hn1)
          refine bodyPost_ret (v := .tuple #[.string ⟨#[]⟩, .int .i64 4]) (by simp [results, Tryz.results14, go_sem]) rfl ?_
          have hx : X = (4, []) := by
            rw [← HX.out, if_neg]
            intro h
            have := List.all_eq_true.1 h _ (List.getElem_mem hkl)
            rw [HIK.out, hok] at this
            cases this
          rw [hx]
          exact ⟨rfl, New.then HNW.out (New.then HNA.out HN2.out)⟩
        | true =>
          have hll := lnB_le _ hok
          have HR := Lib.hid (right_x' io inr id isr iu iof iim isz true hok)
          have HL := Lib.hid (fun W h1 h2 => lineOf_any ⟨io, inr, id, isr, iu, iof, iim, isz⟩ W hok h1 h2)
          obtain ⟨y, hy⟩ : ∃ y, lnB ⟨io, inr, id, isr, iu, iof, iim, isz⟩ = y := ⟨_, rfl⟩
          rw [hy] at HL hll
          have HY := Lib.hid hy
          have HB1 := Lib.hid HNW.out.size
          clear hy
          go_wp2_with (first
            | (go_at_call 33; refine (HR.out _).mono ?_; rintro e w1 ⟨rfl, hn1⟩; have HN2 := Lib.hid (New.then HNA.out hn1); obtain ⟨b0, b1, b2, b3, b4, b5, b6, b7⟩ := cells8 (HI.out.below hn1 HI.out.lt); clear hn1)
            | (go_at_call 34; refine (HL.out _ (HNM.out.new (New.then HNW.out HN2.out)) (HP.out.new (New.then HNW.out HN2.out))).mono ?_; rintro e w2 ⟨rfl, hn2⟩; have HN3 := Lib.hid (New.then HN2.out hn2); clear hn2)
            | (go_at_call 24; refine (wstr_any w.heap.size w.heap.size (linesOf (l.take k)) y _ (bd_new HBD.out HN3.out) (by omega) (New.then HNW.out HN3.out).size).mono ?_; rintro e w3 ⟨rfl, hb3, hn3⟩; have HB3 := Lib.hid hb3; have HN4 : Hid (New w w3) := Lib.hid ((New.then HNW.out HN3.out).trans hn3); clear hb3 hn3)
            | (go_at_call 27; refine (wbyte_any w.heap.size w.heap.size (linesOf (l.take k) ++ y) _ HB3.out (by simp; omega) HN4.out.size).mono ?_; rintro e w4 ⟨rfl, hb4, hn4⟩; have HB4 := Lib.hid hb4; have HN5 : Hid (New w w4) := Lib.hid (HN4.out.trans hn4); clear hb4 hn4))
          go_roundw
          case rel =>
            refine ⟨k + 1, by omega, by go_num, ?_, ?_, HN5.out⟩
            · rw [← List.take_append_getElem hkl, List.all_append, HALL.out, HIK.out]
              simp [hok]
            · rw [← List.take_append_getElem hkl, linesOf_snoc, HIK.out, HY.out]
              exact HB4.out
          case measure => simp [intOf]; omega
      · obtain rfl : k = n := by omega
        have e : l.take k = l := List.take_of_length_le (by have := HLN.out; omega)
        rw [e] at hall hbd
        have hx : X = (0, linesOf l) := by rw [← HX.out, if_pos hall]
        have HBD := Lib.hid hbd
        have HNW := Lib.hid hnw
        subst hx
        clear hbd hnw
        go_wp2_with (go_at_call 25; refine (Tryz.Builder_String_any w.heap.size w.heap.size (linesOf l) _ HBD.out HNW.out.size).mono ?_; rintro e w1 ⟨rfl, hn1⟩)
        refine bodyPost_ret (v := .tuple #[.string ⟨(linesOf l).toArray⟩, .int .i64 0]) (by simp [results, Tryz.results14, go_sem]) rfl ?_
        exact ⟨rfl, HNW.out.trans hn1⟩
end Go.Proofs.YtddojdgnakajmaaGreatDoor.txt
