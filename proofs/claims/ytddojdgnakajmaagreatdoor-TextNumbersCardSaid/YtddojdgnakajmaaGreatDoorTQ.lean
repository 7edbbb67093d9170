/-
  A store of a whole struct into a part of a block; what a line says.
-/
import Derived.Test.YtddojdgnakajmaaGreatDoorTO
import Derived.Shelf.Strings.SlTrimAscii
import Derived.Deep.RegionLaw
namespace Go.Proofs.YtddojdgnakajmaaGreatDoor.txt
open Go.RowKit Go.Proofs.YtddojdgnakajmaaGreatDoor.mem Go.Proofs.YtddojdgnakajmaaGreatDoor.kit Go.Proofs.YtddojdgnakajmaaGreatDoor.ins
set_option linter.unusedVariables false
set_option linter.unusedSimpArgs false

def putA (cur : Array Value) (o : Nat) : List Value → Array Value
  | [] => cur
  | v :: vs => putA (cur.setIfInBounds o v) (o + 1) vs
section
variable {P : Program}
theorem setRow_self (w : World) (g : Nat) (cur : Array Value) (t : TypeId) (hg : w.heap[g]? = some (.cells cur t (0, 0))) : w.setRow g cur = w := by
  have hlt : g < w.heap.size := (Array.getElem?_eq_some_iff.1 hg).1
  have hv : w.heap[g] = .cells cur t (0, 0) := (Array.getElem?_eq_some_iff.1 hg).2
  unfold World.setRow
  cases w with
  | mk heap tape drawn os output =>
    congr 1
    apply Array.ext
    · simp
    · intro k h1 h2
      simp only [Array.getElem_modify]
      split
      · rename_i hk; subst hk; simp at hv; simp [hv]
      · rfl
theorem run_store_part (g : Nat) (t : TypeId) (o : Nat) : ∀ (vs : List Value) (i : Nat) (cur : Array Value) (w : World), w.heap[g]? = some (.cells cur t (0, 0)) → o + i + vs.length ≤ cur.size → (∀ v ∈ vs, v.oneCell' = true) →
    (storeCells ⟨g, o, none⟩ vs i).run P w = .ok () (w.setRow g (putA cur (o + i) vs))
  | [], i, cur, w, hg, _, _ => by
    simp only [storeCells, putA, setRow_self w g cur t hg]
    rfl
  | v :: rest, i, cur, w, hg, hl, h1 => by
    have hi : o + i < cur.size := by simp at hl; omega
    have hadd : (⟨g, o, none⟩ : Addr).add i = ⟨g, o + i, none⟩ := Addr.add_lit _ _ _
    have hcell : w.cell? ⟨g, o + i, none⟩ = some cur[o + i] := by simp [World.cell?, hg, hi]
    have hfro : w.frozen? ⟨g, o + i, none⟩ = false := by simp [World.frozen?, hg]
    have hst : (store ((⟨g, o, none⟩ : Addr).add i) v).run P w = .ok () (w.setRow g (cur.setIfInBounds (o + i) v)) := by
      rw [hadd, run_store P w _ v _ (h1 v (by simp)), hcell]
      simp [hfro, setCell_eq_setRow w g (o + i) cur t (0, 0) v hg]
    have ih := run_store_part g t o rest (i + 1) (cur.setIfInBounds (o + i) v) (w.setRow g (cur.setIfInBounds (o + i) v)) (setRow_heap w g cur _ t _ hg) (by simp at hl ⊢; omega) (fun x hx => h1 x (by simp [hx]))
    simp only [storeCells, Sem.run_bind, hst, Result.andThen_ok, ih, setRow_setRow]
    rfl
theorem wpList_store_part {ops : Array Oper} {rest : List Oper} {op : Oper} {a : Act} {w : World} {Q : Exit → Act → World → Prop} (hgd : op.guard = none) (ty : TypeId) (x y : Operand) (ho : op.op = .store ty x y)
    (g o : Nat) (cells : Array Value) (hx : a.eval x = .pointer (some ⟨g, o, none⟩)) (hy : a.eval y = .agg cells)
    (t : TypeId) (old : Array Value) (hg : w.heap[g]? = some (.cells old t (0, 0))) (hi : (P.info? ty).map (·.size) = some cells.size)
    (hold : o + cells.size ≤ old.size) (h1 : cells.all (·.oneCell') = true)
    (h : wpList P ops Q rest (a.put op.dst undef) (w.setRow g (putA old o cells.toList))) : wpList P ops Q (op :: rest) a w :=
  wpList_plain hgd fun _ hK => by
    have hs := run_store_part (P := P) g t o cells.toList 0 old w hg (by simpa using hold) (fun v hv => (Array.all_eq_true_iff_forall_mem.1 h1) v (by simpa using hv))
    rw [Nat.add_zero] at hs
    have hsv : (storeVar ty ⟨g, o, none⟩ (.agg cells)).run P w = .ok () (w.setRow g (putA old o cells.toList)) := by
      cases hq : P.info? ty with
      | none => simp [hq] at hi
      | some i =>
        have hsz : cells.size = i.size := by simp [hq] at hi; omega
        simp [storeVar, sizeOf, typeInfo, hq, Value.cells, hsz, hs]
    unfold Oper.wp execOp
    simp only [ho, hx, hy, Instr.storeAt, Instr.sureAddr, Sem.run_bind, Sem.run_pure, Result.andThen_ok, hsv]
    exact hK _ _ h
end

/-- What a line says, as a value. -/
def sdv : Sd → Array Value
  | .none => #[.string ⟨#[]⟩, .int .u8 0, .bool false, .int .i64 0, .int .i64 0, .bool false, .int .i64 0, .int .i64 0, .int .i64 0, .string ⟨#[]⟩]
  | .lab x => #[.string ⟨x.toArray⟩, .int .u8 0, .bool false, .int .i64 0, .int .i64 0, .bool false, .int .i64 0, .int .i64 0, .int .i64 0, .string ⟨#[]⟩]
  | .ins i t => #[.string ⟨#[]⟩, .int .u8 i.op, .bool i.nar, .int .i64 i.dst, .int .i64 i.src, .bool i.use, .int .i64 i.off, .int .i64 i.imm, .int .i64 i.siz, .string ⟨t.toArray⟩]
theorem sent_size : (Tryz.prog.info? 107).map (·.size) = some 10 := by kernel_rfl
/-- What a line's reading leaves. -/
def SentD (w : World) (g : Nat) (d : Sd) (e : Ending) (w' : World) : Prop := e = .returned (.agg (sdv d)) ∧ Ch (fun b => b = g) w w'

/-- While a line is read: the reader, what will be told (r), what is said so far (b). -/
structure SS (w0 : World) (g r b : Nat) (T : TypeId) (q : Addr) (L : List Bs) (M : Value) (lb : Bs) (cs : Array Value) (w : World) : Prop where
  tk : TkX w g L M lb
  rb : Blk w r 107 (sdv .none)
  bb : Blk w b 107 cs
  ch : Ch (fun j => j = g) w0 w
  hr : w0.heap.size ≤ r
  hb : w0.heap.size ≤ b
  ne : r ≠ b
  hg : g < w0.heap.size
  err : ErrT w T q
section
variable {w0 : World} {g r b : Nat} {T : TypeId} {q : Addr} {L L' : List Bs} {M : Value} {lb lb' : Bs} {cs cs' : Array Value} {w w' : World}
theorem SS.start (h : TkX w g L M []) (hE : ErrT w T q) : SS w g w.heap.size (w.heap.size + 1) T q L M [] (sdv .none) ((w.alloc (.cells (sdv .none) 107)).alloc (.cells (sdv .none) 107)) := by
  have hN := new2 w (.cells (sdv .none) 107) (.cells (sdv .none) 107)
  have hB2 := Blk.new (w.alloc (.cells (sdv .none) 107)) 107 (sdv .none)
  rw [World.size_alloc] at hB2
  refine ⟨h.new hN, (Blk.new w _ _).alloc _, hB2, Ch.of_new hN, Nat.le_refl _, Nat.le_succ _, by omega, ?_, hE.new hN⟩
  obtain ⟨A, n, c, hk⟩ := h
  exact hk.blk.lt
theorem SS.new (h : SS w0 g r b T q L M lb cs w) (hn : New w w') : SS w0 g r b T q L M lb cs w' :=
  ⟨h.tk.new hn, h.rb.below hn h.rb.lt, h.bb.below hn h.bb.lt, h.ch.then (Ch.of_new (S := fun _ => False) hn) (fun _ _ hf => hf.elim), h.hr, h.hb, h.ne, h.hg, h.err.new hn⟩
theorem SS.tok (h : SS w0 g r b T q L M lb cs w) (ht : TkX w' g L' M lb') (hc : Ch (fun j => j = g) w w') : SS w0 g r b T q L' M lb' cs w' :=
  ⟨ht, h.rb.ch hc (fun e => by have e' : r = g := e; have := h.hr; have := h.hg; omega), h.bb.ch hc (fun e => by have e' : b = g := e; have := h.hb; have := h.hg; omega), h.ch.then hc (fun _ _ e => e), h.hr, h.hb, h.ne, h.hg, h.err.ch hc (tk_err h.tk h.err)⟩
theorem SS.row (h : SS w0 g r b T q L M lb cs w) (hc : Ch (fun j => j = b) w w') (hb : Blk w' b 107 cs') (hE : 5 < w0.heap.size) : SS w0 g r b T q L M lb cs' w' :=
  ⟨h.tk.ch hc (fun e => by have e' : g = b := e; have := h.hb; have := h.hg; omega) (fun j cs hj e => (hj.ne_ h.bb (by decide)) e), h.rb.ch hc (fun e => h.ne e), hb, h.ch.then hc (fun i hi e => by have e' : i = b := e; have := h.hb; omega), h.hr, h.hb, h.ne, h.hg, h.err.ch hc (fun e => by have e' : 5 = b := e; have := h.hb; omega)⟩
theorem SS.at0 (h : SS w0 g r b T q L M lb (sdv .none) w) : w.cell? ⟨b, 0, none⟩ = some (.string ⟨#[]⟩) ∧ w.frozen? ⟨b, 0, none⟩ = false := ⟨(h.bb.cell 0).trans rfl, h.bb.frozen 0⟩
theorem SS.lab (h : SS w0 g r b T q L M lb (sdv .none) w) (x : Bs) (hE : 5 < w0.heap.size) : SS w0 g r b T q L M lb (sdv (.lab x)) (w.setCell ⟨b, 0, none⟩ (.string ⟨x.toArray⟩)) :=
  h.row ((Ch.refl (fun j => j = b) w).setCell (p := ⟨b, 0, none⟩) (fun _ => rfl) _) (h.bb.set_ 0 _) hE
end
theorem ErrT.lt {w : World} {T : TypeId} {q : Addr} (h : ErrT w T q) : 5 < w.heap.size := block_lt_of_cell (a := ⟨5, 0, none⟩) h
/-- The end of a line's reading. -/
theorem SS.done {w0 : World} {g r b : Nat} {T : TypeId} {q : Addr} {L : List Bs} {M : Value} {lb : Bs} {w : World} {d : Sd} (h : SS w0 g r b T q L M lb (sdv d) w) : SentD w0 g d (.returned (.agg (sdv d))) (w.setRow r (sdv d)) :=
  ⟨rfl, h.ch.then (ch_setRow w r (sdv d)) (fun i hi e => by have e' : i = r := e; have := h.hr; omega)⟩

set_option maxRecDepth 100000 in
set_option maxHeartbeats 1000000 in
theorem sent_lab (T : TypeId) (q : Addr) (g bm : Nat) (x : Bs) (w : World) (h : TkX w g [x, [58]] (.map (some bm)) []) (hE : ErrT w T q) (hx : isLab x = true) :
    Calls Tryz.prog 105 #[.pointer (some ⟨g, 0, none⟩)] w (SentD w g (.lab x)) := by
  have hl : x.length ≤ 1099511627776 := by
    obtain ⟨A, n, c, hk⟩ := h
    exact (hk.tok x (List.mem_cons_self ..)).2
  have H0 := Lib.hid (SS.start h hE)
  have HX := Lib.hid hx
  have HEL := Lib.hid hE.lt
  clear h hx hE
  go_enter Tryz.func105, Tryz.ntmps105
  go_wp2_with (go_at_call 101; refine (take_ok g x [[58]] (.map (some bm)) [] _ H0.out.tk).mono ?_; rintro e w1 ⟨rfl, ht, hch⟩; have H1 := Lib.hid ((H0.out.tok ht hch).new (new1 w1 (.cells #[.string ⟨#[58]⟩] 9))); clear ht hch)
  go_wp2_with (first
    | (go_at_call 98; refine (comes_any g w1.heap.size 1 1 [[58]] [[58]] (.map (some bm)) [] true _ rfl (by omega) H1.out.tk (Zs.one w1 9 [58]) (by decide)).mono ?_; rintro e w2 ⟨rfl, rfl⟩)
    | (go_at_call 101; refine (take_ok g [58] [] (.map (some bm)) [] _ H1.out.tk).mono ?_; rintro e w3 ⟨rfl, ht, hch⟩; have H3 := Lib.hid (H1.out.tok ht hch); obtain ⟨x0, z0⟩ := ((H1.out.tok ht hch).at0); have H4 := Lib.hid ((H1.out.tok ht hch).lab x HEL.out); clear ht hch)
    | (go_at_call 100; refine (labelOf_ok x _ hl HX.out).mono ?_; rintro e w4 ⟨rfl, rfl⟩)
    | (go_at_call 104; refine (none_any g [] (.map (some bm)) [] _ H4.out.tk).mono ?_; rintro e w4 ⟨rfl, rfl⟩)
    | (go_at_call 164; refine (must_yes _).mono ?_; rintro e w4 ⟨rfl, rfl⟩)
    | (refine wpList_load_row rfl 107 _ rfl (w.heap.size + 1) rfl 107 (sdv (.lab x)) (0, 0) _ H4.out.bb Tryz.underlying107 rfl sent_size ?_)
    | (refine wpList_store_row rfl 107 _ _ rfl w.heap.size (sdv (.lab x)) rfl rfl 107 _ H4.out.rb sent_size (Eq.trans (b := 10) rfl rfl) (by simp [Value.oneCell', sdv]) ?_))
  refine bodyPost_ret (results_cell_row rfl _ _ w.heap.size 107 _ (0, 0) _ rfl (setRow_heap _ _ _ _ _ _ H4.out.rb) Tryz.underlying107 rfl sent_size) rfl ?_
  exact H4.out.done
end Go.Proofs.YtddojdgnakajmaaGreatDoor.txt

namespace Go.Proofs.YtddojdgnakajmaaGreatDoor.txt
open Go.RowKit Go.Proofs.YtddojdgnakajmaaGreatDoor.mem Go.Proofs.YtddojdgnakajmaaGreatDoor.kit Go.Proofs.YtddojdgnakajmaaGreatDoor.ins
set_option linter.unusedVariables false
set_option linter.unusedSimpArgs false

/-- The instruction stands; where it goes does not yet. -/
abbrev midv (i : In) : Array Value := #[.string ⟨#[]⟩, .int .u8 i.op, .bool i.nar, .int .i64 i.dst, .int .i64 i.src, .bool i.use, .int .i64 i.off, .int .i64 i.imm, .int .i64 i.siz, .string ⟨#[]⟩]
theorem putA_mid (i : In) : putA (sdv .none) 1 (icell i).toList = midv i := by simp [putA, sdv]
section
variable {w0 : World} {g r b : Nat} {T : TypeId} {q : Addr} {L L' : List Bs} {M : Value} {lb lb' : Bs} {cs cs' : Array Value} {w w' : World}
theorem SS.part (h : SS w0 g r b T q L M lb (sdv .none) w) (i : In) (hE : 5 < w0.heap.size) : SS w0 g r b T q L M lb (midv i) (w.setRow b (putA (sdv .none) 1 (icell i).toList)) :=
  h.row (ch_setRow w b _) (by rw [putA_mid]; exact setRow_heap _ _ _ _ _ _ h.bb) hE
theorem SS.at9 {i : In} (h : SS w0 g r b T q L M lb (midv i) w) : w.cell? ⟨b, 9, none⟩ = some (.string ⟨#[]⟩) ∧ w.frozen? ⟨b, 9, none⟩ = false := ⟨(h.bb.cell 9).trans (by simp), h.bb.frozen 9⟩
theorem SS.goes {i : In} (h : SS w0 g r b T q L M lb (midv i) w) (t : Bs) (hE : 5 < w0.heap.size) : SS w0 g r b T q L M lb (sdv (.ins i t)) (w.setCell ⟨b, 9, none⟩ (.string ⟨t.toArray⟩)) :=
  h.row ((Ch.refl (fun j => j = b) w).setCell (p := ⟨b, 9, none⟩) (fun _ => rfl) _) (h.bb.set_ 9 _) hE
end

set_option maxRecDepth 100000 in
set_option maxHeartbeats 1000000 in
theorem sent_ins (T : TypeId) (q : Addr) (g bm : Nat) (f t : Bs) (L : List Bs) (B : Bool) (j : In) (rest : List Bs) (w : World) (h : TkX w g (f :: L) (.map (some bm)) []) (hm : MapAt w bm wlv) (hE : ErrT w T q) (hc : hd L ≠ [58]) (hp : pIns f L = some (j, t, rest)) (hB : decide (rest = []) = true) :
    Calls Tryz.prog 105 #[.pointer (some ⟨g, 0, none⟩)] w (SentD w g (.ins j t)) := by
  have H0 := Lib.hid (SS.start h hE)
  have HP := Lib.hid hp
  have HM := Lib.hid hm
  have HEL := Lib.hid hE.lt
  have HC : Hid (decide (hd L ∈ [[58]]) = false) := Lib.hid (by simpa using hc)
  have HBB := Lib.hid hB
  have hmg : ¬ bm = g := by
    obtain ⟨A, n, c, hk⟩ := h
    exact hm.ne hk.blk
  have HMG := Lib.hid hmg
  clear h hp hm hE hc hB hmg
  obtain ⟨jo, jn, jd, js, ju, jf, jm, jz⟩ := j
  go_enter Tryz.func105, Tryz.ntmps105
  go_wp2_with (go_at_call 101; refine (take_ok g f L (.map (some bm)) [] _ H0.out.tk).mono ?_; rintro e w1 ⟨rfl, ht, hch⟩; have H1 := Lib.hid ((H0.out.tok ht hch).new (new1 w1 (.cells #[.string ⟨#[58]⟩] 9))); have HM1 := Lib.hid (((HM.out.new (new2 w _ _)).ch hch (fun e => HMG.out e)).new (new1 w1 (.cells #[.string ⟨#[58]⟩] 9))); clear ht hch)
  go_wp2_with (first
    | (go_at_call 98; refine (comes_any g w1.heap.size 1 1 L [[58]] (.map (some bm)) [] false _ rfl (by omega) H1.out.tk (Zs.one w1 9 [58]) HC.out).mono ?_; rintro e w2 ⟨rfl, rfl⟩)
    | (go_at_call 173; refine (instr_any T q g bm f t L rest ⟨jo, jn, jd, js, ju, jf, jm, jz⟩ _ H1.out.tk HM1.out H1.out.err HP.out).mono ?_; rintro e w3 ⟨rfl, ht, hch⟩; have H3 := Lib.hid (H1.out.tok ht hch); have h4 := (H1.out.tok ht hch).part ⟨jo, jn, jd, js, ju, jf, jm, jz⟩ HEL.out; obtain ⟨x2, z2⟩ := h4.tk.at2; obtain ⟨x9, z9⟩ := h4.at9; have H4 := Lib.hid h4; have H5 := Lib.hid (h4.goes t HEL.out); clear ht hch h4)
    | (refine wpList_store_part rfl 41 _ _ rfl (w.heap.size + 1) 1 #[.int .u8 jo, .bool jn, .int .i64 jd, .int .i64 js, .bool ju, .int .i64 jf, .int .i64 jm, .int .i64 jz] rfl rfl 107 (sdv .none) H3.out.bb ins_size (by simp [sdv]) (by simp [Value.oneCell']) ?_)
    | (go_at_call 104; refine (none_any g rest (.map (some bm)) t _ H5.out.tk).mono ?_; rintro e w4 ⟨rfl, rfl⟩; rw [HBB.out])
    | (go_at_call 164; refine (must_yes _).mono ?_; rintro e w4 ⟨rfl, rfl⟩)
    | (refine wpList_load_row rfl 107 _ rfl (w.heap.size + 1) rfl 107 (sdv (.ins ⟨jo, jn, jd, js, ju, jf, jm, jz⟩ t)) (0, 0) _ H5.out.bb Tryz.underlying107 rfl sent_size ?_)
    | (refine wpList_store_row rfl 107 _ _ rfl w.heap.size (sdv (.ins ⟨jo, jn, jd, js, ju, jf, jm, jz⟩ t)) rfl rfl 107 _ H5.out.rb sent_size (Eq.trans (b := 10) rfl rfl) (by simp [Value.oneCell', sdv]) ?_))
  refine bodyPost_ret (results_cell_row rfl _ _ w.heap.size 107 (sdv (.ins ⟨jo, jn, jd, js, ju, jf, jm, jz⟩ t)) (0, 0) _ rfl (setRow_heap _ _ _ _ _ _ H5.out.rb) Tryz.underlying107 rfl sent_size) rfl ?_
  exact H5.out.done
set_option maxRecDepth 100000 in
set_option maxHeartbeats 1000000 in
theorem sent_insno (T : TypeId) (q : Addr) (g bm : Nat) (f : Bs) (L : List Bs) (w : World) (h : TkX w g (f :: L) (.map (some bm)) []) (hm : MapAt w bm wlv) (hE : ErrT w T q) (hc : hd L ≠ [58]) (hp : pIns f L = none) :
    Calls Tryz.prog 105 #[.pointer (some ⟨g, 0, none⟩)] w (FellT w T q g) := by
  have H0 := Lib.hid (SS.start h hE)
  have HP := Lib.hid hp
  have HM := Lib.hid hm
  have HEL := Lib.hid hE.lt
  have HC : Hid (decide (hd L ∈ [[58]]) = false) := Lib.hid (by simpa using hc)
  have hmg : ¬ bm = g := by
    obtain ⟨A, n, c, hk⟩ := h
    exact hm.ne hk.blk
  have HMG := Lib.hid hmg
  clear h hp hm hE hc hmg
  go_enter Tryz.func105, Tryz.ntmps105
  go_wp2_with (go_at_call 101; refine (take_ok g f L (.map (some bm)) [] _ H0.out.tk).mono ?_; rintro e w1 ⟨rfl, ht, hch⟩; have H1 := Lib.hid ((H0.out.tok ht hch).new (new1 w1 (.cells #[.string ⟨#[58]⟩] 9))); have HM1 := Lib.hid (((HM.out.new (new2 w _ _)).ch hch (fun e => HMG.out e)).new (new1 w1 (.cells #[.string ⟨#[58]⟩] 9))); clear ht hch)
  go_wp2_with (first
    | (go_at_call 98; refine (comes_any g w1.heap.size 1 1 L [[58]] (.map (some bm)) [] false _ rfl (by omega) H1.out.tk (Zs.one w1 9 [58]) HC.out).mono ?_; rintro e w2 ⟨rfl, rfl⟩)
    | (go_at_call 173; refine (instr_no T q g bm f L _ H1.out.tk HM1.out H1.out.err HP.out).mono ?_; rintro e w3 ⟨rfl, hch⟩))
  exact ⟨rfl, rfl, H1.out.ch.then hch (fun _ _ h => h)⟩

set_option maxRecDepth 100000 in
set_option maxHeartbeats 1000000 in
theorem sent_left (T : TypeId) (q : Addr) (g bm : Nat) (f t : Bs) (L : List Bs) (B : Bool) (j : In) (rest : List Bs) (w : World) (h : TkX w g (f :: L) (.map (some bm)) []) (hm : MapAt w bm wlv) (hE : ErrT w T q) (hc : hd L ≠ [58]) (hp : pIns f L = some (j, t, rest)) (hB : decide (rest = []) = false) :
    Calls Tryz.prog 105 #[.pointer (some ⟨g, 0, none⟩)] w (FellT w T q g) := by
  have H0 := Lib.hid (SS.start h hE)
  have HP := Lib.hid hp
  have HM := Lib.hid hm
  have HEL := Lib.hid hE.lt
  have HC : Hid (decide (hd L ∈ [[58]]) = false) := Lib.hid (by simpa using hc)
  have HBB := Lib.hid hB
  have hmg : ¬ bm = g := by
    obtain ⟨A, n, c, hk⟩ := h
    exact hm.ne hk.blk
  have HMG := Lib.hid hmg
  clear h hp hm hE hc hB hmg
  obtain ⟨jo, jn, jd, js, ju, jf, jm, jz⟩ := j
  go_enter Tryz.func105, Tryz.ntmps105
  go_wp2_with (go_at_call 101; refine (take_ok g f L (.map (some bm)) [] _ H0.out.tk).mono ?_; rintro e w1 ⟨rfl, ht, hch⟩; have H1 := Lib.hid ((H0.out.tok ht hch).new (new1 w1 (.cells #[.string ⟨#[58]⟩] 9))); have HM1 := Lib.hid (((HM.out.new (new2 w _ _)).ch hch (fun e => HMG.out e)).new (new1 w1 (.cells #[.string ⟨#[58]⟩] 9))); clear ht hch)
  go_wp2_with (first
    | (go_at_call 98; refine (comes_any g w1.heap.size 1 1 L [[58]] (.map (some bm)) [] false _ rfl (by omega) H1.out.tk (Zs.one w1 9 [58]) HC.out).mono ?_; rintro e w2 ⟨rfl, rfl⟩)
    | (go_at_call 173; refine (instr_any T q g bm f t L rest ⟨jo, jn, jd, js, ju, jf, jm, jz⟩ _ H1.out.tk HM1.out H1.out.err HP.out).mono ?_; rintro e w3 ⟨rfl, ht, hch⟩; have H3 := Lib.hid (H1.out.tok ht hch); have h4 := (H1.out.tok ht hch).part ⟨jo, jn, jd, js, ju, jf, jm, jz⟩ HEL.out; obtain ⟨x2, z2⟩ := h4.tk.at2; obtain ⟨x9, z9⟩ := h4.at9; have H4 := Lib.hid h4; have H5 := Lib.hid (h4.goes t HEL.out); clear ht hch h4)
    | (refine wpList_store_part rfl 41 _ _ rfl (w.heap.size + 1) 1 #[.int .u8 jo, .bool jn, .int .i64 jd, .int .i64 js, .bool ju, .int .i64 jf, .int .i64 jm, .int .i64 jz] rfl rfl 107 (sdv .none) H3.out.bb ins_size (by simp [sdv]) (by simp [Value.oneCell']) ?_)
    | (go_at_call 104; refine (none_any g rest (.map (some bm)) t _ H5.out.tk).mono ?_; rintro e w4 ⟨rfl, rfl⟩; rw [HBB.out])
    | (go_at_call 164; refine (must_no T q _ H5.out.err).mono ?_; rintro e w4 ⟨rfl, rfl⟩))
  exact ⟨rfl, rfl, H5.out.ch⟩

set_option maxRecDepth 100000 in
set_option maxHeartbeats 1000000 in
theorem sent_labno (T : TypeId) (q : Addr) (g bm : Nat) (x : Bs) (L : List Bs) (w : World) (h : TkX w g (x :: [58] :: L) (.map (some bm)) []) (hE : ErrT w T q) (hx : isLab x = false) :
    Calls Tryz.prog 105 #[.pointer (some ⟨g, 0, none⟩)] w (FellT w T q g) := by
  have hl : 0 < x.length ∧ x.length ≤ 1099511627776 := by
    obtain ⟨A, n, c, hk⟩ := h
    exact hk.tok x (List.mem_cons_self ..)
  obtain ⟨hl0, hl⟩ := hl
  have H0 := Lib.hid (SS.start h hE)
  have HX := Lib.hid hx
  clear h hx hE
  go_enter Tryz.func105, Tryz.ntmps105
  go_wp2_with (go_at_call 101; refine (take_ok g x ([58] :: L) (.map (some bm)) [] _ H0.out.tk).mono ?_; rintro e w1 ⟨rfl, ht, hch⟩; have H1 := Lib.hid ((H0.out.tok ht hch).new (new1 w1 (.cells #[.string ⟨#[58]⟩] 9))); clear ht hch)
  go_wp2_with (first
    | (go_at_call 98; refine (comes_any g w1.heap.size 1 1 ([58] :: L) [[58]] (.map (some bm)) [] true _ rfl (by omega) H1.out.tk (Zs.one w1 9 [58]) (by simp [hd])).mono ?_; rintro e w2 ⟨rfl, rfl⟩)
    | (go_at_call 101; refine (take_ok g [58] L (.map (some bm)) [] _ H1.out.tk).mono ?_; rintro e w3 ⟨rfl, ht, hch⟩; have H3 := Lib.hid (H1.out.tok ht hch); clear ht hch)
    | (go_at_call 100; refine (labelOf_no T q x _ hl hl0 HX.out H3.out.err).mono ?_; rintro e w4 ⟨rfl, rfl⟩))
  exact ⟨rfl, rfl, H3.out.ch⟩

set_option maxRecDepth 100000 in
set_option maxHeartbeats 1000000 in
theorem sent_labmore (T : TypeId) (q : Addr) (g bm : Nat) (x : Bs) (L : List Bs) (w : World) (h : TkX w g (x :: [58] :: L) (.map (some bm)) []) (hE : ErrT w T q) (hx : isLab x = true) (hL : decide (L = []) = false) :
    Calls Tryz.prog 105 #[.pointer (some ⟨g, 0, none⟩)] w (FellT w T q g) := by
  have hl : x.length ≤ 1099511627776 := by
    obtain ⟨A, n, c, hk⟩ := h
    exact (hk.tok x (List.mem_cons_self ..)).2
  have H0 := Lib.hid (SS.start h hE)
  have HX := Lib.hid hx
  have HL := Lib.hid hL
  have HEL := Lib.hid hE.lt
  clear h hx hE hL
  go_enter Tryz.func105, Tryz.ntmps105
  go_wp2_with (go_at_call 101; refine (take_ok g x ([58] :: L) (.map (some bm)) [] _ H0.out.tk).mono ?_; rintro e w1 ⟨rfl, ht, hch⟩; have H1 := Lib.hid ((H0.out.tok ht hch).new (new1 w1 (.cells #[.string ⟨#[58]⟩] 9))); clear ht hch)
  go_wp2_with (first
    | (go_at_call 98; refine (comes_any g w1.heap.size 1 1 ([58] :: L) [[58]] (.map (some bm)) [] true _ rfl (by omega) H1.out.tk (Zs.one w1 9 [58]) (by simp [hd])).mono ?_; rintro e w2 ⟨rfl, rfl⟩)
    | (go_at_call 101; refine (take_ok g [58] L (.map (some bm)) [] _ H1.out.tk).mono ?_; rintro e w3 ⟨rfl, ht, hch⟩; obtain ⟨x0, z0⟩ := ((H1.out.tok ht hch).at0); have H4 := Lib.hid ((H1.out.tok ht hch).lab x HEL.out); clear ht hch)
    | (go_at_call 100; refine (labelOf_ok x _ hl HX.out).mono ?_; rintro e w4 ⟨rfl, rfl⟩)
    | (go_at_call 104; refine (none_any g L (.map (some bm)) [] _ H4.out.tk).mono ?_; rintro e w4 ⟨rfl, rfl⟩; rw [HL.out])
    | (go_at_call 164; refine (must_no T q _ H4.out.err).mono ?_; rintro e w4 ⟨rfl, rfl⟩))
  exact ⟨rfl, rfl, H4.out.ch⟩

theorem sentence_ok (T : TypeId) (q : Addr) (g bm : Nat) (f : Bs) (L : List Bs) (d : Sd) (w : World) (h : TkX w g (f :: L) (.map (some bm)) []) (hm : MapAt w bm wlv) (hE : ErrT w T q) (hs : sent (f :: L) = some d) :
    Calls Tryz.prog 105 #[.pointer (some ⟨g, 0, none⟩)] w (SentD w g d) := by
  change (if hd L = [58] then (if isLab f = true ∧ L.tail = [] then some (Sd.lab f) else Option.none) else (pIns f L).bind fun p => if p.2.2 = [] then some (Sd.ins p.1 p.2.1) else Option.none) = some d at hs
  by_cases hc : hd L = [58]
  · rw [if_pos hc] at hs
    split at hs
    · rename_i hl
      injection hs with hs
      subst hs
      cases L with
      | nil => simp [hd] at hc
      | cons y r =>
        obtain rfl : y = [58] := hc
        obtain rfl : r = [] := hl.2
        exact sent_lab T q g bm f w h hE hl.1
    · cases hs
  · rw [if_neg hc] at hs
    obtain ⟨⟨j, t, rest⟩, hp, hs⟩ := Option.bind_eq_some_iff.1 hs
    split at hs
    · rename_i hr
      injection hs with hs
      subst hs
      exact sent_ins T q g bm f t L true j rest w h hm hE hc hp (decide_eq_true hr)
    · cases hs
theorem sentence_no (T : TypeId) (q : Addr) (g bm : Nat) (f : Bs) (L : List Bs) (w : World) (h : TkX w g (f :: L) (.map (some bm)) []) (hm : MapAt w bm wlv) (hE : ErrT w T q) (hs : sent (f :: L) = none) :
    Calls Tryz.prog 105 #[.pointer (some ⟨g, 0, none⟩)] w (FellT w T q g) := by
  change (if hd L = [58] then (if isLab f = true ∧ L.tail = [] then some (Sd.lab f) else Option.none) else (pIns f L).bind fun p => if p.2.2 = [] then some (Sd.ins p.1 p.2.1) else Option.none) = none at hs
  by_cases hc : hd L = [58]
  · rw [if_pos hc] at hs
    cases L with
    | nil => simp [hd] at hc
    | cons y r =>
      obtain rfl : y = [58] := hc
      by_cases hx : isLab f = true
      · have hr : r ≠ [] := fun e => by rw [if_pos ⟨hx, e⟩] at hs; cases hs
        exact sent_labmore T q g bm f r w h hE hx (decide_eq_false hr)
      · exact sent_labno T q g bm f r w h hE (by simpa using hx)
  · rw [if_neg hc] at hs
    cases hp : pIns f L with
    | none => exact sent_insno T q g bm f L w h hm hE hc hp
    | some x =>
      obtain ⟨j, t, rest⟩ := x
      rw [hp, Option.bind_some] at hs
      have hr : rest ≠ [] := fun e => by simp only [e, if_true] at hs; cases hs
      exact sent_left T q g bm f t L true j rest w h hm hE hc hp (decide_eq_false hr)
end Go.Proofs.YtddojdgnakajmaaGreatDoor.txt

namespace Go.Proofs.YtddojdgnakajmaaGreatDoor.txt
open Go.RowKit Go.Proofs.YtddojdgnakajmaaGreatDoor.mem Go.Proofs.YtddojdgnakajmaaGreatDoor.kit Go.Proofs.YtddojdgnakajmaaGreatDoor.ins
set_option linter.unusedVariables false
set_option linter.unusedSimpArgs false

/-- The library's own bound, whatever it is. -/
def MaxT (w : World) : Prop := ∃ m : Int, w.cell? ⟨2, 0, none⟩ = some (.int .i64 m)
theorem MaxT.ch {S : Nat → Prop} {w w' : World} (h : MaxT w) (hc : Ch S w w') (hs : ¬ S 2) : MaxT w' := by
  obtain ⟨m, hm⟩ := h
  exact ⟨m, hc.cellOf hm hs⟩
theorem index_hash : ∀ l : Bs, (Lib.index l [35] = -1 ∧ ahead l = l) ∨ (0 ≤ Lib.index l [35] ∧ l.take (Lib.index l [35]).toNat = ahead l)
  | [] => Or.inl ⟨rfl, rfl⟩
  | b :: l => by
    unfold Lib.index ahead
    by_cases hb : b = 35
    · subst hb
      right
      simp [List.isPrefixOf]
    · have h1 : List.isPrefixOf [35] (b :: l) = false := by simp [List.isPrefixOf]; exact fun e => hb e.symm
      rw [h1, if_neg (by decide)]
      have ih := index_hash l
      unfold ahead at ih
      rcases ih with ⟨h, e⟩ | ⟨h, e⟩
      · left
        rw [h]
        refine ⟨rfl, ?_⟩
        rw [List.takeWhile_cons, if_pos (by simpa using hb), e]
      · right
        have hne : (Lib.index l [35] == -1) = false := by simp; omega
        rw [hne, if_neg (by decide), List.takeWhile_cons, if_pos (by simpa using hb), ← e]
        refine ⟨by omega, ?_⟩
        rw [show (Lib.index l [35] + 1).toNat = (Lib.index l [35]).toNat + 1 by omega, List.take_succ_cons]
theorem cut_hash (l : Bs) : (Lib.cut l [35]).1 = ahead l := by
  unfold Lib.cut
  rcases index_hash l with ⟨h, e⟩ | ⟨h, e⟩
  · rw [h, if_neg (by decide)]
    exact e.symm
  · rw [if_pos h]
    exact e
theorem cut_any (l : Bs) (w : World) (hl : l.length ≤ 1000000000) (hm : MaxT w) : Calls Tryz.prog 170 #[.string ⟨l.toArray⟩, .string ⟨#[35]⟩] w fun e w' => ∃ (x : ByteArray) (b : Bool), e = .returned (.tuple #[.string ⟨(ahead l).toArray⟩, .string x, .bool b]) ∧ New w w' := by
  obtain ⟨m, hm⟩ := hm
  refine (Tryz.strings_Cut ⟨l.toArray⟩ ⟨#[35]⟩ m w (by show l.toArray.size < _; simp; omega) hm).mono ?_
  rintro e w' ⟨rfl, n, rfl⟩
  refine ⟨⟨(Lib.cut l [35]).2.1.toArray⟩, (Lib.cut l [35]).2.2, ?_, (new_refl w).drewN n⟩
  show Ending.returned (.tuple #[.string ⟨(Lib.cut l [35]).1.toArray⟩, .string ⟨(Lib.cut l [35]).2.1.toArray⟩, .bool (Lib.cut l [35]).2.2]) = _
  rw [cut_hash]
theorem trim_any (l : Bs) (w : World) : Calls Tryz.prog 171 #[.string ⟨l.toArray⟩, .string ⟨#[9, 13, 32]⟩] w fun e w' => e = .returned (.string ⟨(l.dropWhile blk).toArray⟩) ∧ New w w' := by
  refine (Any.strings_TrimLeft_laid Tryz.lays161 (by kernel_rfl) ⟨l.toArray⟩ ⟨#[9, 13, 32]⟩ w (by decide) (ascii_of_all (by decide))).mono ?_
  rintro e w' ⟨rfl, hn⟩
  refine ⟨?_, hn⟩
  show Ending.returned (.string ⟨(Lib.trimLeftS l [9, 13, 32]).toArray⟩) = _
  have e : (fun c => List.contains [9, 13, 32] c) = blk := by
    funext c
    unfold blk
    have h9 : c = 9 ↔ c.toNat = 9 := ⟨fun e => by rw [e]; rfl, fun e => UInt8.toNat_inj.1 (by rw [e]; rfl)⟩
    have h13 : c = 13 ↔ c.toNat = 13 := ⟨fun e => by rw [e]; rfl, fun e => UInt8.toNat_inj.1 (by rw [e]; rfl)⟩
    have h32 : c = 32 ↔ c.toNat = 32 := ⟨fun e => by rw [e]; rfl, fun e => UInt8.toNat_inj.1 (by rw [e]; rfl)⟩
    rw [Bool.eq_iff_iff, List.contains_iff_mem]
    simp only [List.mem_cons, List.not_mem_nil, or_false, Bool.or_eq_true, decide_eq_true_eq, h9, h13, h32, or_assoc]
  unfold Lib.trimLeftS
  rw [e]

/-! ### step by step -/
theorem drop_idem (p : UInt8 → Bool) (l : Bs) : (l.dropWhile p).dropWhile p = l.dropWhile p := by
  induction l with
  | nil => rfl
  | cons c r ih =>
    rw [List.dropWhile_cons]
    split
    · exact ih
    · rename_i h
      rw [List.dropWhile_cons, if_neg h]
theorem tks_trim (l : Bs) : tks (l.dropWhile blk) = tks l := by
  cases h : l.dropWhile blk with
  | nil => rw [tks_nil h, tks_nil (by rfl)]
  | cons c r =>
    have hi : (c :: r).dropWhile blk = c :: r := by rw [← h]; exact drop_idem blk l
    by_cases hw : wby c = true
    · rw [tks_word h hw, tks_word hi hw]
    · have hw : wby c = false := by simpa using hw
      by_cases hs : sgn c = true
      · rw [tks_sign h hw hs, tks_sign hi hw hs]
      · have hs : sgn c = false := by simpa using hs
        rw [tks_bad h hw hs, tks_bad hi hw hs]
theorem tw_take (p : UInt8 → Bool) (l : Bs) : l.take (l.takeWhile p).length = l.takeWhile p ∧ l.drop (l.takeWhile p).length = l.dropWhile p := by
  induction l with
  | nil => exact ⟨rfl, rfl⟩
  | cons c r ih =>
    by_cases h : p c = true
    · rw [List.takeWhile_cons, if_pos h, List.dropWhile_cons, if_pos h]
      simp [ih.1, ih.2]
    · rw [List.takeWhile_cons, if_neg h, List.dropWhile_cons, if_neg h]
      simp
/-- One token more. -/
theorem tks_step {c : UInt8} {r : Bs} (hi : (c :: r).dropWhile blk = c :: r) (h : wby c = true ∨ sgn c = true) :
    0 < tsz (c :: r) ∧ tsz (c :: r) ≤ (c :: r).length ∧ tks (c :: r) = (tks (((c :: r).drop (tsz (c :: r))).dropWhile blk)).map ((c :: r).take (tsz (c :: r)) :: ·) := by
  rw [tks_trim]
  by_cases hw : wby c = true
  · have hp : 0 < ((c :: r).takeWhile wby).length := by rw [List.takeWhile_cons, if_pos hw]; simp
    have hz : tsz (c :: r) = ((c :: r).takeWhile wby).length := by unfold tsz; rw [if_pos hp]
    obtain ⟨e1, e2⟩ := tw_take wby (c :: r)
    rw [hz, e1, e2]
    exact ⟨hp, tw_le _ _, tks_word hi hw⟩
  · have hw : wby c = false := by simpa using hw
    have hs : sgn c = true := h.resolve_left (by simp [hw])
    have hz : tsz (c :: r) = 1 := by
      unfold tsz
      simp [List.takeWhile_cons, hw]
    rw [hz]
    exact ⟨by omega, by simp, tks_sign hi hw hs⟩

theorem str_info : (Tryz.prog.info? 9).map (fun i => (i.zero, i.size, i.bytes)) = some (some (.string ⟨#[]⟩), 1, 16) := by kernel_rfl
theorem toks_size : (Tryz.prog.info? 174).map (·.size) = some 1 := by kernel_rfl
theorem info_parts' {P : Program} {e : TypeId} {z : Value} {s b : Nat} (h : (P.info? e).map (fun i => (i.zero, i.size, i.bytes)) = some (some z, s, b)) : ∃ i, P.info? e = some i ∧ i.zero = some z ∧ i.size = s ∧ i.bytes = b := by
  cases hi : P.info? e with
  | none => simp [hi] at h
  | some i => simp [hi] at h; exact ⟨i, rfl, h.1, h.2.1, h.2.2⟩

theorem own_cells {W : World} {base n size : Nat} {e : TypeId} {v : Value} {xs : List Value} (h : W.ownsRow base e size v n xs) {j : Nat} (hj : v.ownBlock = some j) : base ≤ j ∧ ∃ cs, Blk W j e cs := by
  refine ⟨(h.lt j hj).1, ?_⟩
  rcases h.2 with ⟨rfl, _⟩ | ⟨g, cap, cur, rfl, _, hg, _⟩
  · simp [Value.ownBlock] at hj
  · have : g = j := by simpa [Value.ownBlock] using hj
    subst this
    exact ⟨cur, hg⟩
theorem own_typed {w : World} {base n size : Nat} {e : TypeId} {A : Option Addr} {c : Nat} {xs : List Value} (h : w.ownsRow base e size (.slice A n c) n xs) : (n ≤ c ∧ c ≤ maxLen) ∧ Reads w w.heap.size size A n xs ∧ ∀ ad, A = some ad → ∃ cs, Blk w ad.block e cs := by
  obtain ⟨A', c', e', h1, h2, hr⟩ := own_len h
  injection e' with eA _ ec
  subst eA
  subst ec
  refine ⟨⟨h1, h2⟩, hr, fun ad e => ?_⟩
  rcases h.2 with ⟨h3, _⟩ | ⟨g, cap, cur, h3, _, hg, _⟩
  · injection h3 with h3
    rw [h3] at e
    cases e
  · injection h3 with h3
    rw [h3] at e
    injection e with e
    subst e
    exact ⟨cur, hg⟩
/-- While the tokens are read: what will be told (r), those that are there (g). -/
structure TS (w0 : World) (g r : Nat) (D : List Bs) (v : Value) (w : World) : Prop where
  own : w.ownsRow (g + 1) 9 1 v D.length (vs D)
  tb : Blk w g 174 #[v]
  rb : Blk w r 174 #[.slice none 0 0]
  new : New w0 w
  hr : w0.heap.size ≤ r
  hg : r < g
  tok : TokL D
theorem TS.start {w0 w1 : World} {r : Nat} (hn : New w0 w1) (h0 : w0.heap.size ≤ r) (hr : Blk w1 r 174 #[.slice none 0 0]) : TS w0 w1.heap.size r [] (.slice none 0 0) (w1.alloc (.cells #[.slice none 0 0] 174)) :=
  ⟨⟨rfl, Or.inl ⟨rfl, rfl⟩⟩, Blk.new _ _ _, hr.alloc _, New.then hn (new1 w1 _), h0, hr.lt, fun t ht => by cases ht⟩
section
variable {w0 w w7 w9 : World} {g r : Nat} {D : List Bs} {v v9 : Value}
theorem TS.keep (h : TS w0 g r D v w) (hn : New w w7) : TS w0 g r D v w7 :=
  ⟨own_new h.own hn, h.tb.below hn h.tb.lt, h.rb.below hn h.rb.lt, New.then h.new hn, h.hr, h.hg, h.tok⟩
theorem TS.grow (h : TS w0 g r D v w7) (hg9 : w7.grownBy w9 v.ownBlock) : Blk w9 g 174 #[v] ∧ Blk w9 r 174 #[.slice none 0 0] ∧ New w0 w9 := by
  have hge : ∀ j, v.ownBlock = some j → g + 1 ≤ j := fun j hj => (own_cells h.own hj).1
  have hc := Ch.of_grown hg9
  refine ⟨h.tb.ch hc (fun e => ?_), h.rb.ch hc (fun e => ?_), h.new.grown hg9 h.new.size (fun j hj => ?_)⟩
  · have := hge _ e.symm; omega
  · have := hge _ e.symm; have := h.hg; omega
  · have := hge _ hj; have := h.hg; have := h.hr; omega
theorem TS.at0 (h : TS w0 g r D v w) : w.cell? ⟨g, 0, none⟩ = some v ∧ w.frozen? ⟨g, 0, none⟩ = false := ⟨(h.tb.cell 0).trans (by simp), h.tb.frozen 0⟩
theorem TS.step (h : TS w0 g r D v w7) (x : Bs) (hx : 0 < x.length ∧ x.length ≤ 1099511627776) (hown : w9.ownsRow (g + 1) 9 1 v9 (D.length + 1) (vs D ++ [sv x])) (hg9 : w7.grownBy w9 v.ownBlock) :
    (w9.cell? ⟨g, 0, none⟩ = some v ∧ w9.frozen? ⟨g, 0, none⟩ = false) ∧ TS w0 g r (D ++ [x]) v9 (w9.setCell ⟨g, 0, none⟩ v9) := by
  obtain ⟨ht, hr, hn⟩ := h.grow hg9
  have hc : Ch (fun j => j = g) w9 (w9.setCell ⟨g, 0, none⟩ v9) := (Ch.refl (fun j => j = g) w9).setCell (p := ⟨g, 0, none⟩) (fun _ => rfl) _
  have e1 : (D ++ [x]).length = D.length + 1 := by simp
  have e2 : vs (D ++ [x]) = vs D ++ [sv x] := by simp [vs]
  refine ⟨⟨(ht.cell 0).trans (by simp), ht.frozen 0⟩, ?_, ?_, hr.ch hc (fun e => by have := h.hg; omega), ?_, h.hr, h.hg, ?_⟩
  · rw [e1, e2]
    exact own_ch hown hc (fun j hj e => by have := (own_cells hown hj).1; omega)
  · exact ht.set_ 0 _
  · exact hn.trans (hc.below (B := w0.heap.size) hn.size (fun k hk e => by have := h.hg; have := h.hr; omega))
  · intro t ht
    rcases List.mem_append.1 ht with h1 | h1
    · exact h.tok t h1
    · have : t = x := by simpa using h1
      rw [this]
      exact hx
end
end Go.Proofs.YtddojdgnakajmaaGreatDoor.txt
