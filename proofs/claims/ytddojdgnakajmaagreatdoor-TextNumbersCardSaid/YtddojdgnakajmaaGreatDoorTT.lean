/-
  Contracts of text: a line's tokens, walked.
-/
import Derived.Test.YtddojdgnakajmaaGreatDoorTQ
import Derived.Defers
import Derived.Recover
namespace Go.Proofs.YtddojdgnakajmaaGreatDoor.txt
open Go.RowKit Go.Proofs.YtddojdgnakajmaaGreatDoor.mem Go.Proofs.YtddojdgnakajmaaGreatDoor.kit Go.Proofs.YtddojdgnakajmaaGreatDoor.ins
set_option linter.unusedVariables false
set_option linter.unusedSimpArgs false

/-- The tokens as the line's. -/
structure TkR (w : World) (L : List Bs) (A : Option Addr) (n c : Nat) : Prop where
  len : n = L.length
  cap : n ≤ c ∧ c ≤ maxLen
  rd : Reads w w.heap.size 1 A n (vs L)
  ty : ∀ ad, A = some ad → ∃ cs, Blk w ad.block 9 cs
  tok : TokL L
def TokD (w : World) (T : TypeId) (q : Addr) (o : Option (List Bs)) (e : Ending) (w' : World) : Prop :=
  match o with
  | some L => ∃ A n c, e = .returned (.agg #[.slice A n c]) ∧ TkR w' L A n c ∧ New w w'
  | none => e = thrown T q ∧ New w w'
theorem TS.done {w0 w : World} {g r cp : Nat} {A : Option Addr} {D : List Bs} {T : TypeId} {q : Addr} (h : TS w0 g r D (.slice A D.length cp) w) : TokD w0 T q (some D) (.returned (.agg #[.slice A D.length cp])) (w.setCell ⟨r, 0, none⟩ (.slice A D.length cp)) := by
  have hc : Ch (fun j => j = r) w (w.setCell ⟨r, 0, none⟩ (.slice A D.length cp)) := (Ch.refl (fun j => j = r) w).setCell (p := ⟨r, 0, none⟩) (fun _ => rfl) _
  have hown := own_ch h.own hc (fun j hj e => by have := (own_cells h.own hj).1; have := h.hg; omega)
  obtain ⟨⟨h1, h2⟩, hr, ht⟩ := own_typed hown
  exact ⟨A, D.length, cp, rfl, ⟨rfl, ⟨h1, h2⟩, hr, ht, h.tok⟩, h.new.trans (hc.below (B := w0.heap.size) h.new.size (fun k hk e => by have := h.hr; omega))⟩
theorem ba_cons (c : UInt8) (r : Bs) : ((⟨(c :: r).toArray⟩ : ByteArray) != ⟨#[]⟩) = true := by
  have h : ((⟨(c :: r).toArray⟩ : ByteArray) == ⟨#[]⟩) = false := (ba_beq (c :: r) []).trans rfl
  unfold bne
  rw [h]
  rfl
def strL : Value → Nat
  | .string b => b.size
  | _ => 0

set_option maxRecDepth 100000 in
set_option maxHeartbeats 1000000 in
theorem tokensOf_any (T : TypeId) (q : Addr) (line : Bs) (w : World) (hl : line.length ≤ 1000000000) (hm : MaxT w) (hE : ErrT w T q) :
    Calls Tryz.prog 103 #[.string ⟨line.toArray⟩] w (TokD w T q (toks line)) := by
  obtain ⟨i0, hi, hz0, hz1, hz2⟩ := info_parts' str_info
  have HM := Lib.hid (hm.ch (Ch.of_new (S := fun _ => False) (new1 w (.cells #[.slice none 0 0] 174))) id)
  have HE := Lib.hid hE
  have HR := Lib.hid (Blk.new w 174 #[.slice none 0 0])
  clear hm hE
  go_enter Tryz.func103, Tryz.ntmps103
  go_wp2_with (first
    | (go_at_call 170; (with_reducible refine (cut_any line _ hl HM.out).mono ?_); rintro e w1 ⟨x, b, rfl, hn1⟩; have HN1 := Lib.hid hn1; clear hn1)
    | (go_at_call 171; (with_reducible refine (trim_any (ahead line) _).mono ?_); rintro e w2 ⟨rfl, hn2⟩; have HN2 := Lib.hid hn2; clear hn2))
  have hst : TS w w2.heap.size w.heap.size [] (.slice none 0 0) (w2.alloc (.cells #[.slice none 0 0] 174)) :=
    TS.start (New.then (new1 w _) (New.then HN1.out HN2.out)) (Nat.le_refl _) ((HR.out.below HN1.out HR.out.lt).below HN2.out (HR.out.below HN1.out HR.out.lt).lt)
  have hal : (ahead line).length ≤ line.length := tw_le _ _
  have htk0 : toks line = (tks ((ahead line).dropWhile blk)).map (fun l => [] ++ l) := by
    rw [toks_eq, tks_trim]
    simp
  have hdl0 := drop_len blk (ahead line)
  have hid0 := drop_idem blk (ahead line)
  generalize (ahead line).dropWhile blk = R0 at *
  have hl0 : R0.length ≤ line.length := by omega
  clear hal hdl0
  generalize toks line = TK at *
  generalize w2.heap.size = g at *
  go_loopw [3] (fun s wr => ∃ (D : List Bs) (v : Value) (R : Bs), s = .string ⟨R.toArray⟩ ∧ R.dropWhile blk = R ∧ D.length + R.length ≤ line.length ∧ TK = (tks R).map (fun l => D ++ l) ∧ TS w g w.heap.size D v wr) (fun s _ => strL s)
  case atStart => exact ⟨[], _, R0, rfl, hid0, by simpa using hl0, htk0, hst⟩
  case round =>
    obtain ⟨D, v, R, rfl, htr, hDl, htk, hts⟩ := hrel
    clear hst htk0 hid0 hl0
    obtain ⟨A, cp, rfl, hcp1, hcp2, hrd⟩ := own_len hts.own
    have HTS := Lib.hid hts
    cases R with
    | nil =>
      obtain ⟨z0, z1⟩ := hts.at0
      have r0 : wr.cell? ⟨w.heap.size, 0, none⟩ = some (.slice none 0 0) := (hts.rb.cell 0).trans (by simp)
      have r1 := hts.rb.frozen 0
      have HTK := Lib.hid htk
      clear hts htk htr
      have hk : TK = some D := by
        rw [HTK.out, tks_nil (by rfl)]
        simp
      subst hk
      clear HTK
      go_wp2
      refine bodyPost_ret (results_cell_row rfl _ _ w.heap.size 174 #[.slice A D.length cp] (0, 0) _ rfl (HTS.out.rb.set_ 0 _) Tryz.underlying174 rfl toks_size) rfl ?_
      exact HTS.out.done
    | cons c r =>
      by_cases hgood : wby c = true ∨ sgn c = true
      · obtain ⟨p0, p1, p2⟩ := tks_step htr hgood
        have HN : Hid (((⟨(c :: r).toArray⟩ : ByteArray) != ⟨#[]⟩) = true) := Lib.hid (ba_cons c r)
        obtain ⟨m, hm⟩ : ∃ m, tsz (c :: r) = m := ⟨_, rfl⟩
        rw [hm] at p0 p1 p2
        have HSZ := Lib.hid (tokenSize_ok (c :: r) wr (by omega) (by simp) (by simpa using hgood))
        rw [hm] at HSZ
        obtain ⟨z0, z1⟩ := hts.at0
        have HTK := Lib.hid htk
        have HP := Lib.hid p2
        clear htk htr hm p2
        go_wp2_with (go_at_call 172; (with_reducible refine HSZ.out.mono ?_); rintro e w3 ⟨rfl, rfl⟩)
        have hmr : (m : Int) ≤ (r.length : Int) + 1 := by simp at p1; omega
        have hN0 : New wr wr.drew := Below.drew (new_refl wr)
        have H7 := Lib.hid (hts.keep (Below.drew (new1 wr (.cells #[.string ((⟨(c :: r).toArray⟩ : ByteArray).extract 0 m)] 9))))
        obtain ⟨y0, y1⟩ := H7.out.at0
        have HX : Hid ((⟨(c :: r).toArray⟩ : ByteArray).extract 0 m = ⟨((c :: r).take m).toArray⟩) := Lib.hid (by rw [Lib.extract_eq]; simp)
        have hx : 0 < ((c :: r).take m).length ∧ ((c :: r).take m).length ≤ 1099511627776 := by rw [List.length_take]; omega
        have HXL := Lib.hid hx
        clear hx
        obtain ⟨R', hR'⟩ : ∃ R', ((c :: r).drop m).dropWhile blk = R' := ⟨_, rfl⟩
        have hRl : R'.length + m ≤ r.length + 1 := by
          have h1 := drop_len blk ((c :: r).drop m)
          rw [hR', List.length_drop, List.length_cons] at h1
          simp only [List.length_cons] at p1
          omega
        have HID : Hid (R'.dropWhile blk = R') := Lib.hid (by rw [← hR']; exact drop_idem _ _)
        have HT : Hid (∀ W, Calls Tryz.prog 171 #[.string ((⟨(c :: r).toArray⟩ : ByteArray).extract m (r.length + 1)), .string ⟨#[9, 13, 32]⟩] W fun e w' => e = .returned (.string ⟨R'.toArray⟩) ∧ New W w') := Lib.hid (fun W => by
          have e1 : ((⟨(c :: r).toArray⟩ : ByteArray).extract m (r.length + 1)) = ⟨((c :: r).drop m).toArray⟩ := by
            rw [Lib.extract_eq]
            congr 2
            exact List.take_of_length_le (by simp)
          rw [e1, ← hR']
          exact trim_any _ W)
        rw [hR'] at HP
        clear hR'
        go_region_law (refine step_append_any _ (by rfl) (.tmp 21) (.tmp 25) 32 (by rfl) (g + 1) 9 i0 (.string ⟨#[]⟩) 1 16 Tryz.underlying32 hi hz0 hz1 hz2 rfl (by omega) _ D.length (vs D) (by rfl) H7.out.own wr.heap.size.succ (some ⟨wr.heap.size, 0, none⟩) 1 1 [.string ((⟨(c :: r).toArray⟩ : ByteArray).extract 0 m)] (by rfl) ((reads_new wr.drew 9 _).more (by simp)) (by simp [Value.oneCell']) (by unfold maxLen; omega) (by omega) (Nat.succ_le_of_lt H7.out.tb.lt) ?_; intro v9 w9 hown9 hg9 hat9; rw [HX.out] at hown9; obtain ⟨A9, c9, rfl, hc91, hc92, hr9⟩ := own_len hown9; obtain ⟨⟨s0, s1⟩, hts9⟩ := H7.out.step ((c :: r).take m) HXL.out hown9 hg9; have H9 := Lib.hid hts9; clear hts9 hown9 hg9 hat9 hr9)
        all_goals
          go_wp2_with (go_at_call 171; (with_reducible refine (HT.out _).mono ?_); rintro e w8 ⟨rfl, hn8⟩; have HN8 := Lib.hid hn8; clear hn8)
          go_roundw
          case rel =>
            simp only [List.length_cons] at hDl
            refine ⟨D ++ [(c :: r).take m], .slice A9 (D.length + 1) c9, R', rfl, HID.out, by simp; omega, ?_, H9.out.keep HN8.out⟩
            rw [HTK.out, HP.out, Option.map_map]
            congr 1
            funext l
            simp
          case measure => simp [strL, ByteArray.size]; omega
      · have h1 : wby c = false := by
          cases hq : wby c with
          | true => exact absurd (Or.inl hq) hgood
          | false => rfl
        have h2 : sgn c = false := by
          cases hq : sgn c with
          | true => exact absurd (Or.inr hq) hgood
          | false => rfl
        rw [tks_bad htr h1 h2] at htk
        have hk : TK = none := htk
        subst hk
        have HN : Hid (((⟨(c :: r).toArray⟩ : ByteArray) != ⟨#[]⟩) = true) := Lib.hid (ba_cons c r)
        have HSZ := Lib.hid (tokenSize_no T q (c :: r) wr (by omega) (by simp) (by simpa using h1) (by simpa using h2) (HE.out.new hts.new))
        have HNW := Lib.hid hts.new
        clear hts htk htr
        go_wp2_with (go_at_call 172; (with_reducible refine HSZ.out.mono ?_); rintro e w3 ⟨rfl, rfl⟩)
        exact ⟨rfl, (by unfold TokD; exact ⟨rfl, HNW.out⟩)⟩
end Go.Proofs.YtddojdgnakajmaaGreatDoor.txt

namespace Go.Proofs.YtddojdgnakajmaaGreatDoor.txt
open Go.RowKit Go.Proofs.YtddojdgnakajmaaGreatDoor.mem Go.Proofs.YtddojdgnakajmaaGreatDoor.kit Go.Proofs.YtddojdgnakajmaaGreatDoor.ins
set_option linter.unusedVariables false
set_option linter.unusedSimpArgs false

theorem arr5 (p q s0 s1 : Value) : (#[p, q] ++ ((Array.replicate 3 undef).setIfInBounds 0 s0).setIfInBounds 1 s1 : Array Value) = #[p, q, s0, s1, undef] := by kernel_rfl
set_option maxRecDepth 100000 in
theorem rcatch_idle (p q : Addr) (w : World) :
    CallsD Tryz.prog 102 #[.pointer (some p), .pointer (some q)] .returning w fun e u' w' => e = .returned (.tuple #[]) ∧ u' = .returning ∧ w' = w := by
  refine callsD_of_wpS Tryz.func102 rfl fun c₀ cs hu => ?_
  apply wpS_seq
  apply wpS_region
  simp [wpOpsS, go_sem, recoverD, hu, Tryz.ntmps102, Exit.thenS, Result.andThen]
  rw [arr5]
  refine wpS_cond (t := false) (by simp [Act.eval]) ?_
  simp only [Bool.false_eq_true, if_false]
  refine wpS_of_wp (wp_skip ?_)
  cases c₀
  simp_all [bodyPostS, results, Tryz.results102]
set_option maxRecDepth 100000 in
theorem rcatch_fault (T : TypeId) (q : Addr) (b2 b3 : Nat) (v2 : Array Value) (v3 : Value) (older : List PanicEntry) (w : World) (h2 : Blk w b2 107 v2) (hv : v2.size = 10) (h3 : Blk w b3 24 #[v3]) :
    CallsD Tryz.prog 102 #[.pointer (some ⟨b2, 0, none⟩), .pointer (some ⟨b3, 0, none⟩)] (.panicking ({ v := .iface T (.pointer (some q)), recovered := false } :: older)) w fun e u' w' =>
      e = .returned (.tuple #[]) ∧ u' = .panicking ({ v := .iface T (.pointer (some q)), recovered := true } :: older) ∧ w' = (w.setRow b2 (sdv .none)).setCell ⟨b3, 0, none⟩ (.int .i64 120) := by
  refine callsD_of_wpS Tryz.func102 rfl fun c₀ cs hu => ?_
  apply wpS_seq
  apply wpS_region
  simp [wpOpsS, go_sem, recoverD, hu, Tryz.ntmps102, Exit.thenS, Result.andThen]
  rw [arr5]
  refine wpS_cond (t := true) (by simp [Act.eval]) ?_
  simp only [if_true]
  refine wpS_of_wp ?_
  have hne : b3 ≠ b2 := h3.ne_ h2 (by decide)
  have h3' : Blk (w.setRow b2 (sdv .none)) b3 24 #[v3] := (setRow_other w b2 b3 (sdv .none) hne).trans h3
  have k3 : (w.setRow b2 (sdv .none)).cell? ⟨b3, 0, none⟩ = some v3 := (h3'.cell 0).trans rfl
  have z3 : (w.setRow b2 (sdv .none)).frozen? ⟨b3, 0, none⟩ = false := h3'.frozen 0
  clear h3 h3' hne
  go_wp2_with (refine wpList_store_row rfl 107 _ _ rfl b2 (sdv .none) rfl rfl 107 v2 h2 sent_size (hv.trans rfl) (by simp [Value.oneCell', sdv]) ?_)
  simp [bodyPostS, results, Tryz.results102]

theorem results_two {P : Program} {fn : Func} {p u : Tmp} {ty tz : TypeId} (h : fn.results = #[.cell p ty, .cell u tz]) (tmps : Array Value) (w : World) (g : Nat) (b : Addr) (t : TypeId) (cs : Array Value) (v : Value) (fr : Nat × Nat) (d : TypeDesc)
    (hp : tmps.getD p undef = .pointer (some ⟨g, 0, none⟩)) (hq : tmps.getD u undef = .pointer (some b)) (hg : w.heap[g]? = some (.cells cs t fr))
    (hu : P.underlying ty = some d) (hd : (match d with | .struct _ | .array _ _ => true | _ => false) = true) (hi : (P.info? ty).map (·.size) = some cs.size) (hb : (loadVar tz b).run P w = .ok v w) :
    (results fn tmps).run P w = .ok (.tuple #[.agg cs, v]) w := by
  have hp' : tmps[p]?.getD undef = .pointer (some ⟨g, 0, none⟩) := by simpa using hp
  have hq' : tmps[u]?.getD undef = .pointer (some b) := by simpa using hq
  simp [results, h, hp', hq', asAddr, run_loadVar_row w g t ty cs fr d hg hu hd hi, hb]
theorem load_errno (w : World) (b : Nat) (x : Int) (h : w.cell? ⟨b, 0, none⟩ = some (.int .i64 x)) : (loadVar 24 ⟨b, 0, none⟩).run Tryz.prog w = .ok (.int .i64 x) w := by
  simp [go_sem, h]
/-- What is read of a line. -/
def ReadD (w : World) (o : Option Sd) (e : Ending) (w' : World) : Prop :=
  match o with
  | some d => e = .returned (.tuple #[.agg (sdv d), .int .i64 0]) ∧ New w w'
  | none => e = .returned (.tuple #[.agg (sdv .none), .int .i64 120]) ∧ New w w'
theorem two_at {W : World} {b : Nat} {x : Int} (cs : Array Value) (h : Blk W (b + 1) 24 #[.int .i64 x]) : (W.setRow b cs).cell? ⟨b + 1, 0, none⟩ = some (.int .i64 x) ∧ (W.setRow b cs).frozen? ⟨b + 1, 0, none⟩ = false := by
  have h' : Blk (W.setRow b cs) (b + 1) 24 #[.int .i64 x] := (setRow_other W _ _ _ (by omega)).trans h
  exact ⟨(h'.cell 0).trans rfl, h'.frozen 0⟩
theorem read_end {w w1 : World} {tmps : Array Value} {fn : Func} {v2 : Array Value} {v3 : Value} (d : Sd) (y : Int) (hn : New w w1) (h2 : Blk w1 w.heap.size 107 v2) (h3 : Blk w1 (w.heap.size + 1) 24 #[v3]) (hf : fn.results = #[.cell 4 107, .cell 5 24])
    (ht : tmps.getD 4 undef = .pointer (some ⟨w.heap.size, 0, none⟩) ∧ tmps.getD 5 undef = .pointer (some ⟨w.heap.size + 1, 0, none⟩)) (hs : (Tryz.prog.info? 107).map (·.size) = some (sdv d).size) :
    (results fn tmps).run Tryz.prog ((w1.setRow w.heap.size (sdv d)).setCell ⟨w.heap.size + 1, 0, none⟩ (.int .i64 y)) = .ok (.tuple #[.agg (sdv d), .int .i64 y]) ((w1.setRow w.heap.size (sdv d)).setCell ⟨w.heap.size + 1, 0, none⟩ (.int .i64 y)) ∧
      New w ((w1.setRow w.heap.size (sdv d)).setCell ⟨w.heap.size + 1, 0, none⟩ (.int .i64 y)) := by
  have a2 : Blk (w1.setRow w.heap.size (sdv d)) w.heap.size 107 (sdv d) := setRow_heap _ _ _ _ _ _ h2
  have a3 : Blk (w1.setRow w.heap.size (sdv d)) (w.heap.size + 1) 24 #[v3] := (setRow_other w1 _ _ _ (by omega)).trans h3
  have n1 := new_row hn w.heap.size (sdv d) (Nat.le_refl _)
  generalize (w1.setRow w.heap.size (sdv d)) = w8 at *
  have b2 := a2.far (p := ⟨w.heap.size + 1, 0, none⟩) (by simp) (.int .i64 y)
  have b3 := a3.set_ 0 (.int .i64 y)
  have n2 : New w (w8.setCell ⟨w.heap.size + 1, 0, none⟩ (.int .i64 y)) := n1.setCell (p := ⟨w.heap.size + 1, 0, none⟩) (Nat.le_succ _) _
  generalize (w8.setCell ⟨w.heap.size + 1, 0, none⟩ (.int .i64 y)) = w9 at *
  have d3 : w9.cell? ⟨w.heap.size + 1, 0, none⟩ = some (.int .i64 y) := (b3.cell 0).trans rfl
  exact ⟨results_two hf tmps w9 w.heap.size ⟨w.heap.size + 1, 0, none⟩ 107 (sdv d) _ (0, 0) _ ht.1 ht.2 b2 Tryz.underlying107 rfl hs (load_errno w9 _ _ d3), n2⟩
theorem sdv_size (d : Sd) : (sdv d).size = 10 := by cases d <;> rfl
theorem sdv_info (d : Sd) : (Tryz.prog.info? 107).map (·.size) = some (sdv d).size := by rw [sdv_size]; exact sent_size
theorem sdv_cells (d : Sd) : (sdv d).all (·.oneCell') = true := by cases d <;> simp [sdv, Value.oneCell']
theorem read_fell {w w1 : World} {tmps : Array Value} {fn : Func} {v2 : Array Value} {v3 : Value} (hn : New w w1) (h2 : Blk w1 w.heap.size 107 v2) (h3 : Blk w1 (w.heap.size + 1) 24 #[v3]) (hf : fn.results = #[.cell 4 107, .cell 5 24])
    (ht : tmps.getD 4 undef = .pointer (some ⟨w.heap.size, 0, none⟩) ∧ tmps.getD 5 undef = .pointer (some ⟨w.heap.size + 1, 0, none⟩)) :
    (results fn tmps).run Tryz.prog ((w1.setRow w.heap.size (sdv .none)).setCell ⟨w.heap.size + 1, 0, none⟩ (.int .i64 120)) = .ok (.tuple #[.agg (sdv .none), .int .i64 120]) ((w1.setRow w.heap.size (sdv .none)).setCell ⟨w.heap.size + 1, 0, none⟩ (.int .i64 120)) ∧
      ReadD w none (.returned (.tuple #[.agg (sdv .none), .int .i64 120])) ((w1.setRow w.heap.size (sdv .none)).setCell ⟨w.heap.size + 1, 0, none⟩ (.int .i64 120)) :=
  have h := read_end .none 120 hn h2 h3 hf ht sent_size
  ⟨h.1, rfl, h.2⟩
theorem read_good {w w1 : World} {tmps : Array Value} {fn : Func} {v2 : Array Value} {v3 : Value} (d : Sd) (hn : New w w1) (h2 : Blk w1 w.heap.size 107 v2) (h3 : Blk w1 (w.heap.size + 1) 24 #[v3]) (hf : fn.results = #[.cell 4 107, .cell 5 24])
    (ht : tmps.getD 4 undef = .pointer (some ⟨w.heap.size, 0, none⟩) ∧ tmps.getD 5 undef = .pointer (some ⟨w.heap.size + 1, 0, none⟩)) :
    (results fn tmps).run Tryz.prog ((w1.setRow w.heap.size (sdv d)).setCell ⟨w.heap.size + 1, 0, none⟩ (.int .i64 0)) = .ok (.tuple #[.agg (sdv d), .int .i64 0]) ((w1.setRow w.heap.size (sdv d)).setCell ⟨w.heap.size + 1, 0, none⟩ (.int .i64 0)) ∧
      ReadD w (some d) (.returned (.tuple #[.agg (sdv d), .int .i64 0])) ((w1.setRow w.heap.size (sdv d)).setCell ⟨w.heap.size + 1, 0, none⟩ (.int .i64 0)) :=
  have h := read_end d 0 hn h2 h3 hf ht (sdv_info d)
  ⟨h.1, rfl, h.2⟩
set_option maxRecDepth 100000 in
set_option maxHeartbeats 1000000 in
theorem read_bad (T : TypeId) (q : Addr) (line : Bs) (bm : Nat) (w : World) (hl : line.length ≤ 1000000000) (hm : MaxT w) (hE : ErrT w T q) (ht : toks line = none) :
    Calls Tryz.prog 45 #[.string ⟨line.toArray⟩, .map (some bm)] w (ReadD w none) := by
  have hmf : ∀ (fn : Fn) (first cap : Array Value) (w : World), (Instr.makeFunc fn first cap).run Tryz.prog w = .ok (.func fn first cap) w := fun _ _ _ _ => rfl
  have hn2 := new2 w (.cells (sdv .none) 107) (.cells #[.int .i64 0] 24)
  have HT := Lib.hid (tokensOf_any T q line _ hl (hm.ch (Ch.of_new (S := fun _ => False) hn2) id) (hE.new hn2))
  rw [ht] at HT
  have HR := Lib.hid ((Blk.new w 107 (sdv .none)).alloc (.cells #[.int .i64 0] 24))
  have HO := Lib.hid (Blk.new (w.alloc (.cells (sdv .none) 107)) 24 #[.int .i64 0])
  clear hm hE ht
  go_enter_defers Tryz.func45, Tryz.ntmps45
  go_wp2_with (go_at_call 103; refine HT.out.mono ?_; rintro e w1 ⟨rfl, hn⟩; have HN := Lib.hid hn; clear hn)
  have hR1 := HR.out.below HN.out HR.out.lt
  have hO1 := HO.out.below HN.out HO.out.lt
  rw [World.size_alloc] at hO1
  refine leaves_cons (f := 102) (args := #[.pointer (some ⟨w.heap.size, 0, none⟩), .pointer (some ⟨w.heap.size + 1, 0, none⟩)]) (by simp) (by simp [go_sem]) ?_
  refine (rcatch_fault T q w.heap.size (w.heap.size + 1) _ _ [] w1 hR1 rfl hO1).mono ?_
  rintro e u' w'' ⟨rfl, rfl, rfl⟩
  refine ⟨_, read_fell (New.then hn2 HN.out) hR1 hO1 Tryz.results45 ?_⟩
  exact ⟨rfl, rfl⟩

/-- The reader that is made of a line's tokens. -/
theorem rd_new {w1 : World} {L : List Bs} {A : Option Addr} {n c : Nat} {M : Value} (h : TkR w1 L A n c) : TkX (w1.alloc (.cells #[.slice A n c, M, .string ⟨#[]⟩] 176)) w1.heap.size L M [] :=
  ⟨A, n, c, Blk.new _ _ _, h.len, h.cap, h.rd.new (new1 w1 _), fun ad e => by obtain ⟨cs, hcs⟩ := h.ty ad e; exact ⟨cs, hcs.alloc _⟩, h.tok⟩

set_option maxRecDepth 100000 in
set_option maxHeartbeats 1000000 in
theorem read_some (T : TypeId) (q : Addr) (line : Bs) (bm : Nat) (L : List Bs) (w : World) (hl : line.length ≤ 1000000000) (hm : MaxT w) (hE : ErrT w T q) (hM : MapAt w bm wlv) (ht : toks line = some L) :
    Calls Tryz.prog 45 #[.string ⟨line.toArray⟩, .map (some bm)] w (ReadD w (sent L)) := by
  have hmf : ∀ (fn : Fn) (first cap : Array Value) (w : World), (Instr.makeFunc fn first cap).run Tryz.prog w = .ok (.func fn first cap) w := fun _ _ _ _ => rfl
  have hn2 := new2 w (.cells (sdv .none) 107) (.cells #[.int .i64 0] 24)
  have HT := Lib.hid (tokensOf_any T q line _ hl (hm.ch (Ch.of_new (S := fun _ => False) hn2) id) (hE.new hn2))
  rw [ht] at HT
  have HR := Lib.hid ((Blk.new w 107 (sdv .none)).alloc (.cells #[.int .i64 0] 24))
  have HO := Lib.hid (Blk.new (w.alloc (.cells (sdv .none) 107)) 24 #[.int .i64 0])
  rw [World.size_alloc] at HO
  have HE := Lib.hid (hE.new hn2)
  have HMP := Lib.hid (hM.new hn2)
  clear hm hE ht hM
  cases L with
  | nil =>
    go_enter_defers Tryz.func45, Tryz.ntmps45
    go_wp2_with (first
      | (go_at_call 103; refine HT.out.mono ?_; rintro e w1 ⟨A, n, c, rfl, htr, hn⟩; have HN := Lib.hid (New.then hn (new1 w1 (.cells #[.slice A n c, .map (some bm), .string ⟨#[]⟩] 176))); have HX := Lib.hid (rd_new (M := .map (some bm)) htr); have H1 := Lib.hid (HR.out.below HN.out HR.out.lt); have H2 := Lib.hid (HO.out.below HN.out HO.out.lt); obtain ⟨x0, x1⟩ := two_at (sdv .none) H2.out; clear htr hn)
      | (go_at_call 104; refine (none_any _ [] (.map (some bm)) [] _ HX.out).mono ?_; rintro e w2 ⟨rfl, rfl⟩)
      | (refine wpList_store_row rfl 107 _ _ rfl w.heap.size (sdv .none) rfl rfl 107 _ H1.out sent_size (Eq.trans (b := 10) rfl rfl) (by simp [Value.oneCell', sdv]) ?_))
    refine leaves_cons (f := 102) (args := #[.pointer (some ⟨w.heap.size, 0, none⟩), .pointer (some ⟨w.heap.size + 1, 0, none⟩)]) (by simp) (by simp [go_sem]) ?_
    refine (rcatch_idle _ _ _).mono ?_
    rintro e u' w'' ⟨rfl, rfl, rfl⟩
    refine ⟨_, read_good .none (New.then hn2 HN.out) H1.out H2.out Tryz.results45 ?_⟩
    exact ⟨rfl, rfl⟩
  | cons f L =>
    have HF : Hid (decide ((f :: L : List Bs) = []) = false) := Lib.hid (by simp)
    cases hs : sent (f :: L) with
    | none =>
      go_enter_defers Tryz.func45, Tryz.ntmps45
      go_wp2_with (first
        | (go_at_call 103; refine HT.out.mono ?_; rintro e w1 ⟨A, n, c, rfl, htr, hn⟩; have HN := Lib.hid (New.then hn (new1 w1 (.cells #[.slice A n c, .map (some bm), .string ⟨#[]⟩] 176))); have HX := Lib.hid (rd_new (M := .map (some bm)) htr); have H1 := Lib.hid (HR.out.below HN.out HR.out.lt); have H2 := Lib.hid (HO.out.below HN.out HO.out.lt); have HG := Lib.hid (Nat.lt_of_lt_of_le HO.out.lt hn.size); have HE1 := Lib.hid (HE.out.new HN.out); have HM1 := Lib.hid (HMP.out.new HN.out); clear htr hn)
        | (go_at_call 104; refine (none_any _ (f :: L) (.map (some bm)) [] _ HX.out).mono ?_; rintro e w2 ⟨rfl, rfl⟩; rw [HF.out])
        | (go_at_call 105; refine (sentence_no T q _ bm f L _ HX.out HM1.out HE1.out hs).mono ?_; rintro e w3 ⟨rfl, hch⟩))
      have hG := HG.out
      have h1 := H1.out.ch hch (fun e => by have e' : w.heap.size = w1.heap.size := e; omega)
      have h2 := H2.out.ch hch (fun e => by have e' : w.heap.size + 1 = w1.heap.size := e; omega)
      have hn3 : New w w3 := (New.then hn2 HN.out).trans (hch.below (B := w.heap.size) (New.then hn2 HN.out).size (fun k _ e => by have e' : k = w1.heap.size := e; omega))
      refine leaves_cons (f := 102) (args := #[.pointer (some ⟨w.heap.size, 0, none⟩), .pointer (some ⟨w.heap.size + 1, 0, none⟩)]) (by simp) (by simp [go_sem]) ?_
      refine (rcatch_fault T q w.heap.size (w.heap.size + 1) _ _ [] w3 h1 rfl h2).mono ?_
      rintro e u' w'' ⟨rfl, rfl, rfl⟩
      refine ⟨_, read_fell hn3 h1 h2 Tryz.results45 ?_⟩
      exact ⟨rfl, rfl⟩
    | some d =>
      go_enter_defers Tryz.func45, Tryz.ntmps45
      go_wp2_with (first
        | (go_at_call 103; refine HT.out.mono ?_; rintro e w1 ⟨A, n, c, rfl, htr, hn⟩; have HN := Lib.hid (New.then hn (new1 w1 (.cells #[.slice A n c, .map (some bm), .string ⟨#[]⟩] 176))); have HX := Lib.hid (rd_new (M := .map (some bm)) htr); have H1 := Lib.hid (HR.out.below HN.out HR.out.lt); have H2 := Lib.hid (HO.out.below HN.out HO.out.lt); have HG := Lib.hid (Nat.lt_of_lt_of_le HO.out.lt hn.size); have HE1 := Lib.hid (HE.out.new HN.out); have HM1 := Lib.hid (HMP.out.new HN.out); clear htr hn)
        | (go_at_call 104; refine (none_any _ (f :: L) (.map (some bm)) [] _ HX.out).mono ?_; rintro e w2 ⟨rfl, rfl⟩; rw [HF.out])
        | (go_at_call 105; refine (sentence_ok T q _ bm f L d _ HX.out HM1.out HE1.out hs).mono ?_; rintro e w3 ⟨rfl, hch⟩; have H31 := Lib.hid (H1.out.ch hch (fun e => by have hG := HG.out; have e' : w.heap.size = w1.heap.size := e; omega)); have H32 := Lib.hid (H2.out.ch hch (fun e => by have hG := HG.out; have e' : w.heap.size + 1 = w1.heap.size := e; omega)); have HN3 : Hid (New w w3) := Lib.hid ((New.then hn2 HN.out).trans (hch.below (B := w.heap.size) (New.then hn2 HN.out).size (fun k _ e => by have hG := HG.out; have e' : k = w1.heap.size := e; omega))); obtain ⟨x0, x1⟩ := two_at (sdv d) H32.out; clear hch)
        | (refine wpList_store_row rfl 107 _ _ rfl w.heap.size (sdv d) rfl rfl 107 _ H31.out (sdv_info d) ((sdv_size _).trans (sdv_size d).symm) (sdv_cells d) ?_))
      refine leaves_cons (f := 102) (args := #[.pointer (some ⟨w.heap.size, 0, none⟩), .pointer (some ⟨w.heap.size + 1, 0, none⟩)]) (by simp) (by simp [go_sem]) ?_
      refine (rcatch_idle _ _ _).mono ?_
      rintro e u' w'' ⟨rfl, rfl, rfl⟩
      refine ⟨_, read_good d HN3.out H31.out H32.out Tryz.results45 ?_⟩
      exact ⟨rfl, rfl⟩

/-- What a line's reading makes. -/
theorem read_any (T : TypeId) (q : Addr) (line : Bs) (bm : Nat) (w : World) (hl : line.length ≤ 1000000000) (hm : MaxT w) (hE : ErrT w T q) (hM : MapAt w bm wlv) :
    Calls Tryz.prog 45 #[.string ⟨line.toArray⟩, .map (some bm)] w (ReadD w (lineB line)) := by
  unfold lineB
  cases ht : toks line with
  | none => exact read_bad T q line bm w hl hm hE ht
  | some L => exact read_some T q line bm L w hl hm hE hM ht
end Go.Proofs.YtddojdgnakajmaaGreatDoor.txt
