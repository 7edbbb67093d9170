/-
  The document's Parse.
-/
import Derived.Test.YtddojdgnakajmaaGreatDoorPu
namespace Go.Proofs.YtddojdgnakajmaaGreatDoor.txt
open Go.RowKit Go.Proofs.YtddojdgnakajmaaGreatDoor.mem Go.Proofs.YtddojdgnakajmaaGreatDoor.kit Go.Proofs.YtddojdgnakajmaaGreatDoor.ins
set_option linter.unusedVariables false
set_option linter.unusedSimpArgs false

theorem QS.start {w w1 w2 : World} {vl : Value} {L : List Bs} (hP : PowT w) (h1 : w1 = w.alloc (.cells #[.int .i64 0, .int .i64 0] 26)) (hl : w2.ownsRow w1.heap.size 9 1 vl L.length (vs L)) (hn : New w1 w2) : QS w ⟨[], [], []⟩ (.slice none 0 0) (.slice none 0 0) (.slice none 0 0) vl L w2 := by
  subst h1
  have n0 := new1 w (.cells #[.int .i64 0, .int .i64 0] 26)
  have hb := Blk.new w 26 #[.int .i64 0, .int .i64 0]
  exact ⟨New.then n0 hn, World.ownsRow_nil _ _ _ _, World.ownsRow_nil _ _ _ _, World.ownsRow_nil _ _ _ _, own_base hl n0.size, hb.below hn hb.lt, hP⟩

set_option maxRecDepth 100000 in
set_option maxHeartbeats 1000000 in
theorem rparse_long (l : Bs) (w : World) (hl : 262144 < l.length) :
    Calls Tryz.prog 18 #[.string ⟨l.toArray⟩] w (ParseD w ((3, 0), [])) := by
  have HB := Lib.hid (Blk.new w 26 #[.int .i64 0, .int .i64 0])
  have hd : (262144 : Int) < (l.length : Int) := by omega
  go_enter Tryz.func18, Tryz.ntmps18
  go_wp2_with (refine wpList_store_row rfl 26 _ _ rfl w.heap.size #[.int .i64 3, .int .i64 0] rfl rfl 26 _ HB.out fault_size rfl (by simp [Value.oneCell']) ?_)
  refine bodyPost_ret (results_tmp_row rfl _ _ w.heap.size 26 #[.int .i64 3, .int .i64 0] _ (0, 0) _ rfl rfl (setRow_heap _ _ _ _ _ _ HB.out) Tryz.underlying26 rfl fault_size) rfl ?_
  exact ⟨.slice none 0 0, rfl, ⟨rfl, Or.inl ⟨rfl, rfl⟩⟩, new_row (new1 w _) _ _ (Nat.le_refl _)⟩

/-- What Parse tells behind all lines. -/
def finM : (Int × Int) ⊕ FM → (Int × Int) × List In
  | .inl f => (f, [])
  | .inr s => if (joinM s.ls s.is s.js).1 = 0 then ((0, 0), (joinM s.ls s.is s.js).2.2) else (((joinM s.ls s.is s.js).1, (joinM s.ls s.is s.js).2.1), [])
theorem parseM_fin {l : Bs} (h : ¬ 262144 < l.length) : parseM l = finM (parseL 0 (linesB l) ⟨[], [], []⟩) := by
  unfold parseM
  rw [if_neg h]
  cases parseL 0 (linesB l) ⟨[], [], []⟩ <;> rfl
/-- What stands while lines are gone through. -/
structure Ro (w : World) (L : List Bs) (vl : Value) (k : Nat) (s : FM) (vo vj vm : Value) (wr : World) : Prop where
  q : QS w s vo vj vm vl L wr
  le : k ≤ L.length
  p : parseL 0 L ⟨[], [], []⟩ = parseL k (L.drop k) s
  ok : s.Ok
  few : s.ls.length ≤ k

theorem addM_few (n : Int) (o : Option Sd) (s : FM) : (addM n o s).2.ls.length ≤ s.ls.length + 1 := by
  unfold addM
  split
  · simp
  · simp
  · split <;> simp
  · split <;> simp
theorem Ro.next {w wr w9 : World} {L : List Bs} {vl vl' vo vj vm vo' vj' vm' : Value} {k : Nat} {s s' : FM} {x : Bs} (h : Ro w L vl k s vo vj vm wr)
    (hpc : parseL k (L.drop k) s = if (addM ((k : Int) + 1) (lineB x) s).1 = 0 then parseL (k + 1) (L.drop (k + 1)) (addM ((k : Int) + 1) (lineB x) s).2 else .inl ((addM ((k : Int) + 1) (lineB x) s).1, (k : Int) + 1))
    (ha : addM ((k : Int) + 1) (lineB x) s = (0, s')) (hq : QS w s' vo' vj' vm' vl' L w9) (hk : k < L.length) : Ro w L vl' (k + 1) s' vo' vj' vm' w9 := by
  have h1 := addM_ok ((k : Int) + 1) (lineB x) s h.ok
  have h2 := addM_few ((k : Int) + 1) (lineB x) s
  rw [ha] at h1 h2
  refine ⟨hq, hk, ?_, h1, ?_⟩
  · rw [h.p, hpc, ha]; rfl
  · have := h.few
    simp only at h2
    omega
/-- What an instruction's reading leaves, in its parts. -/
theorem inst_x (g : Nat) (s : Ls) (w : World) (h : SL0 g s w) (hk : s.k ≤ 100) : Calls Tryz.prog 52 #[.pointer (some ⟨g, 0, none⟩)] w fun e w' =>
    ∃ (jo : Int) (jn : Bool) (jd js : Int) (ju : Bool) (jf jm jz : Int) (u : Bs) (s' : Ls), e = .returned (.tuple #[.agg #[.int .u8 jo, .bool jn, .int .i64 jd, .int .i64 js, .bool ju, .int .i64 jf, .int .i64 jm, .int .i64 jz], .string ⟨u.toArray⟩]) ∧ InstR s ⟨jo, jn, jd, js, ju, jf, jm, jz⟩ u s' ∧ SL0 g s' w' ∧ Ch (fun b => b = g) w w' :=
  (rinst_any g s w h hk).mono fun e w' hd => by
    obtain ⟨⟨jo, jn, jd, js, ju, jf, jm, jz⟩, u, s', h1, h2, h3, h4⟩ := hd
    exact ⟨jo, jn, jd, js, ju, jf, jm, jz, u, s', h1, h2, h3, h4⟩
theorem ins_cells {w : World} {g : Nat} {jo : Int} {jn : Bool} {jd js : Int} {ju : Bool} {jf jm jz : Int} (h : Blk w g 41 #[.int .u8 jo, .bool jn, .int .i64 jd, .int .i64 js, .bool ju, .int .i64 jf, .int .i64 jm, .int .i64 jz]) :
    w.cell? ⟨g, 0, none⟩ = some (.int .u8 jo) ∧ w.cell? ⟨g, 1, none⟩ = some (.bool jn) ∧ w.cell? ⟨g, 2, none⟩ = some (.int .i64 jd) ∧ w.cell? ⟨g, 3, none⟩ = some (.int .i64 js) ∧ w.cell? ⟨g, 4, none⟩ = some (.bool ju) ∧ w.cell? ⟨g, 5, none⟩ = some (.int .i64 jf) ∧ w.cell? ⟨g, 6, none⟩ = some (.int .i64 jm) ∧ w.cell? ⟨g, 7, none⟩ = some (.int .i64 jz) :=
  ⟨(h.cell 0).trans rfl, (h.cell 1).trans rfl, (h.cell 2).trans rfl, (h.cell 3).trans rfl, (h.cell 4).trans rfl, (h.cell 5).trans rfl, (h.cell 6).trans rfl, (h.cell 7).trans rfl⟩

set_option maxRecDepth 100000 in
set_option maxHeartbeats 64000000 in
theorem rparse_ok (l : Bs) (w : World) (hl : l.length ≤ 262144) (hP : PowT w) :
    Calls Tryz.prog 18 #[.string ⟨l.toArray⟩] w (ParseD w (parseM l)) := by
  have hd0 : ¬ (262144 : Int) < (l.length : Int) := by omega
  have hLl := lines_count l
  have HLP := Lib.hid (fun p hp => lines_le l p hp)
  have HLI := Lib.hid (rlines_any l (w.alloc (.cells #[.int .i64 0, .int .i64 0] 26)) (by omega))
  have HPM : Hid (parseM l = finM (parseL 0 (linesB l) ⟨[], [], []⟩)) := Lib.hid (parseM_fin (by omega))
  obtain ⟨L, hL⟩ : ∃ L, linesB l = L := ⟨_, rfl⟩
  rw [hL] at hLl HLP HLI HPM
  clear hL
  go_enter Tryz.func18, Tryz.ntmps18
  go_wp2_with (go_at_call 48; (with_reducible refine HLI.out.mono ?_); rintro e w2 ⟨vl, rfl, hol, hn2⟩; have HQ0 : Hid (QS w ⟨[], [], []⟩ (.slice none 0 0) (.slice none 0 0) (.slice none 0 0) vl L w2) := Lib.hid (QS.start hP rfl hol hn2); clear hol hn2)
  go_loopw [4, 5, 6, 8] (fun vo vj vm iv wr => ∃ (k : Nat) (s : FM), iv = .int .i64 (k : Int) ∧ Ro w L vl k s vo vj vm wr) (fun _ _ _ iv _ => L.length - (intOf iv).toNat)
  case atStart => exact ⟨0, ⟨[], [], []⟩, rfl, HQ0.out, Nat.zero_le _, by simp, ⟨by simp, by simp, by simp, by simp⟩, by simp⟩
  case round =>
    clear HQ0
    obtain ⟨k, s, rfl, hro⟩ := hrel
    have HRO := Lib.hid hro
    clear hro
    by_cases hk : k < L.length
    · have t3 : (k : Int) < (L.length : Int) := by omega
      obtain ⟨b, c, rfl, hcell⟩ := HRO.out.q.line hk
      have hxl : L[k].length ≤ l.length := HLP.out _ (List.getElem_mem hk)
      obtain ⟨x, hx⟩ : ∃ x, L[k] = x := ⟨_, rfl⟩
      have HX := Lib.hid hx
      rw [hx] at hcell hxl
      have HQ := Lib.hid HRO.out.q
      have HT := rtokens_any x wr (by omega)
      have HPC : Hid (parseL k (L.drop k) s = if (addM ((k : Int) + 1) (lineB x) s).1 = 0 then parseL (k + 1) (L.drop (k + 1)) (addM ((k : Int) + 1) (lineB x) s).2 else .inl ((addM ((k : Int) + 1) (lineB x) s).1, (k : Int) + 1)) := Lib.hid (by rw [parseL_cons hk, hx])
      clear hx
      cases htk : toks x with
      | none =>
        have HT2 : Hid (Calls Tryz.prog 49 #[.string ⟨x.toArray⟩] wr fun e w' => e = .returned (.tuple #[.slice none 0 0, .bool false]) ∧ New wr w') := Lib.hid (HT.mono fun e w' h => by
          rcases h with ⟨v, ts, h1, _⟩ | ⟨_, h2, h3⟩
          · rw [htk] at h1; cases h1
          · exact ⟨h2, h3⟩)
        have HF : Hid (parseM l = ((120, (k : Int) + 1), [])) := Lib.hid (by rw [HPM.out, HRO.out.p, HPC.out, show lineB x = none by unfold lineB; rw [htk]; rfl]; rfl)
        clear HT htk
        go_wp2_with (first
          | (go_at_call 49; (with_reducible refine HT2.out.mono ?_); rintro e w3 ⟨rfl, hn3⟩; have HQ3 := Lib.hid ((HQ.out.keep hn3).keep (new1 w3 (.cells #[.slice none 0 0, .int .i64 0, .bool false] 122))); clear hn3)
          | (refine wpList_store_row rfl 26 _ _ rfl w.heap.size #[.int .i64 120, .int .i64 ((k : Int) + 1)] rfl rfl 26 _ HQ3.out.r fault_size rfl (by simp [Value.oneCell']) ?_))
        refine bodyPost_ret (results_tmp_row rfl _ _ w.heap.size 26 #[.int .i64 120, .int .i64 ((k : Int) + 1)] _ (0, 0) _ rfl rfl (setRow_heap _ _ _ _ _ _ HQ3.out.r) Tryz.underlying26 rfl fault_size) rfl ?_
        rw [HF.out]
        exact ⟨.slice none 0 0, rfl, ⟨rfl, Or.inl ⟨rfl, rfl⟩⟩, new_row HQ3.out.new _ _ (Nat.le_refl _)⟩
      | some ts =>
        have HT2 : Hid (Calls Tryz.prog 49 #[.string ⟨x.toArray⟩] wr fun e w' => ∃ v, e = .returned (.tuple #[v, .bool true]) ∧ w'.ownsRow wr.heap.size 9 1 v ts.length (vs ts) ∧ New wr w') := Lib.hid (HT.mono fun e w' h => by
          rcases h with ⟨v, us, h1, h2, h3, h4⟩ | ⟨h1, _⟩
          · rw [htk] at h1; cases h1; exact ⟨v, h2, h3, h4⟩
          · rw [htk] at h1; cases h1)
        have HTL := Lib.hid (toks_len htk)
        have HLB : Hid (lineB x = sent ts) := Lib.hid (by unfold lineB; rw [htk]; rfl)
        clear HT htk
        cases ts with
        | nil =>
          have HP2 : Hid (parseL 0 L ⟨[], [], []⟩ = parseL (k + 1) (L.drop (k + 1)) s) := Lib.hid (by rw [HRO.out.p, HPC.out, HLB.out]; rfl)
          go_wp2_with (first
            | (go_at_call 49; (with_reducible refine HT2.out.mono ?_); rintro e w3 ⟨v3, rfl, ho3, hn3⟩; obtain ⟨A3, c3, rfl, -, -, -⟩ := own_len ho3; have HQ3 := Lib.hid ((HQ.out.keep hn3).keep (new1 w3 (.cells #[.slice A3 0 c3, .int .i64 0, .bool false] 122))); clear ho3 hn3))
          go_roundw
          case rel => exact ⟨k + 1, s, by go_num, HQ3.out, hk, HP2.out, HRO.out.ok, Nat.le_succ_of_le HRO.out.few⟩
          case measure => simp [intOf]; omega
        | cons t r =>
          by_cases hlab : r = [[58]] ∧ isLab t = true
          · obtain ⟨rfl, hlb⟩ := hlab
            have htl : t.length ≤ 1000000000 := by have := HTL.out.2 t (List.mem_cons_self ..); omega
            have HLAB : Hid (∀ W, Calls Tryz.prog 50 #[.string ⟨t.toArray⟩] W fun e w' => e = .returned (.bool true) ∧ W = w') := Lib.hid (fun W => by rw [← hlb]; exact rlabel_any t W htl)
            have HSN : Hid (lineB x = some (.lab t)) := Lib.hid (by rw [HLB.out]; exact sent_labl hlb)
            have hfw := HRO.out.few
            obtain ⟨Am, cm, hvm, -, -, -⟩ := own_len HRO.out.q.mo
            subst hvm
            have HFD : Hid (∀ W, New wr W → Calls Tryz.prog 51 #[.slice Am s.ls.length cm, .string ⟨t.toArray⟩] W fun e w' => e = .returned (.int .i64 (labI t s.ls)) ∧ w' = W) := Lib.hid (fun W hW => rfind_any Am s.ls.length cm w.heap.size s.ls t W rfl (by omega) (own_new HQ.out.mo hW))
            cases hlb2 : lab t s.ls with
            | some m =>
              rw [labI_some hlb2] at HFD
              have hm0 : (0 : Int) ≤ (m : Int) := by omega
              have HF : Hid (parseM l = ((121, (k : Int) + 1), [])) := Lib.hid (by rw [HPM.out, HRO.out.p, HPC.out, HSN.out]; simp [addM, hlb2, finM])
              clear hlb hlb2 hfw
              go_wp2_with (first
                | (go_at_call 49; (with_reducible refine HT2.out.mono ?_); rintro e w3 ⟨v3, rfl, ho3, hn3⟩; obtain ⟨b3, c3, e3⟩ := own_some ho3 (by simp); subst e3; have g0 : w3.cell? ⟨b3, 0, none⟩ = some (sv t) := World.ownsRow.cellAt ho3 (j := 0) (by simp); have g1 : w3.cell? ⟨b3, 1, none⟩ = some (sv [58]) := World.ownsRow.cellAt ho3 (j := 1) (by simp); have HN3 := Lib.hid hn3; have HQ3 := Lib.hid ((HQ.out.keep hn3).keep (new1 w3 (.cells #[.slice (some ⟨b3, 0, none⟩) 2 c3, .int .i64 0, .bool false] 122))); have HW3 := Lib.hid (New.then hn3 (new1 w3 (.cells #[.slice (some ⟨b3, 0, none⟩) 2 c3, .int .i64 0, .bool false] 122))); replace g0 := (Ch.of_new (S := fun _ => False) (new1 w3 (.cells #[.slice (some ⟨b3, 0, none⟩) 2 c3, .int .i64 0, .bool false] 122))).cellOf g0 id; replace g1 := (Ch.of_new (S := fun _ => False) (new1 w3 (.cells #[.slice (some ⟨b3, 0, none⟩) 2 c3, .int .i64 0, .bool false] 122))).cellOf g1 id; clear ho3 hn3)
                | (go_at_call 50; (with_reducible refine (HLAB.out _).mono ?_); rintro e w4 ⟨rfl, rfl⟩)
                | (go_at_call 51; (with_reducible refine (HFD.out _ HW3.out).mono ?_); rintro e w4 ⟨rfl, rfl⟩)
                | (refine wpList_store_row rfl 26 _ _ rfl w.heap.size #[.int .i64 121, .int .i64 ((k : Int) + 1)] rfl rfl 26 _ HQ3.out.r fault_size rfl (by simp [Value.oneCell']) ?_))
              refine bodyPost_ret (results_tmp_row rfl _ _ w.heap.size 26 #[.int .i64 121, .int .i64 ((k : Int) + 1)] _ (0, 0) _ rfl rfl (setRow_heap _ _ _ _ _ _ HQ3.out.r) Tryz.underlying26 rfl fault_size) rfl ?_
              rw [HF.out]
              exact ⟨.slice none 0 0, rfl, ⟨rfl, Or.inl ⟨rfl, rfl⟩⟩, new_row HQ3.out.new _ _ (Nat.le_refl _)⟩
            | none =>
              rw [labI_none hlb2] at HFD
              obtain ⟨i1, gi, gz0, gz1, gz2⟩ := info_parts' rmark_info
              obtain ⟨Ao, co, hvo, -, -, -⟩ := own_len HRO.out.q.lo
              subst hvo
              have HF : Hid ((addM ((k : Int) + 1) (lineB x) s) = (0, ⟨s.is, s.ls ++ [(t, s.is.length)], s.js⟩)) := Lib.hid (by rw [HSN.out]; simp [addM, hlb2])
              clear hlb hlb2
              go_wp2_with (first
                | (go_at_call 49; (with_reducible refine HT2.out.mono ?_); rintro e w3 ⟨v3, rfl, ho3, hn3⟩; obtain ⟨b3, c3, e3⟩ := own_some ho3 (by simp); subst e3; have g0 : w3.cell? ⟨b3, 0, none⟩ = some (sv t) := World.ownsRow.cellAt ho3 (j := 0) (by simp); have g1 : w3.cell? ⟨b3, 1, none⟩ = some (sv [58]) := World.ownsRow.cellAt ho3 (j := 1) (by simp); have HN3 := Lib.hid hn3; have HQ3 := Lib.hid ((HQ.out.keep hn3).keep (new1 w3 (.cells #[.slice (some ⟨b3, 0, none⟩) 2 c3, .int .i64 0, .bool false] 122))); have HW3 := Lib.hid (New.then hn3 (new1 w3 (.cells #[.slice (some ⟨b3, 0, none⟩) 2 c3, .int .i64 0, .bool false] 122))); replace g0 := (Ch.of_new (S := fun _ => False) (new1 w3 (.cells #[.slice (some ⟨b3, 0, none⟩) 2 c3, .int .i64 0, .bool false] 122))).cellOf g0 id; replace g1 := (Ch.of_new (S := fun _ => False) (new1 w3 (.cells #[.slice (some ⟨b3, 0, none⟩) 2 c3, .int .i64 0, .bool false] 122))).cellOf g1 id; have HK5 : Hid (QS w s (.slice Ao s.is.length co) u5 (.slice Am s.ls.length cm) (.slice (some ⟨b, 0, none⟩) L.length c) L ((w3.alloc (.cells #[.slice (some ⟨b3, 0, none⟩) 2 c3, .int .i64 0, .bool false] 122)).alloc (.cells #[sv t, .int .i64 (s.is.length : Int)] 125))) := Lib.hid (HQ3.out.keep (new1 _ _)); have HRD := Lib.hid (reads_m (w3.alloc (.cells #[.slice (some ⟨b3, 0, none⟩) 2 c3, .int .i64 0, .bool false] 122)) t (s.is.length : Int)); clear ho3 hn3)
                | (go_at_call 50; (with_reducible refine (HLAB.out _).mono ?_); rintro e w4 ⟨rfl, rfl⟩)
                | (go_at_call 51; (with_reducible refine (HFD.out _ HW3.out).mono ?_); rintro e w4 ⟨rfl, rfl⟩)
                | (at_builtin; refine wpList_append_any _ rfl (.tmp 72) (.tmp 79) 116 rfl w.heap.size 125 i1 _ 2 24 Tryz.underlying116 gi gz0 gz1 gz2 rfl (by omega) _ s.ls.length (mv s.ls) rfl HK5.out.mo _ (some ⟨w3.heap.size + 1, 0, none⟩) 1 1 [sv t, .int .i64 (s.is.length : Int)] rfl (by simpa using HRD.out) (by simp [Value.oneCell', sv]) (by unfold maxLen; omega) (by omega) HK5.out.new.size ?_; intro v9 w9 hown9 hg9 hat9; have HQ9 := Lib.hid (HK5.out.addm (t, s.is.length) hown9 hg9); clear hown9 hg9 hat9))
              exact ⟨⟨k + 1, _, by go_num, HRO.out.next HPC.out HF.out HQ9.out hk⟩, by simp [intOf]; omega⟩
          · have hn1 : 1 ≤ (t :: r).length := by simp
            obtain ⟨n, hnn⟩ : ∃ n, (t :: r).length = n := ⟨_, rfl⟩
            obtain ⟨y1, hy1⟩ : ∃ y1, (t :: r).getD 1 [] = y1 := ⟨_, rfl⟩
            have HY1 : Hid (1 < n → (vs (t :: r))[1]? = some (sv y1)) := Lib.hid (fun h1 => by
              cases r with
              | nil => simp at hnn; omega
              | cons r0 r1 => simp only [List.getD_cons_succ, List.getD_cons_zero] at hy1; subst hy1; rfl)
            have HLA := Lib.hid hlab
            have HNN := Lib.hid hnn
            rw [hnn] at HT2 hn1
            have htl : t.length ≤ 1000000000 := by have := HTL.out.2 t (List.mem_cons_self ..); omega
            obtain ⟨Ao, co, hvo, -, -, -⟩ := own_len HRO.out.q.lo
            subst hvo
            obtain ⟨Aj, cj, hvj, -, -, -⟩ := own_len HRO.out.q.jo
            subst hvj
            by_cases hn2 : n = 2
            · by_cases h58 : y1 = [58]
              · have hlb : isLab t = false := by
                  cases hq : isLab t with
                  | false => rfl
                  | true =>
                    exfalso
                    refine hlab ⟨?_, hq⟩
                    match r, hnn, hy1 with
                    | [r0], _, hy1 => simp only [List.getD_cons_succ, List.getD_cons_zero] at hy1; rw [hy1, h58]
                    | [], hnn, _ => simp at hnn; omega
                    | _ :: _ :: _, hnn, _ => simp at hnn; omega
                have HLAB : Hid (∀ W, Calls Tryz.prog 50 #[.string ⟨t.toArray⟩] W fun e w' => e = .returned (.bool false) ∧ W = w') := Lib.hid (fun W => by rw [← hlb]; exact rlabel_any t W htl)
                have hyy : (y1 == [58]) = true := by rw [h58]; rfl
                have tn2 : (n : Int) = 2 := by omega
                clear hlab hnn hy1 hn2 h58 hlb
                go_wp2_with (first
                  |  (go_at_call 49; (with_reducible refine HT2.out.mono ?_); rintro e w3 ⟨v3, rfl, ho3, hn3⟩; obtain ⟨b3, c3, e3⟩ := own_some ho3 (by omega); subst e3; have g0 : (w3.alloc (.cells #[.slice (some ⟨b3, 0, none⟩) n c3, .int .i64 0, .bool false] 122)).cell? ⟨b3, 0, none⟩ = some (sv t) := (Ch.of_new (S := fun _ => False) (new1 w3 _)).cellOf ((World.ownsRow.cellAt ho3 (j := 0) (by omega)).trans rfl) id; have g1 : 1 < n → (w3.alloc (.cells #[.slice (some ⟨b3, 0, none⟩) n c3, .int .i64 0, .bool false] 122)).cell? ⟨b3, 1, none⟩ = some (sv y1) := (fun h1 => (Ch.of_new (S := fun _ => False) (new1 w3 _)).cellOf ((World.ownsRow.cellAt ho3 (j := 1) (by omega)).trans (HY1.out h1)) id); (try replace g1 := g1 (by omega)); have HQ3 := Lib.hid ((HQ.out.keep hn3).keep (new1 w3 (.cells #[.slice (some ⟨b3, 0, none⟩) n c3, .int .i64 0, .bool false] 122))); have HS0 := Lib.hid (sl0_start (ts := t :: r) (by rw [HNN.out]; exact ho3) (by have := HTL.out.1; omega) (fun q hq => by have := HTL.out.2 q hq; omega) (HQ.out.keep hn3).pow); have HG3 := Lib.hid (New.then HQ.out.new hn3).size; have HIN := Lib.hid (inst_x w3.heap.size ⟨t :: r, 0, false, zI⟩ (w3.alloc (.cells #[.slice (some ⟨b3, 0, none⟩) n c3, .int .i64 0, .bool false] 122)) HS0.out (by show 0 ≤ 100; omega)); clear ho3 hn3)
                  |  (go_at_call 50; (with_reducible refine (HLAB.out _).mono ?_); rintro e w4 ⟨rfl, rfl⟩)
                  |  (go_at_call 52; (with_reducible refine HIN.out.mono ?_)))
                rintro e w6 ⟨jo, jn, jd, js, ju, jf, jm, jz, u, s', rfl, hR, hsl, hch⟩
                obtain ⟨g0b, hg0b⟩ : ∃ cs, Blk (w3.alloc (.cells #[.slice (some ⟨b3, 0, none⟩) n c3, .int .i64 0, .bool false] 122)) w3.heap.size 122 cs := ⟨_, Blk.new w3 _ _⟩
                have hq6 := HQ3.out.far hg0b HG3.out hch
                have HQ7 := Lib.hid (hq6.keep (new1 w6 (.cells #[.int .u8 jo, .bool jn, .int .i64 jd, .int .i64 js, .bool ju, .int .i64 jf, .int .i64 jm, .int .i64 jz] 41)))
                obtain ⟨v6, base6, hb6, -⟩ := hsl.row
                have hb7 := hb6.below (new1 w6 (.cells #[.int .u8 jo, .bool jn, .int .i64 jd, .int .i64 js, .bool ju, .int .i64 jf, .int .i64 jm, .int .i64 jz] 41)) hb6.lt
                have f2 := (hb7.cell 2).trans (show _ = some (Value.bool s'.bad) from rfl)
                have HSE : Hid (lineB x = if s'.bad = false ∧ ok ⟨jo, jn, jd, js, ju, jf, jm, jz⟩ = true then some (.ins ⟨jo, jn, jd, js, ju, jf, jm, jz⟩ u) else none) := Lib.hid (by rw [HLB.out]; exact inst_sent hR ⟨rfl, Nat.zero_le _, rfl⟩ HLA.out)
                obtain ⟨B, hB⟩ : ∃ B, ok ⟨jo, jn, jd, js, ju, jf, jm, jz⟩ = B := ⟨_, rfl⟩
                have HRI : Hid (∀ W, Calls Tryz.prog 53 #[.agg #[.int .u8 jo, .bool jn, .int .i64 jd, .int .i64 js, .bool ju, .int .i64 jf, .int .i64 jm, .int .i64 jz]] W fun e w' => e = .returned (.bool B) ∧ New W w') := Lib.hid (fun W => hB ▸ RRight_any ⟨jo, jn, jd, js, ju, jf, jm, jz⟩ W)
                have HI7 := Lib.hid (Blk.new w6 41 #[.int .u8 jo, .bool jn, .int .i64 jd, .int .i64 js, .bool ju, .int .i64 jf, .int .i64 jm, .int .i64 jz])
                rw [hB] at HSE
                obtain ⟨bd, hbd⟩ : ∃ bd, s'.bad = bd := ⟨_, rfl⟩
                rw [hbd] at f2 HSE
                clear hR hsl hch hg0b hq6 hb6 hb7 hbd hB
                cases bd with
                | true =>
                  have HF : Hid (parseM l = ((120, (k : Int) + 1), [])) := Lib.hid (by rw [HPM.out, HRO.out.p, HPC.out, HSE.out]; rfl)
                  go_wp2_with (refine wpList_store_row rfl 26 _ _ rfl w.heap.size #[.int .i64 120, .int .i64 ((k : Int) + 1)] rfl rfl 26 _ HQ7.out.r fault_size rfl (by simp [Value.oneCell']) ?_)
                  refine bodyPost_ret (results_tmp_row rfl _ _ w.heap.size 26 #[.int .i64 120, .int .i64 ((k : Int) + 1)] _ (0, 0) _ rfl rfl (setRow_heap _ _ _ _ _ _ HQ7.out.r) Tryz.underlying26 rfl fault_size) rfl ?_
                  rw [HF.out]
                  exact ⟨.slice none 0 0, rfl, ⟨rfl, Or.inl ⟨rfl, rfl⟩⟩, new_row HQ7.out.new _ _ (Nat.le_refl _)⟩
                | false =>
                  cases B with
                  | false =>
                    have HF : Hid (parseM l = ((120, (k : Int) + 1), [])) := Lib.hid (by rw [HPM.out, HRO.out.p, HPC.out, HSE.out]; rfl)
                    go_wp2_with (first
                      | (go_at_call 53; (with_reducible refine (HRI.out _).mono ?_); rintro e w8 ⟨rfl, hn8⟩; have HQ8 := Lib.hid (HQ7.out.keep hn8); (try have HN8 := Lib.hid hn8); clear hn8)
                      | (refine wpList_store_row rfl 26 _ _ rfl w.heap.size #[.int .i64 120, .int .i64 ((k : Int) + 1)] rfl rfl 26 _ HQ8.out.r fault_size rfl (by simp [Value.oneCell']) ?_))
                    refine bodyPost_ret (results_tmp_row rfl _ _ w.heap.size 26 #[.int .i64 120, .int .i64 ((k : Int) + 1)] _ (0, 0) _ rfl rfl (setRow_heap _ _ _ _ _ _ HQ8.out.r) Tryz.underlying26 rfl fault_size) rfl ?_
                    rw [HF.out]
                    exact ⟨.slice none 0 0, rfl, ⟨rfl, Or.inl ⟨rfl, rfl⟩⟩, new_row HQ8.out.new _ _ (Nat.le_refl _)⟩
                  | true =>
                    have HSI : Hid (lineB x = some (.ins ⟨jo, jn, jd, js, ju, jf, jm, jz⟩ u)) := Lib.hid (by rw [HSE.out]; rfl)
                    by_cases h96 : s.is.length = 4096
                    · have HF : Hid (parseM l = ((3, (k : Int) + 1), [])) := Lib.hid (by rw [HPM.out, HRO.out.p, HPC.out, HSI.out]; simp [addM, h96, finM])
                      have t96 : (s.is.length : Int) = 4096 := by omega
                      clear h96
                      go_wp2_with (first
                        | (go_at_call 53; (with_reducible refine (HRI.out _).mono ?_); rintro e w8 ⟨rfl, hn8⟩; have HQ8 := Lib.hid (HQ7.out.keep hn8); (try have HN8 := Lib.hid hn8); clear hn8)
                        | (refine wpList_store_row rfl 26 _ _ rfl w.heap.size #[.int .i64 3, .int .i64 ((k : Int) + 1)] rfl rfl 26 _ HQ8.out.r fault_size rfl (by simp [Value.oneCell']) ?_))
                      refine bodyPost_ret (results_tmp_row rfl _ _ w.heap.size 26 #[.int .i64 3, .int .i64 ((k : Int) + 1)] _ (0, 0) _ rfl rfl (setRow_heap _ _ _ _ _ _ HQ8.out.r) Tryz.underlying26 rfl fault_size) rfl ?_
                      rw [HF.out]
                      exact ⟨.slice none 0 0, rfl, ⟨rfl, Or.inl ⟨rfl, rfl⟩⟩, new_row HQ8.out.new _ _ (Nat.le_refl _)⟩
                    · have h95 : s.is.length < 4096 := by have := HRO.out.ok.i; omega
                      have t96 : ¬ (s.is.length : Int) = 4096 := by omega
                      obtain ⟨i0, hi, hz0, hz1, hz2⟩ := info_parts' ins_info
                      cases u with
                      | nil =>
                        have HF : Hid (addM ((k : Int) + 1) (lineB x) s = (0, ⟨s.is ++ [⟨jo, jn, jd, js, ju, jf, jm, jz⟩], s.ls, s.js⟩)) := Lib.hid (by rw [HSI.out]; simp [addM, h96])
                        clear h96
                        go_wp2_with (first
                          | (go_at_call 53; (with_reducible refine (HRI.out _).mono ?_); rintro e w8 ⟨rfl, hn8⟩; have HQ8 := Lib.hid ((HQ7.out.keep hn8).keep (new1 w8 (.cells #[.int .u8 jo, .bool jn, .int .i64 jd, .int .i64 js, .bool ju, .int .i64 jf, .int .i64 jm, .int .i64 jz] 41))); have hi8 := HI7.out.below hn8 HI7.out.lt; obtain ⟨x0, x1, x2, x3, x4, x5, x6, x7⟩ := ins_cells hi8; clear hn8 hi8)
                          | (at_builtin; refine wpList_append_any _ rfl (.tmp 115) (.tmp 117) 23 rfl w.heap.size 41 i0 _ 8 56 Tryz.underlying23 hi hz0 hz1 hz2 rfl (by omega) _ s.is.length (vi s.is) rfl HQ8.out.lo _ (some ⟨w8.heap.size, 0, none⟩) 1 1 (vi [⟨jo, jn, jd, js, ju, jf, jm, jz⟩]) rfl (reads_i w8 ⟨jo, jn, jd, js, ju, jf, jm, jz⟩) (vi_one [⟨jo, jn, jd, js, ju, jf, jm, jz⟩]) (by unfold maxLen; omega) (by omega) HQ8.out.new.size ?_; intro v9 w9 hown9 hg9 hat9; have HQ9 := Lib.hid (HQ8.out.addi ⟨jo, jn, jd, js, ju, jf, jm, jz⟩ hown9 hg9); clear hown9 hg9 hat9))
                        exact ⟨⟨k + 1, _, by go_num, HRO.out.next HPC.out HF.out HQ9.out hk⟩, by simp [intOf]; omega⟩
                      | cons c0 cr =>
                        have hu : (c0 :: cr).isEmpty = false := rfl
                        have hu2 : ((⟨(c0 :: cr).toArray⟩ : ByteArray) != ⟨#[]⟩) = true := ba_cons c0 cr
                        obtain ⟨i1, gi, gz0, gz1, gz2⟩ := info_parts' rjump_info
                        have hjl : s.js.length ≤ 4096 := by have := HRO.out.ok.j; omega
                        have HF : Hid (addM ((k : Int) + 1) (lineB x) s = (0, ⟨s.is ++ [⟨jo, jn, jd, js, ju, jf, jm, jz⟩], s.ls, s.js ++ [((k : Int) + 1, s.is.length, c0 :: cr)]⟩)) := Lib.hid (by rw [HSI.out]; simp [addM, h96])
                        clear h96
                        go_wp2_with (first
                          | (go_at_call 53; (with_reducible refine (HRI.out _).mono ?_); rintro e w8 ⟨rfl, hn8⟩; have HQ8 := Lib.hid ((HQ7.out.keep hn8).keep (new1 w8 (.cells #[.int .i64 (s.is.length : Int), .int .i64 ((k : Int) + 1), .string ⟨(c0 :: cr).toArray⟩] 129))); have HI8 := Lib.hid (HI7.out.below hn8 HI7.out.lt); have HRJ := Lib.hid (reads_rj w8 (s.is.length : Int) ((k : Int) + 1) (c0 :: cr)); clear hn8)
                          | (at_builtin; refine wpList_append_any _ rfl (.tmp 106) (.tmp 113) 115 rfl w.heap.size 129 i1 _ 3 32 Tryz.underlying115 gi gz0 gz1 gz2 rfl (by omega) _ s.js.length (rjv s.js) rfl HQ8.out.jo _ (some ⟨w8.heap.size, 0, none⟩) 1 1 [.int .i64 (s.is.length : Int), .int .i64 ((k : Int) + 1), .string ⟨(c0 :: cr).toArray⟩] rfl HRJ.out (by simp [Value.oneCell']) (by unfold maxLen; omega) (by omega) HQ8.out.new.size ?_; intro v9 w9 hown9 hg9 hat9; have HQA := Lib.hid ((HQ8.out.addj ((k : Int) + 1, s.is.length, c0 :: cr) hown9 hg9).keep (new1 w9 (.cells #[.int .u8 jo, .bool jn, .int .i64 jd, .int .i64 js, .bool ju, .int .i64 jf, .int .i64 jm, .int .i64 jz] 41))); have hi9 := ((HI8.out.alloc (.cells #[.int .i64 (s.is.length : Int), .int .i64 ((k : Int) + 1), .string ⟨(c0 :: cr).toArray⟩] 129)).ch (Ch.of_grown hg9) (own_blk_not HQ8.out.jo (HI8.out.alloc _) (by decide))); obtain ⟨x0, x1, x2, x3, x4, x5, x6, x7⟩ := ins_cells hi9; clear hown9 hg9 hat9 hi9)
                          | (at_builtin; refine wpList_append_any _ rfl (.tmp 115) (.tmp 117) 23 rfl w.heap.size 41 i0 _ 8 56 Tryz.underlying23 hi hz0 hz1 hz2 rfl (by omega) _ s.is.length (vi s.is) rfl HQA.out.lo _ (some ⟨w9.heap.size, 0, none⟩) 1 1 (vi [⟨jo, jn, jd, js, ju, jf, jm, jz⟩]) rfl (reads_i w9 ⟨jo, jn, jd, js, ju, jf, jm, jz⟩) (vi_one [⟨jo, jn, jd, js, ju, jf, jm, jz⟩]) (by unfold maxLen; omega) (by omega) HQA.out.new.size ?_; intro vA wA hownA hgA hatA; have HQ9 := Lib.hid (HQA.out.addi ⟨jo, jn, jd, js, ju, jf, jm, jz⟩ hownA hgA); clear hownA hgA hatA))
                        exact ⟨⟨k + 1, _, by go_num, HRO.out.next HPC.out HF.out HQ9.out hk⟩, by simp [intOf]; omega⟩
              · have hyy : (y1 == [58]) = false := beq_eq_false_iff_ne.2 h58
                have tn2 : (n : Int) = 2 := by omega
                clear hlab hnn hy1 hn2 h58
                go_wp2_with (first
                  |  (go_at_call 49; (with_reducible refine HT2.out.mono ?_); rintro e w3 ⟨v3, rfl, ho3, hn3⟩; obtain ⟨b3, c3, e3⟩ := own_some ho3 (by omega); subst e3; have g0 : (w3.alloc (.cells #[.slice (some ⟨b3, 0, none⟩) n c3, .int .i64 0, .bool false] 122)).cell? ⟨b3, 0, none⟩ = some (sv t) := (Ch.of_new (S := fun _ => False) (new1 w3 _)).cellOf ((World.ownsRow.cellAt ho3 (j := 0) (by omega)).trans rfl) id; have g1 : 1 < n → (w3.alloc (.cells #[.slice (some ⟨b3, 0, none⟩) n c3, .int .i64 0, .bool false] 122)).cell? ⟨b3, 1, none⟩ = some (sv y1) := (fun h1 => (Ch.of_new (S := fun _ => False) (new1 w3 _)).cellOf ((World.ownsRow.cellAt ho3 (j := 1) (by omega)).trans (HY1.out h1)) id); (try replace g1 := g1 (by omega)); have HQ3 := Lib.hid ((HQ.out.keep hn3).keep (new1 w3 (.cells #[.slice (some ⟨b3, 0, none⟩) n c3, .int .i64 0, .bool false] 122))); have HS0 := Lib.hid (sl0_start (ts := t :: r) (by rw [HNN.out]; exact ho3) (by have := HTL.out.1; omega) (fun q hq => by have := HTL.out.2 q hq; omega) (HQ.out.keep hn3).pow); have HG3 := Lib.hid (New.then HQ.out.new hn3).size; have HIN := Lib.hid (inst_x w3.heap.size ⟨t :: r, 0, false, zI⟩ (w3.alloc (.cells #[.slice (some ⟨b3, 0, none⟩) n c3, .int .i64 0, .bool false] 122)) HS0.out (by show 0 ≤ 100; omega)); clear ho3 hn3)
                  |  (go_at_call 52; (with_reducible refine HIN.out.mono ?_)))
                rintro e w6 ⟨jo, jn, jd, js, ju, jf, jm, jz, u, s', rfl, hR, hsl, hch⟩
                obtain ⟨g0b, hg0b⟩ : ∃ cs, Blk (w3.alloc (.cells #[.slice (some ⟨b3, 0, none⟩) n c3, .int .i64 0, .bool false] 122)) w3.heap.size 122 cs := ⟨_, Blk.new w3 _ _⟩
                have hq6 := HQ3.out.far hg0b HG3.out hch
                have HQ7 := Lib.hid (hq6.keep (new1 w6 (.cells #[.int .u8 jo, .bool jn, .int .i64 jd, .int .i64 js, .bool ju, .int .i64 jf, .int .i64 jm, .int .i64 jz] 41)))
                obtain ⟨v6, base6, hb6, -⟩ := hsl.row
                have hb7 := hb6.below (new1 w6 (.cells #[.int .u8 jo, .bool jn, .int .i64 jd, .int .i64 js, .bool ju, .int .i64 jf, .int .i64 jm, .int .i64 jz] 41)) hb6.lt
                have f2 := (hb7.cell 2).trans (show _ = some (Value.bool s'.bad) from rfl)
                have HSE : Hid (lineB x = if s'.bad = false ∧ ok ⟨jo, jn, jd, js, ju, jf, jm, jz⟩ = true then some (.ins ⟨jo, jn, jd, js, ju, jf, jm, jz⟩ u) else none) := Lib.hid (by rw [HLB.out]; exact inst_sent hR ⟨rfl, Nat.zero_le _, rfl⟩ HLA.out)
                obtain ⟨B, hB⟩ : ∃ B, ok ⟨jo, jn, jd, js, ju, jf, jm, jz⟩ = B := ⟨_, rfl⟩
                have HRI : Hid (∀ W, Calls Tryz.prog 53 #[.agg #[.int .u8 jo, .bool jn, .int .i64 jd, .int .i64 js, .bool ju, .int .i64 jf, .int .i64 jm, .int .i64 jz]] W fun e w' => e = .returned (.bool B) ∧ New W w') := Lib.hid (fun W => hB ▸ RRight_any ⟨jo, jn, jd, js, ju, jf, jm, jz⟩ W)
                have HI7 := Lib.hid (Blk.new w6 41 #[.int .u8 jo, .bool jn, .int .i64 jd, .int .i64 js, .bool ju, .int .i64 jf, .int .i64 jm, .int .i64 jz])
                rw [hB] at HSE
                obtain ⟨bd, hbd⟩ : ∃ bd, s'.bad = bd := ⟨_, rfl⟩
                rw [hbd] at f2 HSE
                clear hR hsl hch hg0b hq6 hb6 hb7 hbd hB
                cases bd with
                | true =>
                  have HF : Hid (parseM l = ((120, (k : Int) + 1), [])) := Lib.hid (by rw [HPM.out, HRO.out.p, HPC.out, HSE.out]; rfl)
                  go_wp2_with (refine wpList_store_row rfl 26 _ _ rfl w.heap.size #[.int .i64 120, .int .i64 ((k : Int) + 1)] rfl rfl 26 _ HQ7.out.r fault_size rfl (by simp [Value.oneCell']) ?_)
                  refine bodyPost_ret (results_tmp_row rfl _ _ w.heap.size 26 #[.int .i64 120, .int .i64 ((k : Int) + 1)] _ (0, 0) _ rfl rfl (setRow_heap _ _ _ _ _ _ HQ7.out.r) Tryz.underlying26 rfl fault_size) rfl ?_
                  rw [HF.out]
                  exact ⟨.slice none 0 0, rfl, ⟨rfl, Or.inl ⟨rfl, rfl⟩⟩, new_row HQ7.out.new _ _ (Nat.le_refl _)⟩
                | false =>
                  cases B with
                  | false =>
                    have HF : Hid (parseM l = ((120, (k : Int) + 1), [])) := Lib.hid (by rw [HPM.out, HRO.out.p, HPC.out, HSE.out]; rfl)
                    go_wp2_with (first
                      | (go_at_call 53; (with_reducible refine (HRI.out _).mono ?_); rintro e w8 ⟨rfl, hn8⟩; have HQ8 := Lib.hid (HQ7.out.keep hn8); (try have HN8 := Lib.hid hn8); clear hn8)
                      | (refine wpList_store_row rfl 26 _ _ rfl w.heap.size #[.int .i64 120, .int .i64 ((k : Int) + 1)] rfl rfl 26 _ HQ8.out.r fault_size rfl (by simp [Value.oneCell']) ?_))
                    refine bodyPost_ret (results_tmp_row rfl _ _ w.heap.size 26 #[.int .i64 120, .int .i64 ((k : Int) + 1)] _ (0, 0) _ rfl rfl (setRow_heap _ _ _ _ _ _ HQ8.out.r) Tryz.underlying26 rfl fault_size) rfl ?_
                    rw [HF.out]
                    exact ⟨.slice none 0 0, rfl, ⟨rfl, Or.inl ⟨rfl, rfl⟩⟩, new_row HQ8.out.new _ _ (Nat.le_refl _)⟩
                  | true =>
                    have HSI : Hid (lineB x = some (.ins ⟨jo, jn, jd, js, ju, jf, jm, jz⟩ u)) := Lib.hid (by rw [HSE.out]; rfl)
                    by_cases h96 : s.is.length = 4096
                    · have HF : Hid (parseM l = ((3, (k : Int) + 1), [])) := Lib.hid (by rw [HPM.out, HRO.out.p, HPC.out, HSI.out]; simp [addM, h96, finM])
                      have t96 : (s.is.length : Int) = 4096 := by omega
                      clear h96
                      go_wp2_with (first
                        | (go_at_call 53; (with_reducible refine (HRI.out _).mono ?_); rintro e w8 ⟨rfl, hn8⟩; have HQ8 := Lib.hid (HQ7.out.keep hn8); (try have HN8 := Lib.hid hn8); clear hn8)
                        | (refine wpList_store_row rfl 26 _ _ rfl w.heap.size #[.int .i64 3, .int .i64 ((k : Int) + 1)] rfl rfl 26 _ HQ8.out.r fault_size rfl (by simp [Value.oneCell']) ?_))
                      refine bodyPost_ret (results_tmp_row rfl _ _ w.heap.size 26 #[.int .i64 3, .int .i64 ((k : Int) + 1)] _ (0, 0) _ rfl rfl (setRow_heap _ _ _ _ _ _ HQ8.out.r) Tryz.underlying26 rfl fault_size) rfl ?_
                      rw [HF.out]
                      exact ⟨.slice none 0 0, rfl, ⟨rfl, Or.inl ⟨rfl, rfl⟩⟩, new_row HQ8.out.new _ _ (Nat.le_refl _)⟩
                    · have h95 : s.is.length < 4096 := by have := HRO.out.ok.i; omega
                      have t96 : ¬ (s.is.length : Int) = 4096 := by omega
                      obtain ⟨i0, hi, hz0, hz1, hz2⟩ := info_parts' ins_info
                      cases u with
                      | nil =>
                        have HF : Hid (addM ((k : Int) + 1) (lineB x) s = (0, ⟨s.is ++ [⟨jo, jn, jd, js, ju, jf, jm, jz⟩], s.ls, s.js⟩)) := Lib.hid (by rw [HSI.out]; simp [addM, h96])
                        clear h96
                        go_wp2_with (first
                          | (go_at_call 53; (with_reducible refine (HRI.out _).mono ?_); rintro e w8 ⟨rfl, hn8⟩; have HQ8 := Lib.hid ((HQ7.out.keep hn8).keep (new1 w8 (.cells #[.int .u8 jo, .bool jn, .int .i64 jd, .int .i64 js, .bool ju, .int .i64 jf, .int .i64 jm, .int .i64 jz] 41))); have hi8 := HI7.out.below hn8 HI7.out.lt; obtain ⟨x0, x1, x2, x3, x4, x5, x6, x7⟩ := ins_cells hi8; clear hn8 hi8)
                          | (at_builtin; refine wpList_append_any _ rfl (.tmp 115) (.tmp 117) 23 rfl w.heap.size 41 i0 _ 8 56 Tryz.underlying23 hi hz0 hz1 hz2 rfl (by omega) _ s.is.length (vi s.is) rfl HQ8.out.lo _ (some ⟨w8.heap.size, 0, none⟩) 1 1 (vi [⟨jo, jn, jd, js, ju, jf, jm, jz⟩]) rfl (reads_i w8 ⟨jo, jn, jd, js, ju, jf, jm, jz⟩) (vi_one [⟨jo, jn, jd, js, ju, jf, jm, jz⟩]) (by unfold maxLen; omega) (by omega) HQ8.out.new.size ?_; intro v9 w9 hown9 hg9 hat9; have HQ9 := Lib.hid (HQ8.out.addi ⟨jo, jn, jd, js, ju, jf, jm, jz⟩ hown9 hg9); clear hown9 hg9 hat9))
                        exact ⟨⟨k + 1, _, by go_num, HRO.out.next HPC.out HF.out HQ9.out hk⟩, by simp [intOf]; omega⟩
                      | cons c0 cr =>
                        have hu : (c0 :: cr).isEmpty = false := rfl
                        have hu2 : ((⟨(c0 :: cr).toArray⟩ : ByteArray) != ⟨#[]⟩) = true := ba_cons c0 cr
                        obtain ⟨i1, gi, gz0, gz1, gz2⟩ := info_parts' rjump_info
                        have hjl : s.js.length ≤ 4096 := by have := HRO.out.ok.j; omega
                        have HF : Hid (addM ((k : Int) + 1) (lineB x) s = (0, ⟨s.is ++ [⟨jo, jn, jd, js, ju, jf, jm, jz⟩], s.ls, s.js ++ [((k : Int) + 1, s.is.length, c0 :: cr)]⟩)) := Lib.hid (by rw [HSI.out]; simp [addM, h96])
                        clear h96
                        go_wp2_with (first
                          | (go_at_call 53; (with_reducible refine (HRI.out _).mono ?_); rintro e w8 ⟨rfl, hn8⟩; have HQ8 := Lib.hid ((HQ7.out.keep hn8).keep (new1 w8 (.cells #[.int .i64 (s.is.length : Int), .int .i64 ((k : Int) + 1), .string ⟨(c0 :: cr).toArray⟩] 129))); have HI8 := Lib.hid (HI7.out.below hn8 HI7.out.lt); have HRJ := Lib.hid (reads_rj w8 (s.is.length : Int) ((k : Int) + 1) (c0 :: cr)); clear hn8)
                          | (at_builtin; refine wpList_append_any _ rfl (.tmp 106) (.tmp 113) 115 rfl w.heap.size 129 i1 _ 3 32 Tryz.underlying115 gi gz0 gz1 gz2 rfl (by omega) _ s.js.length (rjv s.js) rfl HQ8.out.jo _ (some ⟨w8.heap.size, 0, none⟩) 1 1 [.int .i64 (s.is.length : Int), .int .i64 ((k : Int) + 1), .string ⟨(c0 :: cr).toArray⟩] rfl HRJ.out (by simp [Value.oneCell']) (by unfold maxLen; omega) (by omega) HQ8.out.new.size ?_; intro v9 w9 hown9 hg9 hat9; have HQA := Lib.hid ((HQ8.out.addj ((k : Int) + 1, s.is.length, c0 :: cr) hown9 hg9).keep (new1 w9 (.cells #[.int .u8 jo, .bool jn, .int .i64 jd, .int .i64 js, .bool ju, .int .i64 jf, .int .i64 jm, .int .i64 jz] 41))); have hi9 := ((HI8.out.alloc (.cells #[.int .i64 (s.is.length : Int), .int .i64 ((k : Int) + 1), .string ⟨(c0 :: cr).toArray⟩] 129)).ch (Ch.of_grown hg9) (own_blk_not HQ8.out.jo (HI8.out.alloc _) (by decide))); obtain ⟨x0, x1, x2, x3, x4, x5, x6, x7⟩ := ins_cells hi9; clear hown9 hg9 hat9 hi9)
                          | (at_builtin; refine wpList_append_any _ rfl (.tmp 115) (.tmp 117) 23 rfl w.heap.size 41 i0 _ 8 56 Tryz.underlying23 hi hz0 hz1 hz2 rfl (by omega) _ s.is.length (vi s.is) rfl HQA.out.lo _ (some ⟨w9.heap.size, 0, none⟩) 1 1 (vi [⟨jo, jn, jd, js, ju, jf, jm, jz⟩]) rfl (reads_i w9 ⟨jo, jn, jd, js, ju, jf, jm, jz⟩) (vi_one [⟨jo, jn, jd, js, ju, jf, jm, jz⟩]) (by unfold maxLen; omega) (by omega) HQA.out.new.size ?_; intro vA wA hownA hgA hatA; have HQ9 := Lib.hid (HQA.out.addi ⟨jo, jn, jd, js, ju, jf, jm, jz⟩ hownA hgA); clear hownA hgA hatA))
                        exact ⟨⟨k + 1, _, by go_num, HRO.out.next HPC.out HF.out HQ9.out hk⟩, by simp [intOf]; omega⟩
            · have tn2 : ¬ (n : Int) = 2 := by omega
              clear hlab hnn hy1 hn2
              go_wp2_with (first
                |  (go_at_call 49; (with_reducible refine HT2.out.mono ?_); rintro e w3 ⟨v3, rfl, ho3, hn3⟩; obtain ⟨b3, c3, e3⟩ := own_some ho3 (by omega); subst e3; have g0 : (w3.alloc (.cells #[.slice (some ⟨b3, 0, none⟩) n c3, .int .i64 0, .bool false] 122)).cell? ⟨b3, 0, none⟩ = some (sv t) := (Ch.of_new (S := fun _ => False) (new1 w3 _)).cellOf ((World.ownsRow.cellAt ho3 (j := 0) (by omega)).trans rfl) id; have g1 : 1 < n → (w3.alloc (.cells #[.slice (some ⟨b3, 0, none⟩) n c3, .int .i64 0, .bool false] 122)).cell? ⟨b3, 1, none⟩ = some (sv y1) := (fun h1 => (Ch.of_new (S := fun _ => False) (new1 w3 _)).cellOf ((World.ownsRow.cellAt ho3 (j := 1) (by omega)).trans (HY1.out h1)) id); (try replace g1 := g1 (by omega)); have HQ3 := Lib.hid ((HQ.out.keep hn3).keep (new1 w3 (.cells #[.slice (some ⟨b3, 0, none⟩) n c3, .int .i64 0, .bool false] 122))); have HS0 := Lib.hid (sl0_start (ts := t :: r) (by rw [HNN.out]; exact ho3) (by have := HTL.out.1; omega) (fun q hq => by have := HTL.out.2 q hq; omega) (HQ.out.keep hn3).pow); have HG3 := Lib.hid (New.then HQ.out.new hn3).size; have HIN := Lib.hid (inst_x w3.heap.size ⟨t :: r, 0, false, zI⟩ (w3.alloc (.cells #[.slice (some ⟨b3, 0, none⟩) n c3, .int .i64 0, .bool false] 122)) HS0.out (by show 0 ≤ 100; omega)); clear ho3 hn3)
                |  (go_at_call 52; (with_reducible refine HIN.out.mono ?_)))
              rintro e w6 ⟨jo, jn, jd, js, ju, jf, jm, jz, u, s', rfl, hR, hsl, hch⟩
              obtain ⟨g0b, hg0b⟩ : ∃ cs, Blk (w3.alloc (.cells #[.slice (some ⟨b3, 0, none⟩) n c3, .int .i64 0, .bool false] 122)) w3.heap.size 122 cs := ⟨_, Blk.new w3 _ _⟩
              have hq6 := HQ3.out.far hg0b HG3.out hch
              have HQ7 := Lib.hid (hq6.keep (new1 w6 (.cells #[.int .u8 jo, .bool jn, .int .i64 jd, .int .i64 js, .bool ju, .int .i64 jf, .int .i64 jm, .int .i64 jz] 41)))
              obtain ⟨v6, base6, hb6, -⟩ := hsl.row
              have hb7 := hb6.below (new1 w6 (.cells #[.int .u8 jo, .bool jn, .int .i64 jd, .int .i64 js, .bool ju, .int .i64 jf, .int .i64 jm, .int .i64 jz] 41)) hb6.lt
              have f2 := (hb7.cell 2).trans (show _ = some (Value.bool s'.bad) from rfl)
              have HSE : Hid (lineB x = if s'.bad = false ∧ ok ⟨jo, jn, jd, js, ju, jf, jm, jz⟩ = true then some (.ins ⟨jo, jn, jd, js, ju, jf, jm, jz⟩ u) else none) := Lib.hid (by rw [HLB.out]; exact inst_sent hR ⟨rfl, Nat.zero_le _, rfl⟩ HLA.out)
              obtain ⟨B, hB⟩ : ∃ B, ok ⟨jo, jn, jd, js, ju, jf, jm, jz⟩ = B := ⟨_, rfl⟩
              have HRI : Hid (∀ W, Calls Tryz.prog 53 #[.agg #[.int .u8 jo, .bool jn, .int .i64 jd, .int .i64 js, .bool ju, .int .i64 jf, .int .i64 jm, .int .i64 jz]] W fun e w' => e = .returned (.bool B) ∧ New W w') := Lib.hid (fun W => hB ▸ RRight_any ⟨jo, jn, jd, js, ju, jf, jm, jz⟩ W)
              have HI7 := Lib.hid (Blk.new w6 41 #[.int .u8 jo, .bool jn, .int .i64 jd, .int .i64 js, .bool ju, .int .i64 jf, .int .i64 jm, .int .i64 jz])
              rw [hB] at HSE
              obtain ⟨bd, hbd⟩ : ∃ bd, s'.bad = bd := ⟨_, rfl⟩
              rw [hbd] at f2 HSE
              clear hR hsl hch hg0b hq6 hb6 hb7 hbd hB
              cases bd with
              | true =>
                have HF : Hid (parseM l = ((120, (k : Int) + 1), [])) := Lib.hid (by rw [HPM.out, HRO.out.p, HPC.out, HSE.out]; rfl)
                go_wp2_with (refine wpList_store_row rfl 26 _ _ rfl w.heap.size #[.int .i64 120, .int .i64 ((k : Int) + 1)] rfl rfl 26 _ HQ7.out.r fault_size rfl (by simp [Value.oneCell']) ?_)
                refine bodyPost_ret (results_tmp_row rfl _ _ w.heap.size 26 #[.int .i64 120, .int .i64 ((k : Int) + 1)] _ (0, 0) _ rfl rfl (setRow_heap _ _ _ _ _ _ HQ7.out.r) Tryz.underlying26 rfl fault_size) rfl ?_
                rw [HF.out]
                exact ⟨.slice none 0 0, rfl, ⟨rfl, Or.inl ⟨rfl, rfl⟩⟩, new_row HQ7.out.new _ _ (Nat.le_refl _)⟩
              | false =>
                cases B with
                | false =>
                  have HF : Hid (parseM l = ((120, (k : Int) + 1), [])) := Lib.hid (by rw [HPM.out, HRO.out.p, HPC.out, HSE.out]; rfl)
                  go_wp2_with (first
                    | (go_at_call 53; (with_reducible refine (HRI.out _).mono ?_); rintro e w8 ⟨rfl, hn8⟩; have HQ8 := Lib.hid (HQ7.out.keep hn8); (try have HN8 := Lib.hid hn8); clear hn8)
                    | (refine wpList_store_row rfl 26 _ _ rfl w.heap.size #[.int .i64 120, .int .i64 ((k : Int) + 1)] rfl rfl 26 _ HQ8.out.r fault_size rfl (by simp [Value.oneCell']) ?_))
                  refine bodyPost_ret (results_tmp_row rfl _ _ w.heap.size 26 #[.int .i64 120, .int .i64 ((k : Int) + 1)] _ (0, 0) _ rfl rfl (setRow_heap _ _ _ _ _ _ HQ8.out.r) Tryz.underlying26 rfl fault_size) rfl ?_
                  rw [HF.out]
                  exact ⟨.slice none 0 0, rfl, ⟨rfl, Or.inl ⟨rfl, rfl⟩⟩, new_row HQ8.out.new _ _ (Nat.le_refl _)⟩
                | true =>
                  have HSI : Hid (lineB x = some (.ins ⟨jo, jn, jd, js, ju, jf, jm, jz⟩ u)) := Lib.hid (by rw [HSE.out]; rfl)
                  by_cases h96 : s.is.length = 4096
                  · have HF : Hid (parseM l = ((3, (k : Int) + 1), [])) := Lib.hid (by rw [HPM.out, HRO.out.p, HPC.out, HSI.out]; simp [addM, h96, finM])
                    have t96 : (s.is.length : Int) = 4096 := by omega
                    clear h96
                    go_wp2_with (first
                      | (go_at_call 53; (with_reducible refine (HRI.out _).mono ?_); rintro e w8 ⟨rfl, hn8⟩; have HQ8 := Lib.hid (HQ7.out.keep hn8); (try have HN8 := Lib.hid hn8); clear hn8)
                      | (refine wpList_store_row rfl 26 _ _ rfl w.heap.size #[.int .i64 3, .int .i64 ((k : Int) + 1)] rfl rfl 26 _ HQ8.out.r fault_size rfl (by simp [Value.oneCell']) ?_))
                    refine bodyPost_ret (results_tmp_row rfl _ _ w.heap.size 26 #[.int .i64 3, .int .i64 ((k : Int) + 1)] _ (0, 0) _ rfl rfl (setRow_heap _ _ _ _ _ _ HQ8.out.r) Tryz.underlying26 rfl fault_size) rfl ?_
                    rw [HF.out]
                    exact ⟨.slice none 0 0, rfl, ⟨rfl, Or.inl ⟨rfl, rfl⟩⟩, new_row HQ8.out.new _ _ (Nat.le_refl _)⟩
                  · have h95 : s.is.length < 4096 := by have := HRO.out.ok.i; omega
                    have t96 : ¬ (s.is.length : Int) = 4096 := by omega
                    obtain ⟨i0, hi, hz0, hz1, hz2⟩ := info_parts' ins_info
                    cases u with
                    | nil =>
                      have HF : Hid (addM ((k : Int) + 1) (lineB x) s = (0, ⟨s.is ++ [⟨jo, jn, jd, js, ju, jf, jm, jz⟩], s.ls, s.js⟩)) := Lib.hid (by rw [HSI.out]; simp [addM, h96])
                      clear h96
                      go_wp2_with (first
                        | (go_at_call 53; (with_reducible refine (HRI.out _).mono ?_); rintro e w8 ⟨rfl, hn8⟩; have HQ8 := Lib.hid ((HQ7.out.keep hn8).keep (new1 w8 (.cells #[.int .u8 jo, .bool jn, .int .i64 jd, .int .i64 js, .bool ju, .int .i64 jf, .int .i64 jm, .int .i64 jz] 41))); have hi8 := HI7.out.below hn8 HI7.out.lt; obtain ⟨x0, x1, x2, x3, x4, x5, x6, x7⟩ := ins_cells hi8; clear hn8 hi8)
                        | (at_builtin; refine wpList_append_any _ rfl (.tmp 115) (.tmp 117) 23 rfl w.heap.size 41 i0 _ 8 56 Tryz.underlying23 hi hz0 hz1 hz2 rfl (by omega) _ s.is.length (vi s.is) rfl HQ8.out.lo _ (some ⟨w8.heap.size, 0, none⟩) 1 1 (vi [⟨jo, jn, jd, js, ju, jf, jm, jz⟩]) rfl (reads_i w8 ⟨jo, jn, jd, js, ju, jf, jm, jz⟩) (vi_one [⟨jo, jn, jd, js, ju, jf, jm, jz⟩]) (by unfold maxLen; omega) (by omega) HQ8.out.new.size ?_; intro v9 w9 hown9 hg9 hat9; have HQ9 := Lib.hid (HQ8.out.addi ⟨jo, jn, jd, js, ju, jf, jm, jz⟩ hown9 hg9); clear hown9 hg9 hat9))
                      exact ⟨⟨k + 1, _, by go_num, HRO.out.next HPC.out HF.out HQ9.out hk⟩, by simp [intOf]; omega⟩
                    | cons c0 cr =>
                      have hu : (c0 :: cr).isEmpty = false := rfl
                      have hu2 : ((⟨(c0 :: cr).toArray⟩ : ByteArray) != ⟨#[]⟩) = true := ba_cons c0 cr
                      obtain ⟨i1, gi, gz0, gz1, gz2⟩ := info_parts' rjump_info
                      have hjl : s.js.length ≤ 4096 := by have := HRO.out.ok.j; omega
                      have HF : Hid (addM ((k : Int) + 1) (lineB x) s = (0, ⟨s.is ++ [⟨jo, jn, jd, js, ju, jf, jm, jz⟩], s.ls, s.js ++ [((k : Int) + 1, s.is.length, c0 :: cr)]⟩)) := Lib.hid (by rw [HSI.out]; simp [addM, h96])
                      clear h96
                      go_wp2_with (first
                        | (go_at_call 53; (with_reducible refine (HRI.out _).mono ?_); rintro e w8 ⟨rfl, hn8⟩; have HQ8 := Lib.hid ((HQ7.out.keep hn8).keep (new1 w8 (.cells #[.int .i64 (s.is.length : Int), .int .i64 ((k : Int) + 1), .string ⟨(c0 :: cr).toArray⟩] 129))); have HI8 := Lib.hid (HI7.out.below hn8 HI7.out.lt); have HRJ := Lib.hid (reads_rj w8 (s.is.length : Int) ((k : Int) + 1) (c0 :: cr)); clear hn8)
                        | (at_builtin; refine wpList_append_any _ rfl (.tmp 106) (.tmp 113) 115 rfl w.heap.size 129 i1 _ 3 32 Tryz.underlying115 gi gz0 gz1 gz2 rfl (by omega) _ s.js.length (rjv s.js) rfl HQ8.out.jo _ (some ⟨w8.heap.size, 0, none⟩) 1 1 [.int .i64 (s.is.length : Int), .int .i64 ((k : Int) + 1), .string ⟨(c0 :: cr).toArray⟩] rfl HRJ.out (by simp [Value.oneCell']) (by unfold maxLen; omega) (by omega) HQ8.out.new.size ?_; intro v9 w9 hown9 hg9 hat9; have HQA := Lib.hid ((HQ8.out.addj ((k : Int) + 1, s.is.length, c0 :: cr) hown9 hg9).keep (new1 w9 (.cells #[.int .u8 jo, .bool jn, .int .i64 jd, .int .i64 js, .bool ju, .int .i64 jf, .int .i64 jm, .int .i64 jz] 41))); have hi9 := ((HI8.out.alloc (.cells #[.int .i64 (s.is.length : Int), .int .i64 ((k : Int) + 1), .string ⟨(c0 :: cr).toArray⟩] 129)).ch (Ch.of_grown hg9) (own_blk_not HQ8.out.jo (HI8.out.alloc _) (by decide))); obtain ⟨x0, x1, x2, x3, x4, x5, x6, x7⟩ := ins_cells hi9; clear hown9 hg9 hat9 hi9)
                        | (at_builtin; refine wpList_append_any _ rfl (.tmp 115) (.tmp 117) 23 rfl w.heap.size 41 i0 _ 8 56 Tryz.underlying23 hi hz0 hz1 hz2 rfl (by omega) _ s.is.length (vi s.is) rfl HQA.out.lo _ (some ⟨w9.heap.size, 0, none⟩) 1 1 (vi [⟨jo, jn, jd, js, ju, jf, jm, jz⟩]) rfl (reads_i w9 ⟨jo, jn, jd, js, ju, jf, jm, jz⟩) (vi_one [⟨jo, jn, jd, js, ju, jf, jm, jz⟩]) (by unfold maxLen; omega) (by omega) HQA.out.new.size ?_; intro vA wA hownA hgA hatA; have HQ9 := Lib.hid (HQA.out.addi ⟨jo, jn, jd, js, ju, jf, jm, jz⟩ hownA hgA); clear hownA hgA hatA))
                      exact ⟨⟨k + 1, _, by go_num, HRO.out.next HPC.out HF.out HQ9.out hk⟩, by simp [intOf]; omega⟩
    · obtain rfl : k = L.length := by have := HRO.out.le; omega
      have t3 : ¬ (L.length : Int) < (L.length : Int) := by omega
      have HSS : Hid (parseL 0 L ⟨[], [], []⟩ = .inr s) := Lib.hid (by rw [HRO.out.p, List.drop_length]; rfl)
      have HJ := Lib.hid (parseL_jok L 0 ⟨[], [], []⟩ s (fun p hp => by cases hp) HSS.out)
      have HQ := Lib.hid HRO.out.q
      have HOK := Lib.hid HRO.out.ok
      have hfw := HRO.out.few
      obtain ⟨is, ls, js⟩ := s
      simp only at hfw
      obtain ⟨Av, cv, hvl, -, -, -⟩ := own_len HRO.out.q.li
      subst hvl
      obtain ⟨Am, cm, hvm, -, -, -⟩ := own_len HRO.out.q.mo
      subst hvm
      obtain ⟨Aj, cj, hvj, -, -, -⟩ := own_len HRO.out.q.jo
      subst hvj
      obtain ⟨Ao, co, hvo, -, -, -⟩ := own_len HRO.out.q.lo
      subst hvo
      have hjl : js.length ≤ 4096 := by have h1 : js.length ≤ is.length := HOK.out.j; have h2 : is.length ≤ 4096 := HOK.out.i; omega
      clear HRO
      go_wp2
      go_loopw [14] (fun iv wr => ∃ (m : Nat) (is' : List In), iv = .int .i64 (m : Int) ∧ m ≤ js.length ∧ is'.length = is.length ∧ QS w ⟨is', ls, js⟩ (.slice Ao is.length co) (.slice Aj js.length cj) (.slice Am ls.length cm) (.slice Av L.length cv) L wr ∧ joinM ls is js = joinM ls is' (js.drop m) ∧ Jok is' js) (fun iv _ => js.length - (intOf iv).toNat)
      case atStart => exact ⟨0, is, rfl, Nat.zero_le _, rfl, HQ.out, rfl, HJ.out⟩
      case round =>
        rename_i wq
        obtain ⟨m, is', rfl, hm, hil, hq, hjm, hjk⟩ := hrel
        have HQ2 := Lib.hid hq
        have HJM := Lib.hid hjm
        have HJK := Lib.hid hjk
        clear hq hjm hjk HJ
        by_cases hmj : m < js.length
        · have t4 : (m : Int) < (js.length : Int) := by omega
          obtain ⟨y, hy⟩ : ∃ y, js[m] = y := ⟨_, rfl⟩
          obtain ⟨ln, a, lbl⟩ := y
          have hmem : (ln, a, lbl) ∈ js := by rw [← hy]; exact List.getElem_mem hmj
          have ha : a < is.length := HOK.out.k _ hmem
          have his : is.length ≤ 4096 := HOK.out.i
          have hdr : js.drop m = (ln, a, lbl) :: js.drop (m + 1) := by rw [List.drop_eq_getElem_cons hmj, hy]
          obtain ⟨q0, q1, q2⟩ := rjv_at js m hmj
          rw [hy] at q0 q1 q2
          simp only at q0 q1 q2
          obtain ⟨bj, cj', ej⟩ := own_some HQ2.out.jo (by show 0 < js.length; omega)
          injection ej with ej1 ej3 ej2
          clear ej3
          subst ej1
          subst ej2
          have m0 := (World.ownsRow.cellAt HQ2.out.jo (m * 3) (by show _ < js.length * 3; omega)).trans q0
          have m1 := (World.ownsRow.cellAt HQ2.out.jo (m * 3 + 1) (by show _ < js.length * 3; omega)).trans q1
          have m2 := (World.ownsRow.cellAt HQ2.out.jo (m * 3 + 2) (by show _ < js.length * 3; omega)).trans q2
          have HFD := Lib.hid (rfind_any Am ls.length cm w.heap.size ls lbl wr rfl (by omega) HQ2.out.mo)
          have HDR := Lib.hid hdr
          clear hy q0 q1 q2 hdr
          cases hlb : lab lbl ls with
          | none =>
            rw [labI_none hlb] at HFD
            obtain ⟨j1, j2⟩ := joinM_none (ls := ls) (is := is') (j := (ln, a, lbl)) (r := js.drop (m + 1)) hlb
            have HF : Hid (parseM l = ((121, ln), [])) := Lib.hid (by
              rw [HPM.out, HSS.out]
              show (if (joinM ls is js).1 = 0 then _ else _) = _
              rw [HJM.out, HDR.out, j1, if_neg (by decide), j2])
            have r0 : wr.cell? ⟨w.heap.size, 0, none⟩ = some (.int .i64 0) := (HQ2.out.r.cell 0).trans rfl
            have r1 : wr.cell? ⟨w.heap.size, 1, none⟩ = some (.int .i64 0) := (HQ2.out.r.cell 1).trans rfl
            have z0 := HQ2.out.r.frozen 0
            have z1 := HQ2.out.r.frozen 1
            clear hlb j1 j2 hmem
            go_wp2_with (go_at_call 51; (with_reducible refine HFD.out.mono ?_); rintro e w4 ⟨rfl, rfl⟩)
            go_region
            have a3 : Blk ((w4.setCell ⟨w.heap.size, 0, none⟩ (.int .i64 121)).setCell ⟨w.heap.size, 1, none⟩ (.int .i64 ln)).drew w.heap.size 26 #[.int .i64 121, .int .i64 ln] := ((HQ2.out.r.set_ 0 (.int .i64 121)).set_ 1 (.int .i64 ln)).drew
            have nn : New w ((w4.setCell ⟨w.heap.size, 0, none⟩ (.int .i64 121)).setCell ⟨w.heap.size, 1, none⟩ (.int .i64 ln)).drew := Below.drew ((HQ2.out.new.setCell (p := ⟨w.heap.size, 0, none⟩) (Nat.le_refl _) _).setCell (p := ⟨w.heap.size, 1, none⟩) (Nat.le_refl _) _)
            clear r0 r1 z0 z1
            generalize ((w4.setCell ⟨w.heap.size, 0, none⟩ (.int .i64 121)).setCell ⟨w.heap.size, 1, none⟩ (.int .i64 ln)).drew = w5 at *
            have A3 := Lib.hid a3
            have NN := Lib.hid nn
            clear a3 nn
            go_wp2
            refine bodyPost_ret (results_tmp_row rfl _ _ w.heap.size 26 #[.int .i64 121, .int .i64 ln] _ (0, 0) _ rfl rfl A3.out Tryz.underlying26 rfl fault_size) rfl ?_
            rw [HF.out]
            exact ⟨.slice none 0 0, rfl, ⟨rfl, Or.inl ⟨rfl, rfl⟩⟩, NN.out⟩
          | some av =>
            rw [labI_some hlb] at HFD
            obtain ⟨pm, hpm, hpe⟩ := lab_mem hlb
            have hav : av ≤ is.length := by have h' : pm.2 ≤ is.length := HOK.out.l pm hpm; omega
            have d0 : ¬ (av : Int) < 0 := by omega
            have d1 : ¬ ((av : Int) - (a : Int) - 1 < -32768) := by omega
            have d2 : ¬ (32768 ≤ (av : Int) - (a : Int) - 1) := by omega
            have hfar : far ((av : Int) - ((a : Int) + 1)) = true := by simp [far]; omega
            have ha' : a < is'.length := by omega
            obtain ⟨bo, co', eo⟩ := own_some HQ2.out.lo (by show 0 < is'.length; omega)
            injection eo with eo1 eo3 eo2
            clear eo3
            subst eo1
            subst eo2
            have hq3 : QS w ⟨is', ls, js⟩ (.slice (some ⟨bo, 0, none⟩) is'.length co) (.slice (some ⟨bj, 0, none⟩) js.length cj) (.slice Am ls.length cm) (.slice Av L.length cv) L wr := by rw [hil]; exact HQ2.out
            have x5 := (World.ownsRow.cellAt hq3.lo (a * 8 + 5) (by show _ < is'.length * 8; omega)).trans (vi_at is' a ha').2.2.2.2.2.1
            have hs := hq3.seto a ((av : Int) - ((a : Int) + 1)) ha'
            clear hq3
            obtain ⟨hs1, z5⟩ := hs
            rw [hil] at hs1
            have eoff : (av : Int) - (a : Int) - 1 = (av : Int) - ((a : Int) + 1) := by omega
            rw [← eoff] at hs1
            have HS1 := Lib.hid hs1
            have HJ2 : Hid (joinM ls is js = joinM ls (setO is' a ((av : Int) - (a : Int) - 1)) (js.drop (m + 1))) := Lib.hid (by
              rw [HJM.out, HDR.out, eoff]
              exact joinM_some hlb (fun p hp => HJK.out p (by rw [← HDR.out] at hp; exact List.mem_of_mem_drop hp)) hfar)
            have HJK2 : Hid (Jok (setO is' a ((av : Int) - (a : Int) - 1)) js) := Lib.hid (by rw [eoff]; exact HJK.out.set hfar)
            have ta : (a : Int) < (is.length : Int) := by omega
            have HIL := Lib.hid hil
            have HIS2 := Lib.hid (setO_length is' a ((av : Int) - (a : Int) - 1))
            obtain ⟨ofv, hofv⟩ : ∃ ofv, is'[a].off = ofv := ⟨_, rfl⟩
            rw [hofv] at x5
            clear hofv hil ha' hlb hpm hpe hmem hs1 eoff hfar
            go_wp2_with (go_at_call 51; (with_reducible refine HFD.out.mono ?_); rintro e w4 ⟨rfl, rfl⟩)
            go_roundw
            case rel => exact ⟨m + 1, setO is' a ((av : Int) - (a : Int) - 1), by go_num, hmj, HIS2.out.trans HIL.out, HS1.out, HJ2.out, HJK2.out⟩
            case measure => simp [intOf]; omega
        · obtain rfl : m = js.length := by omega
          have t4 : ¬ (js.length : Int) < (js.length : Int) := by omega
          have HF : Hid (parseM l = ((0, 0), is')) := Lib.hid (by
            rw [HPM.out, HSS.out]
            show (if (joinM ls is js).1 = 0 then _ else _) = _
            rw [HJM.out, List.drop_length]
            rfl)
          go_wp2_with (refine wpList_store_row rfl 26 _ _ rfl w.heap.size #[.int .i64 0, .int .i64 0] rfl rfl 26 _ HQ2.out.r fault_size rfl (by simp [Value.oneCell']) ?_)
          refine bodyPost_ret (results_tmp_row rfl _ _ w.heap.size 26 #[.int .i64 0, .int .i64 0] _ (0, 0) _ rfl rfl (setRow_heap _ _ _ _ _ _ HQ2.out.r) Tryz.underlying26 rfl fault_size) rfl ?_
          rw [HF.out]
          refine ⟨_, rfl, ?_, new_row HQ2.out.new _ _ (Nat.le_refl _)⟩
          have ho := own_ch HQ2.out.lo (ch_setRow wr w.heap.size #[.int .i64 0, .int .i64 0]) (fun j hj e => own_blk_not HQ2.out.lo HQ2.out.r (by decide) (by rw [← (show j = w.heap.size from e)]; exact hj.symm))
          exact ho
end Go.Proofs.YtddojdgnakajmaaGreatDoor.txt
